/- SHA-512 of lists of integers: what the program and the reference answer. -/
import Derived.Test.YtmaehekekkfpmaaDoorWirA
import Derived.Test.YtmaehekekkfpmaaDoorQ5S
import Derived.Test.YtmaehekekkfpmaaDoorShaG
import Derived.Test.YtmaehekekkfpmaaDoorRefA
import Derived.Great.BuildSlice
import Derived.Test.YtmaehekekkfpmaaDoorPoiJ
import Derived.Test.YtmaehekekkfpmaaDoorScpB
import Derived.Test.YtmaehekekkfpmaaDoorScrB
import Derived.Test.YtmaehekekkfpmaaDoorVkA
import Derived.Test.YtmaehekekkfpmaaDoorMemG
set_option linter.unusedSimpArgs false
set_option linter.unusedVariables false
namespace Go.Proofs.YtmaehekekkfpmaaDoor.Wi
open Go Go.RowKit
set_option maxRecDepth 100000
def hm (xs:List Int):Nat→BitVec 8:=fun i=>BitVec.ofInt 8 (gi xs i)
def row64 (S:Sh.Q5.St):List Int:=(List.range 64).map fun i=>Sh.ub (Sh.Q5.sbyte S i)
def h5 (xs:List Int):List Int:=row64 (Sh.Q5.sumSt Sh.Q5.K512 Sh.Q5.H512 (hm xs) xs.length)
theorem row64_length (S:Sh.Q5.St):(row64 S).length=64:=by simp [row64]
theorem h5_length (xs:List Int):(h5 xs).length=64:=row64_length _
theorem srow_bv (S:Sh.Q5.St):Sh.Q5.srow S=(bv (row64 S)).toArray:=by
 unfold Sh.Q5.srow bv row64
 rw [List.map_map];rfl
theorem row64_byt (S:Sh.Q5.St):Byt (row64 S):=by
 intro z hz
 obtain ⟨i,_,rfl⟩:=List.mem_map.1 hz
 have:=(Sh.Q5.sbyte S i).isLt
 unfold Sh.ub;omega
theorem h5_byt (xs:List Int):Byt (h5 xs):=row64_byt _
structure Sq (w:World) (v:Value) (xs:List Int):Prop where
 sl:Sl w v xs
 some' : ∀ A l c,v = .slice (some A) l c→c≠0→A.spot=none∧A.block<w.heap.size
 none' : ∀ l c,v = .slice none l c→c=0
theorem Sq.below {w w':World} {v:Value} {xs:List Int} (h:Sq w v xs) (hb:Below w.heap.size w w'):Sq w' v xs :=
 ⟨h.sl.below hb (Nat.le_refl _),fun A l c e h0=>⟨(h.some' A l c e h0).1,Nat.lt_of_lt_of_le (h.some' A l c e h0).2 hb.size⟩,h.none'⟩
theorem Ow.sq {B0:Nat} {w:World} {v:Value} {xs:List Int} (h:Ow B0 w v xs):Sq w v xs:=by
 refine ⟨h.sl,fun A l c e _ => ?_,fun l c e => ?_⟩
 ·rcases h.2 with ⟨rfl,h0⟩ | ⟨g,cap,cur,hv,hb,hg,hc,_,hs,ht⟩
  ·cases e
  ·rw [hv] at e;cases e;exact ⟨rfl,(Array.getElem?_eq_some_iff.1 hg).1⟩
 ·rcases h.2 with ⟨rfl,h0⟩ | ⟨g,cap,cur,hv,hb,hg,hc,_,hs,ht⟩
  ·cases e;rfl
  ·rw [hv] at e;cases e
theorem Sl.sq {w:World} {v:Value} {xs:List Int} (h:Sl w v xs) (h0:xs≠[]):Sq w v xs:=by
 obtain ⟨ad,cap,rfl,hc,h⟩:=h
 rcases h with ⟨e,_⟩ | ⟨b,o,rfl,hlt,hm⟩
 ·exact absurd e h0
 ·exact ⟨⟨_,cap,rfl,hc,.inr ⟨b,o,rfl,hlt,hm⟩⟩,fun A l c e _=>by cases e;exact ⟨rfl,hlt⟩,fun l c e=>by cases e⟩
theorem byte_of (z:Int) (h0:0≤z) (h1:z≤255):Value.int .u8 z=Sh.B (BitVec.ofInt 8 z):=by
 show Value.int .u8 z=Value.int .u8 (Sh.ub (BitVec.ofInt 8 z))
 congr 1
 rw [Sh.ub,BitVec.toNat_ofInt]
 omega
theorem Sq.src {w:World} {v:Value} {xs:List Int} (h:Sq w v xs) (hb:Byt xs) : ∃ ad cap,v = .slice ad xs.length cap∧xs.length≤cap∧Sh.Src w ad xs.length cap (hm xs):=by
 obtain ⟨ad,cap,rfl,hc,hcell⟩:=h.sl
 refine ⟨ad,cap,rfl,hc,?_⟩
 cases ad with
 | none =>
  obtain rfl:=h.none' _ _ rfl
  exact .inl ⟨by omega,rfl⟩
 | some A =>
  by_cases hc0:cap=0
  ·subst hc0;exact .inl ⟨by omega,rfl⟩
  obtain ⟨h1,h2⟩:=h.some' A _ _ rfl hc0
  obtain ⟨b,o,sp⟩:=A
  simp only at h1 h2;subst h1
  refine .inr ⟨b,o,rfl,h2,fun i hi => ?_⟩
  rcases hcell with ⟨rfl,_⟩ | ⟨b',o',he,_,hm'⟩
  ·simp at hi
  ·cases he
   rw [hm' i hi]
   have:=hb.get hi
   exact congrArg some (byte_of _ this.1 this.2)
theorem Sq.bytes {w:World} {v:Value} {xs:List Int} (h:Sq w v xs) (hb:Byt xs):Sh.Bytes w v xs.length (hm xs) w.heap.size:=by
 obtain ⟨ad,cap,rfl,hc,h1⟩:=h.src hb
 rcases h1 with ⟨h0,rfl⟩ | ⟨b,o,rfl,hlt,hm'⟩
 ·rw [h0];exact .inl ⟨⟨ad,rfl⟩,rfl⟩
 ·exact .inr ⟨b,o,cap,rfl,hc,hlt,Nat.ne_of_lt hlt,hm'⟩
abbrev Tb (w:World):Prop:=Sh.Q5.Tabs w
theorem sum512_sl (xs h:List Int) (v:Value) (hh:h5 xs=h) (hl:xs.length≤140737488354000) (w:World) (hT:Tb w) (hb:Byt xs) (hv:Sq w v xs) :
  Calls Tryd.prog 13 #[v] w fun e w'=>e = .returned (.agg (bv h).toArray)∧Below w.heap.size w w':=by
 subst hh
 refine (Sh.Q5.sum512_at _ (hm xs) xs.length v rfl (by omega) w hT (hv.bytes hb)).mono fun e w' ⟨h1,h2⟩=>⟨?_,h2⟩
 rw [h1,srow_bv];rfl
end Go.Proofs.YtmaehekekkfpmaaDoor.Wi
/- The numbers' calls (points, scalars; of the program and of the reference) over lists of 32 integers. -/
namespace Go.Proofs.YtmaehekekkfpmaaDoor.Wi
open Go Go.RowKit
set_option maxRecDepth 100000
def le:List Int→Nat
 | []=>0
 | z :: l=>z.toNat+256*le l
def bi (n:Nat):List Int:=(List.range 32).map (Go.Proofs.YtmaehekekkfpmaaDoor.by8 n)
theorem by8_lo (n i:Nat):0≤Go.Proofs.YtmaehekekkfpmaaDoor.by8 n i∧Go.Proofs.YtmaehekekkfpmaaDoor.by8 n i≤255:=by unfold Go.Proofs.YtmaehekekkfpmaaDoor.by8;omega
theorem bi_l32 (n:Nat):L32 (bi n):=⟨by simp [bi],fun z hz=>by
 obtain ⟨i,_,rfl⟩:=List.mem_map.1 hz
 exact by8_lo n i⟩
theorem bv_bi (n:Nat):bv (bi n)=Go.Proofs.YtmaehekekkfpmaaDoor.bl n:=by
 unfold bv bi Go.Proofs.YtmaehekekkfpmaaDoor.bl
 rw [List.map_map];rfl
theorem ag_bi (n:Nat):Value.agg (bv (bi n)).toArray=Go.Proofs.YtmaehekekkfpmaaDoor.bv n:=by rw [bv_bi];rfl
theorem by_le : ∀ x:List Int,Byt x→(List.range x.length).map (Go.Proofs.YtmaehekekkfpmaaDoor.by8 (le x))=x
 | [],_=>rfl
 | z :: l,h=>by
  have ih:=by_le l fun v hv=>h v (List.mem_cons_of_mem _ hv)
  obtain ⟨h0,h1⟩:=h z List.mem_cons_self
  rw [le]
  generalize le l=m at *
  rw [List.length_cons,List.range_succ_eq_map,List.map_cons,List.map_map]
  congr 1
  ·unfold Go.Proofs.YtmaehekekkfpmaaDoor.by8
   rw [Nat.pow_zero,Nat.div_one];omega
  ·refine Eq.trans (List.map_congr_left fun i _ => ?_) ih
   show Go.Proofs.YtmaehekekkfpmaaDoor.by8 (z.toNat+256*m) (i+1)=Go.Proofs.YtmaehekekkfpmaaDoor.by8 m i
   unfold Go.Proofs.YtmaehekekkfpmaaDoor.by8
   rw [Nat.pow_succ,Nat.mul_comm (256 ^ i) 256,←Nat.div_div_eq_div_mul,show (z.toNat+256*m)/256=m by omega]
theorem bi_le {x:List Int} (h:L32 x):bi (le x)=x:=by
 have:=by_le x h.byt
 rw [h.len] at this
 exact this
theorem le_lt : ∀ x:List Int,Byt x→le x<256 ^ x.length
 | [],_=>by decide
 | z :: l,h=>by
  have ih:=le_lt l fun v hv=>h v (List.mem_cons_of_mem _ hv)
  obtain ⟨h0,h1⟩:=h z List.mem_cons_self
  rw [le,List.length_cons,Nat.pow_succ]
  omega
theorem le32 {x:List Int} (h:L32 x):le x<RN:=by
 have:=le_lt x h.byt
 rw [h.len,←Go.Proofs.YtmaehekekkfpmaaDoor.rn_pow] at this
 exact this
theorem ag_le {x:List Int} (h:L32 x):Value.agg (bv x).toArray=Go.Proofs.YtmaehekekkfpmaaDoor.bv (le x):=by rw [←ag_bi,bi_le h]
theorem ag_64 {x:List Int} (hl:x.length=64) (hb:Byt x):Value.agg (bv x).toArray=Sc.bv64 (le x):=by
 have e:=by_le x hb
 rw [hl] at e
 unfold Sc.bv64 Sc.blm
 congr 2
 conv=>lhs;rw [←e]
 unfold bv
 rw [List.map_map];rfl
theorem le64 {x:List Int} (hl:x.length=64) (hb:Byt x):le x<Sc.RN*Sc.RN:=by
 have:=le_lt x hb
 rw [hl] at this
 exact Nat.lt_of_lt_of_le this (by decide)
structure Gp (w:World):Prop where
 m0:Glo Go.Proofs.YtmaehekekkfpmaaDoor.M0 w
 m1:Glo Go.Proofs.YtmaehekekkfpmaaDoor.M1 w
 tb:Tb w
def Bs (n:List Int):List Int:=bi (basN (le n))
def Ml (n p:List Int):List Int:=bi (pmlN (le n) (le p))
def Cl (p:List Int):List Int:=bi (clrN (le p))
def rk (p:List Int):Int:=rdE (le p)
def cn (n:List Int):Bool:=decide (le n<Sc.LN)
def rd (h:List Int):List Int:=bi (le h % Sc.LN)
theorem base_sl {n:List Int} (hn:L32 n) (w:World) (hw:Gp w):Calls Tryd.prog 9 #[.agg (bv n).toArray] w fun e w'=>e = .returned (.agg (bv (Bs n)).toArray)∧Below w.heap.size w w':=by
 rw [ag_le hn,Bs,ag_bi];exact Bas_any _ (le32 hn) w hw.m1
theorem can_sl {n:List Int} (hn:L32 n) (w:World):Calls Tryd.prog 20 #[.agg (bv n).toArray] w fun e w'=>e = .returned (.bool (cn n))∧Below w.heap.size w w':=by
 rw [ag_le hn];exact Sc.Canonical_any _ (le32 hn) w
theorem red_sl {h:List Int} (hl:h.length=64) (hb:Byt h) (w:World):Calls Tryd.prog 12 #[.agg (bv h).toArray] w fun e w'=>e = .returned (.agg (bv (rd h)).toArray)∧Below w.heap.size w w':=by
 rw [ag_64 hl hb,rd,ag_bi];exact Sc.Reduce_any _ (le64 hl hb) w
theorem L32.bs (n:List Int):L32 (Bs n):=bi_l32 _
theorem L32.ml (n p:List Int):L32 (Ml n p):=bi_l32 _
theorem L32.rd (h:List Int):L32 (rd h):=bi_l32 _
end Go.Proofs.YtmaehekekkfpmaaDoor.Wi
/- Layer 6: further calls of both sides over lists; what the two sides' differences have in common. -/
namespace Go.Proofs.YtmaehekekkfpmaaDoor.Wi
open Go Go.RowKit
set_option maxRecDepth 100000
def md (a b c:List Int):List Int:=bi ((le a*le b+le c) % Sc.LN)
theorem L32.cl (p:List Int):L32 (Cl p):=bi_l32 _
theorem L32.md (a b c:List Int):L32 (md a b c):=bi_l32 _
theorem clear_sl {p:List Int} (hp:L32 p) (w:World) (hw:Gp w):Calls Tryd.prog 19 #[.agg (bv p).toArray] w fun e w'=>e = .returned (.tuple #[.agg (bv (Cl p)).toArray,.int .i64 (rk p)])∧Below w.heap.size w w':=by
 rw [ag_le hp,Cl,ag_bi];exact Clr_any _ (le32 hp) w hw.m0
theorem zer_sl (w:World) (hw:Gp w):Calls Tryd.prog 24 #[] w fun e w'=>e = .returned (.agg (bv (bi 1)).toArray)∧Below w.heap.size w w':=by
 rw [ag_bi];exact Zer_any w hw.m0
theorem mad_sl {a b c:List Int} (ha:L32 a) (hb:L32 b) (hc:L32 c) (w:World):Calls Tryd.prog 16 #[.agg (bv a).toArray,.agg (bv b).toArray,.agg (bv c).toArray] w fun e w'=>e = .returned (.agg (bv (md a b c)).toArray)∧Below w.heap.size w w':=by
 rw [ag_le ha,ag_le hb,ag_le hc,md,ag_bi];exact Sc.MulAdd_any _ _ _ (le32 ha) (le32 hb) (le32 hc) w
end Go.Proofs.YtmaehekekkfpmaaDoor.Wi
/- SHA-512 of a block that is known, by tables. -/
namespace Go.Proofs.YtmaehekekkfpmaaDoor.Wi
open Go Go.RowKit Sh.Q5
set_option maxRecDepth 100000
def bw (l:List Nat) (t:Nat):BitVec 64:=BitVec.ofNat 64 (l.getD t 0)
def stA (a e:List Nat) (t:Nat):St:=⟨bw a (t+3),bw a (t+2),bw a (t+1),bw a t,bw e (t+3),bw e (t+2),bw e (t+1),bw e t⟩
def eqSt (s t:St):Bool:=s.a == t.a && (s.b == t.b && (s.c == t.c && (s.d == t.d && (s.e == t.e && (s.f == t.f && (s.g == t.g && s.h == t.h))))))
theorem eqSt_eq {s t:St} (h:eqSt s t=true):s=t:=by
 simp only [eqSt,Bool.and_eq_true,beq_iff_eq] at h
 obtain ⟨h1,h2,h3,h4,h5,h6,h7,h8⟩:=h
 cases s;cases t
 simp only at *
 subst h1;subst h2;subst h3;subst h4;subst h5;subst h6;subst h7;subst h8
 rfl
def chkW (m:Nat→BitVec 8) (w:List Nat):Bool:=((List.range 16).all fun t=>word (fun i=>m (8*t+i)) == bw w t) && (List.range 64).all fun k=>lo1 (bw w (k+14))+bw w (k+9)+lo0 (bw w (k+1))+bw w k == bw w (k+16)
def chkS (s f:St) (w a e:List Nat):Bool:=eqSt s (stA a e 0) && (eqSt (plus s (stA a e 80)) f && (List.range 80).all fun t=>eqSt (Sh.Q5.step (stA a e t) (K512 t) (bw w t)) (stA a e (t+1)))
theorem sched_tab {m:Nat→BitVec 8} {w:List Nat} (h:chkW m w=true) : ∀ n t,t<n→t<80→schedW m t=bw w t
 | 0,_,h0,_=>absurd h0 (Nat.not_lt_zero _)
 | n+1,t,ht,h80=>by
  have ih:=sched_tab h n
  simp only [chkW,Bool.and_eq_true,List.all_eq_true,List.mem_range,beq_iff_eq] at h
  obtain ⟨h1,h2⟩:=h
  rw [schedW]
  split
  ·rename_i h16;exact h1 t h16
  ·have:=h2 (t - 16) (by omega)
   rw [show t - 16+14=t - 2 by omega,show t - 16+9=t - 7 by omega,show t - 16+1=t - 15 by omega,show t - 16+16=t by omega] at this
   rw [ih (t - 2) (by omega) (by omega),ih (t - 7) (by omega) (by omega),ih (t - 15) (by omega) (by omega),ih (t - 16) (by omega) (by omega)]
   exact this
theorem rounds_tab {m:Nat→BitVec 8} {w a e:List Nat} {s:St} (hw:chkW m w=true) (h0:s=stA a e 0) (hs : ∀ t,t<80→eqSt (Sh.Q5.step (stA a e t) (K512 t) (bw w t)) (stA a e (t+1))=true) : ∀ t,t≤80→rounds K512 (schedW m) s t=stA a e t
 | 0,_=>h0
 | t+1,h=>by
  have ih:=rounds_tab hw h0 hs t (by omega)
  show Sh.Q5.step (rounds K512 (schedW m) s t) (K512 t) (schedW m t)=_
  rw [ih,sched_tab hw 80 t (by omega) (by omega)]
  exact eqSt_eq (hs t (by omega))
theorem blk_tab (s f:St) (m:Nat→BitVec 8) (w a e:List Nat) (hw:chkW m w=true) (hs:chkS s f w a e=true):compress K512 s m=f:=by
 simp only [chkS,Bool.and_eq_true,List.all_eq_true,List.mem_range] at hs
 obtain ⟨h1,h2,h3⟩:=hs
 unfold compress
 rw [rounds_tab hw (eqSt_eq h1) h3 80 (Nat.le_refl _)]
 exact eqSt_eq h2
theorem h5_one (xs:List Int) (f:St) (h1:nblk xs.length=1) (hb:compress K512 H512 (fun i=>padM (hm xs) xs.length (128*0+i))=f):h5 xs=row64 f:=by
 unfold h5 sumSt
 rw [h1]
 exact congrArg row64 hb
theorem h5_two (xs:List Int) (f g:St) (h1:nblk xs.length=2) (hb:compress K512 H512 (fun i=>padM (hm xs) xs.length (128*0+i))=g) (hc:compress K512 g (fun i=>padM (hm xs) xs.length (128*1+i))=f):h5 xs=row64 f:=by
 unfold h5 sumSt
 rw [h1]
 show row64 (compress K512 (compress K512 H512 (fun i=>padM (hm xs) xs.length (128*0+i))) (fun i=>padM (hm xs) xs.length (128*1+i)))=_
 rw [hb,hc]
end Go.Proofs.YtmaehekekkfpmaaDoor.Wi
/- Layer 6: halves, times, less, parts, widened: run in a small memory. -/
namespace Go.Proofs.YtmaehekekkfpmaaDoor.Ve
open Go Go.RowKit
set_option maxRecDepth 100000
structure Fs where
 bas:Nat→Nat
 pml:Nat→Nat→Nat
 neg:Nat→Nat
 add:Nat→Nat→Nat
 rde:Nat→Int
 ade:Nat→Nat→Int
 sha:List Value→Nat→Int
 hlv:Nat→Nat × Nat
def gBasF (F:Fs):List Value→Option (List Prop × Value)
 | [A]=>some ([IsB A],bv (F.bas (bnum A)))
 | _=>none
def gPmlF (F:Fs):List Value→Option (List Prop × Value)
 | [A,B]=>some ([IsB A∧IsB B],.tuple #[bv (F.pml (bnum A) (bnum B)),.int .i64 (F.rde (bnum B))])
 | _=>none
def nA:Nat:=Nat.max np (Nat.max 0 3+1)
def sqL:List Value:=(List.range 8).map fun i => .int .u64 (Sh.Q5.u (Sh.Q5.H512.at i))
def cuL:List Value:=(List.range 80).map fun i => .int .u64 (Sh.Q5.u (Sh.Q5.K512 i))
def MA:Mem:=((((((List.replicate nA none).set 2 (some ⟨bl GY,26⟩)).set 5 (some ⟨bl DN',26⟩)).set 4 (some ⟨bl 1,26⟩)).set 1 (some ⟨bl GX,26⟩)).set 0 (some ⟨sqL,62⟩)).set 3 (some ⟨cuL,84⟩)
theorem MA_flat:flatM MA=true:=by kernel_rfl
def glA:List Nat:=[2,5,1,4,0,3]
theorem MA_in:insideG MA glA=true:=by kernel_rfl
theorem MA_cov:coversG MA glA=true:=by kernel_rfl
theorem M0_cov:coversG M0 glA=true:=by kernel_rfl
theorem M1_cov:coversG M1 glA=true:=by kernel_rfl
theorem Glo.rep (n:Nat) (w:World):Glo (List.replicate n none) w:=fun b B hB=>by
 unfold getB at hB
 rw [List.getElem?_replicate] at hB
 split at hB <;> cases hB
theorem Glo.set {M:Mem} {w:World} (h:Glo M w) {g:Nat} {B:Blk} (hB:w.heap[g]? = some (.cells B.cells.toArray B.ty.id B.ty.fz)):Glo (M.set g (some B)) w:=fun b B' hB'=>by
 rw [getB_set] at hB'
 split at hB'
 ·rename_i e
  cases hB'
  rw [e.1];exact hB
 ·exact h b B' hB'
theorem gp {w:World} (h:Glo MA w):Wi.Gp w:=by
 have e1:getB MA 2=some ⟨bl GY,26⟩:=rfl
 have e2:getB MA 5=some ⟨bl DN',26⟩:=rfl
 have e3:getB MA 4=some ⟨bl 1,26⟩:=rfl
 have e4:getB MA 1=some ⟨bl GX,26⟩:=rfl
 have e5:getB MA 0=some ⟨sqL,62⟩:=rfl
 have e6:getB MA 3=some ⟨cuL,84⟩:=rfl
 have s5:=h _ _ e5
 have s6:=h _ _ e6
 have m0:Glo M0 w:=Ve.Glo.set (Ve.Glo.set (Ve.Glo.set (Ve.Glo.rep _ _) (h _ _ e1)) (h _ _ e2)) (h _ _ e3)
 refine ⟨m0,Ve.Glo.set m0 (h _ _ e4),⟨fun i hi => ?_,fun i hi => ?_⟩⟩
 ·rw [cell_of_row w 0 i _ _ _ s5,List.getElem?_toArray,sqL,List.getElem?_map,List.getElem?_range hi];rfl
 ·rw [cell_of_row w 3 i _ _ _ s6,List.getElem?_toArray,cuL,List.getElem?_map,List.getElem?_range hi];rfl
def rowF (S:Nat→Int):List Value:=(List.range 64).map fun i => .int .u8 (S i)
def gS5 (S:List Value→Nat→Int) (args:List Value) (m:Mem):Option (List Prop × Value) :=
 match args with
 | [.slice (some ⟨b,0,none⟩) 32 32]=>if gHas MA m && (getB MA b).isNone then (getB m b).map fun B=>([IsB (.agg B.cells.toArray)],.agg (rowF (S B.cells)).toArray) else none
 | _=>none
def S0 (l:List Value) (i:Nat):Int:=Wi.gi (Wi.h5 (Wi.bi (bsum l))) i
theorem rowF_0 (l:List Value):rowF (S0 l)=Wi.bv (Wi.h5 (Wi.bi (bsum l))):=by
 have hl:=Wi.h5_length (Wi.bi (bsum l))
 apply List.ext_getElem?
 intro i
 by_cases hi:i<64
 ·rw [Wi.bv_get _ (by rw [hl];exact hi),rowF,List.getElem?_map,List.getElem?_range hi];rfl
 ·rw [List.getElem?_eq_none (l:=rowF (S0 l)) (by simp [rowF];omega),List.getElem?_eq_none (by rw [Wi.bv_length,hl];omega)]
theorem gS5_ok {X:Cx} (hX:X.Ok Tryd.prog) (hc:coversG MA X.gl=true):(X.read 13 (gS5 S0)).Ok Tryd.prog:=by
 refine Cx.read_ok hX (fun args m ps v hg hp r w args' hr hgl ha => ?_) (fun args m q i B hi hg => ?_)
 ·unfold gS5 at hg
  split at hg
  ·rename_i b
   split at hg
   ·rename_i hall
    simp only [Bool.and_eq_true] at hall
    cases hB:getB m b with
    | none=>simp [hB] at hg
    | some B =>
     simp only [hB,Option.map_some,Option.some.injEq,Prod.mk.injEq] at hg
     obtain ⟨rfl,rfl⟩:=hg
     have hI:=hp _ (List.mem_singleton.2 rfl)
     have hcells:B.cells=bl (bsum B.cells):=by
      have e:Value.agg B.cells.toArray = .agg (bl (bsum B.cells.toArray.toList)).toArray:=hI
      rw [List.toList_toArray] at e
      simpa using e
     obtain ⟨c0,cs,p1,p2,p3⟩:=hr.cells b B hB
     have ha0:trL (tr r) [.slice (some ⟨b,0,none⟩) 32 32]=some [.slice (some ⟨c0,0,none⟩) 32 32]:=trL_mk (tr_of_slice p1) rfl
     rw [ha] at ha0
     cases ha0
     have hfl:B.cells.all flat1=true:=by rw [hcells];exact flat_bl _
     rw [trL_all (tr1_flat r) hfl] at p2
     cases p2
     have hG:=gp (hr.glo hall.1 MA_flat fun g hg=>hgl g (coversG_get hc hg))
     obtain ⟨n,hn⟩ : ∃ n,bsum B.cells=n:=⟨_,rfl⟩
     have hlen:(Wi.bi n).length=32:=(Wi.bi_l32 n).len
     have hlt:c0<w.heap.size:=(Array.getElem?_eq_some_iff.1 p3).1
     have hs:Wi.Sl w (.slice (some ⟨c0,0,none⟩) 32 32) (Wi.bi n):=⟨_,32,by rw [hlen],by rw [hlen];omega,.inr ⟨c0,0,rfl,hlt,fun i hi=>by
      rw [Nat.zero_add,cell_of_row w c0 i _ _ _ p3,List.getElem?_toArray,hcells,hn,←Wi.bv_bi];exact Wi.bv_get _ hi⟩⟩
     have hb8 : ∀ u ∈ Wi.bv (Wi.h5 (Wi.bi n)),flat1 u=true:=fun u hu=>by obtain ⟨z,_,rfl⟩:=List.mem_map.1 hu;rfl
     refine call_enter Tryd.func13 (by kernel_rfl) (show _=some (bodyOf Tryd.f13) from (by kernel_rfl)) ((Wi.sum512_sl (Wi.bi n) _ _ rfl (by rw [hlen];omega) w hG.tb (Wi.bi_l32 n).byt (hs.sq (fun e=>by rw [e] at hlen;cases hlen))).mono ?_)
     rintro e w' ⟨rfl,hb⟩
     refine ⟨_,rfl,?_,hb⟩
     rw [rowF_0,hn]
     refine tr_flat r _ ?_
     show ((Wi.bv (Wi.h5 (Wi.bi n))).toArray.toList.all flat1)=true
     rw [List.toList_toArray];exact List.all_eq_true.2 hb8
   ·simp at hg
  ·simp at hg
 ·unfold gS5 at hg ⊢
  split at hg
  ·rename_i b
   split at hg
   ·rename_i hall
    simp only [Bool.and_eq_true] at hall
    cases hB:getB m b with
    | none=>simp [hB] at hg
    | some B' =>
     rw [if_pos (by simp only [Bool.and_eq_true];exact ⟨gHas_more hi hall.1,hall.2⟩),getB_fill (hole_ne hi hB)]
     exact hg
   ·simp at hg
  ·simp at hg
def EF (F:Fs):Cx:=((((Cx.none.glo glA).read 13 (gS5 F.sha)).var M1 9 (gBasF F)).var M0 25 (gPmlF F))
def lowL (o:List Value):List Value := .int .u8 (bits .andNot .u8 (intL o 0) 7) :: ((o.drop 1).take 30 ++ [.int .u8 (bits .or .u8 (bits .andNot .u8 (intL o 31) 128) 64)])
theorem hlv_run (F:Fs) (s:Nat):sfunG Tryd.prog (EF F) MA 60 Tryd.f8 (bodyOf Tryd.f8) [bv s]=some ([IsB (.agg (bl s).toArray)],.tuple #[.agg (lowL (rowF (F.sha (bl s)))).toArray,.agg ((rowF (F.sha (bl s))).drop 32).toArray]):=by kernel_rfl
theorem tms_run (F:Fs) (n p:Nat):sfunG Tryd.prog (EF F) MA 60 Tryd.f11 (bodyOf Tryd.f11) [bv n,bv p]=some ([IsB (bv n)∧IsB (bv p)],bv (F.pml (bnum (bv n)) (bnum (bv p)))):=by kernel_rfl
def rowN (n:Nat) (S:Nat→Int):List Value:=(List.range n).map fun i => .int .u8 (S i)
theorem par_run (F:Fs) (S:Nat→Int):sfunG Tryd.prog (EF F) MA 60 Tryd.f18 (bodyOf Tryd.f18) [.agg (rowN 80 S).toArray]=some ([],.tuple #[.agg ((rowN 80 S).take 32).toArray,.agg (((rowN 80 S).drop 32).take 16).toArray,.agg ((rowN 80 S).drop 48).toArray]):=by kernel_rfl
theorem wid_run (F:Fs) (S:Nat→Int):sfunG Tryd.prog (EF F) MA 60 Tryd.f17 (bodyOf Tryd.f17) [.agg (rowN 16 S).toArray]=some ([],.agg (rowN 16 S ++ List.replicate 16 (Value.int .u8 0)).toArray):=by kernel_rfl
def lowI (x:List Int):List Int:=bits .andNot .u8 (Wi.gi x 0) 7 :: ((x.drop 1).take 30 ++ [bits .or .u8 (bits .andNot .u8 (Wi.gi x 31) 128) 64])
theorem intL_bv (x:List Int) (i:Nat) (hi:i<x.length):intL (Wi.bv x) i=Wi.gi x i:=by unfold intL;rw [Wi.bv_get x hi]
theorem lowI_bv {x:List Int} (h:x.length=64):lowL (Wi.bv x)=Wi.bv (lowI x):=by
 unfold lowL lowI
 rw [intL_bv x 0 (by omega),intL_bv x 31 (by omega)]
 simp only [Wi.bv,List.map_cons,List.map_append,List.map_nil,List.map_drop,List.map_take]
theorem u8_lo (op:BinOp) (a b:Int):0≤bits op .u8 a b∧bits op .u8 a b≤255:=⟨bits_lo_u8 op a b,by have:=bits_hi_u8 op a b;omega⟩
theorem lowI_l32 {x:List Int} (h:x.length=64) (hb:Wi.Byt x):Wi.L32 (lowI x):=by
 refine ⟨by simp [lowI];omega,fun z hz => ?_⟩
 rcases List.mem_cons.1 hz with rfl | hz
 ·exact u8_lo _ _ _
 ·rcases List.mem_append.1 hz with hz | hz
  ·exact hb z (List.mem_of_mem_drop (List.mem_of_mem_take hz))
  ·rw [List.mem_singleton.1 hz];exact u8_lo _ _ _
def sk (s:List Int):List Int:=lowI (Wi.h5 s)
def pf (s:List Int):List Int:=(Wi.h5 s).drop 32
theorem sk_l32 (s:List Int):Wi.L32 (sk s):=lowI_l32 (Wi.h5_length s) (Wi.h5_byt s)
theorem pf_l32 (s:List Int):Wi.L32 (pf s):=⟨by rw [pf,List.length_drop,Wi.h5_length],fun z hz=>Wi.h5_byt s z (List.mem_of_mem_drop hz)⟩
def hlvN (s:Nat):Nat × Nat:=(Wi.le (sk (Wi.bi s)),Wi.le (pf (Wi.bi s)))
def R0:Fs:=⟨basN,pmlN,negN,addN,rdE,addE,S0,hlvN⟩
theorem EF_ok:(EF R0).Ok Tryd.prog:=gPml_ok (gBas_ok (gS5_ok (Cx.glo_ok Cx.none_ok (by intro g hg;cases hg)) MA_cov) M1_cov) M0_cov
theorem halves_any (s:Nat) (hs:s<RN) (w:World) (hw:Glo MA w):Calls Tryd.prog 8 #[bv s] w fun e w'=>e = .returned (.tuple #[.agg (Wi.bv (sk (Wi.bi s))).toArray,.agg (Wi.bv (pf (Wi.bi s))).toArray])∧Below w.heap.size w w':=by
 have run:=hlv_run R0 s
 have e:rowF (R0.sha (bl s))=Wi.bv (Wi.h5 (Wi.bi s)):=by
  show rowF (S0 (bl s))=_
  rw [rowF_0,bsum_bl,Nat.mod_eq_of_lt hs]
 have e2:(Wi.bv (Wi.h5 (Wi.bi s))).drop 32=Wi.bv (pf (Wi.bi s)):=by unfold pf Wi.bv;rw [List.map_drop]
 rw [e,lowI_bv (Wi.h5_length _),e2] at run
 refine sfunG_calls EF_ok mixed MA_flat MA_in Tryd.func8 (by kernel_rfl) run (fun p hp => ?_) (by simp [flat_bv]) (.inl ?_) w hw
 ·rw [List.mem_singleton.1 hp];exact isB_bv s
 ·have f1:=Wi.ag_le (sk_l32 (Wi.bi s))
  have f2:=Wi.ag_le (pf_l32 (Wi.bi s))
  unfold sk at f1
  rw [f1,f2];rfl
theorem tms_sl {n p:List Int} (hn:Wi.L32 n) (hp:Wi.L32 p) (w:World) (hw:Glo MA w):Calls Tryd.prog 11 #[.agg (Wi.bv n).toArray,.agg (Wi.bv p).toArray] w fun e w'=>e = .returned (.agg (Wi.bv (Wi.Ml n p)).toArray)∧Below w.heap.size w w':=by
 have run:=tms_run R0 (Wi.le n) (Wi.le p)
 have e1:R0.pml=pmlN:=rfl
 rw [e1,bnum_bv' (Wi.le32 hn),bnum_bv' (Wi.le32 hp)] at run
 rw [Wi.ag_le hn,Wi.ag_le hp,Wi.Ml,Wi.ag_bi]
 exact sfunG_calls EF_ok mixed MA_flat MA_in Tryd.func11 (by kernel_rfl) run (fun q hq=>by
  rw [List.mem_singleton.1 hq];exact ⟨isB_bv _,isB_bv _⟩) (by simp [flat_bv]) (.inl (flat_bv _)) w hw
end Go.Proofs.YtmaehekekkfpmaaDoor.Ve
