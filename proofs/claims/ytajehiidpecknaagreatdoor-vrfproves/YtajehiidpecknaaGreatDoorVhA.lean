/- SHA-512 of lists of integers: what the program and the reference answer. -/
import Derived.Test.YtajehiidpecknaaGreatDoorWirA
import Derived.Test.YtajehiidpecknaaGreatDoorQ5S
import Derived.Test.YtajehiidpecknaaGreatDoorQ5RE
import Derived.Test.YtajehiidpecknaaGreatDoorPoiTB
import Derived.Test.YtajehiidpecknaaGreatDoorScpB
import Derived.Test.YtajehiidpecknaaGreatDoorScrB
import Derived.Test.YtajehiidpecknaaGreatDoorVkA
import Derived.Test.YtajehiidpecknaaGreatDoorMemG
set_option linter.all false
namespace Go.Proofs.YtajehiidpecknaaGreatDoor.Wi
open Go Go.RowKit
set_option maxRecDepth 100000
def hm (xs:List Int):Nat→BitVec 8:=fun i=>BitVec.ofInt 8 (gi xs i)
def jn (S:Sh.Q5.St):List Int:=(List.range 64).map fun i=>Sh.ub (Sh.Q5.df S i)
def h5 (xs:List Int):List Int:=jn (Sh.Q5.fT Sh.Q5.aS Sh.Q5.cd (hm xs) xs.length)
theorem qR (S:Sh.Q5.St):(jn S).length=64:=by simp [jn]
theorem bo (xs:List Int):(h5 xs).length=64:=qR _
theorem yz (S:Sh.Q5.St):Sh.Q5.dh S=(bv (jn S)).toArray:=by
 unfold Sh.Q5.dh bv jn
 rw [List.map_map];rfl
theorem zi (S:Sh.Q5.St):Byt (jn S):=by
 intro z hz
 obtain ⟨i,_,rfl⟩:=List.mem_map.1 hz
 have:=(Sh.Q5.df S i).isLt
 unfold Sh.ub;omega
theorem dI (xs:List Int):Byt (h5 xs):=zi _
structure Sq (w:World) (v:Value) (xs:List Int):Prop where
 sl:Sl w v xs
 some' : ∀ A l c,v = .slice (some A) l c→c≠0→A.spot=none∧A.block<w.heap.size
 none' : ∀ l c,v = .slice none l c→c=0
theorem Sq.below {w w':World} {v:Value} {xs:List Int} (h:Sq w v xs) (hb:Below w.heap.size w w'):Sq w' v xs :=
 ⟨h.sl.below hb (Nat.le_refl _),fun A l c e h0=>⟨(h.some' A l c e h0).1,Nat.lt_of_lt_of_le (h.some' A l c e h0).2 hb.size⟩,h.none'⟩
theorem Ow.sq {B0:Nat} {w:World} {v:Value} {xs:List Int} (h:Ow B0 w v xs):Sq w v xs:=by
 refine ⟨h.sl,fun A l c e _ => ?_,fun l c e => ?_⟩
 ·rcases h.2 with ⟨rfl,h0⟩ | ⟨g,cap,cur,hv,hb,hg,hc,_,hs,ht⟩
  ·cases e
  ·rw [hv] at e;cases e;exact ⟨rfl,(Array.getElem?_eq_some_iff.1 hg).1⟩
 ·rcases h.2 with ⟨rfl,h0⟩ | ⟨g,cap,cur,hv,hb,hg,hc,_,hs,ht⟩
  ·cases e;rfl
  ·rw [hv] at e;cases e
theorem Sl.sq {w:World} {v:Value} {xs:List Int} (h:Sl w v xs) (h0:xs≠[]):Sq w v xs:=by
 obtain ⟨ad,cap,rfl,hc,h⟩:=h
 rcases h with ⟨e,_⟩ | ⟨b,o,rfl,hlt,hm⟩
 ·exact absurd e h0
 ·exact ⟨⟨_,cap,rfl,hc,.inr ⟨b,o,rfl,hlt,hm⟩⟩,fun A l c e _=>by cases e;exact ⟨rfl,hlt⟩,fun l c e=>by cases e⟩
theorem lR (z:Int) (h0:0≤z) (h1:z≤255):Value.int .u8 z=Sh.B (BitVec.ofInt 8 z):=by
 show Value.int .u8 z=Value.int .u8 (Sh.ub (BitVec.ofInt 8 z))
 congr 1
 rw [Sh.ub,BitVec.toNat_ofInt]
 omega
theorem Sq.src {w:World} {v:Value} {xs:List Int} (h:Sq w v xs) (hb:Byt xs) : ∃ ad cap,v = .slice ad xs.length cap∧xs.length≤cap∧Sh.Src w ad xs.length cap (hm xs):=by
 obtain ⟨ad,cap,rfl,hc,hcell⟩:=h.sl
 refine ⟨ad,cap,rfl,hc,?_⟩
 cases ad with
 | none =>
  obtain rfl:=h.none' _ _ rfl
  exact .inl ⟨by omega,rfl⟩
 | some A =>
  by_cases hc0:cap=0
  ·subst hc0;exact .inl ⟨by omega,rfl⟩
  obtain ⟨h1,h2⟩:=h.some' A _ _ rfl hc0
  obtain ⟨b,o,sp⟩:=A
  simp only at h1 h2;subst h1
  refine .inr ⟨b,o,rfl,h2,fun i hi => ?_⟩
  rcases hcell with ⟨rfl,_⟩ | ⟨b',o',he,_,hm'⟩
  ·simp at hi
  ·cases he
   rw [hm' i hi]
   have:=hb.get hi
   exact congrArg some (lR _ this.1 this.2)
theorem Sq.bytes {w:World} {v:Value} {xs:List Int} (h:Sq w v xs) (hb:Byt xs):Sh.Bytes w v xs.length (hm xs) w.heap.size:=by
 obtain ⟨ad,cap,rfl,hc,h1⟩:=h.src hb
 rcases h1 with ⟨h0,rfl⟩ | ⟨b,o,rfl,hlt,hm'⟩
 ·rw [h0];exact .inl ⟨⟨ad,rfl⟩,rfl⟩
 ·exact .inr ⟨b,o,cap,rfl,hc,hlt,Nat.ne_of_lt hlt,hm'⟩
abbrev Tb (w:World):Prop:=Sh.Q5.Tabs w
theorem gE (xs h:List Int) (v:Value) (hh:h5 xs=h) (hl:xs.length≤140737488354000) (w:World) (hT:Tb w) (hb:Byt xs) (hv:Sq w v xs) :
  Calls Tryz.prog 22 #[v] w fun e w'=>e = .returned (.agg (bv h).toArray)∧Below w.heap.size w w':=by
 subst hh
 refine (Sh.Q5.zW _ (hm xs) xs.length v rfl (by omega) w hT (hv.bytes hb)).mono fun e w' ⟨h1,h2⟩=>⟨?_,h2⟩
 rw [h1,yz];rfl
theorem eW (xs h:List Int) (v:Value) (hh:h5 xs=h) (hl:xs.length≤140737488354000) (w:World) (hb:Byt xs) (hv:Sq w v xs) :
  Calls Tryz.prog 40 #[v] w fun e w'=>e = .returned (.agg (bv h).toArray)∧Below w.heap.size w w':=by
 subst hh
 obtain ⟨ad,cap,rfl,hc,hsr⟩:=hv.src hb
 refine (Sh.Q5.zp (hm xs) ad xs.length cap (by omega) w hsr).mono fun e w' ⟨h1,h2⟩=>⟨?_,h2⟩
 rw [h1,yz];rfl
end Go.Proofs.YtajehiidpecknaaGreatDoor.Wi
namespace Go.Proofs.YtajehiidpecknaaGreatDoor.Wi
open Go Go.RowKit
set_option maxRecDepth 100000
def le:List Int→Nat
 | []=>0
 | z :: l=>z.toNat+256*le l
def bi (n:Nat):List Int:=(List.range 32).map (Go.Proofs.YtajehiidpecknaaGreatDoor.by8 n)
theorem I5 (n i:Nat):0≤Go.Proofs.YtajehiidpecknaaGreatDoor.by8 n i∧Go.Proofs.YtajehiidpecknaaGreatDoor.by8 n i≤255:=by unfold Go.Proofs.YtajehiidpecknaaGreatDoor.by8;omega
theorem gP (n:Nat):L32 (bi n):=⟨by simp [bi],fun z hz=>by
 obtain ⟨i,_,rfl⟩:=List.mem_map.1 hz
 exact I5 n i⟩
theorem Hv (n:Nat):bv (bi n)=Go.Proofs.YtajehiidpecknaaGreatDoor.bl n:=by
 unfold bv bi Go.Proofs.YtajehiidpecknaaGreatDoor.bl
 rw [List.map_map];rfl
theorem gm (n:Nat):Value.agg (bv (bi n)).toArray=Go.Proofs.YtajehiidpecknaaGreatDoor.bv n:=by rw [Hv];rfl
theorem BS : ∀ x:List Int,Byt x→(List.range x.length).map (Go.Proofs.YtajehiidpecknaaGreatDoor.by8 (le x))=x
 | [],_=>rfl
 | z :: l,h=>by
  have ih:=BS l fun v hv=>h v (List.mem_cons_of_mem _ hv)
  obtain ⟨h0,h1⟩:=h z List.mem_cons_self
  rw [le]
  generalize le l=m at *
  rw [List.length_cons,List.range_succ_eq_map,List.map_cons,List.map_map]
  congr 1
  ·unfold Go.Proofs.YtajehiidpecknaaGreatDoor.by8
   rw [Nat.pow_zero,Nat.div_one];omega
  ·refine Eq.trans (List.map_congr_left fun i _ => ?_) ih
   show Go.Proofs.YtajehiidpecknaaGreatDoor.by8 (z.toNat+256*m) (i+1)=Go.Proofs.YtajehiidpecknaaGreatDoor.by8 m i
   unfold Go.Proofs.YtajehiidpecknaaGreatDoor.by8
   rw [Nat.pow_succ,Nat.mul_comm (256 ^ i) 256,←Nat.div_div_eq_div_mul,show (z.toNat+256*m)/256=m by omega]
theorem Hg {x:List Int} (h:L32 x):bi (le x)=x:=by
 have:=BS x h.byt
 rw [h.len] at this
 exact this
theorem CM : ∀ x:List Int,Byt x→le x<256 ^ x.length
 | [],_=>by decide
 | z :: l,h=>by
  have ih:=CM l fun v hv=>h v (List.mem_cons_of_mem _ hv)
  obtain ⟨h0,h1⟩:=h z List.mem_cons_self
  rw [le,List.length_cons,Nat.pow_succ]
  omega
theorem iq {x:List Int} (h:L32 x):le x<RN:=by
 have:=CM x h.byt
 rw [h.len,←Go.Proofs.YtajehiidpecknaaGreatDoor.iD] at this
 exact this
theorem dE {x:List Int} (h:L32 x):Value.agg (bv x).toArray=Go.Proofs.YtajehiidpecknaaGreatDoor.bv (le x):=by rw [←gm,Hg h]
theorem GU {x:List Int} (hl:x.length=64) (hb:Byt x):Value.agg (bv x).toArray=Sc.vo (le x):=by
 have e:=BS x hb
 rw [hl] at e
 unfold Sc.vo Sc.blm
 congr 2
 conv=>lhs;rw [←e]
 unfold bv
 rw [List.map_map];rfl
theorem K9 {x:List Int} (hl:x.length=64) (hb:Byt x):le x<Sc.RN*Sc.RN:=by
 have:=CM x hb
 rw [hl] at this
 exact Nat.lt_of_lt_of_le this (by decide)
structure Gp (w:World):Prop where
 m0:Glo Go.Proofs.YtajehiidpecknaaGreatDoor.M0 w
 m1:Glo Go.Proofs.YtajehiidpecknaaGreatDoor.M1 w
 tb:Tb w
def Bs (n:List Int):List Int:=bi (u9 (le n))
def Ml (n p:List Int):List Int:=bi (gf (le n) (le p))
def Cl (p:List Int):List Int:=bi (rY (le p))
def rk (p:List Int):Int:=rdE (le p)
def cn (n:List Int):Bool:=decide (le n<Sc.LN)
def rd (h:List Int):List Int:=bi (le h % Sc.LN)
theorem yp {n:List Int} (hn:L32 n) (w:World) (hw:Gp w):Calls Tryz.prog 18 #[.agg (bv n).toArray] w fun e w'=>e = .returned (.agg (bv (Bs n)).toArray)∧Below w.heap.size w w':=by
 rw [dE hn,Bs,gm];exact yd _ (iq hn) w hw.m1
theorem JD {n:List Int} (hn:L32 n) (w:World):Calls Tryz.prog 36 #[.agg (bv n).toArray] w fun e w'=>e = .returned (.bool (cn n))∧Below w.heap.size w w':=by
 rw [dE hn];exact Sc.fF _ (iq hn) w
theorem Ib {h:List Int} (hl:h.length=64) (hb:Byt h) (w:World):Calls Tryz.prog 21 #[.agg (bv h).toArray] w fun e w'=>e = .returned (.agg (bv (rd h)).toArray)∧Below w.heap.size w w':=by
 rw [GU hl hb,rd,gm];exact Sc.vE _ (K9 hl hb) w
theorem DV {n:List Int} (hn:L32 n) (w:World):Calls Tryz.prog 39 #[.agg (bv n).toArray] w fun e w'=>e = .returned (.bool (cn n))∧Below w.heap.size w w':=by
 rw [dE hn];exact Sc.eY _ (iq hn) w
theorem Ee {h:List Int} (hl:h.length=64) (hb:Byt h) (w:World):Calls Tryz.prog 66 #[.agg (bv h).toArray] w fun e w'=>e = .returned (.agg (bv (rd h)).toArray)∧Below w.heap.size w w':=by
 rw [GU hl hb,rd,gm];exact Sc.ur _ (K9 hl hb) w
theorem tN {n:List Int} (hn:L32 n) (w:World):Calls Tryz.prog 28 #[.agg (bv n).toArray] w fun e w'=>e = .returned (.agg (bv (Bs n)).toArray)∧Below w.heap.size w w':=by
 rw [dE hn,Bs,gm];exact Fw _ (iq hn) w
theorem L32.bs (n:List Int):L32 (Bs n):=gP _
theorem L32.ml (n p:List Int):L32 (Ml n p):=gP _
theorem L32.rd (h:List Int):L32 (rd h):=gP _
end Go.Proofs.YtajehiidpecknaaGreatDoor.Wi
namespace Go.Proofs.YtajehiidpecknaaGreatDoor.Wi
open Go Go.RowKit
set_option maxRecDepth 100000
def md (a b c:List Int):List Int:=bi ((le a*le b+le c) % Sc.LN)
theorem L32.cl (p:List Int):L32 (Cl p):=gP _
theorem L32.md (a b c:List Int):L32 (md a b c):=gP _
theorem ti {p:List Int} (hp:L32 p) (w:World) (hw:Gp w):Calls Tryz.prog 35 #[.agg (bv p).toArray] w fun e w'=>e = .returned (.tuple #[.agg (bv (Cl p)).toArray,.int .i64 (rk p)])∧Below w.heap.size w w':=by
 rw [dE hp,Cl,gm];exact Ft _ (iq hp) w hw.m0
theorem qc {p:List Int} (hp:L32 p) (w:World):Calls Tryz.prog 38 #[.agg (bv p).toArray] w fun e w'=>e = .returned (.tuple #[.agg (bv (Cl p)).toArray,.int .i64 (rk p)])∧Below w.heap.size w w':=by
 rw [dE hp,Cl,gm];exact Fq _ (iq hp) w
theorem Ff {n p:List Int} (hn:L32 n) (hp:L32 p) (w:World):Calls Tryz.prog 30 #[.agg (bv n).toArray,.agg (bv p).toArray] w fun e w'=>e = .returned (.tuple #[.agg (bv (Ml n p)).toArray,.int .i64 (rk p)])∧Below w.heap.size w w':=by
 rw [dE hn,dE hp,Ml,gm];exact yc _ _ (iq hn) (iq hp) w
theorem JW (w:World) (hw:Gp w):Calls Tryz.prog 54 #[] w fun e w'=>e = .returned (.agg (bv (bi 1)).toArray)∧Below w.heap.size w w':=by
 rw [gm];exact Fl w hw.m0
theorem DM (w:World):Calls Tryz.prog 65 #[] w fun e w'=>e = .returned (.agg (bv (bi 1)).toArray)∧Below w.heap.size w w':=by
 rw [gm];exact Fu w
theorem Jw {a b c:List Int} (ha:L32 a) (hb:L32 b) (hc:L32 c) (w:World):Calls Tryz.prog 25 #[.agg (bv a).toArray,.agg (bv b).toArray,.agg (bv c).toArray] w fun e w'=>e = .returned (.agg (bv (md a b c)).toArray)∧Below w.heap.size w w':=by
 rw [dE ha,dE hb,dE hc,md,gm];exact Sc.vU _ _ _ (iq ha) (iq hb) (iq hc) w
theorem Eh {a b c:List Int} (ha:L32 a) (hb:L32 b) (hc:L32 c) (w:World):Calls Tryz.prog 33 #[.agg (bv a).toArray,.agg (bv b).toArray,.agg (bv c).toArray] w fun e w'=>e = .returned (.agg (bv (md a b c)).toArray)∧Below w.heap.size w w':=by
 rw [dE ha,dE hb,dE hc,md,gm];exact Sc.uR _ _ _ (iq ha) (iq hb) (iq hc) w
end Go.Proofs.YtajehiidpecknaaGreatDoor.Wi
namespace Go.Proofs.YtajehiidpecknaaGreatDoor.Wi
open Go Go.RowKit Sh.Q5
set_option maxRecDepth 100000
def bw (l:List Nat) (t:Nat):BitVec 64:=BitVec.ofNat 64 (l.getD t 0)
def stA (a e:List Nat) (t:Nat):St:=⟨bw a (t+3),bw a (t+2),bw a (t+1),bw a t,bw e (t+3),bw e (t+2),bw e (t+1),bw e t⟩
def zK (s t:St):Bool:=s.a == t.a && (s.b == t.b && (s.c == t.c && (s.d == t.d && (s.e == t.e && (s.f == t.f && (s.g == t.g && s.h == t.h))))))
theorem rm {s t:St} (h:zK s t=true):s=t:=by
 simp only [zK,Bool.and_eq_true,beq_iff_eq] at h
 obtain ⟨h1,h2,h3,h4,h5,h6,h7,h8⟩:=h
 cases s;cases t
 simp only at *
 subst h1;subst h2;subst h3;subst h4;subst h5;subst h6;subst h7;subst h8
 rfl
def FN (m:Nat→BitVec 8) (w:List Nat):Bool:=((List.range 16).all fun t=>word (fun i=>m (8*t+i)) == bw w t) && (List.range 64).all fun k=>lo1 (bw w (k+14))+bw w (k+9)+lo0 (bw w (k+1))+bw w k == bw w (k+16)
def Li (s f:St) (w a e:List Nat):Bool:=zK s (stA a e 0) && (zK (plus s (stA a e 80)) f && (List.range 80).all fun t=>zK (Sh.Q5.step (stA a e t) (aS t) (bw w t)) (stA a e (t+1)))
theorem pM {m:Nat→BitVec 8} {w:List Nat} (h:FN m w=true) : ∀ n t,t<n→t<80→cJ m t=bw w t
 | 0,_,h0,_=>absurd h0 (Nat.not_lt_zero _)
 | n+1,t,ht,h80=>by
  have ih:=pM h n
  simp only [FN,Bool.and_eq_true,List.all_eq_true,List.mem_range,beq_iff_eq] at h
  obtain ⟨h1,h2⟩:=h
  rw [cJ]
  split
  ·rename_i h16;exact h1 t h16
  ·have:=h2 (t - 16) (by omega)
   rw [show t - 16+14=t - 2 by omega,show t - 16+9=t - 7 by omega,show t - 16+1=t - 15 by omega,show t - 16+16=t by omega] at this
   rw [ih (t - 2) (by omega) (by omega),ih (t - 7) (by omega) (by omega),ih (t - 15) (by omega) (by omega),ih (t - 16) (by omega) (by omega)]
   exact this
theorem nx {m:Nat→BitVec 8} {w a e:List Nat} {s:St} (hw:FN m w=true) (h0:s=stA a e 0) (hs : ∀ t,t<80→zK (Sh.Q5.step (stA a e t) (aS t) (bw w t)) (stA a e (t+1))=true) : ∀ t,t≤80→rounds aS (cJ m) s t=stA a e t
 | 0,_=>h0
 | t+1,h=>by
  have ih:=nx hw h0 hs t (by omega)
  show Sh.Q5.step (rounds aS (cJ m) s t) (aS t) (cJ m t)=_
  rw [ih,pM hw 80 t (by omega) (by omega)]
  exact rm (hs t (by omega))
theorem iW (s f:St) (m:Nat→BitVec 8) (w a e:List Nat) (hw:FN m w=true) (hs:Li s f w a e=true):compress aS s m=f:=by
 simp only [Li,Bool.and_eq_true,List.all_eq_true,List.mem_range] at hs
 obtain ⟨h1,h2,h3⟩:=hs
 unfold compress
 rw [nx hw (rm h1) h3 80 (Nat.le_refl _)]
 exact rm h2
theorem qh (xs:List Int) (f:St) (h1:gB xs.length=1) (hb:compress aS cd (fun i=>az (hm xs) xs.length (128*0+i))=f):h5 xs=jn f:=by
 unfold h5 fT
 rw [h1]
 exact congrArg jn hb
theorem Iq (xs:List Int) (f g:St) (h1:gB xs.length=2) (hb:compress aS cd (fun i=>az (hm xs) xs.length (128*0+i))=g) (hc:compress aS g (fun i=>az (hm xs) xs.length (128*1+i))=f):h5 xs=jn f:=by
 unfold h5 fT
 rw [h1]
 show jn (compress aS (compress aS cd (fun i=>az (hm xs) xs.length (128*0+i))) (fun i=>az (hm xs) xs.length (128*1+i)))=_
 rw [hb,hc]
end Go.Proofs.YtajehiidpecknaaGreatDoor.Wi
namespace Go.Proofs.YtajehiidpecknaaGreatDoor.Ve
open Go Go.RowKit
set_option maxRecDepth 100000
structure Fs where
 bas:Nat→Nat
 pml:Nat→Nat→Nat
 neg:Nat→Nat
 add:Nat→Nat→Nat
 rde:Nat→Int
 ade:Nat→Nat→Int
 sha:List Value→Nat→Int
 hlv:Nat→Nat × Nat
def Mc (F:Fs):List Value→Option (List Prop × Value)
 | [A]=>some ([IsB A],bv (F.bas (aj A)))
 | _=>none
def Kp (F:Fs):List Value→Option (List Prop × Value)
 | [A,B]=>some ([IsB A∧IsB B],.tuple #[bv (F.pml (aj A) (aj B)),.int .i64 (F.rde (aj B))])
 | _=>none
def KN (F:Fs):List Value→Option (List Prop × Value)
 | [A]=>some ([IsB A],.tuple #[bv (F.neg (aj A)),.int .i64 (F.rde (aj A))])
 | _=>none
def Mw (F:Fs):List Value→Option (List Prop × Value)
 | [A,B]=>some ([IsB A∧IsB B],.tuple #[bv (F.add (aj A) (aj B)),.int .i64 (F.ade (aj A) (aj B))])
 | _=>none
def nA:Nat:=Nat.max np (Nat.max 0 3+1)
def sqL:List Value:=(List.range 8).map fun i => .int .u64 (Sh.Q5.u (Sh.Q5.cd.at i))
def cuL:List Value:=(List.range 80).map fun i => .int .u64 (Sh.Q5.u (Sh.Q5.aS i))
def MA:Mem:=((((((List.replicate nA none).set 2 (some ⟨bl GY,22⟩)).set 5 (some ⟨bl DN',22⟩)).set 4 (some ⟨bl 1,22⟩)).set 1 (some ⟨bl GX,22⟩)).set 0 (some ⟨sqL,86⟩)).set 3 (some ⟨cuL,109⟩)
theorem gJ:jl MA=true:=by kernel_rfl
def glA:List Nat:=[2,5,1,4,0,3]
theorem oG:mn MA glA=true:=by kernel_rfl
theorem Jh:bp MA glA=true:=by kernel_rfl
theorem ve:bp M0 glA=true:=by kernel_rfl
theorem Iw:bp M1 glA=true:=by kernel_rfl
theorem Glo.rep (n:Nat) (w:World):Glo (List.replicate n none) w:=fun b B hB=>by
 unfold bj at hB
 rw [List.getElem?_replicate] at hB
 split at hB <;> cases hB
theorem Glo.set {M:Mem} {w:World} (h:Glo M w) {g:Nat} {B:Blk} (hB:w.heap[g]? = some (.cells B.cells.toArray B.ty.id B.ty.fz)):Glo (M.set g (some B)) w:=fun b B' hB'=>by
 rw [fV] at hB'
 split at hB'
 ·rename_i e
  cases hB'
  rw [e.1];exact hB
 ·exact h b B' hB'
theorem gp {w:World} (h:Glo MA w):Wi.Gp w:=by
 have e1:bj MA 2=some ⟨bl GY,22⟩:=rfl
 have e2:bj MA 5=some ⟨bl DN',22⟩:=rfl
 have e3:bj MA 4=some ⟨bl 1,22⟩:=rfl
 have e4:bj MA 1=some ⟨bl GX,22⟩:=rfl
 have e5:bj MA 0=some ⟨sqL,86⟩:=rfl
 have e6:bj MA 3=some ⟨cuL,109⟩:=rfl
 have s5:=h _ _ e5
 have s6:=h _ _ e6
 have m0:Glo M0 w:=Ve.Glo.set (Ve.Glo.set (Ve.Glo.set (Ve.Glo.rep _ _) (h _ _ e1)) (h _ _ e2)) (h _ _ e3)
 refine ⟨m0,Ve.Glo.set m0 (h _ _ e4),⟨fun i hi => ?_,fun i hi => ?_⟩⟩
 ·rw [cell_of_row w 0 i _ _ _ s5,List.getElem?_toArray,sqL,List.getElem?_map,List.getElem?_range hi];rfl
 ·rw [cell_of_row w 3 i _ _ _ s6,List.getElem?_toArray,cuL,List.getElem?_map,List.getElem?_range hi];rfl
def rB (S:Nat→Int):List Value:=(List.range 64).map fun i => .int .u8 (S i)
def gS5 (S:List Value→Nat→Int) (args:List Value) (m:Mem):Option (List Prop × Value) :=
 match args with
 | [.slice (some ⟨b,0,none⟩) 32 32]=>if lK MA m && (bj MA b).isNone then (bj m b).map fun B=>([IsB (.agg B.cells.toArray)],.agg (rB (S B.cells)).toArray) else none
 | _=>none
def S0 (l:List Value) (i:Nat):Int:=Wi.gi (Wi.h5 (Wi.bi (bsum l))) i
theorem Dy (l:List Value):rB (S0 l)=Wi.bv (Wi.h5 (Wi.bi (bsum l))):=by
 have hl:=Wi.bo (Wi.bi (bsum l))
 apply List.ext_getElem?
 intro i
 by_cases hi:i<64
 ·rw [Wi.cZ _ (by rw [hl];exact hi),rB,List.getElem?_map,List.getElem?_range hi];rfl
 ·rw [List.getElem?_eq_none (l:=rB (S0 l)) (by simp [rB];omega),List.getElem?_eq_none (by rw [Wi.aa,hl];omega)]
theorem Il {X:Cx} (hX:X.Ok Tryz.prog) (hc:bp MA X.gl=true):(X.read 22 (gS5 S0)).Ok Tryz.prog:=by
 refine Cx.read_ok hX (fun args m ps v hg hp r w args' hr hgl ha => ?_) (fun args m q i B hi hg => ?_)
 ·unfold gS5 at hg
  split at hg
  ·rename_i b
   split at hg
   ·rename_i hall
    simp only [Bool.and_eq_true] at hall
    cases hB:bj m b with
    | none=>simp [hB] at hg
    | some B =>
     simp only [hB,Option.map_some,qG,qH] at hg
     obtain ⟨rfl,rfl⟩:=hg
     have hI:=hp _ (List.mem_singleton.2 rfl)
     have hcells:B.cells=bl (bsum B.cells):=by
      have e:Value.agg B.cells.toArray = .agg (bl (bsum B.cells.toArray.toList)).toArray:=hI
      rw [List.toList_toArray] at e
      simpa using e
     obtain ⟨c0,cs,p1,p2,p3⟩:=hr.cells b B hB
     have ha0:trL (tr r) [.slice (some ⟨b,0,none⟩) 32 32]=some [.slice (some ⟨c0,0,none⟩) 32 32]:=cM (cQ p1) rfl
     rw [ha] at ha0
     cases ha0
     have hfl:B.cells.all flat1=true:=by rw [hcells];exact lZ _
     rw [dQ (dZ r) hfl] at p2
     cases p2
     have hG:=gp (hr.glo hall.1 gJ fun g hg=>hgl g (kU hc hg))
     obtain ⟨n,hn⟩ : ∃ n,bsum B.cells=n:=⟨_,rfl⟩
     have hlen:(Wi.bi n).length=32:=(Wi.gP n).len
     have hlt:c0<w.heap.size:=(Array.getElem?_eq_some_iff.1 p3).1
     have hs:Wi.Sl w (.slice (some ⟨c0,0,none⟩) 32 32) (Wi.bi n):=⟨_,32,by rw [hlen],by rw [hlen];omega,.inr ⟨c0,0,rfl,hlt,fun i hi=>by
      rw [Nat.zero_add,cell_of_row w c0 i _ _ _ p3,List.getElem?_toArray,hcells,hn,←Wi.Hv];exact Wi.cZ _ hi⟩⟩
     have hb8 : ∀ u ∈ Wi.bv (Wi.h5 (Wi.bi n)),flat1 u=true:=fun u hu=>by obtain ⟨z,_,rfl⟩:=List.mem_map.1 hu;rfl
     refine eZ Tryz.func22 (by kernel_rfl) (show _=some (ag Tryz.f22) from (by kernel_rfl)) ((Wi.gE (Wi.bi n) _ _ rfl (by rw [hlen];omega) w hG.tb (Wi.gP n).byt (hs.sq (fun e=>by rw [e] at hlen;cases hlen))).mono ?_)
     rintro e w' ⟨rfl,hb⟩
     refine ⟨_,rfl,?_,hb⟩
     rw [Dy,hn]
     refine bV r _ ?_
     show ((Wi.bv (Wi.h5 (Wi.bi n))).toArray.toList.all flat1)=true
     rw [List.toList_toArray];exact List.all_eq_true.2 hb8
   ·simp at hg
  ·simp at hg
 ·unfold gS5 at hg ⊢
  split at hg
  ·rename_i b
   split at hg
   ·rename_i hall
    simp only [Bool.and_eq_true] at hall
    cases hB:bj m b with
    | none=>simp [hB] at hg
    | some B' =>
     rw [if_pos (by simp only [Bool.and_eq_true];exact ⟨oy hi hall.1,hall.2⟩),dK (ri hi hB)]
     exact hg
   ·simp at hg
  ·simp at hg
def EF (F:Fs):Cx:=(((((Cx.none.glo glA).read 22 (gS5 F.sha)).var M1 18 (Mc F)).var M0 55 (Kp F)).var M0 80 (KN F)).var M0 81 (Mw F)
def JU (o:List Value):List Value := .int .u8 (bits .andNot .u8 (jJ o 0) 7) :: ((o.drop 1).take 30 ++ [.int .u8 (bits .or .u8 (bits .andNot .u8 (jJ o 31) 128) 64)])
theorem Ge (F:Fs) (s:Nat):sfunG Tryz.prog (EF F) MA 60 Tryz.f17 (ag Tryz.f17) [bv s]=some ([IsB (.agg (bl s).toArray)],.tuple #[.agg (JU (rB (F.sha (bl s)))).toArray,.agg ((rB (F.sha (bl s))).drop 32).toArray]):=by kernel_rfl
theorem DU (F:Fs) (n p:Nat):sfunG Tryz.prog (EF F) MA 60 Tryz.f20 (ag Tryz.f20) [bv n,bv p]=some ([IsB (bv n)∧IsB (bv p)],bv (F.pml (aj (bv n)) (aj (bv p)))):=by kernel_rfl
def jR (n:Nat) (S:Nat→Int):List Value:=(List.range n).map fun i => .int .u8 (S i)
theorem FZ (F:Fs) (S:Nat→Int):sfunG Tryz.prog (EF F) MA 60 Tryz.f34 (ag Tryz.f34) [.agg (jR 80 S).toArray]=some ([],.tuple #[.agg ((jR 80 S).take 32).toArray,.agg (((jR 80 S).drop 32).take 16).toArray,.agg ((jR 80 S).drop 48).toArray]):=by kernel_rfl
theorem Ek (F:Fs) (S:Nat→Int):sfunG Tryz.prog (EF F) MA 60 Tryz.f26 (ag Tryz.f26) [.agg (jR 16 S).toArray]=some ([],.agg (jR 16 S ++ List.replicate 16 (Value.int .u8 0)).toArray):=by kernel_rfl
theorem CA (F:Fs) (S:Nat→Int):sfunG Tryz.prog (EF F) MA 60 Tryz.f37 (ag Tryz.f37) [.agg (jR 80 S).toArray]=some ([],.tuple #[.agg ((jR 80 S).take 32).toArray,.agg (((jR 80 S).drop 32).take 16 ++ List.replicate 16 (Value.int .u8 0)).toArray,.agg ((jR 80 S).drop 48).toArray]):=by kernel_rfl
def Dx (x:List Int):List Int:=bits .andNot .u8 (Wi.gi x 0) 7 :: ((x.drop 1).take 30 ++ [bits .or .u8 (bits .andNot .u8 (Wi.gi x 31) 128) 64])
theorem yt (x:List Int) (i:Nat) (hi:i<x.length):jJ (Wi.bv x) i=Wi.gi x i:=by unfold jJ;rw [Wi.cZ x hi]
theorem FA {x:List Int} (h:x.length=64):JU (Wi.bv x)=Wi.bv (Dx x):=by
 unfold JU Dx
 rw [yt x 0 (by omega),yt x 31 (by omega)]
 simp only [Wi.bv,List.map_cons,List.map_append,List.map_nil,List.map_drop,List.map_take]
theorem GV (op:BinOp) (a b:Int):0≤bits op .u8 a b∧bits op .u8 a b≤255:=⟨bits_lo_u8 op a b,by have:=bits_hi_u8 op a b;omega⟩
theorem AG {x:List Int} (h:x.length=64) (hb:Wi.Byt x):Wi.L32 (Dx x):=by
 refine ⟨by simp [Dx];omega,fun z hz => ?_⟩
 rcases List.mem_cons.1 hz with rfl | hz
 ·exact GV _ _ _
 ·rcases List.mem_append.1 hz with hz | hz
  ·exact hb z (List.mem_of_mem_drop (List.mem_of_mem_take hz))
  ·rw [List.mem_singleton.1 hz];exact GV _ _ _
def sk (s:List Int):List Int:=Dx (Wi.h5 s)
def pf (s:List Int):List Int:=(Wi.h5 s).drop 32
theorem rV (s:List Int):Wi.L32 (sk s):=AG (Wi.bo s) (Wi.dI s)
theorem rA (s:List Int):Wi.L32 (pf s):=⟨by rw [pf,List.length_drop,Wi.bo],fun z hz=>Wi.dI s z (List.mem_of_mem_drop hz)⟩
def NR (s:Nat):Nat × Nat:=(Wi.le (sk (Wi.bi s)),Wi.le (pf (Wi.bi s)))
def R0:Fs:=⟨u9,gf,Ap,addN,rdE,zx,S0,NR⟩
theorem oS:(EF R0).Ok Tryz.prog:=D6 (D7 (Fm (Fj (Il (Cx.glo_ok Cx.none_ok (by intro g hg;cases hg)) Jh) Iw) ve) ve) ve
theorem xr (s:Nat) (hs:s<RN) (w:World) (hw:Glo MA w):Calls Tryz.prog 17 #[bv s] w fun e w'=>e = .returned (.tuple #[.agg (Wi.bv (sk (Wi.bi s))).toArray,.agg (Wi.bv (pf (Wi.bi s))).toArray])∧Below w.heap.size w w':=by
 have run:=Ge R0 s
 have e:rB (R0.sha (bl s))=Wi.bv (Wi.h5 (Wi.bi s)):=by
  show rB (S0 (bl s))=_
  rw [Dy,dj,Nat.mod_eq_of_lt hs]
 have e2:(Wi.bv (Wi.h5 (Wi.bi s))).drop 32=Wi.bv (pf (Wi.bi s)):=by unfold pf Wi.bv;rw [List.map_drop]
 rw [e,FA (Wi.bo _),e2] at run
 refine aD oS mixed gJ oG Tryz.func17 (by kernel_rfl) run (fun p hp => ?_) (by simp [aC]) (.inl ?_) w hw
 ·rw [List.mem_singleton.1 hp];exact aI s
 ·have f1:=Wi.dE (rV (Wi.bi s))
  have f2:=Wi.dE (rA (Wi.bi s))
  unfold sk at f1
  rw [f1,f2];rfl
theorem CC {n p:List Int} (hn:Wi.L32 n) (hp:Wi.L32 p) (w:World) (hw:Glo MA w):Calls Tryz.prog 20 #[.agg (Wi.bv n).toArray,.agg (Wi.bv p).toArray] w fun e w'=>e = .returned (.agg (Wi.bv (Wi.Ml n p)).toArray)∧Below w.heap.size w w':=by
 have run:=DU R0 (Wi.le n) (Wi.le p)
 have e1:R0.pml=gf:=rfl
 rw [e1,au (Wi.iq hn),au (Wi.iq hp)] at run
 rw [Wi.dE hn,Wi.dE hp,Wi.Ml,Wi.gm]
 exact aD oS mixed gJ oG Tryz.func20 (by kernel_rfl) run (fun q hq=>by
  rw [List.mem_singleton.1 hq];exact ⟨aI _,aI _⟩) (by simp [aC]) (.inl (aC _)) w hw
end Go.Proofs.YtajehiidpecknaaGreatDoor.Ve
