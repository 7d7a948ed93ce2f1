/- SHA-512 of lists of integers: what the program and the reference answer. -/
import Derived.Test.YtajehiidpecknaaGreatDoorWirA
import Derived.Test.YtajehiidpecknaaGreatDoorQ5S
import Derived.Test.YtajehiidpecknaaGreatDoorQ5RE
import Derived.Test.YtajehiidpecknaaGreatDoorPoiTC
import Derived.Test.YtajehiidpecknaaGreatDoorScpB
import Derived.Test.YtajehiidpecknaaGreatDoorScrA
import Derived.Test.YtajehiidpecknaaGreatDoorVkA
import Derived.Test.YtajehiidpecknaaGreatDoorMemG
set_option linter.all false
namespace Go.Proofs.YtajehiidpecknaaGreatDoor.Wi
open Go Go.RowKit
set_option maxRecDepth 100000
def hm (xs:List Int):Nat→BitVec 8:=fun i=>BitVec.ofInt 8 (gi xs i)
def iG (S:Sh.Q5.St):List Int:=(List.range 64).map fun i=>Sh.ub (Sh.Q5.cW S i)
def h5 (xs:List Int):List Int:=iG (Sh.Q5.fv Sh.Q5.aR Sh.Q5.bQ (hm xs) xs.length)
theorem pJ (S:Sh.Q5.St):(iG S).length=64:=by simp [iG]
theorem bG (xs:List Int):(h5 xs).length=64:=pJ _
theorem xm (S:Sh.Q5.St):Sh.Q5.cV S=(bv (iG S)).toArray:=by
 unfold Sh.Q5.cV bv iG
 rw [List.map_map];rfl
theorem yx (S:Sh.Q5.St):Byt (iG S):=by
 intro z hz
 obtain ⟨i,_,rfl⟩:=List.mem_map.1 hz
 have:=(Sh.Q5.cW S i).isLt
 unfold Sh.ub;omega
theorem fk (xs:List Int):Byt (h5 xs):=yx _
structure Sq (w:World) (v:Value) (xs:List Int):Prop where
 sl:Sl w v xs
 some' : ∀ A l c,v = .slice (some A) l c→c≠0→A.spot=none∧A.block<w.heap.size
 none' : ∀ l c,v = .slice none l c→c=0
theorem Sq.below {w w':World} {v:Value} {xs:List Int} (h:Sq w v xs) (hb:Below w.heap.size w w'):Sq w' v xs :=
 ⟨h.sl.below hb (Nat.le_refl _),fun A l c e h0=>⟨(h.some' A l c e h0).1,Nat.lt_of_lt_of_le (h.some' A l c e h0).2 hb.size⟩,h.none'⟩
theorem Ow.sq {B0:Nat} {w:World} {v:Value} {xs:List Int} (h:Ow B0 w v xs):Sq w v xs:=by
 refine ⟨h.sl,fun A l c e _ => ?_,fun l c e => ?_⟩
 ·rcases h.2 with ⟨rfl,h0⟩ | ⟨g,cap,cur,hv,hb,hg,hc,_,hs,ht⟩
  ·cases e
  ·rw [hv] at e;cases e;exact ⟨rfl,(Array.getElem?_eq_some_iff.1 hg).1⟩
 ·rcases h.2 with ⟨rfl,h0⟩ | ⟨g,cap,cur,hv,hb,hg,hc,_,hs,ht⟩
  ·cases e;rfl
  ·rw [hv] at e;cases e
theorem Sl.sq {w:World} {v:Value} {xs:List Int} (h:Sl w v xs) (h0:xs≠[]):Sq w v xs:=by
 obtain ⟨ad,cap,rfl,hc,h⟩:=h
 rcases h with ⟨e,_⟩ | ⟨b,o,rfl,hlt,hm⟩
 ·exact absurd e h0
 ·exact ⟨⟨_,cap,rfl,hc,.inr ⟨b,o,rfl,hlt,hm⟩⟩,fun A l c e _=>by cases e;exact ⟨rfl,hlt⟩,fun l c e=>by cases e⟩
theorem qa (z:Int) (h0:0≤z) (h1:z≤255):Value.int .u8 z=Sh.B (BitVec.ofInt 8 z):=by
 show Value.int .u8 z=Value.int .u8 (Sh.ub (BitVec.ofInt 8 z))
 congr 1
 rw [Sh.ub,BitVec.toNat_ofInt]
 omega
theorem Sq.src {w:World} {v:Value} {xs:List Int} (h:Sq w v xs) (hb:Byt xs) : ∃ ad cap,v = .slice ad xs.length cap∧xs.length≤cap∧Sh.Src w ad xs.length cap (hm xs):=by
 obtain ⟨ad,cap,rfl,hc,hcell⟩:=h.sl
 refine ⟨ad,cap,rfl,hc,?_⟩
 cases ad with
 | none =>
  obtain rfl:=h.none' _ _ rfl
  exact .inl ⟨by omega,rfl⟩
 | some A =>
  by_cases hc0:cap=0
  ·subst hc0;exact .inl ⟨by omega,rfl⟩
  obtain ⟨h1,h2⟩:=h.some' A _ _ rfl hc0
  obtain ⟨b,o,sp⟩:=A
  simp only at h1 h2;subst h1
  refine .inr ⟨b,o,rfl,h2,fun i hi => ?_⟩
  rcases hcell with ⟨rfl,_⟩ | ⟨b',o',he,_,hm'⟩
  ·simp at hi
  ·cases he
   rw [hm' i hi]
   have:=hb.get hi
   exact congrArg some (qa _ this.1 this.2)
theorem Sq.bytes {w:World} {v:Value} {xs:List Int} (h:Sq w v xs) (hb:Byt xs):Sh.Bytes w v xs.length (hm xs) w.heap.size:=by
 obtain ⟨ad,cap,rfl,hc,h1⟩:=h.src hb
 rcases h1 with ⟨h0,rfl⟩ | ⟨b,o,rfl,hlt,hm'⟩
 ·rw [h0];exact .inl ⟨⟨ad,rfl⟩,rfl⟩
 ·exact .inr ⟨b,o,cap,rfl,hc,hlt,Nat.ne_of_lt hlt,hm'⟩
abbrev Tb (w:World):Prop:=Sh.Q5.Tabs w
theorem fY (xs h:List Int) (v:Value) (hh:h5 xs=h) (hl:xs.length≤140737488354000) (w:World) (hT:Tb w) (hb:Byt xs) (hv:Sq w v xs) :
  Calls Tryz.prog 22 #[v] w fun e w'=>e = .returned (.agg (bv h).toArray)∧Below w.heap.size w w':=by
 subst hh
 refine (Sh.Q5.xM _ (hm xs) xs.length v rfl (by omega) w hT (hv.bytes hb)).mono fun e w' ⟨h1,h2⟩=>⟨?_,h2⟩
 rw [h1,xm];rfl
theorem uk (xs h:List Int) (v:Value) (hh:h5 xs=h) (hl:xs.length≤140737488354000) (w:World) (hb:Byt xs) (hv:Sq w v xs) :
  Calls Tryz.prog 40 #[v] w fun e w'=>e = .returned (.agg (bv h).toArray)∧Below w.heap.size w w':=by
 subst hh
 obtain ⟨ad,cap,rfl,hc,hsr⟩:=hv.src hb
 refine (Sh.Q5.yK (hm xs) ad xs.length cap (by omega) w hsr).mono fun e w' ⟨h1,h2⟩=>⟨?_,h2⟩
 rw [h1,xm];rfl
end Go.Proofs.YtajehiidpecknaaGreatDoor.Wi
namespace Go.Proofs.YtajehiidpecknaaGreatDoor.Wi
open Go Go.RowKit
set_option maxRecDepth 100000
def le:List Int→Nat
 | []=>0
 | z :: l=>z.toNat+256*le l
def bi (n:Nat):List Int:=(List.range 32).map (Go.Proofs.YtajehiidpecknaaGreatDoor.by8 n)
theorem H7 (n i:Nat):0≤Go.Proofs.YtajehiidpecknaaGreatDoor.by8 n i∧Go.Proofs.YtajehiidpecknaaGreatDoor.by8 n i≤255:=by unfold Go.Proofs.YtajehiidpecknaaGreatDoor.by8;omega
theorem fh (n:Nat):L32 (bi n):=⟨by simp [bi],fun z hz=>by
 obtain ⟨i,_,rfl⟩:=List.mem_map.1 hz
 exact H7 n i⟩
theorem Cc (n:Nat):bv (bi n)=Go.Proofs.YtajehiidpecknaaGreatDoor.bl n:=by
 unfold bv bi Go.Proofs.YtajehiidpecknaaGreatDoor.bl
 rw [List.map_map];rfl
theorem jB (n:Nat):Value.agg (bv (bi n)).toArray=Go.Proofs.YtajehiidpecknaaGreatDoor.bv n:=by rw [Cc];rfl
theorem zT : ∀ x:List Int,Byt x→(List.range x.length).map (Go.Proofs.YtajehiidpecknaaGreatDoor.by8 (le x))=x
 | [],_=>rfl
 | z :: l,h=>by
  have ih:=zT l fun v hv=>h v (List.mem_cons_of_mem _ hv)
  obtain ⟨h0,h1⟩:=h z List.mem_cons_self
  rw [le]
  generalize le l=m at *
  rw [List.length_cons,List.range_succ_eq_map,List.map_cons,List.map_map]
  congr 1
  ·unfold Go.Proofs.YtajehiidpecknaaGreatDoor.by8
   rw [Nat.pow_zero,Nat.div_one];omega
  ·refine Eq.trans (List.map_congr_left fun i _ => ?_) ih
   show Go.Proofs.YtajehiidpecknaaGreatDoor.by8 (z.toNat+256*m) (i+1)=Go.Proofs.YtajehiidpecknaaGreatDoor.by8 m i
   unfold Go.Proofs.YtajehiidpecknaaGreatDoor.by8
   rw [Nat.pow_succ,Nat.mul_comm (256 ^ i) 256,←Nat.div_div_eq_div_mul,show (z.toNat+256*m)/256=m by omega]
theorem FF {x:List Int} (h:L32 x):bi (le x)=x:=by
 have:=zT x h.byt
 rw [h.len] at this
 exact this
theorem zo : ∀ x:List Int,Byt x→le x<256 ^ x.length
 | [],_=>by decide
 | z :: l,h=>by
  have ih:=zo l fun v hv=>h v (List.mem_cons_of_mem _ hv)
  obtain ⟨h0,h1⟩:=h z List.mem_cons_self
  rw [le,List.length_cons,Nat.pow_succ]
  omega
theorem km {x:List Int} (h:L32 x):le x<RN:=by
 have:=zo x h.byt
 rw [h.len,←Go.Proofs.YtajehiidpecknaaGreatDoor.iT] at this
 exact this
theorem ej {x:List Int} (h:L32 x):Value.agg (bv x).toArray=Go.Proofs.YtajehiidpecknaaGreatDoor.bv (le x):=by rw [←jB,FF h]
theorem wb : ∀ x:List Int,le x=Go.Proofs.YtajehiidpecknaaGreatDoor.bsum (bv x)
 | []=>rfl
 | z :: l=>by
  show z.toNat+256*le l=z.toNat+256*Go.Proofs.YtajehiidpecknaaGreatDoor.bsum (bv l)
  rw [wb l]
theorem Jy {n:Nat} (h:n<RN):le (bi n)=n:=by
 rw [wb,Cc,Go.Proofs.YtajehiidpecknaaGreatDoor.gw,Nat.mod_eq_of_lt h]
theorem Ky {x:List Int} (hl:x.length=64) (hb:Byt x):Value.agg (bv x).toArray=Sc.Be (le x):=by
 have e:=zT x hb
 rw [hl] at e
 unfold Sc.Be Sc.blm
 congr 2
 conv=>lhs;rw [←e]
 unfold bv
 rw [List.map_map];rfl
theorem K7 {x:List Int} (hl:x.length=64) (hb:Byt x):le x<Sc.RN*Sc.RN:=by
 have:=zo x hb
 rw [hl] at this
 exact Nat.lt_of_lt_of_le this (by decide)
structure Gp (w:World):Prop where
 m0:Glo Go.Proofs.YtajehiidpecknaaGreatDoor.M0 w
 m1:Glo Go.Proofs.YtajehiidpecknaaGreatDoor.M1 w
 tb:Tb w
def Bs (n:List Int):List Int:=bi (rX (le n))
def Ml (n p:List Int):List Int:=bi (qm (le n) (le p))
def Ng (p:List Int):List Int:=bi (pM (le p))
def Ad (p q:List Int):List Int:=bi (addN (le p) (le q))
def Cl (p:List Int):List Int:=bi (lL (le p))
def rk (p:List Int):Int:=rdE (le p)
def sm (p:List Int):Bool:=EA (le p)
def cn (n:List Int):Bool:=decide (le n<Sc.LN)
def rd (h:List Int):List Int:=bi (le h % Sc.LN)
theorem y8 {p:List Int} (hp:L32 p) (w:World) (hw:Gp w):Calls Tryz.prog 42 #[.agg (bv p).toArray] w fun e w'=>e = .returned (.tuple #[.bool (sm p),.int .i64 (rk p)])∧Below w.heap.size w w':=by
 rw [ej hp];exact Cz _ (km hp) w hw.m0
theorem p8 {n:List Int} (hn:L32 n) (w:World) (hw:Gp w):Calls Tryz.prog 18 #[.agg (bv n).toArray] w fun e w'=>e = .returned (.agg (bv (Bs n)).toArray)∧Below w.heap.size w w':=by
 rw [ej hn,Bs,jB];exact vO _ (km hn) w hw.m1
theorem Ge {n:List Int} (hn:L32 n) (w:World):Calls Tryz.prog 36 #[.agg (bv n).toArray] w fun e w'=>e = .returned (.bool (cn n))∧Below w.heap.size w w':=by
 rw [ej hn];exact Sc.fp _ (km hn) w
theorem Iu {h:List Int} (hl:h.length=64) (hb:Byt h) (w:World):Calls Tryz.prog 21 #[.agg (bv h).toArray] w fun e w'=>e = .returned (.agg (bv (rd h)).toArray)∧Below w.heap.size w w':=by
 rw [Ky hl hb,rd,jB];exact Sc.tY _ (K7 hl hb) w
theorem Ct {n:List Int} (hn:L32 n) (w:World):Calls Tryz.prog 28 #[.agg (bv n).toArray] w fun e w'=>e = .returned (.agg (bv (Bs n)).toArray)∧Below w.heap.size w w':=by
 rw [ej hn,Bs,jB];exact Db _ (km hn) w
def df (s k a:List Int):List Int:=Ad (Bs s) (Ng (Ml k a))
theorem L32.bs (n:List Int):L32 (Bs n):=fh _
theorem L32.ml (n p:List Int):L32 (Ml n p):=fh _
theorem L32.rd (h:List Int):L32 (rd h):=fh _
end Go.Proofs.YtajehiidpecknaaGreatDoor.Wi
namespace Go.Proofs.YtajehiidpecknaaGreatDoor.Wi
open Go Go.RowKit
set_option maxRecDepth 100000
def md (a b c:List Int):List Int:=bi ((le a*le b+le c) % Sc.LN)
theorem L32.cl (p:List Int):L32 (Cl p):=fh _
theorem L32.md (a b c:List Int):L32 (md a b c):=fh _
theorem rZ {p:List Int} (hp:L32 p) (w:World) (hw:Gp w):Calls Tryz.prog 35 #[.agg (bv p).toArray] w fun e w'=>e = .returned (.tuple #[.agg (bv (Cl p)).toArray,.int .i64 (rk p)])∧Below w.heap.size w w':=by
 rw [ej hp,Cl,jB];exact vY _ (km hp) w hw.m0
theorem Io (w:World) (hw:Gp w):Calls Tryz.prog 54 #[] w fun e w'=>e = .returned (.agg (bv (bi 1)).toArray)∧Below w.heap.size w w':=by
 rw [jB];exact vR w hw.m0
theorem Hs {a b c:List Int} (ha:L32 a) (hb:L32 b) (hc:L32 c) (w:World):Calls Tryz.prog 25 #[.agg (bv a).toArray,.agg (bv b).toArray,.agg (bv c).toArray] w fun e w'=>e = .returned (.agg (bv (md a b c)).toArray)∧Below w.heap.size w w':=by
 rw [ej ha,ej hb,ej hc,md,jB];exact Sc.uQ _ _ _ (km ha) (km hb) (km hc) w
def d2 (s h k g:List Int):List Int:=Ad (Ml s h) (Ng (Ml k g))
end Go.Proofs.YtajehiidpecknaaGreatDoor.Wi
namespace Go.Proofs.YtajehiidpecknaaGreatDoor.Wi
open Go Go.RowKit Sh.Q5
set_option maxRecDepth 100000
def bw (l:List Nat) (t:Nat):BitVec 64:=BitVec.ofNat 64 (l.getD t 0)
def stA (a e:List Nat) (t:Nat):St:=⟨bw a (t+3),bw a (t+2),bw a (t+1),bw a t,bw e (t+3),bw e (t+2),bw e (t+1),bw e t⟩
def xK (s t:St):Bool:=s.a == t.a && (s.b == t.b && (s.c == t.c && (s.d == t.d && (s.e == t.e && (s.f == t.f && (s.g == t.g && s.h == t.h))))))
theorem pD {s t:St} (h:xK s t=true):s=t:=by
 simp only [xK,Bool.and_eq_true,beq_iff_eq] at h
 obtain ⟨h1,h2,h3,h4,h5,h6,h7,h8⟩:=h
 cases s;cases t
 simp only at *
 subst h1;subst h2;subst h3;subst h4;subst h5;subst h6;subst h7;subst h8
 rfl
def Dn (m:Nat→BitVec 8) (w:List Nat):Bool:=((List.range 16).all fun t=>word (fun i=>m (8*t+i)) == bw w t) && (List.range 64).all fun k=>lo1 (bw w (k+14))+bw w (k+9)+lo0 (bw w (k+1))+bw w k == bw w (k+16)
def Kx (s f:St) (w a e:List Nat):Bool:=xK s (stA a e 0) && (xK (plus s (stA a e 80)) f && (List.range 80).all fun t=>xK (Sh.Q5.step (stA a e t) (aR t) (bw w t)) (stA a e (t+1)))
theorem nw {m:Nat→BitVec 8} {w:List Nat} (h:Dn m w=true) : ∀ n t,t<n→t<80→ct m t=bw w t
 | 0,_,h0,_=>absurd h0 (Nat.not_lt_zero _)
 | n+1,t,ht,h80=>by
  have ih:=nw h n
  simp only [Dn,Bool.and_eq_true,List.all_eq_true,List.mem_range,beq_iff_eq] at h
  obtain ⟨h1,h2⟩:=h
  rw [ct]
  split
  ·rename_i h16;exact h1 t h16
  ·have:=h2 (t - 16) (by omega)
   rw [show t - 16+14=t - 2 by omega,show t - 16+9=t - 7 by omega,show t - 16+1=t - 15 by omega,show t - 16+16=t by omega] at this
   rw [ih (t - 2) (by omega) (by omega),ih (t - 7) (by omega) (by omega),ih (t - 15) (by omega) (by omega),ih (t - 16) (by omega) (by omega)]
   exact this
theorem lM {m:Nat→BitVec 8} {w a e:List Nat} {s:St} (hw:Dn m w=true) (h0:s=stA a e 0) (hs : ∀ t,t<80→xK (Sh.Q5.step (stA a e t) (aR t) (bw w t)) (stA a e (t+1))=true) : ∀ t,t≤80→rounds aR (ct m) s t=stA a e t
 | 0,_=>h0
 | t+1,h=>by
  have ih:=lM hw h0 hs t (by omega)
  show Sh.Q5.step (rounds aR (ct m) s t) (aR t) (ct m t)=_
  rw [ih,nw hw 80 t (by omega) (by omega)]
  exact pD (hs t (by omega))
theorem iq (s f:St) (m:Nat→BitVec 8) (w a e:List Nat) (hw:Dn m w=true) (hs:Kx s f w a e=true):compress aR s m=f:=by
 simp only [Kx,Bool.and_eq_true,List.all_eq_true,List.mem_range] at hs
 obtain ⟨h1,h2,h3⟩:=hs
 unfold compress
 rw [lM hw (pD h1) h3 80 (Nat.le_refl _)]
 exact pD h2
theorem pE (xs:List Int) (f:St) (h1:ft xs.length=1) (hb:compress aR bQ (fun i=>aw (hm xs) xs.length (128*0+i))=f):h5 xs=iG f:=by
 unfold h5 fv
 rw [h1]
 exact congrArg iG hb
theorem Gm (xs:List Int) (f g:St) (h1:ft xs.length=2) (hb:compress aR bQ (fun i=>aw (hm xs) xs.length (128*0+i))=g) (hc:compress aR g (fun i=>aw (hm xs) xs.length (128*1+i))=f):h5 xs=iG f:=by
 unfold h5 fv
 rw [h1]
 show iG (compress aR (compress aR bQ (fun i=>aw (hm xs) xs.length (128*0+i))) (fun i=>aw (hm xs) xs.length (128*1+i)))=_
 rw [hb,hc]
end Go.Proofs.YtajehiidpecknaaGreatDoor.Wi
namespace Go.Proofs.YtajehiidpecknaaGreatDoor.Ve
open Go Go.RowKit
set_option maxRecDepth 100000
structure Fs where
 bas:Nat→Nat
 pml:Nat→Nat→Nat
 neg:Nat→Nat
 add:Nat→Nat→Nat
 rde:Nat→Int
 ade:Nat→Nat→Int
 sha:List Value→Nat→Int
 hlv:Nat→Nat × Nat
def I7 (F:Fs):List Value→Option (List Prop × Value)
 | [A]=>some ([IsB A],bv (F.bas (aj A)))
 | _=>none
def Jv (F:Fs):List Value→Option (List Prop × Value)
 | [A,B]=>some ([IsB A∧IsB B],.tuple #[bv (F.pml (aj A) (aj B)),.int .i64 (F.rde (aj B))])
 | _=>none
def Kj (F:Fs):List Value→Option (List Prop × Value)
 | [A]=>some ([IsB A],.tuple #[bv (F.neg (aj A)),.int .i64 (F.rde (aj A))])
 | _=>none
def JF (F:Fs):List Value→Option (List Prop × Value)
 | [A,B]=>some ([IsB A∧IsB B],.tuple #[bv (F.add (aj A) (aj B)),.int .i64 (F.ade (aj A) (aj B))])
 | _=>none
def nA:Nat:=Nat.max np (Nat.max 0 3+1)
def sqL:List Value:=(List.range 8).map fun i => .int .u64 (Sh.Q5.u (Sh.Q5.bQ.at i))
def cuL:List Value:=(List.range 80).map fun i => .int .u64 (Sh.Q5.u (Sh.Q5.aR i))
def MA:Mem:=((((((List.replicate nA none).set 2 (some ⟨bl GY,22⟩)).set 5 (some ⟨bl DN',22⟩)).set 4 (some ⟨bl 1,22⟩)).set 1 (some ⟨bl GX,22⟩)).set 0 (some ⟨sqL,86⟩)).set 3 (some ⟨cuL,109⟩)
theorem gv:iI MA=true:=by kernel_rfl
def glA:List Nat:=[2,5,1,4,0,3]
theorem pc:ln MA glA=true:=by kernel_rfl
theorem G8:aZ MA glA=true:=by kernel_rfl
theorem uo:aZ M0 glA=true:=by kernel_rfl
theorem Hv:aZ M1 glA=true:=by kernel_rfl
theorem Glo.rep (n:Nat) (w:World):Glo (List.replicate n none) w:=fun b B hB=>by
 unfold bj at hB
 rw [List.getElem?_replicate] at hB
 split at hB <;> cases hB
theorem Glo.set {M:Mem} {w:World} (h:Glo M w) {g:Nat} {B:Blk} (hB:w.heap[g]? = some (.cells B.cells.toArray B.ty.id B.ty.fz)):Glo (M.set g (some B)) w:=fun b B' hB'=>by
 rw [fG] at hB'
 split at hB'
 ·rename_i e
  cases hB'
  rw [e.1];exact hB
 ·exact h b B' hB'
theorem gp {w:World} (h:Glo MA w):Wi.Gp w:=by
 have e1:bj MA 2=some ⟨bl GY,22⟩:=rfl
 have e2:bj MA 5=some ⟨bl DN',22⟩:=rfl
 have e3:bj MA 4=some ⟨bl 1,22⟩:=rfl
 have e4:bj MA 1=some ⟨bl GX,22⟩:=rfl
 have e5:bj MA 0=some ⟨sqL,86⟩:=rfl
 have e6:bj MA 3=some ⟨cuL,109⟩:=rfl
 have s5:=h _ _ e5
 have s6:=h _ _ e6
 have m0:Glo M0 w:=Ve.Glo.set (Ve.Glo.set (Ve.Glo.set (Ve.Glo.rep _ _) (h _ _ e1)) (h _ _ e2)) (h _ _ e3)
 refine ⟨m0,Ve.Glo.set m0 (h _ _ e4),⟨fun i hi => ?_,fun i hi => ?_⟩⟩
 ·rw [cell_of_row w 0 i _ _ _ s5,List.getElem?_toArray,sqL,List.getElem?_map,List.getElem?_range hi];rfl
 ·rw [cell_of_row w 3 i _ _ _ s6,List.getElem?_toArray,cuL,List.getElem?_map,List.getElem?_range hi];rfl
def qY (S:Nat→Int):List Value:=(List.range 64).map fun i => .int .u8 (S i)
def gS5 (S:List Value→Nat→Int) (args:List Value) (m:Mem):Option (List Prop × Value) :=
 match args with
 | [.slice (some ⟨b,0,none⟩) 32 32]=>if kM MA m && (bj MA b).isNone then (bj m b).map fun B=>([IsB (.agg B.cells.toArray)],.agg (qY (S B.cells)).toArray) else none
 | _=>none
def S0 (l:List Value) (i:Nat):Int:=Wi.gi (Wi.h5 (Wi.bi (bsum l))) i
theorem BQ (l:List Value):qY (S0 l)=Wi.bv (Wi.h5 (Wi.bi (bsum l))):=by
 have hl:=Wi.bG (Wi.bi (bsum l))
 apply List.ext_getElem?
 intro i
 by_cases hi:i<64
 ·rw [Wi.cS _ (by rw [hl];exact hi),qY,List.getElem?_map,List.getElem?_range hi];rfl
 ·rw [List.getElem?_eq_none (l:=qY (S0 l)) (by simp [qY];omega),List.getElem?_eq_none (by rw [Wi.ae,hl];omega)]
theorem Iw {X:Cx} (hX:X.Ok Tryz.prog) (hc:aZ MA X.gl=true):(X.read 22 (gS5 S0)).Ok Tryz.prog:=by
 refine Cx.read_ok hX (fun args m ps v hg hp r w args' hr hgl ha => ?_) (fun args m q i B hi hg => ?_)
 ·unfold gS5 at hg
  split at hg
  ·rename_i b
   split at hg
   ·rename_i hall
    simp only [Bool.and_eq_true] at hall
    cases hB:bj m b with
    | none=>simp [hB] at hg
    | some B =>
     simp only [hB,Option.map_some,qG,qH] at hg
     obtain ⟨rfl,rfl⟩:=hg
     have hI:=hp _ (List.mem_singleton.2 rfl)
     have hcells:B.cells=bl (bsum B.cells):=by
      have e:Value.agg B.cells.toArray = .agg (bl (bsum B.cells.toArray.toList)).toArray:=hI
      rw [List.toList_toArray] at e
      simpa using e
     obtain ⟨c0,cs,p1,p2,p3⟩:=hr.cells b B hB
     have ha0:trL (tr r) [.slice (some ⟨b,0,none⟩) 32 32]=some [.slice (some ⟨c0,0,none⟩) 32 32]:=cT (dd p1) rfl
     rw [ha] at ha0
     cases ha0
     have hfl:B.cells.all flat1=true:=by rw [hcells];exact lh _
     rw [eZ (fN r) hfl] at p2
     cases p2
     have hG:=gp (hr.glo hall.1 gv fun g hg=>hgl g (kz hc hg))
     obtain ⟨n,hn⟩ : ∃ n,bsum B.cells=n:=⟨_,rfl⟩
     have hlen:(Wi.bi n).length=32:=(Wi.fh n).len
     have hlt:c0<w.heap.size:=(Array.getElem?_eq_some_iff.1 p3).1
     have hs:Wi.Sl w (.slice (some ⟨c0,0,none⟩) 32 32) (Wi.bi n):=⟨_,32,by rw [hlen],by rw [hlen];omega,.inr ⟨c0,0,rfl,hlt,fun i hi=>by
      rw [Nat.zero_add,cell_of_row w c0 i _ _ _ p3,List.getElem?_toArray,hcells,hn,←Wi.Cc];exact Wi.cS _ hi⟩⟩
     have hb8 : ∀ u ∈ Wi.bv (Wi.h5 (Wi.bi n)),flat1 u=true:=fun u hu=>by obtain ⟨z,_,rfl⟩:=List.mem_map.1 hu;rfl
     refine jf Tryz.func22 (by kernel_rfl) (show _=some (ai Tryz.f22) from (by kernel_rfl)) ((Wi.fY (Wi.bi n) _ _ rfl (by rw [hlen];omega) w hG.tb (Wi.fh n).byt (hs.sq (fun e=>by rw [e] at hlen;cases hlen))).mono ?_)
     rintro e w' ⟨rfl,hb⟩
     refine ⟨_,rfl,?_,hb⟩
     rw [BQ,hn]
     refine cg r _ ?_
     show ((Wi.bv (Wi.h5 (Wi.bi n))).toArray.toList.all flat1)=true
     rw [List.toList_toArray];exact List.all_eq_true.2 hb8
   ·simp at hg
  ·simp at hg
 ·unfold gS5 at hg ⊢
  split at hg
  ·rename_i b
   split at hg
   ·rename_i hall
    simp only [Bool.and_eq_true] at hall
    cases hB:bj m b with
    | none=>simp [hB] at hg
    | some B' =>
     rw [if_pos (by simp only [Bool.and_eq_true];exact ⟨nP hi hall.1,hall.2⟩),dV (wk hi hB)]
     exact hg
   ·simp at hg
  ·simp at hg
def EF (F:Fs):Cx:=(((((Cx.none.glo glA).read 22 (gS5 F.sha)).var M1 18 (I7 F)).var M0 55 (Jv F)).var M0 80 (Kj F)).var M0 81 (JF F)
def Hf (o:List Value):List Value := .int .u8 (bits .andNot .u8 (mb o 0) 7) :: ((o.drop 1).take 30 ++ [.int .u8 (bits .or .u8 (bits .andNot .u8 (mb o 31) 128) 64)])
theorem El (F:Fs) (s:Nat):sfunG Tryz.prog (EF F) MA 60 Tryz.f17 (ai Tryz.f17) [bv s]=some ([IsB (.agg (bl s).toArray)],.tuple #[.agg (Hf (qY (F.sha (bl s)))).toArray,.agg ((qY (F.sha (bl s))).drop 32).toArray]):=by kernel_rfl
theorem Dz (F:Fs) (n p:Nat):sfunG Tryz.prog (EF F) MA 60 Tryz.f20 (ai Tryz.f20) [bv n,bv p]=some ([IsB (bv n)∧IsB (bv p)],bv (F.pml (aj (bv n)) (aj (bv p)))):=by kernel_rfl
theorem CR (F:Fs) (p q:Nat):sfunG Tryz.prog (EF F) MA 60 Tryz.f43 (ai Tryz.f43) [bv p,bv q]=some ([IsB (bv q),IsB (bv p)∧IsB (bv (F.neg (aj (bv q))))],bv (F.add (aj (bv p)) (aj (bv (F.neg (aj (bv q))))))):=by kernel_rfl
def nn (n:Nat) (S:Nat→Int):List Value:=(List.range n).map fun i => .int .u8 (S i)
theorem CT (F:Fs) (S:Nat→Int):sfunG Tryz.prog (EF F) MA 60 Tryz.f34 (ai Tryz.f34) [.agg (nn 80 S).toArray]=some ([],.tuple #[.agg ((nn 80 S).take 32).toArray,.agg (((nn 80 S).drop 32).take 16).toArray,.agg ((nn 80 S).drop 48).toArray]):=by kernel_rfl
theorem DA (F:Fs) (S:Nat→Int):sfunG Tryz.prog (EF F) MA 60 Tryz.f26 (ai Tryz.f26) [.agg (nn 16 S).toArray]=some ([],.agg (nn 16 S ++ List.replicate 16 (Value.int .u8 0)).toArray):=by kernel_rfl
def zM (x:List Int):List Int:=bits .andNot .u8 (Wi.gi x 0) 7 :: ((x.drop 1).take 30 ++ [bits .or .u8 (bits .andNot .u8 (Wi.gi x 31) 128) 64])
theorem xr (x:List Int) (i:Nat) (hi:i<x.length):mb (Wi.bv x) i=Wi.gi x i:=by unfold mb;rw [Wi.cS x hi]
theorem E6 {x:List Int} (h:x.length=64):Hf (Wi.bv x)=Wi.bv (zM x):=by
 unfold Hf zM
 rw [xr x 0 (by omega),xr x 31 (by omega)]
 simp only [Wi.bv,List.map_cons,List.map_append,List.map_nil,List.map_drop,List.map_take]
theorem FD (op:BinOp) (a b:Int):0≤bits op .u8 a b∧bits op .u8 a b≤255:=⟨bits_lo_u8 op a b,by have:=bits_hi_u8 op a b;omega⟩
theorem zI {x:List Int} (h:x.length=64) (hb:Wi.Byt x):Wi.L32 (zM x):=by
 refine ⟨by simp [zM];omega,fun z hz => ?_⟩
 rcases List.mem_cons.1 hz with rfl | hz
 ·exact FD _ _ _
 ·rcases List.mem_append.1 hz with hz | hz
  ·exact hb z (List.mem_of_mem_drop (List.mem_of_mem_take hz))
  ·rw [List.mem_singleton.1 hz];exact FD _ _ _
def sk (s:List Int):List Int:=zM (Wi.h5 s)
def pf (s:List Int):List Int:=(Wi.h5 s).drop 32
theorem p6 (s:List Int):Wi.L32 (sk s):=zI (Wi.bG s) (Wi.fk s)
theorem vg (s:List Int):Wi.L32 (pf s):=⟨by rw [pf,List.length_drop,Wi.bG],fun z hz=>Wi.fk s z (List.mem_of_mem_drop hz)⟩
def KW (s:Nat):Nat × Nat:=(Wi.le (sk (Wi.bi s)),Wi.le (pf (Wi.bi s)))
def R0:Fs:=⟨rX,qm,pM,addN,rdE,xG,S0,KW⟩
theorem nC:(EF R0).Ok Tryz.prog:=De (Ee (EV (Ep (Iw (Cx.glo_ok Cx.none_ok (by intro g hg;cases hg)) G8) Hv) uo) uo) uo
theorem tZ (s:Nat) (hs:s<RN) (w:World) (hw:Glo MA w):Calls Tryz.prog 17 #[bv s] w fun e w'=>e = .returned (.tuple #[.agg (Wi.bv (sk (Wi.bi s))).toArray,.agg (Wi.bv (pf (Wi.bi s))).toArray])∧Below w.heap.size w w':=by
 have run:=El R0 s
 have e:qY (R0.sha (bl s))=Wi.bv (Wi.h5 (Wi.bi s)):=by
  show qY (S0 (bl s))=_
  rw [BQ,gw,Nat.mod_eq_of_lt hs]
 have e2:(Wi.bv (Wi.h5 (Wi.bi s))).drop 32=Wi.bv (pf (Wi.bi s)):=by unfold pf Wi.bv;rw [List.map_drop]
 rw [e,E6 (Wi.bG _),e2] at run
 refine az nC mixed gv pc Tryz.func17 (by kernel_rfl) run (fun p hp => ?_) (by simp [aE]) (.inl ?_) w hw
 ·rw [List.mem_singleton.1 hp];exact aG s
 ·have f1:=Wi.ej (p6 (Wi.bi s))
  have f2:=Wi.ej (vg (Wi.bi s))
  unfold sk at f1
  rw [f1,f2];rfl
theorem m7 {n p:List Int} (hn:Wi.L32 n) (hp:Wi.L32 p) (w:World) (hw:Glo MA w):Calls Tryz.prog 20 #[.agg (Wi.bv n).toArray,.agg (Wi.bv p).toArray] w fun e w'=>e = .returned (.agg (Wi.bv (Wi.Ml n p)).toArray)∧Below w.heap.size w w':=by
 have run:=Dz R0 (Wi.le n) (Wi.le p)
 have e1:R0.pml=qm:=rfl
 rw [e1,ar (Wi.km hn),ar (Wi.km hp)] at run
 rw [Wi.ej hn,Wi.ej hp,Wi.Ml,Wi.jB]
 exact az nC mixed gv pc Tryz.func20 (by kernel_rfl) run (fun q hq=>by
  rw [List.mem_singleton.1 hq];exact ⟨aG _,aG _⟩) (by simp [aE]) (.inl (aE _)) w hw
theorem BC {p q:List Int} (hp:Wi.L32 p) (hq:Wi.L32 q) (w:World) (hw:Glo MA w):Calls Tryz.prog 43 #[.agg (Wi.bv p).toArray,.agg (Wi.bv q).toArray] w fun e w'=>e = .returned (.agg (Wi.bv (Wi.Ad p (Wi.Ng q))).toArray)∧Below w.heap.size w w':=by
 have run:=CR R0 (Wi.le p) (Wi.le q)
 have e3:R0.neg=pM:=rfl
 have e4:R0.add=addN:=rfl
 rw [e3,e4,ar (Wi.km hp),ar (Wi.km hq),ar (wL _)] at run
 rw [Wi.ej hp,Wi.ej hq,Wi.Ad,Wi.Ng,Wi.jB,Wi.Jy (wL _)]
 exact az nC mixed gv pc Tryz.func43 (by kernel_rfl) run (fun r hr=>by
  simp only [List.mem_cons,List.not_mem_nil,or_false] at hr
  rcases hr with rfl | rfl
  ·exact aG _
  ·exact ⟨aG _,aG _⟩) (by simp [aE]) (.inl (aE _)) w hw
end Go.Proofs.YtajehiidpecknaaGreatDoor.Ve
