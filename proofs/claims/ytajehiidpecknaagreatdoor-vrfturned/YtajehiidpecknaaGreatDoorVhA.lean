import Derived.Test.YtajehiidpecknaaGreatDoorWirA
import Derived.Test.YtajehiidpecknaaGreatDoorQ5S
import Derived.Test.YtajehiidpecknaaGreatDoorQ5RE
import Derived.Test.YtajehiidpecknaaGreatDoorPoiTC
import Derived.Test.YtajehiidpecknaaGreatDoorScpB
import Derived.Test.YtajehiidpecknaaGreatDoorScrB
import Derived.Test.YtajehiidpecknaaGreatDoorVkA
import Derived.Test.YtajehiidpecknaaGreatDoorMemG
set_option linter.all false
namespace Go.Proofs.YtajehiidpecknaaGreatDoor.Wi
open Go Go.RowKit
set_option maxRecDepth 100000
def hm (xs:List Int):Nat→BitVec 8:=fun i=>BitVec.ofInt 8 (gi xs i)
def jz (S:Sh.Q5.St):List Int:=(List.range 64).map fun i=>Sh.ub (Sh.Q5.dj S i)
def h5 (xs:List Int):List Int:=jz (Sh.Q5.gg Sh.Q5.aW Sh.Q5.cj (hm xs) xs.length)
theorem sQ (S:Sh.Q5.St):(jz S).length=64:=by simp [jz]
theorem bq (xs:List Int):(h5 xs).length=64:=sQ _
theorem yy (S:Sh.Q5.St):Sh.Q5.dm S=(bv (jz S)).toArray:=by
 unfold Sh.Q5.dm bv jz
 rw [List.map_map];rfl
theorem At (S:Sh.Q5.St):Byt (jz S):=by
 intro z hz
 obtain ⟨i,_,rfl⟩:=List.mem_map.1 hz
 have:=(Sh.Q5.dj S i).isLt
 unfold Sh.ub;omega
theorem dS (xs:List Int):Byt (h5 xs):=At _
structure Sq (w:World) (v:Value) (xs:List Int):Prop where
 sl:Sl w v xs
 some' : ∀ A l c,v = .slice (some A) l c→c≠0→A.spot=none∧A.block<w.heap.size
 none' : ∀ l c,v = .slice none l c→c=0
theorem Sq.below {w w':World} {v:Value} {xs:List Int} (h:Sq w v xs) (hb:Below w.heap.size w w'):Sq w' v xs :=
 ⟨h.sl.below hb (Nat.le_refl _),fun A l c e h0=>⟨(h.some' A l c e h0).1,YI (h.some' A l c e h0).2 hb.size⟩,h.none'⟩
theorem Ow.sq {B0:Nat} {w:World} {v:Value} {xs:List Int} (h:Ow B0 w v xs):Sq w v xs:=by
 refine ⟨h.sl,fun A l c e _ => ?_,fun l c e => ?_⟩
 ·rcases h.2 with ⟨rfl,h0⟩ | ⟨g,cap,cur,hv,hb,hg,hc,_,hs,ht⟩
  ·cases e
  ·rw [hv] at e;cases e;exact ⟨rfl,(YM.1 hg).1⟩
 ·rcases h.2 with ⟨rfl,h0⟩ | ⟨g,cap,cur,hv,hb,hg,hc,_,hs,ht⟩
  ·cases e;rfl
  ·rw [hv] at e;cases e
theorem Sl.sq {w:World} {v:Value} {xs:List Int} (h:Sl w v xs) (h0:xs≠[]):Sq w v xs:=by
 obtain ⟨ad,cap,rfl,hc,h⟩:=h
 rcases h with ⟨e,_⟩ | ⟨b,o,rfl,hlt,hm⟩
 ·exact absurd e h0
 ·exact ⟨⟨_,cap,rfl,hc,.inr ⟨b,o,rfl,hlt,hm⟩⟩,fun A l c e _=>by cases e;exact ⟨rfl,hlt⟩,fun l c e=>by cases e⟩
theorem mS (z:Int) (h0:0≤z) (h1:z≤255):Value.int .u8 z=Sh.B (BitVec.ofInt 8 z):=by
 show Value.int .u8 z=Value.int .u8 (Sh.ub (BitVec.ofInt 8 z))
 congr 1
 rw [Sh.ub,BitVec.toNat_ofInt]
 omega
theorem Sq.src {w:World} {v:Value} {xs:List Int} (h:Sq w v xs) (hb:Byt xs) : ∃ ad cap,v = .slice ad xs.length cap∧xs.length≤cap∧Sh.Src w ad xs.length cap (hm xs):=by
 obtain ⟨ad,cap,rfl,hc,hcell⟩:=h.sl
 refine ⟨ad,cap,rfl,hc,?_⟩
 cases ad with
 | none =>
  obtain rfl:=h.none' _ _ rfl
  exact .inl ⟨by omega,rfl⟩
 | some A =>
  by_cases hc0:cap=0
  ·subst hc0;exact .inl ⟨by omega,rfl⟩
  obtain ⟨h1,h2⟩:=h.some' A _ _ rfl hc0
  obtain ⟨b,o,sp⟩:=A
  simp only at h1 h2;subst h1
  refine .inr ⟨b,o,rfl,h2,fun i hi => ?_⟩
  rcases hcell with ⟨rfl,_⟩ | ⟨b',o',he,_,hm'⟩
  ·simp at hi
  ·cases he
   rw [hm' i hi]
   have:=hb.get hi
   exact congrArg some (mS _ this.1 this.2)
theorem Sq.bytes {w:World} {v:Value} {xs:List Int} (h:Sq w v xs) (hb:Byt xs):Sh.Bytes w v xs.length (hm xs) w.heap.size:=by
 obtain ⟨ad,cap,rfl,hc,h1⟩:=h.src hb
 rcases h1 with ⟨h0,rfl⟩ | ⟨b,o,rfl,hlt,hm'⟩
 ·rw [h0];exact .inl ⟨⟨ad,rfl⟩,rfl⟩
 ·exact .inr ⟨b,o,cap,rfl,hc,hlt,Nat.ne_of_lt hlt,hm'⟩
abbrev Tb (w:World):Prop:=Sh.Q5.Tabs w
theorem gh (xs h:List Int) (v:Value) (hh:h5 xs=h) (hl:xs.length≤140737488354000) (w:World) (hT:Tb w) (hb:Byt xs) (hv:Sq w v xs) :
  Calls Tryz.prog 22 #[v] w fun e w'=>e = .returned (.agg (bv h).toArray)∧Below w.heap.size w w':=by
 subst hh
 refine (Sh.Q5.AB _ (hm xs) xs.length v rfl (by omega) w hT (hv.bytes hb)).mono fun e w' ⟨h1,h2⟩=>⟨?_,h2⟩
 rw [h1,yy];rfl
theorem fh (xs h:List Int) (v:Value) (hh:h5 xs=h) (hl:xs.length≤140737488354000) (w:World) (hb:Byt xs) (hv:Sq w v xs) :
  Calls Tryz.prog 40 #[v] w fun e w'=>e = .returned (.agg (bv h).toArray)∧Below w.heap.size w w':=by
 subst hh
 obtain ⟨ad,cap,rfl,hc,hsr⟩:=hv.src hb
 refine (Sh.Q5.AU (hm xs) ad xs.length cap (by omega) w hsr).mono fun e w' ⟨h1,h2⟩=>⟨?_,h2⟩
 rw [h1,yy];rfl
end Go.Proofs.YtajehiidpecknaaGreatDoor.Wi
namespace Go.Proofs.YtajehiidpecknaaGreatDoor.Wi
open Go Go.RowKit
set_option maxRecDepth 100000
def le:List Int→Nat
 | []=>0
 | z :: l=>z.toNat+256*le l
def bi (n:Nat):List Int:=(List.range 32).map (Go.Proofs.YtajehiidpecknaaGreatDoor.by8 n)
theorem Lh (n i:Nat):0≤Go.Proofs.YtajehiidpecknaaGreatDoor.by8 n i∧Go.Proofs.YtajehiidpecknaaGreatDoor.by8 n i≤255:=by unfold Go.Proofs.YtajehiidpecknaaGreatDoor.by8;omega
theorem dq (n:Nat):L32 (bi n):=⟨by simp [bi],fun z hz=>by
 obtain ⟨i,_,rfl⟩:=List.mem_map.1 hz
 exact Lh n i⟩
theorem DE (n:Nat):bv (bi n)=Go.Proofs.YtajehiidpecknaaGreatDoor.bl n:=by
 unfold bv bi Go.Proofs.YtajehiidpecknaaGreatDoor.bl
 rw [List.map_map];rfl
theorem eL (n:Nat):Value.agg (bv (bi n)).toArray=Go.Proofs.YtajehiidpecknaaGreatDoor.bv n:=by rw [DE];rfl
theorem CY : ∀ x:List Int,Byt x→(List.range x.length).map (Go.Proofs.YtajehiidpecknaaGreatDoor.by8 (le x))=x
 | [],_=>rfl
 | z :: l,h=>by
  have ih:=CY l fun v hv=>h v (List.mem_cons_of_mem _ hv)
  obtain ⟨h0,h1⟩:=h z List.mem_cons_self
  rw [le]
  generalize le l=m at *
  rw [List.length_cons,List.range_succ_eq_map,List.map_cons,List.map_map]
  congr 1
  ·unfold Go.Proofs.YtajehiidpecknaaGreatDoor.by8
   rw [Nat.pow_zero,Nat.div_one];omega
  ·refine Eq.trans (List.map_congr_left fun i _ => ?_) ih
   show Go.Proofs.YtajehiidpecknaaGreatDoor.by8 (z.toNat+256*m) (i+1)=Go.Proofs.YtajehiidpecknaaGreatDoor.by8 m i
   unfold Go.Proofs.YtajehiidpecknaaGreatDoor.by8
   rw [Nat.pow_succ,Nat.mul_comm (256 ^ i) 256,←YL,show (z.toNat+256*m)/256=m by omega]
theorem Js {x:List Int} (h:L32 x):bi (le x)=x:=by
 have:=CY x h.byt
 rw [h.len] at this
 exact this
theorem EB : ∀ x:List Int,Byt x→le x<256 ^ x.length
 | [],_=>by decide
 | z :: l,h=>by
  have ih:=EB l fun v hv=>h v (List.mem_cons_of_mem _ hv)
  obtain ⟨h0,h1⟩:=h z List.mem_cons_self
  rw [le,List.length_cons,Nat.pow_succ]
  omega
theorem cU {x:List Int} (h:L32 x):le x<RN:=by
 have:=EB x h.byt
 rw [h.len,←Go.Proofs.YtajehiidpecknaaGreatDoor.iy] at this
 exact this
theorem cH {x:List Int} (h:L32 x):Value.agg (bv x).toArray=Go.Proofs.YtajehiidpecknaaGreatDoor.bv (le x):=by rw [←eL,Js h]
theorem yS : ∀ x:List Int,le x=Go.Proofs.YtajehiidpecknaaGreatDoor.bsum (bv x)
 | []=>rfl
 | z :: l=>by
  show z.toNat+256*le l=z.toNat+256*Go.Proofs.YtajehiidpecknaaGreatDoor.bsum (bv l)
  rw [yS l]
theorem jx {n:Nat} (h:n<RN):le (bi n)=n:=by
 rw [yS,DE,Go.Proofs.YtajehiidpecknaaGreatDoor.cX,YK h]
theorem Jt {x:List Int} (hl:x.length=64) (hb:Byt x):Value.agg (bv x).toArray=Sc.xK (le x):=by
 have e:=CY x hb
 rw [hl] at e
 unfold Sc.xK Sc.blm
 congr 2
 conv=>lhs;rw [←e]
 unfold bv
 rw [List.map_map];rfl
theorem Oo {x:List Int} (hl:x.length=64) (hb:Byt x):le x<Sc.RN*Sc.RN:=by
 have:=EB x hb
 rw [hl] at this
 exact YI this (by decide)
structure Gp (w:World):Prop where
 m0:Glo Go.Proofs.YtajehiidpecknaaGreatDoor.M0 w
 m1:Glo Go.Proofs.YtajehiidpecknaaGreatDoor.M1 w
 tb:Tb w
def Bs (n:List Int):List Int:=bi (sG (le n))
def Ml (n p:List Int):List Int:=bi (fx (le n) (le p))
def Ng (p:List Int):List Int:=bi (pc (le p))
def Ad (p q:List Int):List Int:=bi (addN (le p) (le q))
def Cl (p:List Int):List Int:=bi (iq (le p))
def rk (p:List Int):Int:=rdE (le p)
def sm (p:List Int):Bool:=xp (le p)
def cn (n:List Int):Bool:=decide (le n<Sc.LN)
def rd (h:List Int):List Int:=bi (le h % Sc.LN)
theorem BH {p:List Int} (hp:L32 p) (w:World) (hw:Gp w):Calls Tryz.prog 42 #[.agg (bv p).toArray] w fun e w'=>e = .returned (.tuple #[.bool (sm p),.int .i64 (rk p)])∧Below w.heap.size w w':=by
 rw [cH hp];exact Fz _ (cU hp) w hw.m0
theorem tG {n:List Int} (hn:L32 n) (w:World) (hw:Gp w):Calls Tryz.prog 18 #[.agg (bv n).toArray] w fun e w'=>e = .returned (.agg (bv (Bs n)).toArray)∧Below w.heap.size w w':=by
 rw [cH hn,Bs,eL];exact zd _ (cU hn) w hw.m1
theorem JH {n:List Int} (hn:L32 n) (w:World):Calls Tryz.prog 36 #[.agg (bv n).toArray] w fun e w'=>e = .returned (.bool (cn n))∧Below w.heap.size w w':=by
 rw [cH hn];exact Sc.fU _ (cU hn) w
theorem KB {h:List Int} (hl:h.length=64) (hb:Byt h) (w:World):Calls Tryz.prog 21 #[.agg (bv h).toArray] w fun e w'=>e = .returned (.agg (bv (rd h)).toArray)∧Below w.heap.size w w':=by
 rw [Jt hl hb,rd,eL];exact Sc.xN _ (Oo hl hb) w
theorem z7 {p:List Int} (hp:L32 p) (w:World):Calls Tryz.prog 44 #[.agg (bv p).toArray] w fun e w'=>e = .returned (.tuple #[.bool (sm p),.int .i64 (rk p)])∧Below w.heap.size w w':=by
 rw [cH hp];exact GH _ (cU hp) w
theorem Iu {n:List Int} (hn:L32 n) (w:World):Calls Tryz.prog 39 #[.agg (bv n).toArray] w fun e w'=>e = .returned (.bool (cn n))∧Below w.heap.size w w':=by
 rw [cH hn];exact Sc.fe _ (cU hn) w
theorem Ir {h:List Int} (hl:h.length=64) (hb:Byt h) (w:World):Calls Tryz.prog 66 #[.agg (bv h).toArray] w fun e w'=>e = .returned (.agg (bv (rd h)).toArray)∧Below w.heap.size w w':=by
 rw [Jt hl hb,rd,eL];exact Sc.vE _ (Oo hl hb) w
theorem nX {n:List Int} (hn:L32 n) (w:World):Calls Tryz.prog 28 #[.agg (bv n).toArray] w fun e w'=>e = .returned (.agg (bv (Bs n)).toArray)∧Below w.heap.size w w':=by
 rw [cH hn,Bs,eL];exact Fy _ (cU hn) w
theorem Kw (w:World):Calls Tryz.prog 46 #[] w fun e w'=>e = .returned (.agg (bv (bi GY)).toArray)∧Below w.heap.size w w':=by
 rw [eL];exact zB w
theorem LR {p:List Int} (hp:L32 p) (w:World):Calls Tryz.prog 45 #[.agg (bv p).toArray] w fun e w'=>e = .returned (.tuple #[qv (dqP (le p)),.bool (a8 (le p))])∧Below w.heap.size w w':=by
 rw [cH hp];exact nI _ (cU hp) w
theorem Db {n:List Int} (hn:L32 n) {p:P4} (hp:p.ok) (w:World):Calls Tryz.prog 49 #[.agg (bv n).toArray,qv p] w fun e w'=>e = .returned (qv (dM (le n) p))∧Below w.heap.size w w':=by
 rw [cH hn];exact qu _ (cU hn) hp w
theorem Ej {p:P4} (hp:p.ok) (w:World):Calls Tryz.prog 50 #[qv p] w fun e w'=>e = .returned (qv (iB p))∧Below w.heap.size w w':=by
 have run:=uL p
 rw [aY (n:=0) (by decide),aY hp.x,aY hp.t] at run
 exact aq ns mixed Tryz.func50 (by kernel_rfl) run (al (iw (by decide) hp.x) (al (iw (by decide) hp.t) al0)) rfl (.inl (dX _)) w
theorem Di {p:P4} (hp:p.ok) (w:World):Calls Tryz.prog 47 #[qv p] w fun e w'=>e = .returned (.agg (bv (bi (wqN p))).toArray)∧Below w.heap.size w w':=by
 rw [eL]
 have run:=yt p
 have lz:=ou hp.z
 have e1:eiV p=nv (rfi p.z):=vWI hp.z
 have e2:exS p=exN p:=by unfold exS exN;rw [e1,vWM hp.x lz,aY (bI hp.x lz)]
 have e3:eyS p=eyN p:=by unfold eyS eyN;rw [e1,vWM hp.y lz,aY (bI hp.y lz)]
 have ly:eyN p<TT:=Nat.lt_trans (Nat.mod_lt _ (by decide)) fv
 rw [e2,e3,e1,vWM hp.x lz,vWM hp.y lz,zx _ _ ly] at run
 exact aq ns mixed Tryz.func47 (by kernel_rfl) run (al (fl hp.z) (al (iw hp.x lz) (al (fl (bI hp.x lz)) (al (iw hp.y lz) (al (fl (bI hp.y lz)) al0))))) rfl (.inl (aB _)) w
theorem Em {p q:P4} (hp:p.ok) (hq:q.ok) (w:World):Calls Tryz.prog 48 #[qv p,qv q] w fun e w'=>e = .returned (qv (aU p q))∧Below w.heap.size w w':=uP p q hp hq w
def df (s k a:List Int):List Int:=Ad (Bs s) (Ng (Ml k a))
def dR (s k a:List Int):P4:=aU (dM (le s) (dqP GY)) (iB (dM (le k) (dqP (le a))))
theorem L32.bs (n:List Int):L32 (Bs n):=dq _
theorem L32.ml (n p:List Int):L32 (Ml n p):=dq _
theorem L32.df (s k a:List Int):L32 (df s k a):=dq _
theorem L32.rd (h:List Int):L32 (rd h):=dq _
theorem rW (n:List Int) {p:P4} (h:p.ok):(dM (le n) p).ok:=kF h _ 256
theorem Et {s k a:List Int} (hs:L32 s) (hk:L32 k) (ha:L32 a) (hok:a8 (le a)=true):bi (wqN (dR s k a))=df s k a:=by
 obtain ⟨P,hP,-⟩:=ft (cU ha) hok
 unfold df Ad Bs Ng Ml dR
 rw [jx (Fj _),jx (mT _),jx (td _ _),←hP,jd _ (cU hk),zw,mE _ (cU hs),(zg _ _).1]
 have g1:Rep (cP (dM (le s) (dqP GY))) (dU (le s) BP):=by rw [←D5];exact gJ (cz _) (pg BP) _ (cU hs)
 have g2:Rep (cP (dM (le k) (dqP (enc P)))) (dU (le k) P):=gJ (cz _) (pg P) _ (cU hk)
 have o1:(dM (le s) (dqP GY)).ok:=kF (cz _) _ 256
 have o2:(dM (le k) (dqP (enc P))).ok:=kF (cz _) _ 256
 rw [xX (dD o1 (gK o2)) (ku o1 (gK o2) g1 (vd g2))]
end Go.Proofs.YtajehiidpecknaaGreatDoor.Wi
namespace Go.Proofs.YtajehiidpecknaaGreatDoor.Wi
open Go Go.RowKit
set_option maxRecDepth 100000
def md (a b c:List Int):List Int:=bi ((le a*le b+le c) % Sc.LN)
theorem L32.cl (p:List Int):L32 (Cl p):=dq _
theorem L32.md (a b c:List Int):L32 (md a b c):=dq _
theorem tR {p:List Int} (hp:L32 p) (w:World) (hw:Gp w):Calls Tryz.prog 35 #[.agg (bv p).toArray] w fun e w'=>e = .returned (.tuple #[.agg (bv (Cl p)).toArray,.int .i64 (rk p)])∧Below w.heap.size w w':=by
 rw [cH hp,Cl,eL];exact yK _ (cU hp) w hw.m0
theorem qw {p:List Int} (hp:L32 p) (w:World):Calls Tryz.prog 38 #[.agg (bv p).toArray] w fun e w'=>e = .returned (.tuple #[.agg (bv (Cl p)).toArray,.int .i64 (rk p)])∧Below w.heap.size w w':=by
 rw [cH hp,Cl,eL];exact yY _ (cU hp) w
theorem Ij {n p:List Int} (hn:L32 n) (hp:L32 p) (w:World):Calls Tryz.prog 30 #[.agg (bv n).toArray,.agg (bv p).toArray] w fun e w'=>e = .returned (.tuple #[.agg (bv (Ml n p)).toArray,.int .i64 (rk p)])∧Below w.heap.size w w':=by
 rw [cH hn,cH hp,Ml,eL];exact yD _ _ (cU hn) (cU hp) w
theorem Lc (w:World) (hw:Gp w):Calls Tryz.prog 54 #[] w fun e w'=>e = .returned (.agg (bv (bi 1)).toArray)∧Below w.heap.size w w':=by
 rw [eL];exact yU w hw.m0
theorem H8 (w:World):Calls Tryz.prog 65 #[] w fun e w'=>e = .returned (.agg (bv (bi 1)).toArray)∧Below w.heap.size w w':=by
 rw [eL];exact yn w
theorem Ly {a b c:List Int} (ha:L32 a) (hb:L32 b) (hc:L32 c) (w:World):Calls Tryz.prog 25 #[.agg (bv a).toArray,.agg (bv b).toArray,.agg (bv c).toArray] w fun e w'=>e = .returned (.agg (bv (md a b c)).toArray)∧Below w.heap.size w w':=by
 rw [cH ha,cH hb,cH hc,md,eL];exact Sc.vV _ _ _ (cU ha) (cU hb) (cU hc) w
theorem Iz {a b c:List Int} (ha:L32 a) (hb:L32 b) (hc:L32 c) (w:World):Calls Tryz.prog 33 #[.agg (bv a).toArray,.agg (bv b).toArray,.agg (bv c).toArray] w fun e w'=>e = .returned (.agg (bv (md a b c)).toArray)∧Below w.heap.size w w':=by
 rw [cH ha,cH hb,cH hc,md,eL];exact Sc.va _ _ _ (cU ha) (cU hb) (cU hc) w
def d2 (s h k g:List Int):List Int:=Ad (Ml s h) (Ng (Ml k g))
def d2R (s h k g:List Int):P4:=aU (dM (le s) (dqP (le h))) (iB (dM (le k) (dqP (le g))))
theorem L32.d2 (s h k g:List Int):L32 (d2 s h k g):=dq _
theorem Cy {s h k g:List Int} (hs:L32 s) (hh:L32 h) (hk:L32 k) (hg:L32 g) (okh:a8 (le h)=true) (okg:a8 (le g)=true):bi (wqN (d2R s h k g))=d2 s h k g:=by
 obtain ⟨P,hP,-⟩:=ft (cU hg) okg
 obtain ⟨H,hH,-⟩:=ft (cU hh) okh
 unfold d2 Ad Ng Ml d2R
 rw [jx (td _ _),jx (mT _),jx (td _ _),←hP,←hH,jd _ (cU hs),jd _ (cU hk),zw,(zg _ _).1]
 have g1:Rep (cP (dM (le s) (dqP (enc H)))) (dU (le s) H):=gJ (cz _) (pg H) _ (cU hs)
 have g2:Rep (cP (dM (le k) (dqP (enc P)))) (dU (le k) P):=gJ (cz _) (pg P) _ (cU hk)
 have o1:(dM (le s) (dqP (enc H))).ok:=kF (cz _) _ 256
 have o2:(dM (le k) (dqP (enc P))).ok:=kF (cz _) _ 256
 rw [xX (dD o1 (gK o2)) (ku o1 (gK o2) g1 (vd g2))]
end Go.Proofs.YtajehiidpecknaaGreatDoor.Wi
namespace Go.Proofs.YtajehiidpecknaaGreatDoor.Wi
open Go Go.RowKit Sh.Q5
set_option maxRecDepth 100000
def bw (l:List Nat) (t:Nat):BitVec 64:=BitVec.ofNat 64 (l.getD t 0)
def stA (a e:List Nat) (t:Nat):St:=⟨bw a (t+3),bw a (t+2),bw a (t+1),bw a t,bw e (t+3),bw e (t+2),bw e (t+1),bw e t⟩
def AA (s t:St):Bool:=s.a == t.a && (s.b == t.b && (s.c == t.c && (s.d == t.d && (s.e == t.e && (s.f == t.f && (s.g == t.g && s.h == t.h))))))
theorem sF {s t:St} (h:AA s t=true):s=t:=by
 simp only [AA,Bool.and_eq_true,beq_iff_eq] at h
 obtain ⟨h1,h2,h3,h4,h5,h6,h7,h8⟩:=h
 cases s;cases t
 simp only at *
 subst h1;subst h2;subst h3;subst h4;subst h5;subst h6;subst h7;subst h8
 rfl
def Ig (m:Nat→BitVec 8) (w:List Nat):Bool:=((List.range 16).all fun t=>word (fun i=>m (8*t+i)) == bw w t) && (List.range 64).all fun k=>lo1 (bw w (k+14))+bw w (k+9)+lo0 (bw w (k+1))+bw w k == bw w (k+16)
def Mh (s f:St) (w a e:List Nat):Bool:=AA s (stA a e 0) && (AA (plus s (stA a e 80)) f && (List.range 80).all fun t=>AA (Sh.Q5.step (stA a e t) (aW t) (bw w t)) (stA a e (t+1)))
theorem qf {m:Nat→BitVec 8} {w:List Nat} (h:Ig m w=true) : ∀ n t,t<n→t<80→cN m t=bw w t
 | 0,_,h0,_=>absurd h0 (Nat.not_lt_zero _)
 | n+1,t,ht,h80=>by
  have ih:=qf h n
  simp only [Ig,Bool.and_eq_true,List.all_eq_true,List.mem_range,beq_iff_eq] at h
  obtain ⟨h1,h2⟩:=h
  rw [cN]
  split
  ·rename_i h16;exact h1 t h16
  ·have:=h2 (t - 16) (by omega)
   rw [show t - 16+14=t - 2 by omega,show t - 16+9=t - 7 by omega,show t - 16+1=t - 15 by omega,show t - 16+16=t by omega] at this
   rw [ih (t - 2) (by omega) (by omega),ih (t - 7) (by omega) (by omega),ih (t - 15) (by omega) (by omega),ih (t - 16) (by omega) (by omega)]
   exact this
theorem ox {m:Nat→BitVec 8} {w a e:List Nat} {s:St} (hw:Ig m w=true) (h0:s=stA a e 0) (hs : ∀ t,t<80→AA (Sh.Q5.step (stA a e t) (aW t) (bw w t)) (stA a e (t+1))=true) : ∀ t,t≤80→rounds aW (cN m) s t=stA a e t
 | 0,_=>h0
 | t+1,h=>by
  have ih:=ox hw h0 hs t (by omega)
  show Sh.Q5.step (rounds aW (cN m) s t) (aW t) (cN m t)=_
  rw [ih,qf hw 80 t (by omega) (by omega)]
  exact sF (hs t (by omega))
theorem jl (s f:St) (m:Nat→BitVec 8) (w a e:List Nat) (hw:Ig m w=true) (hs:Mh s f w a e=true):compress aW s m=f:=by
 simp only [Mh,Bool.and_eq_true,List.all_eq_true,List.mem_range] at hs
 obtain ⟨h1,h2,h3⟩:=hs
 unfold compress
 rw [ox hw (sF h1) h3 80 (Nat.le_refl _)]
 exact sF h2
theorem tB (xs:List Int) (f:St) (h1:ga xs.length=1) (hb:compress aW cj (fun i=>aG (hm xs) xs.length (128*0+i))=f):h5 xs=jz f:=by
 unfold h5 gg
 rw [h1]
 exact congrArg jz hb
theorem Ld (xs:List Int) (f g:St) (h1:ga xs.length=2) (hb:compress aW cj (fun i=>aG (hm xs) xs.length (128*0+i))=g) (hc:compress aW g (fun i=>aG (hm xs) xs.length (128*1+i))=f):h5 xs=jz f:=by
 unfold h5 gg
 rw [h1]
 show jz (compress aW (compress aW cj (fun i=>aG (hm xs) xs.length (128*0+i))) (fun i=>aG (hm xs) xs.length (128*1+i)))=_
 rw [hb,hc]
end Go.Proofs.YtajehiidpecknaaGreatDoor.Wi
namespace Go.Proofs.YtajehiidpecknaaGreatDoor.Ve
open Go Go.RowKit
set_option maxRecDepth 100000
structure Fs where
 bas:Nat→Nat
 pml:Nat→Nat→Nat
 neg:Nat→Nat
 add:Nat→Nat→Nat
 rde:Nat→Int
 ade:Nat→Nat→Int
 sha:List Value→Nat→Int
 hlv:Nat→Nat × Nat
def NZ (F:Fs):List Value→Option (List Prop × Value)
 | [A]=>some ([IsB A],bv (F.bas (ai A)))
 | _=>none
def MM (F:Fs):List Value→Option (List Prop × Value)
 | [A,B]=>some ([IsB A∧IsB B],.tuple #[bv (F.pml (ai A) (ai B)),.int .i64 (F.rde (ai B))])
 | _=>none
def NC (F:Fs):List Value→Option (List Prop × Value)
 | [A]=>some ([IsB A],.tuple #[bv (F.neg (ai A)),.int .i64 (F.rde (ai A))])
 | _=>none
def Nz (F:Fs):List Value→Option (List Prop × Value)
 | [A,B]=>some ([IsB A∧IsB B],.tuple #[bv (F.add (ai A) (ai B)),.int .i64 (F.ade (ai A) (ai B))])
 | _=>none
def nA:Nat:=Nat.max np (Nat.max 0 3+1)
def sqL:List Value:=(List.range 8).map fun i => .int .u64 (Sh.Q5.u (Sh.Q5.cj.at i))
def cuL:List Value:=(List.range 80).map fun i => .int .u64 (Sh.Q5.u (Sh.Q5.aW i))
def MA:Mem:=((((((List.replicate nA none).set 2 (some ⟨bl GY,22⟩)).set 5 (some ⟨bl DN',22⟩)).set 4 (some ⟨bl 1,22⟩)).set 1 (some ⟨bl GX,22⟩)).set 0 (some ⟨sqL,86⟩)).set 3 (some ⟨cuL,109⟩)
theorem fM:jy MA=true:=by kernel_rfl
def glA:List Nat:=[2,5,1,4,0,3]
theorem nJ:mY MA glA=true:=by kernel_rfl
theorem JY:bk MA glA=true:=by kernel_rfl
theorem xv:bk M0 glA=true:=by kernel_rfl
theorem KX:bk M1 glA=true:=by kernel_rfl
theorem Glo.rep (n:Nat) (w:World):Glo (List.replicate n none) w:=fun b B hB=>by
 unfold bn at hB
 rw [List.getElem?_replicate] at hB
 split at hB <;> cases hB
theorem Glo.set {M:Mem} {w:World} (h:Glo M w) {g:Nat} {B:Blk} (hB:w.heap[g]? = some (.cells B.cells.toArray B.ty.id B.ty.fz)):Glo (M.set g (some B)) w:=fun b B' hB'=>by
 rw [gz] at hB'
 split at hB'
 ·rename_i e
  cases hB'
  rw [e.1];exact hB
 ·exact h b B' hB'
theorem gp {w:World} (h:Glo MA w):Wi.Gp w:=by
 have e1:bn MA 2=some ⟨bl GY,22⟩:=rfl
 have e2:bn MA 5=some ⟨bl DN',22⟩:=rfl
 have e3:bn MA 4=some ⟨bl 1,22⟩:=rfl
 have e4:bn MA 1=some ⟨bl GX,22⟩:=rfl
 have e5:bn MA 0=some ⟨sqL,86⟩:=rfl
 have e6:bn MA 3=some ⟨cuL,109⟩:=rfl
 have s5:=h _ _ e5
 have s6:=h _ _ e6
 have m0:Glo M0 w:=Ve.Glo.set (Ve.Glo.set (Ve.Glo.set (Ve.Glo.rep _ _) (h _ _ e1)) (h _ _ e2)) (h _ _ e3)
 refine ⟨m0,Ve.Glo.set m0 (h _ _ e4),⟨fun i hi => ?_,fun i hi => ?_⟩⟩
 ·rw [cell_of_row w 0 i _ _ _ s5,List.getElem?_toArray,sqL,List.getElem?_map,List.getElem?_range hi];rfl
 ·rw [cell_of_row w 3 i _ _ _ s6,List.getElem?_toArray,cuL,List.getElem?_map,List.getElem?_range hi];rfl
def tf (S:Nat→Int):List Value:=(List.range 64).map fun i => .int .u8 (S i)
def gS5 (S:List Value→Nat→Int) (args:List Value) (m:Mem):Option (List Prop × Value) :=
 match args with
 | [.slice (some ⟨b,0,none⟩) 32 32]=>if mw MA m && (bn MA b).isNone then (bn m b).map fun B=>([IsB (.agg B.cells.toArray)],.agg (tf (S B.cells)).toArray) else none
 | _=>none
def S0 (l:List Value) (i:Nat):Int:=Wi.gi (Wi.h5 (Wi.bi (bsum l))) i
theorem Eu (l:List Value):tf (S0 l)=Wi.bv (Wi.h5 (Wi.bi (bsum l))):=by
 have hl:=Wi.bq (Wi.bi (bsum l))
 apply List.ext_getElem?
 intro i
 by_cases hi:i<64
 ·rw [Wi.de _ (by rw [hl];exact hi),tf,List.getElem?_map,List.getElem?_range hi];rfl
 ·rw [List.getElem?_eq_none (l:=tf (S0 l)) (by simp [tf];omega),List.getElem?_eq_none (by rw [Wi.ae,hl];omega)]
theorem Lw {X:Cx} (hX:X.Ok Tryz.prog) (hc:bk MA X.gl=true):(X.read 22 (gS5 S0)).Ok Tryz.prog:=by
 refine Cx.read_ok hX (fun args m ps v hg hp r w args' hr hgl ha => ?_) (fun args m q i B hi hg => ?_)
 ·unfold gS5 at hg
  split at hg
  ·rename_i b
   split at hg
   ·rename_i hall
    simp only [Bool.and_eq_true] at hall
    cases hB:bn m b with
    | none=>simp [hB] at hg
    | some B =>
     simp only [hB,YO,qG,qH] at hg
     obtain ⟨rfl,rfl⟩:=hg
     have hI:=hp _ (YJ.2 rfl)
     have hcells:B.cells=bl (bsum B.cells):=by
      have e:Value.agg B.cells.toArray = .agg (bl (bsum B.cells.toArray.toList)).toArray:=hI
      rw [YN] at e
      simpa using e
     obtain ⟨c0,cs,p1,p2,p3⟩:=hr.cells b B hB
     have ha0:trL (tr r) [.slice (some ⟨b,0,none⟩) 32 32]=some [.slice (some ⟨c0,0,none⟩) 32 32]:=cO (cV p1) rfl
     rw [ha] at ha0
     cases ha0
     have hfl:B.cells.all flat1=true:=by rw [hcells];exact m6 _
     rw [ee (eA r) hfl] at p2
     cases p2
     have hG:=gp (hr.glo hall.1 fM fun g hg=>hgl g (me hc hg))
     obtain ⟨n,hn⟩ : ∃ n,bsum B.cells=n:=⟨_,rfl⟩
     have hlen:(Wi.bi n).length=32:=(Wi.dq n).len
     have hlt:c0<w.heap.size:=(YM.1 p3).1
     have hs:Wi.Sl w (.slice (some ⟨c0,0,none⟩) 32 32) (Wi.bi n):=⟨_,32,by rw [hlen],by rw [hlen];omega,.inr ⟨c0,0,rfl,hlt,fun i hi=>by
      rw [Nat.zero_add,cell_of_row w c0 i _ _ _ p3,List.getElem?_toArray,hcells,hn,←Wi.DE];exact Wi.de _ hi⟩⟩
     have hb8 : ∀ u ∈ Wi.bv (Wi.h5 (Wi.bi n)),flat1 u=true:=fun u hu=>by obtain ⟨z,_,rfl⟩:=List.mem_map.1 hu;rfl
     refine fk Tryz.func22 (by kernel_rfl) (show _=some (ag Tryz.f22) from (by kernel_rfl)) ((Wi.gh (Wi.bi n) _ _ rfl (by rw [hlen];omega) w hG.tb (Wi.dq n).byt (hs.sq (fun e=>by rw [e] at hlen;cases hlen))).mono ?_)
     rintro e w' ⟨rfl,hb⟩
     refine ⟨_,rfl,?_,hb⟩
     rw [Eu,hn]
     refine cd r _ ?_
     show ((Wi.bv (Wi.h5 (Wi.bi n))).toArray.toList.all flat1)=true
     rw [YN];exact List.all_eq_true.2 hb8
   ·simp at hg
  ·simp at hg
 ·unfold gS5 at hg ⊢
  split at hg
  ·rename_i b
   split at hg
   ·rename_i hall
    simp only [Bool.and_eq_true] at hall
    cases hB:bn m b with
    | none=>simp [hB] at hg
    | some B' =>
     rw [if_pos (by simp only [Bool.and_eq_true];exact ⟨qa hi hall.1,hall.2⟩),dP (tD hi hB)]
     exact hg
   ·simp at hg
  ·simp at hg
def EF (F:Fs):Cx:=(((((Cx.none.glo glA).read 22 (gS5 F.sha)).var M1 18 (NZ F)).var M0 55 (MM F)).var M0 80 (NC F)).var M0 81 (Nz F)
def Lr (o:List Value):List Value := .int .u8 (bits .andNot .u8 (j8 o 0) 7) :: ((o.drop 1).take 30 ++ [.int .u8 (bits .or .u8 (bits .andNot .u8 (j8 o 31) 128) 64)])
theorem GQ (F:Fs) (s:Nat):sfunG Tryz.prog (EF F) MA 60 Tryz.f17 (ag Tryz.f17) [bv s]=some ([IsB (.agg (bl s).toArray)],.tuple #[.agg (Lr (tf (F.sha (bl s)))).toArray,.agg ((tf (F.sha (bl s))).drop 32).toArray]):=by kernel_rfl
theorem Hp (F:Fs) (n p:Nat):sfunG Tryz.prog (EF F) MA 60 Tryz.f20 (ag Tryz.f20) [bv n,bv p]=some ([IsB (bv n)∧IsB (bv p)],bv (F.pml (ai (bv n)) (ai (bv p)))):=by kernel_rfl
theorem I2 (F:Fs) (p q:Nat):sfunG Tryz.prog (EF F) MA 60 Tryz.f43 (ag Tryz.f43) [bv p,bv q]=some ([IsB (bv q),IsB (bv p)∧IsB (bv (F.neg (ai (bv q))))],bv (F.add (ai (bv p)) (ai (bv (F.neg (ai (bv q))))))):=by kernel_rfl
def kD (n:Nat) (S:Nat→Int):List Value:=(List.range n).map fun i => .int .u8 (S i)
theorem Iy (F:Fs) (S:Nat→Int):sfunG Tryz.prog (EF F) MA 60 Tryz.f34 (ag Tryz.f34) [.agg (kD 80 S).toArray]=some ([],.tuple #[.agg ((kD 80 S).take 32).toArray,.agg (((kD 80 S).drop 32).take 16).toArray,.agg ((kD 80 S).drop 48).toArray]):=by kernel_rfl
theorem FR (F:Fs) (S:Nat→Int):sfunG Tryz.prog (EF F) MA 60 Tryz.f26 (ag Tryz.f26) [.agg (kD 16 S).toArray]=some ([],.agg (kD 16 S ++ List.replicate 16 (Value.int .u8 0)).toArray):=by kernel_rfl
theorem EZ (F:Fs) (S:Nat→Int):sfunG Tryz.prog (EF F) MA 60 Tryz.f37 (ag Tryz.f37) [.agg (kD 80 S).toArray]=some ([],.tuple #[.agg ((kD 80 S).take 32).toArray,.agg (((kD 80 S).drop 32).take 16 ++ List.replicate 16 (Value.int .u8 0)).toArray,.agg ((kD 80 S).drop 48).toArray]):=by kernel_rfl
def BD (x:List Int):List Int:=bits .andNot .u8 (Wi.gi x 0) 7 :: ((x.drop 1).take 30 ++ [bits .or .u8 (bits .andNot .u8 (Wi.gi x 31) 128) 64])
theorem yH (x:List Int) (i:Nat) (hi:i<x.length):j8 (Wi.bv x) i=Wi.gi x i:=by unfold j8;rw [Wi.de x hi]
theorem Gf {x:List Int} (h:x.length=64):Lr (Wi.bv x)=Wi.bv (BD x):=by
 unfold Lr BD
 rw [yH x 0 (by omega),yH x 31 (by omega)]
 simp only [Wi.bv,List.map_cons,List.map_append,List.map_nil,List.map_drop,List.map_take]
theorem zq (op:BinOp) (a b:Int):0≤bits op .u8 a b∧bits op .u8 a b≤255:=⟨bits_lo_u8 op a b,by have:=bits_hi_u8 op a b;omega⟩
theorem DZ {x:List Int} (h:x.length=64) (hb:Wi.Byt x):Wi.L32 (BD x):=by
 refine ⟨by simp [BD];omega,fun z hz => ?_⟩
 rcases List.mem_cons.1 hz with rfl | hz
 ·exact zq _ _ _
 ·rcases List.mem_append.1 hz with hz | hz
  ·exact hb z (List.mem_of_mem_drop (List.mem_of_mem_take hz))
  ·rw [YJ.1 hz];exact zq _ _ _
def sk (s:List Int):List Int:=BD (Wi.h5 s)
def pf (s:List Int):List Int:=(Wi.h5 s).drop 32
theorem oI (s:List Int):Wi.L32 (sk s):=DZ (Wi.bq s) (Wi.dS s)
theorem tc (s:List Int):Wi.L32 (pf s):=⟨by rw [pf,List.length_drop,Wi.bq],fun z hz=>Wi.dS s z (List.mem_of_mem_drop hz)⟩
def Qm (s:Nat):Nat × Nat:=(Wi.le (sk (Wi.bi s)),Wi.le (pf (Wi.bi s)))
def R0:Fs:=⟨sG,fx,pc,addN,rdE,vf,S0,Qm⟩
theorem nG:(EF R0).Ok Tryz.prog:=HU (It (Ht (GU (Lw (Cx.glo_ok Cx.none_ok (by intro g hg;cases hg)) JY) KX) xv) xv) xv
theorem xn (s:Nat) (hs:s<RN) (w:World) (hw:Glo MA w):Calls Tryz.prog 17 #[bv s] w fun e w'=>e = .returned (.tuple #[.agg (Wi.bv (sk (Wi.bi s))).toArray,.agg (Wi.bv (pf (Wi.bi s))).toArray])∧Below w.heap.size w w':=by
 have run:=GQ R0 s
 have e:tf (R0.sha (bl s))=Wi.bv (Wi.h5 (Wi.bi s)):=by
  show tf (S0 (bl s))=_
  rw [Eu,cX,YK hs]
 have e2:(Wi.bv (Wi.h5 (Wi.bi s))).drop 32=Wi.bv (pf (Wi.bi s)):=by unfold pf Wi.bv;rw [List.map_drop]
 rw [e,Gf (Wi.bq _),e2] at run
 refine aH nG mixed fM nJ Tryz.func17 (by kernel_rfl) run (fun p hp => ?_) (by simp [aB]) (.inl ?_) w hw
 ·rw [YJ.1 hp];exact aJ s
 ·have f1:=Wi.cH (oI (Wi.bi s))
  have f2:=Wi.cH (tc (Wi.bi s))
  unfold sk at f1
  rw [f1,f2];rfl
theorem oa {n p:List Int} (hn:Wi.L32 n) (hp:Wi.L32 p) (w:World) (hw:Glo MA w):Calls Tryz.prog 20 #[.agg (Wi.bv n).toArray,.agg (Wi.bv p).toArray] w fun e w'=>e = .returned (.agg (Wi.bv (Wi.Ml n p)).toArray)∧Below w.heap.size w w':=by
 have run:=Hp R0 (Wi.le n) (Wi.le p)
 have e1:R0.pml=fx:=rfl
 rw [e1,ao (Wi.cU hn),ao (Wi.cU hp)] at run
 rw [Wi.cH hn,Wi.cH hp,Wi.Ml,Wi.eL]
 exact aH nG mixed fM nJ Tryz.func20 (by kernel_rfl) run (fun q hq=>by
  rw [YJ.1 hq];exact ⟨aJ _,aJ _⟩) (by simp [aB]) (.inl (aB _)) w hw
theorem Ch {p q:List Int} (hp:Wi.L32 p) (hq:Wi.L32 q) (w:World) (hw:Glo MA w):Calls Tryz.prog 43 #[.agg (Wi.bv p).toArray,.agg (Wi.bv q).toArray] w fun e w'=>e = .returned (.agg (Wi.bv (Wi.Ad p (Wi.Ng q))).toArray)∧Below w.heap.size w w':=by
 have run:=I2 R0 (Wi.le p) (Wi.le q)
 have e3:R0.neg=pc:=rfl
 have e4:R0.add=addN:=rfl
 rw [e3,e4,ao (Wi.cU hp),ao (Wi.cU hq),ao (mT _)] at run
 rw [Wi.cH hp,Wi.cH hq,Wi.Ad,Wi.Ng,Wi.eL,Wi.jx (mT _)]
 exact aH nG mixed fM nJ Tryz.func43 (by kernel_rfl) run (fun r hr=>by
  simp only [List.mem_cons,List.not_mem_nil,or_false] at hr
  rcases hr with rfl | rfl
  ·exact aJ _
  ·exact ⟨aJ _,aJ _⟩) (by simp [aB]) (.inl (aB _)) w hw
end Go.Proofs.YtajehiidpecknaaGreatDoor.Ve
