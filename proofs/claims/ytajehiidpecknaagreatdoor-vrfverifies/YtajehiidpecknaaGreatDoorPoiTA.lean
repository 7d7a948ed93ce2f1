import Derived.Test.YtajehiidpecknaaGreatDoorPoiJ
set_option linter.all false
namespace Go.Proofs.YtajehiidpecknaaGreatDoor
open Go Go.RowKit
def q16 (p:P4):List Value:=nl p.x ++ (nl p.y ++ (nl p.z ++ nl p.t))
def qv (p:P4):Value := .agg (q16 p).toArray
def q4:Value→P4
 | .agg cs=>⟨kW (cs.toList.take 4),kW ((cs.toList.drop 4).take 4),kW ((cs.toList.drop 8).take 4),kW ((cs.toList.drop 12).take 4)⟩
 | _=>⟨0,0,0,0⟩
theorem qV {p:P4} (h:p.ok):q4 (qv p)=p:=by
 obtain ⟨x,y,z,t⟩:=p
 obtain ⟨h1,h2,h3,h4⟩:=h
 simp only at h1 h2 h3 h4
 have e:q4 (qv ⟨x,y,z,t⟩)=⟨kW (nl x),kW (nl y),kW (nl z),kW (nl t)⟩:=rfl
 rw [e,gV h1,gV h2,gV h3,gV h4]
def IsQ (A:Value):Prop:=A=qv (q4 A)∧(q4 A).ok
theorem lg {p:P4} (h:p.ok):IsQ (qv p):=by unfold IsQ;rw [qV h];exact ⟨rfl,h⟩
theorem dQ (p:P4):flat (qv p)=true:=rfl
def IW (A B:Value):Prop:=IsW A∧IsW B
theorem iw {a b:Nat} (ha:a<RN) (hb:b<RN):IW (nv a) (nv b):=⟨eV ha,eV hb⟩
theorem vWA {a b:Nat} (ha:a<RN) (hb:b<RN):WA (nv a) (nv b)=nv (rfa a b):=by unfold WA;rw [aX ha,aX hb]
theorem vWS {a b:Nat} (ha:a<RN) (hb:b<RN):WS (nv a) (nv b)=nv (rfs a b):=by unfold WS;rw [aX ha,aX hb]
theorem vWM {a b:Nat} (ha:a<RN) (hb:b<RN):WM (nv a) (nv b)=nv (rfm a b):=by unfold WM;rw [aX ha,aX hb]
theorem vWI {a:Nat} (ha:a<RN):WI (nv a)=nv (rfi a):=by unfold WI;rw [aX ha]
theorem cV:DN'<RN:=by decide
theorem Bu:sfun Tryz.prog H0 60 Tryz.f93 (ag Tryz.f93) []=some ([],qv iB):=by kernel_rfl
def gRneu:List Value→Option (List Prop × Value)
 | []=>some ([],qv iB)
 | _=>none
theorem tH {X:Cx} (hX:X.Ok Tryz.prog):(X.pure 93 gRneu).Ok Tryz.prog:=by
 refine aC hX Tryz.func93 (by kernel_rfl) (by kernel_rfl) ?_
 intro args ps v ha hg hp
 unfold gRneu at hg
 split at hg
 ·simp only [qG,qH] at hg
  obtain ⟨rfl,rfl⟩:=hg
  exact ⟨.inl (dQ _),au nJ mixed Tryz.func93 (by kernel_rfl) Bu (by simp) rfl (.inl (dQ _))⟩
 ·simp at hg
def saV (p q:P4):Value:=WM (WS (nv p.y) (nv p.x)) (WS (nv q.y) (nv q.x))
def sbV (p q:P4):Value:=WM (WA (nv p.y) (nv p.x)) (WA (nv q.y) (nv q.x))
def scV (p q:P4):Value:=WM (WM (nv p.t) (nv q.t)) (WA (nv DN') (nv DN'))
def sdV (p q:P4):Value:=WM (WA (nv p.z) (nv p.z)) (nv q.z)
def JU (E G H I:Value):P4:=⟨rfm (bf E) (bf G),rfm (bf H) (bf I),rfm (bf G) (bf H),rfm (bf E) (bf I)⟩
theorem Cm (p q:P4):sfun Tryz.prog H0 60 Tryz.f48 (ag Tryz.f48) [qv p,qv q]=some ([
  IW (nv p.y) (nv p.x),IW (nv q.y) (nv q.x),IW (WS (nv p.y) (nv p.x)) (WS (nv q.y) (nv q.x)),
  IW (nv p.y) (nv p.x),IW (nv q.y) (nv q.x),IW (WA (nv p.y) (nv p.x)) (WA (nv q.y) (nv q.x)),
  IW (nv p.t) (nv q.t),IW (nv DN') (nv DN'),IW (WM (nv p.t) (nv q.t)) (WA (nv DN') (nv DN')),
  IW (nv p.z) (nv p.z),IW (WA (nv p.z) (nv p.z)) (nv q.z),
  IW (sbV p q) (saV p q),IW (sdV p q) (scV p q),IW (sdV p q) (scV p q),IW (sbV p q) (saV p q),
  IW (WS (sbV p q) (saV p q)) (WS (sdV p q) (scV p q)),IW (WA (sdV p q) (scV p q)) (WA (sbV p q) (saV p q)),IW (WS (sdV p q) (scV p q)) (WA (sdV p q) (scV p q)),IW (WS (sbV p q) (saV p q)) (WA (sbV p q) (saV p q))],
  qv (JU (WS (sbV p q) (saV p q)) (WS (sdV p q) (scV p q)) (WA (sdV p q) (scV p q)) (WA (sbV p q) (saV p q)))):=by kernel_rfl
def raN (p q:P4):Nat:=rfm (rfs p.y p.x) (rfs q.y q.x)
def rbN (p q:P4):Nat:=rfm (rfa p.y p.x) (rfa q.y q.x)
def rcN (p q:P4):Nat:=rfm (rfm p.t q.t) (rfa DN' DN')
def rdN (p q:P4):Nat:=rfm (rfa p.z p.z) q.z
def aT (p q:P4):P4 :=
 ⟨rfm (rfs (rbN p q) (raN p q)) (rfs (rdN p q) (rcN p q)),rfm (rfa (rdN p q) (rcN p q)) (rfa (rbN p q) (raN p q)),rfm (rfs (rdN p q) (rcN p q)) (rfa (rdN p q) (rcN p q)),rfm (rfs (rbN p q) (raN p q)) (rfa (rbN p q) (raN p q))⟩
theorem sP {p q:P4} (hp:p.ok) (hq:q.ok):raN p q<RN:=bE (bO _ hp.y) (bO _ hq.y)
theorem kC {p q:P4} (hp:p.ok) (hq:q.ok):rbN p q<RN:=bE (bB hp.y hp.x) (bB hq.y hq.x)
theorem rI {p q:P4} (hp:p.ok) (hq:q.ok):rcN p q<RN:=bE (bE hp.t hq.t) (bB cV cV)
theorem kM {p q:P4} (hp:p.ok) (hq:q.ok):rdN p q<RN:=bE (bB hp.z hp.z) hq.z
theorem dI {p q:P4} (hp:p.ok) (hq:q.ok):(aT p q).ok :=
 ⟨bE (bO _ (kC hp hq)) (bO _ (kM hp hq)),bE (bB (kM hp hq) (rI hp hq)) (bB (kC hp hq) (sP hp hq)),bE (bO _ (kM hp hq)) (bB (kM hp hq) (rI hp hq)),bE (bO _ (kC hp hq)) (bB (kC hp hq) (sP hp hq))⟩
theorem u9 (p q:P4) (hp:p.ok) (hq:q.ok) (w:World):Calls Tryz.prog 48 #[qv p,qv q] w fun e w'=>e = .returned (qv (aT p q))∧Below w.heap.size w w':=by
 have run:=Cm p q
 have la:=sP hp hq
 have lb:=kC hp hq
 have lc:=rI hp hq
 have ld:=kM hp hq
 have ea:saV p q=nv (raN p q):=by unfold saV;rw [vWS hp.y hp.x,vWS hq.y hq.x,vWM (bO _ hp.y) (bO _ hq.y)];rfl
 have eb:sbV p q=nv (rbN p q):=by unfold sbV;rw [vWA hp.y hp.x,vWA hq.y hq.x,vWM (bB hp.y hp.x) (bB hq.y hq.x)];rfl
 have ec:scV p q=nv (rcN p q):=by unfold scV;rw [vWM hp.t hq.t,vWA cV cV,vWM (bE hp.t hq.t) (bB cV cV)];rfl
 have ed:sdV p q=nv (rdN p q):=by unfold sdV;rw [vWA hp.z hp.z,vWM (bB hp.z hp.z) hq.z];rfl
 rw [ea,eb,ec,ed,vWS lb la,vWS ld lc,vWA ld lc,vWA lb la,vWS hp.y hp.x,vWS hq.y hq.x,vWA hp.y hp.x,vWA hq.y hq.x,vWM hp.t hq.t,vWA cV cV,vWA hp.z hp.z] at run
 have lE:rfs (rbN p q) (raN p q)<RN:=bO _ lb
 have lG:rfs (rdN p q) (rcN p q)<RN:=bO _ ld
 have lH:rfa (rdN p q) (rcN p q)<RN:=bB ld lc
 have lI:rfa (rbN p q) (raN p q)<RN:=bB lb la
 have eq:JU (nv (rfs (rbN p q) (raN p q))) (nv (rfs (rdN p q) (rcN p q))) (nv (rfa (rdN p q) (rcN p q))) (nv (rfa (rbN p q) (raN p q)))=aT p q:=by
  unfold JU;rw [aX lE,aX lG,aX lH,aX lI];rfl
 rw [eq] at run
 exact au nJ mixed Tryz.func48 (by kernel_rfl) run (al (iw hp.y hp.x) (al (iw hq.y hq.x) (al (iw (bO _ hp.y) (bO _ hq.y)) (al (iw hp.y hp.x) (al (iw hq.y hq.x) (al (iw (bB hp.y hp.x) (bB hq.y hq.x)) (al (iw hp.t hq.t) (al (iw cV cV) (al (iw (bE hp.t hq.t) (bB cV cV)) (al (iw hp.z hp.z) (al (iw (bB hp.z hp.z) hq.z) (al (iw lb la) (al (iw ld lc) (al (iw ld lc) (al (iw lb la) (al (iw lE lG) (al (iw lH lI) (al (iw lG lH) (al (iw lE lI) al0))))))))))))))))))) rfl (.inl (dQ _)) w
def gRsum:List Value→Option (List Prop × Value)
 | [A,B]=>some ([IsQ A∧IsQ B],qv (aT (q4 A) (q4 B)))
 | _=>none
theorem nB {X:Cx} (hX:X.Ok Tryz.prog):(X.pure 48 gRsum).Ok Tryz.prog:=by
 refine aC hX Tryz.func48 (by kernel_rfl) (by kernel_rfl) ?_
 intro args ps v ha hg hp
 unfold gRsum at hg
 split at hg
 ·rename_i A B
  simp only [qG,qH] at hg
  obtain ⟨rfl,rfl⟩:=hg
  obtain ⟨⟨hA,lA⟩,⟨hB,lB⟩⟩:=hp _ (YJ.2 rfl)
  refine ⟨.inl (dQ _),fun w => ?_⟩
  have h:=u9 (q4 A) (q4 B) lA lB w
  rw [←hA,←hB] at h
  exact h
 ·simp at hg
def iH (p:P4):P4:=⟨rfs 0 p.x,p.y,p.z,rfs 0 p.t⟩
theorem ga {p:P4} (h:p.ok):(iH p).ok:=⟨bO _ (by decide),h.y,h.z,bO _ (by decide)⟩
theorem ug (p:P4):sfun Tryz.prog H0 60 Tryz.f50 (ag Tryz.f50) [qv p]=some ([IW (nv 0) (nv p.x),IW (nv 0) (nv p.t)],qv ⟨rfs (bf (nv 0)) (bf (nv p.x)),p.y,p.z,rfs (bf (nv 0)) (bf (nv p.t))⟩):=by kernel_rfl
def gRmir:List Value→Option (List Prop × Value)
 | [A]=>some ([IsQ A],qv (iH (q4 A)))
 | _=>none
theorem tW {X:Cx} (hX:X.Ok Tryz.prog):(X.pure 50 gRmir).Ok Tryz.prog:=by
 refine aC hX Tryz.func50 (by kernel_rfl) (by kernel_rfl) ?_
 intro args ps v ha hg hp
 unfold gRmir at hg
 split at hg
 ·rename_i A
  simp only [qG,qH] at hg
  obtain ⟨rfl,rfl⟩:=hg
  obtain ⟨hA,lA⟩:=hp _ (YJ.2 rfl)
  refine ⟨.inl (dQ _),fun w => ?_⟩
  have run:=ug (q4 A)
  rw [aX (n:=0) (by decide),aX lA.x,aX lA.t] at run
  have h:=au nJ mixed Tryz.func50 (by kernel_rfl) run (al (iw (by decide) lA.x) (al (iw (by decide) lA.t) al0)) rfl (.inl (dQ _)) w
  rw [←hA] at h
  exact h
 ·simp at hg
def eiV (p:P4):Value:=WI (nv p.z)
def exN (p:P4):Nat:=rfm p.x (rfi p.z) % pp
def eyN (p:P4):Nat:=rfm p.y (rfi p.z) % pp
def exS (p:P4):Nat:=bf (WM (nv p.x) (eiV p)) % pp
def eyS (p:P4):Nat:=bf (WM (nv p.y) (eiV p)) % pp
def EJ (x:Nat):Int:=IntKind.u8.wrap (Int.tmod (lw x 0) 2)
def Jh (y x:Nat):Value := .agg ((bl y).take 31 ++ [Value.int .u8 (bits .or .u8 (by8 y 31) (IntKind.u8.wrap (EJ x*2 ^ 7)))]).toArray
theorem xz (p:P4):sfun Tryz.prog H0 60 Tryz.f47 (ag Tryz.f47) [qv p]=some ([IsW (nv p.z),IW (nv p.x) (eiV p),IsW (WM (nv p.x) (eiV p)),IW (nv p.y) (eiV p),IsW (WM (nv p.y) (eiV p))],Jh (eyS p) (exS p)):=by kernel_rfl
theorem xP (x:Nat):EJ x=((x % 2:Nat):Int):=by
 have h:Int.tmod (lw x 0) 2=((x % 2:Nat):Int):=by
  unfold lw
  rw [Nat.pow_zero,Nat.div_one]
  show ((x % 18446744073709551616 % 2:Nat):Int)=_
  congr 1
  omega
 have hx:x % 2<2:=Nat.mod_lt _ (by decide)
 unfold EJ
 rw [h]
 rcases (by omega:x % 2=0∨x % 2=1) with e | e <;> rw [e] <;> rfl
theorem or_zero : ∀ y:Fin 256,bits .or .u8 ((y.val:Nat):Int) 0=((y.val:Nat):Int):=by decide +kernel
theorem yf (y x:Nat) (hy:y<TT):Jh y x=bv (y+x % 2*TT):=by
 have hx:x % 2<2:=Nat.mod_lt _ (by decide)
 unfold Jh
 rw [xP]
 rcases (by omega:x % 2=0∨x % 2=1) with e | e
 ·rw [e,Nat.zero_mul,Nat.add_zero]
  have hb:y/256 ^ 31 % 256<256:=Nat.mod_lt _ (by decide)
  have o:=or_zero ⟨y/256 ^ 31 % 256,hb⟩
  have e2:IntKind.u8.wrap (((0:Nat):Int)*2 ^ 7)=0:=by decide
  rw [e2]
  have o':bits .or .u8 (by8 y 31) 0=by8 y 31:=o
  rw [o',←nk]
  rfl
 ·rw [e,Nat.one_mul]
  have e2:IntKind.u8.wrap (((1:Nat):Int)*2 ^ 7)=128:=by decide
  rw [e2]
  exact rH y hy
def wqN (p:P4):Nat:=eyN p+exN p % 2*TT
def yC:List Value→Option (List Prop × Value)
 | [A]=>some ([IsQ A],bv (wqN (q4 A)))
 | _=>none
theorem tR {X:Cx} (hX:X.Ok Tryz.prog):(X.pure 47 yC).Ok Tryz.prog:=by
 refine aC hX Tryz.func47 (by kernel_rfl) (by kernel_rfl) ?_
 intro args ps v ha hg hp
 unfold yC at hg
 split at hg
 ·rename_i A
  simp only [qG,qH] at hg
  obtain ⟨rfl,rfl⟩:=hg
  obtain ⟨hA,lA⟩:=hp _ (YJ.2 rfl)
  refine ⟨.inl (aE _),fun w => ?_⟩
  have run:=xz (q4 A)
  have lz:=nQ lA.z
  have e1:eiV (q4 A)=nv (rfi (q4 A).z):=vWI lA.z
  have e2:exS (q4 A)=exN (q4 A):=by unfold exS exN;rw [e1,vWM lA.x lz,aX (bE lA.x lz)]
  have e3:eyS (q4 A)=eyN (q4 A):=by unfold eyS eyN;rw [e1,vWM lA.y lz,aX (bE lA.y lz)]
  have ly:eyN (q4 A)<TT:=Nat.lt_trans (Nat.mod_lt _ (by decide)) fj
  rw [e2,e3,e1,vWM lA.x lz,vWM lA.y lz,yf _ _ ly] at run
  have h:=au nJ mixed Tryz.func47 (by kernel_rfl) run (al (eV lA.z) (al (iw lA.x lz) (al (eV (bE lA.x lz)) (al (iw lA.y lz) (al (eV (bE lA.y lz)) al0))))) rfl (.inl (aE _)) w
  rw [←hA] at h
  exact h
 ·simp at hg
def H1:Cx:=(((H0.pure 93 gRneu).pure 48 gRsum).pure 50 gRmir).pure 47 yC
theorem Kt:H1.Ok Tryz.prog:=tR (tW (nB (tH nJ)))
theorem BH (d x1 y1 z1 t1 x2 y2 z2 t2:KK):(⟨((y1+x1)*(y2+x2) - (y1 - x1)*(y2 - x2))*((z1+z1)*z2 - t1*t2*(d+d)),((z1+z1)*z2+t1*t2*(d+d))*((y1+x1)*(y2+x2)+(y1 - x1)*(y2 - x2)),((z1+z1)*z2 - t1*t2*(d+d))*((z1+z1)*z2+t1*t2*(d+d)),((y1+x1)*(y2+x2) - (y1 - x1)*(y2 - x2))*((y1+x1)*(y2+x2)+(y1 - x1)*(y2 - x2))⟩:E4 KK)=zK d ⟨x1,y1,z1,t1⟩ ⟨x2,y2,z2,t2⟩:=by
 unfold zK wJ
 simp only [E4.mk.injEq]
 refine ⟨?_,?_,?_,?_⟩ <;> grind
theorem km {a b:P4} {p q:PT} (la:a.ok) (lb:b.ok) (ha:Rep (cP a) p) (hb:Rep (cP b) q):Rep (cP (aT a b)) (vq p q):=by
 have h:=mN FK ha hb
 have l1:=sP la lb
 have l2:=kC la lb
 have l3:=rI la lb
 have l4:=kM la lb
 have k1:cK (raN a b)=(cK a.y - cK a.x)*(cK b.y - cK b.x):=by unfold raN;rw [cY (bO _ la.y) (bO _ lb.y),jL _ la.y,jL _ lb.y]
 have k2:cK (rbN a b)=(cK a.y+cK a.x)*(cK b.y+cK b.x):=by unfold rbN;rw [cY (bB la.y la.x) (bB lb.y lb.x),jO la.y la.x,jO lb.y lb.x]
 have k3:cK (rcN a b)=(cK a.t*cK b.t)*(DK+DK):=by unfold rcN;rw [cY (bE la.t lb.t) (bB cV cV),cY la.t lb.t,jO cV cV];rfl
 have k4:cK (rdN a b)=(cK a.z+cK a.z)*cK b.z:=by unfold rdN;rw [cY (bB la.z la.z) lb.z,jO la.z la.z]
 have e:cP (aT a b)=zK DK (cP a) (cP b):=by
  unfold cP aT
  simp only
  rw [cY (bO _ l2) (bO _ l4),cY (bB l4 l3) (bB l2 l1),cY (bO _ l4) (bB l4 l3),cY (bO _ l2) (bB l2 l1),jL _ l2,jL _ l4,jO l4 l3,jO l2 l1,k1,k2,k3,k4]
  exact BH DK (cK a.x) (cK a.y) (cK a.z) (cK a.t) (cK b.x) (cK b.y) (cK b.z) (cK b.t)
 rw [e];exact h
theorem uy {a:P4} {p:PT} (ha:Rep (cP a) p):Rep (cP (iH a)) p.neg:=by
 have e:cP (iH a)=zt (cP a):=by
  unfold iH zt cP
  simp only
  rw [jL _ (show 0<RN by decide),jL _ (show 0<RN by decide),kl]
 rw [e];exact ya ha
theorem w8 {a:P4} {p:PT} (la:a.ok) (h:Rep (cP a) p):wqN a=enc p:=by
 obtain ⟨h1,h2,h3,_⟩:=h
 have hz:cK a.z≠0:=h1
 have iv:=FK.inv _ hz
 have hx:cK a.x=p.x*cK a.z:=h2
 have hy:cK a.y=p.y*cK a.z:=h3
 have lz:=nQ la.z
 have kx:cK (exN a)=p.x:=by
  unfold exN;rw [oE,cY la.x lz,vg la.z,hx]
  have:=gO p.x (cK a.z) (l6 (cK a.z))
  rw [this,iv,j5]
 have ky:cK (eyN a)=p.y:=by
  unfold eyN;rw [oE,cY la.y lz,vg la.z,hy]
  have:=gO p.y (cK a.z) (l6 (cK a.z))
  rw [this,iv,j5]
 unfold wqN enc
 rw [←oL (Nat.mod_lt _ (by decide)) kx,←oL (Nat.mod_lt _ (by decide)) ky]
 rfl
end Go.Proofs.YtajehiidpecknaaGreatDoor
namespace Go.Proofs.YtajehiidpecknaaGreatDoor
open Go Go.RowKit
def ohd (t22 t50 n:Nat) (p out:P4) (i:Int):Act × Mem :=
 (⟨#[dk,dk,.pointer (some ⟨0,0,none⟩),.pointer (some ⟨1,0,none⟩),.pointer (some ⟨2,0,none⟩),.pointer (some ⟨3,0,none⟩),.int .i64 i] ++ Array.replicate 22 dk,[]⟩,
  [some ⟨bl n,t22⟩,some ⟨q16 p,t50⟩,some ⟨q16 ⟨0,0,0,0⟩,t50⟩,some ⟨q16 out,t50⟩])
def oF:List Nat:=[0,1] ++ (List.range 22).map (· + 7)
def oK (s:Act × Mem):Act × Mem:=(forgetL s.1 oF,s.2)
def oLB (fn:Func):Code:=cL (cL (cR (cL (cR (cR (ag fn))))))
def oT (fn:Func):Code:=cR (cR (cR (ag fn)))
def gRS (S:P4→P4→P4):List Value→Option (List Prop × Value)
 | [A,B]=>some ([IsQ A∧IsQ B],qv (S (q4 A) (q4 B)))
 | _=>none
def HS (S:P4→P4→P4):Cx:=(Cx.none.pure 93 gRneu).pure 48 (gRS S)
theorem Jf:gRS aT=gRsum:=rfl
theorem ow:(HS aT).Ok Tryz.prog:=by
 unfold HS
 rw [Jf]
 exact nB (tH Cx.none_ok)
def HtX (S:P4→P4→P4):Cx:=(HS S).terms
theorem nO:(HtX aT).Ok Tryz.prog:=Cx.terms_ok ow
def os1 (S:P4→P4→P4) (P:Program) (fn:Func) (n:Nat) (p:P4):Act × Mem:=dh P (HS S) 20 (cL (ag fn)) (cd fn [bv n,qv p],[])
def os2 (S:P4→P4→P4) (P:Program) (fn:Func) (n:Nat) (p:P4):Act × Mem:=dh P (HS S) 20 (cL (cR (ag fn))) (os1 S P fn n p)
def os3 (S:P4→P4→P4) (P:Program) (fn:Func) (n:Nat) (p:P4):Act × Mem:=dh P (HS S) 20 (cL (cL (cR (cR (ag fn))))) (os2 S P fn n p)
theorem o_1 (S:P4→P4→P4) (n:Nat) (p:P4):kR (sexec Tryz.prog (HS S) 20 (cL (ag Tryz.f49)) [] (cd Tryz.f49 [bv n,qv p],[]))=some ([],.normal):=by kernel_rfl
theorem o_2 (S:P4→P4→P4) (n:Nat) (p:P4):kR (sexec Tryz.prog (HS S) 20 (cL (cR (ag Tryz.f49))) [] (os1 S Tryz.prog Tryz.f49 n p))=some ([],.normal):=by kernel_rfl
theorem o_3 (S:P4→P4→P4) (n:Nat) (p:P4):kR (sexec Tryz.prog (HS S) 20 (cL (cL (cR (cR (ag Tryz.f49))))) [] (os2 S Tryz.prog Tryz.f49 n p))=some ([],.normal):=by kernel_rfl
theorem o_h (S:P4→P4→P4) (n:Nat) (p:P4):oK (os3 S Tryz.prog Tryz.f49 n p)=ohd 22 70 n p iB 255:=by kernel_rfl
def oQ (i:Int):Int:=IntKind.i64.wrap (Int.tdiv i 8)
def oU (i:Int):Int:=IntKind.u64.wrap (Int.tmod i 8)
def oY (n:Nat) (i:Int):Int:=kL (bl n) (0+(oQ i).toNat*1)
def oB (n:Nat) (i:Int):Int:=bits .and .u8 (Int.fdiv (oY n i) (2 ^ min (oU i).toNat 8)) 1
def oO (n:Nat) (i:Int):List Prop:=[0≤oQ i∧oQ i<((32:Nat):Int),(bl n)[0+(oQ i).toNat*1]? = some (.int .u8 (oY n i)),0≤oU i]
def o2 (S:P4→P4→P4) (out:P4):P4:=S (q4 (qv out)) (q4 (qv out))
def oB1 (fn:Func):Code:=cL (cL (cR (oLB fn)))
def oR4 (fn:Func):Code:=cR (cR (oLB fn))
theorem MV (S:P4→P4→P4) (n:Nat) (p out:P4) (i:Int):proj oK (sexec Tryz.prog ((HtX S).tell [(9,true)]) 40 (cL (oLB Tryz.f49)) [] (ohd 22 70 n p out i))=some ([decide (i≥0)=true],ohd 22 70 n p out i):=by kernel_rfl
theorem o_5 (S:P4→P4→P4) (n:Nat) (p out:P4) (i:Int):proj oK (sexec Tryz.prog (HtX S) 40 (cL (oB1 Tryz.f49)) [] (ohd 22 70 n p out i))=some ([IsQ (qv out)∧IsQ (qv out)],ohd 22 70 n p (o2 S out) i):=by kernel_rfl
theorem o_t (S:P4→P4→P4) (n:Nat) (p out:P4) (i:Int):proj oK (sexec Tryz.prog ((HtX S).tell [(24,true)]) 40 (cR (oB1 Tryz.f49)) [] (ohd 22 70 n p out i))=some (oO n i ++ [(oB n i == 1)=true,IsQ (qv out)∧IsQ (qv p)],ohd 22 70 n p (S (q4 (qv out)) (q4 (qv p))) i):=by kernel_rfl
theorem o_f (S:P4→P4→P4) (n:Nat) (p out:P4) (i:Int):proj oK (sexec Tryz.prog ((HtX S).tell [(24,false)]) 40 (cR (oB1 Tryz.f49)) [] (ohd 22 70 n p out i))=some (oO n i ++ [(oB n i == 1)=false],ohd 22 70 n p out i):=by kernel_rfl
theorem o_4 (S:P4→P4→P4) (n:Nat) (p out:P4) (i:Int):proj oK (sexec Tryz.prog (HS S) 40 (oR4 Tryz.f49) [] (ohd 22 70 n p out i))=some ([],ohd 22 70 n p out (IntKind.i64.wrap (i - 1))):=by kernel_rfl
def oX (S:P4→P4→P4) (P:Program) (fn:Func) (t22 t50 n:Nat) (p out:P4) (i:Int):Act × Mem:=dh P ((HtX S).tell [(9,false)]) 40 (cL (oLB fn)) (ohd t22 t50 n p out i)
theorem o_x (S:P4→P4→P4) (n:Nat) (p out:P4) (i:Int):kR (sexec Tryz.prog ((HtX S).tell [(9,false)]) 40 (cL (oLB Tryz.f49)) [] (ohd 22 70 n p out i))=some ([decide (i≥0)=false],.exit 0):=by kernel_rfl
theorem o_z (S:P4→P4→P4) (n:Nat) (p out:P4) (i:Int):kR (sexec Tryz.prog (HS S) 40 (oT Tryz.f49) [] (oX S Tryz.prog Tryz.f49 22 70 n p out i))=some ([],.ret):=by kernel_rfl
theorem o_r (S:P4→P4→P4) (n:Nat) (p out:P4) (i:Int):sres Tryz.prog Tryz.f49 (dh Tryz.prog (HS S) 40 (oT Tryz.f49) (oX S Tryz.prog Tryz.f49 22 70 n p out i))=some (qv out):=by kernel_rfl
theorem o_d (S:P4→P4→P4) (n:Nat) (p out:P4) (i:Int):(dh Tryz.prog (HS S) 40 (oT Tryz.f49) (oX S Tryz.prog Tryz.f49 22 70 n p out i)).1.defers = []:=by kernel_rfl
theorem Lj (n:Nat) (p T:P4) (i:Int):SW Tryz.prog [] (oT Tryz.f49) (oX aT Tryz.prog Tryz.f49 22 70 n p T i) (fun e s=>(e = .normal∨e = .ret)∧s.1.defers = [] ∧ ∃ v x,sres Tryz.prog Tryz.f49 s=some v∧(flat v=true∨v=undef)∧s.2 = [] ++ x∧v=qv T):=by
 refine SW.run (X:=HS aT) ow mixed 40 (dE (o_z aT n p T i)) (by simp) ?_
 exact ⟨.inr rfl,o_d aT n p T i,qv T,_,o_r aT n p T i,.inl (dQ T),(List.nil_append _).symm,rfl⟩
def oR (p:P4) (n:Nat):Nat→P4
 | 0=>iB
 | j+1=>if n/2 ^ (255 - j) % 2=1 then aT (aT (oR p n j) (oR p n j)) p else aT (oR p n j) (oR p n j)
theorem ka {p:P4} (hp:p.ok) (n:Nat) : ∀ j,(oR p n j).ok
 | 0=>sN
 | j+1=>by
  have ih:=ka hp n j
  unfold oR
  split
  ·exact dI (dI ih ih) hp
  ·exact dI ih ih
def eg (n:Nat) (p:P4):P4:=oR p n 256
theorem Hj (j:Nat) (hj:j<256):oQ (j:Int)=((j/8:Nat):Int):=by
 unfold oQ
 rw [Int.tdiv_eq_ediv_of_nonneg (by omega),mA _ (by omega)]
 omega
theorem Hg (j:Nat) (hj:j<256):oU (j:Int)=((j % 8:Nat):Int):=by
 unfold oU
 rw [Int.tmod_eq_emod_of_nonneg (by omega)]
 have:(j:Int) % 8=((j % 8:Nat):Int):=by omega
 rw [this]
 have h8:j % 8<8:=Nat.mod_lt _ (by decide)
 have key : ∀ k:Fin 8,IntKind.u64.wrap ((k.val:Nat):Int)=((k.val:Nat):Int):=by decide +kernel
 exact key ⟨j % 8,h8⟩
theorem Hs (n j:Nat) (hj:j<256):(bl n)[0+(oQ (j:Int)).toNat*1]? = some (.int .u8 (oY n (j:Int)))∧oY n (j:Int)=((n/256 ^ (j/8) % 256:Nat):Int):=by
 have e:0+(oQ (j:Int)).toNat*1=j/8:=by rw [Hj j hj,Int.toNat_natCast];omega
 have hb:(bl n)[j/8]? = some (.int .u8 (by8 n (j/8))):=by simp [bl,show j/8<32 by omega]
 have ey:oY n (j:Int)=by8 n (j/8):=by unfold oY;rw [e];unfold kL;rw [hb]
 exact ⟨by rw [e,ey];exact hb,ey⟩
theorem K1 (n j:Nat) (hj:j<256) : ∀ p ∈ oO n (j:Int),p:=by
 unfold oO
 refine al ?_ (al (Hs n j hj).1 (al ?_ al0))
 ·rw [Hj j hj];omega
 ·rw [Hg j hj];omega
theorem DT : ∀ (y:Fin 256) (k:Fin 8),bits .and .u8 (Int.fdiv ((y.val:Nat):Int) (2 ^ min ((k.val:Nat):Int).toNat 8)) 1=((y.val/2 ^ k.val % 2:Nat):Int):=by decide +kernel
theorem LD (n j:Nat) (hj:j<256):oB n (j:Int)=((n/2 ^ j % 2:Nat):Int):=by
 unfold oB
 rw [(Hs n j hj).2,Hg j hj]
 have h:=DT ⟨n/256 ^ (j/8) % 256,Nat.mod_lt _ (by decide)⟩ ⟨j % 8,Nat.mod_lt _ (by decide)⟩
 simp only at h
 rw [h]
 congr 1
 have e1:(256:Nat) ^ (j/8)=2 ^ (8*(j/8)):=by rw [Nat.pow_mul]
 have e2:(256:Nat)=2 ^ (j % 8)*(2*2 ^ (7 - j % 8)):=by
  rw [←Nat.pow_succ',←Nat.pow_add,show j % 8+(7 - j % 8+1)=8 by omega]
 have e3:n/2 ^ j=n/2 ^ (8*(j/8))/2 ^ (j % 8):=by
  rw [YL,←Nat.pow_add,show 8*(j/8)+j % 8=j by omega]
 rw [e1,e3]
 generalize n/2 ^ (8*(j/8))=y
 conv=>lhs;rw [e2]
 rw [Nat.mod_mul_right_div_self,Nat.mod_mul_right_mod]
set_option maxRecDepth 10000 in
theorem pI (n:Nat) (hn:n<RN) {p:P4} (lp:p.ok) (w:World) :
  Calls Tryz.prog 49 #[bv n,qv p] w fun e w'=>e = .returned (qv (eg n p))∧Below w.heap.size w w':=by
 have hb:Tryz.f49.body=some (ag Tryz.f49):=by kernel_rfl
 refine (cM (gl:=[]) (m:=[]) (r:=fun _=>none) (R:=fun u=>u=qv (eg n p)) (args:=[bv n,qv p]) (args':=[bv n,qv p]) Tryz.func49 hb ?_ (Rel.nil w) (by simp) (ff (by simp [aE,dQ]))).mono ?_
 ·refine SW.seqC (by kernel_rfl) ?_
  refine SW.run (X:=HS aT) ow mixed 20 (dE (o_1 aT n p)) (by simp) ?_
  show SW Tryz.prog [] (cR (ag Tryz.f49)) (os1 aT Tryz.prog Tryz.f49 n p) _
  refine SW.seqC (by kernel_rfl) ?_
  refine SW.run (X:=HS aT) ow mixed 20 (dE (o_2 aT n p)) (by simp) ?_
  show SW Tryz.prog [] (cR (cR (ag Tryz.f49))) (os2 aT Tryz.prog Tryz.f49 n p) _
  refine SW.seqC (by kernel_rfl) ?_
  refine SW.seqC (by kernel_rfl) ?_
  refine SW.run (X:=HS aT) ow mixed 20 (dE (o_3 aT n p)) (by simp) ?_
  show SW Tryz.prog [] (cR (cL (cR (cR (ag Tryz.f49))))) (os3 aT Tryz.prog Tryz.f49 n p) _
  refine SW.blockC (by kernel_rfl) ?_
  refine SW.loopC (by kernel_rfl) (fun k s=>k≤256∧oK s=ohd 22 70 n p (oR p n (256 - k)) ((k:Int) - 1)) 256 ⟨Nat.le_refl _,?_⟩ ?_
  ·have e2:oR p n (256 - 256)=iB:=rfl
   have e3:((256:Nat):Int) - 1=255:=rfl
   rw [o_h aT,e2,e3]
  ·rintro k s ⟨hk,hs⟩
   refine SW.forget (a:=s.1) (m:=s.2) oF ?_
   show SW Tryz.prog [] (oLB Tryz.f49) (oK s) _
   rw [hs]
   refine SW.seqC (by kernel_rfl) ?_
   cases k with
   | zero =>
    refine SW.run (X:=(HtX aT).tell [(9,false)]) (Cx.tell_ok nO _) mixed 40 (dE (o_x aT n p _ _)) (by simp) ?_
    show SW Tryz.prog [] (oT Tryz.f49) (oX aT Tryz.prog Tryz.f49 22 70 n p _ _) _
    exact Lj n p (oR p n (256 - 0)) _
   | succ j =>
    have hj:j<256:=by omega
    have ei:((j+1:Nat):Int) - 1=(j:Int):=by omega
    rw [ei]
    have lt:=ka lp n (256 - (j+1))
    have hge:decide ((j:Int)≥0)=true:=by simp
    have hO:=K1 n j hj
    have hB:=LD n j hj
    have e:256 - j=(256 - (j+1))+1:=by omega
    obtain ⟨s1,h1,k1⟩:=bI (MV aT n p (oR p n (256 - (j+1))) (j:Int))
    refine SW.run (X:=(HtX aT).tell [(9,true)]) (Cx.tell_ok nO _) mixed 40 h1 (al hge al0) ?_
    show SW Tryz.prog [] (cR (oLB Tryz.f49)) s1 _
    refine SW.forget (a:=s1.1) (m:=s1.2) oF ?_
    show SW Tryz.prog [] (cR (oLB Tryz.f49)) (oK s1) _
    rw [k1]
    refine SW.seqC (by kernel_rfl) ?_
    refine SW.blockC (by kernel_rfl) ?_
    refine SW.seqC (by kernel_rfl) ?_
    obtain ⟨s2,h2,k2⟩:=bI (o_5 aT n p (oR p n (256 - (j+1))) (j:Int))
    refine SW.run (X:=HtX aT) nO mixed 40 h2 (al ⟨lg lt,lg lt⟩ al0) ?_
    show SW Tryz.prog [] (cR (oB1 Tryz.f49)) s2 _
    refine SW.forget (a:=s2.1) (m:=s2.2) oF ?_
    show SW Tryz.prog [] (cR (oB1 Tryz.f49)) (oK s2) _
    have eo:o2 aT (oR p n (256 - (j+1)))=aT (oR p n (256 - (j+1))) (oR p n (256 - (j+1))):=by unfold o2;rw [qV lt]
    rw [k2,eo]
    have lt2:=dI lt lt
    by_cases hbit:n/2 ^ j % 2=1
    ·obtain ⟨s3,h3,k3⟩:=bI (o_t aT n p (aT (oR p n (256 - (j+1))) (oR p n (256 - (j+1)))) (j:Int))
     refine SW.run (X:=(HtX aT).tell [(24,true)]) (Cx.tell_ok nO _) mixed 40 h3 ?_ ?_
     ·intro q hq
      rcases List.mem_append.1 hq with hq | hq
      ·exact hO q hq
      ·refine (al ?_ (al ⟨lg lt2,lg lp⟩ al0)) q hq
       rw [hB,hbit];rfl
     ·show SW Tryz.prog [] (oR4 Tryz.f49) s3 _
      refine SW.forget (a:=s3.1) (m:=s3.2) oF ?_
      show SW Tryz.prog [] (oR4 Tryz.f49) (oK s3) _
      rw [k3,qV lt2,qV lp]
      obtain ⟨s4,h4,k4⟩:=bI (o_4 aT n p (aT (aT (oR p n (256 - (j+1))) (oR p n (256 - (j+1)))) p) (j:Int))
      refine SW.run (X:=HS aT) ow mixed 40 h4 (by simp) ⟨j,by omega,by omega,?_⟩
      rw [k4,mA _ (by omega),e,oR,show 255 - (256 - (j+1))=j by omega,if_pos hbit]
    ·obtain ⟨s3,h3,k3⟩:=bI (o_f aT n p (aT (oR p n (256 - (j+1))) (oR p n (256 - (j+1)))) (j:Int))
     have hb0:n/2 ^ j % 2=0:=by omega
     refine SW.run (X:=(HtX aT).tell [(24,false)]) (Cx.tell_ok nO _) mixed 40 h3 ?_ ?_
     ·intro q hq
      rcases List.mem_append.1 hq with hq | hq
      ·exact hO q hq
      ·refine (al ?_ al0) q hq
       rw [hB,hb0];rfl
     ·show SW Tryz.prog [] (oR4 Tryz.f49) s3 _
      refine SW.forget (a:=s3.1) (m:=s3.2) oF ?_
      show SW Tryz.prog [] (oR4 Tryz.f49) (oK s3) _
      rw [k3]
      obtain ⟨s4,h4,k4⟩:=bI (o_4 aT n p (aT (oR p n (256 - (j+1))) (oR p n (256 - (j+1)))) (j:Int))
      refine SW.run (X:=HS aT) ow mixed 40 h4 (by simp) ⟨j,by omega,by omega,?_⟩
      rw [k4,mA _ (by omega),e,oR,show 255 - (256 - (j+1))=j by omega,if_neg hbit]
 ·rintro e w' ⟨v,rfl,rfl,hb⟩
  exact ⟨rfl,hb⟩
theorem C5 {p:P4} {P:PT} (lp:p.ok) (h:Rep (cP p) P) (n:Nat) (hn:n<2 ^ 256) : ∀ j,j≤256→Rep (cP (oR p n j)) (dN (n/2 ^ (256 - j)) P)
 | 0,_=>by
  rw [Nat.sub_zero,Nat.div_eq_of_lt hn]
  show Rep (cP iB) (Pt.zero DK)
  rw [CD];exact xV FK
 | j+1,hj=>by
  have ih:=C5 lp h n hn j (by omega)
  have l:=ka lp n j
  have e1:256 - j=(255 - j)+1:=by omega
  have e2:256 - (j+1)=255 - j:=by omega
  have hd:n/2 ^ (255 - j)=n/2 ^ (256 - j)+n/2 ^ (256 - j)+n/2 ^ (255 - j) % 2:=by
   rw [e1,Nat.pow_succ,←YL];omega
  have h2:=km l l ih ih
  rw [show vq (dN (n/2 ^ (256 - j)) P) (dN (n/2 ^ (256 - j)) P)=dN (n/2 ^ (256 - j)+n/2 ^ (256 - j)) P from (Pt.smul_add FK P _ _).symm] at h2
  rw [e2]
  unfold oR
  split
  ·rename_i hb
   rw [hb] at hd
   rw [hd]
   exact km (dI l l) lp h2 h
  ·rename_i hb
   have hb0:n/2 ^ (255 - j) % 2=0:=by omega
   rw [hb0,Nat.add_zero] at hd
   rw [hd]
   exact h2
theorem fV {p:P4} {P:PT} (lp:p.ok) (h:Rep (cP p) P) (n:Nat) (hn:n<RN):Rep (cP (eg n p)) (dN n P):=by
 have:=C5 lp h n hn 256 (Nat.le_refl _)
 rw [Nat.sub_self,Nat.pow_zero,Nat.div_one] at this
 exact this
def xN:List Value→Option (List Prop × Value)
 | [A,B]=>some ([IsB A∧IsQ B],qv (eg (aj A) (q4 B)))
 | _=>none
theorem tN {X:Cx} (hX:X.Ok Tryz.prog):(X.pure 49 xN).Ok Tryz.prog:=by
 refine aC hX Tryz.func49 (by kernel_rfl) (by kernel_rfl) ?_
 intro args ps v ha hg hp
 unfold xN at hg
 split at hg
 ·rename_i A B
  simp only [qG,qH] at hg
  obtain ⟨rfl,rfl⟩:=hg
  obtain ⟨hA,⟨hB,lB⟩⟩:=hp _ (YJ.2 rfl)
  refine ⟨.inl (dQ _),fun w => ?_⟩
  have h:=pI (aj A) (aS hA) lB w
  rw [← (show A=bv (aj A) from hA),←hB] at h
  exact h
 ·simp at hg
def H2:Cx:=H1.pure 49 xN
theorem qo:H2.Ok Tryz.prog:=tN Kt
end Go.Proofs.YtajehiidpecknaaGreatDoor
