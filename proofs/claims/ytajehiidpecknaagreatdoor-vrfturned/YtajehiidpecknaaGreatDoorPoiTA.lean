import Derived.Test.YtajehiidpecknaaGreatDoorPoiJ
set_option linter.all false
namespace Go.Proofs.YtajehiidpecknaaGreatDoor
open Go Go.RowKit
def q16 (p:P4):List Value:=nl p.x ++ (nl p.y ++ (nl p.z ++ nl p.t))
def qv (p:P4):Value := .agg (q16 p).toArray
def q4:Value→P4
 | .agg cs=>⟨lu (cs.toList.take 4),lu ((cs.toList.drop 4).take 4),lu ((cs.toList.drop 8).take 4),lu ((cs.toList.drop 12).take 4)⟩
 | _=>⟨0,0,0,0⟩
theorem l6 {p:P4} (h:p.ok):q4 (qv p)=p:=by
 obtain ⟨x,y,z,t⟩:=p
 obtain ⟨h1,h2,h3,h4⟩:=h
 simp only at h1 h2 h3 h4
 have e:q4 (qv ⟨x,y,z,t⟩)=⟨lu (nl x),lu (nl y),lu (nl z),lu (nl t)⟩:=rfl
 rw [e,gZ h1,gZ h2,gZ h3,gZ h4]
def IsQ (A:Value):Prop:=A=qv (q4 A)∧(q4 A).ok
theorem iF {p:P4} (h:p.ok):IsQ (qv p):=by unfold IsQ;rw [l6 h];exact ⟨rfl,h⟩
theorem dX (p:P4):flat (qv p)=true:=rfl
def IW (A B:Value):Prop:=IsW A∧IsW B
theorem iw {a b:Nat} (ha:a<RN) (hb:b<RN):IW (nv a) (nv b):=⟨fl ha,fl hb⟩
theorem vWA {a b:Nat} (ha:a<RN) (hb:b<RN):WA (nv a) (nv b)=nv (rfa a b):=by unfold WA;rw [aY ha,aY hb]
theorem vWS {a b:Nat} (ha:a<RN) (hb:b<RN):WS (nv a) (nv b)=nv (rfs a b):=by unfold WS;rw [aY ha,aY hb]
theorem vWM {a b:Nat} (ha:a<RN) (hb:b<RN):WM (nv a) (nv b)=nv (rfm a b):=by unfold WM;rw [aY ha,aY hb]
theorem vWI {a:Nat} (ha:a<RN):WI (nv a)=nv (rfi a):=by unfold WI;rw [aY ha]
theorem dd:DN'<RN:=by decide
theorem CS:sfun Tryz.prog H0 60 Tryz.f93 (ag Tryz.f93) []=some ([],qv iC):=by kernel_rfl
def gRneu:List Value→Option (List Prop × Value)
 | []=>some ([],qv iC)
 | _=>none
theorem vy {X:Cx} (hX:X.Ok Tryz.prog):(X.pure 93 gRneu).Ok Tryz.prog:=by
 refine aA hX Tryz.func93 (by kernel_rfl) (by kernel_rfl) ?_
 intro args ps v ha hg hp
 unfold gRneu at hg
 split at hg
 ·simp only [qG,qH] at hg
  obtain ⟨rfl,rfl⟩:=hg
  exact ⟨.inl (dX _),aq ns mixed Tryz.func93 (by kernel_rfl) CS (by simp) rfl (.inl (dX _))⟩
 ·simp at hg
def saV (p q:P4):Value:=WM (WS (nv p.y) (nv p.x)) (WS (nv q.y) (nv q.x))
def sbV (p q:P4):Value:=WM (WA (nv p.y) (nv p.x)) (WA (nv q.y) (nv q.x))
def scV (p q:P4):Value:=WM (WM (nv p.t) (nv q.t)) (WA (nv DN') (nv DN'))
def sdV (p q:P4):Value:=WM (WA (nv p.z) (nv p.z)) (nv q.z)
def Kb (E G H I:Value):P4:=⟨rfm (bg E) (bg G),rfm (bg H) (bg I),rfm (bg G) (bg H),rfm (bg E) (bg I)⟩
theorem BE (p q:P4):sfun Tryz.prog H0 60 Tryz.f48 (ag Tryz.f48) [qv p,qv q]=some ([
  IW (nv p.y) (nv p.x),IW (nv q.y) (nv q.x),IW (WS (nv p.y) (nv p.x)) (WS (nv q.y) (nv q.x)),
  IW (nv p.y) (nv p.x),IW (nv q.y) (nv q.x),IW (WA (nv p.y) (nv p.x)) (WA (nv q.y) (nv q.x)),
  IW (nv p.t) (nv q.t),IW (nv DN') (nv DN'),IW (WM (nv p.t) (nv q.t)) (WA (nv DN') (nv DN')),
  IW (nv p.z) (nv p.z),IW (WA (nv p.z) (nv p.z)) (nv q.z),
  IW (sbV p q) (saV p q),IW (sdV p q) (scV p q),IW (sdV p q) (scV p q),IW (sbV p q) (saV p q),
  IW (WS (sbV p q) (saV p q)) (WS (sdV p q) (scV p q)),IW (WA (sdV p q) (scV p q)) (WA (sbV p q) (saV p q)),IW (WS (sdV p q) (scV p q)) (WA (sdV p q) (scV p q)),IW (WS (sbV p q) (saV p q)) (WA (sbV p q) (saV p q))],
  qv (Kb (WS (sbV p q) (saV p q)) (WS (sdV p q) (scV p q)) (WA (sdV p q) (scV p q)) (WA (sbV p q) (saV p q)))):=by kernel_rfl
def raN (p q:P4):Nat:=rfm (rfs p.y p.x) (rfs q.y q.x)
def rbN (p q:P4):Nat:=rfm (rfa p.y p.x) (rfa q.y q.x)
def rcN (p q:P4):Nat:=rfm (rfm p.t q.t) (rfa DN' DN')
def rdN (p q:P4):Nat:=rfm (rfa p.z p.z) q.z
def aU (p q:P4):P4 :=
 ⟨rfm (rfs (rbN p q) (raN p q)) (rfs (rdN p q) (rcN p q)),rfm (rfa (rdN p q) (rcN p q)) (rfa (rbN p q) (raN p q)),rfm (rfs (rdN p q) (rcN p q)) (rfa (rdN p q) (rcN p q)),rfm (rfs (rbN p q) (raN p q)) (rfa (rbN p q) (raN p q))⟩
theorem sI {p q:P4} (hp:p.ok) (hq:q.ok):raN p q<RN:=bI (bT _ hp.y) (bT _ hq.y)
theorem lL {p q:P4} (hp:p.ok) (hq:q.ok):rbN p q<RN:=bI (bE hp.y hp.x) (bE hq.y hq.x)
theorem sL {p q:P4} (hp:p.ok) (hq:q.ok):rcN p q<RN:=bI (bI hp.t hq.t) (bE dd dd)
theorem lh {p q:P4} (hp:p.ok) (hq:q.ok):rdN p q<RN:=bI (bE hp.z hp.z) hq.z
theorem dD {p q:P4} (hp:p.ok) (hq:q.ok):(aU p q).ok :=
 ⟨bI (bT _ (lL hp hq)) (bT _ (lh hp hq)),bI (bE (lh hp hq) (sL hp hq)) (bE (lL hp hq) (sI hp hq)),bI (bT _ (lh hp hq)) (bE (lh hp hq) (sL hp hq)),bI (bT _ (lL hp hq)) (bE (lL hp hq) (sI hp hq))⟩
theorem uP (p q:P4) (hp:p.ok) (hq:q.ok) (w:World):Calls Tryz.prog 48 #[qv p,qv q] w fun e w'=>e = .returned (qv (aU p q))∧Below w.heap.size w w':=by
 have run:=BE p q
 have la:=sI hp hq
 have lb:=lL hp hq
 have lc:=sL hp hq
 have ld:=lh hp hq
 have ea:saV p q=nv (raN p q):=by unfold saV;rw [vWS hp.y hp.x,vWS hq.y hq.x,vWM (bT _ hp.y) (bT _ hq.y)];rfl
 have eb:sbV p q=nv (rbN p q):=by unfold sbV;rw [vWA hp.y hp.x,vWA hq.y hq.x,vWM (bE hp.y hp.x) (bE hq.y hq.x)];rfl
 have ec:scV p q=nv (rcN p q):=by unfold scV;rw [vWM hp.t hq.t,vWA dd dd,vWM (bI hp.t hq.t) (bE dd dd)];rfl
 have ed:sdV p q=nv (rdN p q):=by unfold sdV;rw [vWA hp.z hp.z,vWM (bE hp.z hp.z) hq.z];rfl
 rw [ea,eb,ec,ed,vWS lb la,vWS ld lc,vWA ld lc,vWA lb la,vWS hp.y hp.x,vWS hq.y hq.x,vWA hp.y hp.x,vWA hq.y hq.x,vWM hp.t hq.t,vWA dd dd,vWA hp.z hp.z] at run
 have lE:rfs (rbN p q) (raN p q)<RN:=bT _ lb
 have lG:rfs (rdN p q) (rcN p q)<RN:=bT _ ld
 have lH:rfa (rdN p q) (rcN p q)<RN:=bE ld lc
 have lI:rfa (rbN p q) (raN p q)<RN:=bE lb la
 have eq:Kb (nv (rfs (rbN p q) (raN p q))) (nv (rfs (rdN p q) (rcN p q))) (nv (rfa (rdN p q) (rcN p q))) (nv (rfa (rbN p q) (raN p q)))=aU p q:=by
  unfold Kb;rw [aY lE,aY lG,aY lH,aY lI];rfl
 rw [eq] at run
 exact aq ns mixed Tryz.func48 (by kernel_rfl) run (al (iw hp.y hp.x) (al (iw hq.y hq.x) (al (iw (bT _ hp.y) (bT _ hq.y)) (al (iw hp.y hp.x) (al (iw hq.y hq.x) (al (iw (bE hp.y hp.x) (bE hq.y hq.x)) (al (iw hp.t hq.t) (al (iw dd dd) (al (iw (bI hp.t hq.t) (bE dd dd)) (al (iw hp.z hp.z) (al (iw (bE hp.z hp.z) hq.z) (al (iw lb la) (al (iw ld lc) (al (iw ld lc) (al (iw lb la) (al (iw lE lG) (al (iw lH lI) (al (iw lG lH) (al (iw lE lI) al0))))))))))))))))))) rfl (.inl (dX _)) w
def gRsum:List Value→Option (List Prop × Value)
 | [A,B]=>some ([IsQ A∧IsQ B],qv (aU (q4 A) (q4 B)))
 | _=>none
theorem nB {X:Cx} (hX:X.Ok Tryz.prog):(X.pure 48 gRsum).Ok Tryz.prog:=by
 refine aA hX Tryz.func48 (by kernel_rfl) (by kernel_rfl) ?_
 intro args ps v ha hg hp
 unfold gRsum at hg
 split at hg
 ·rename_i A B
  simp only [qG,qH] at hg
  obtain ⟨rfl,rfl⟩:=hg
  obtain ⟨⟨hA,lA⟩,⟨hB,lB⟩⟩:=hp _ (YJ.2 rfl)
  refine ⟨.inl (dX _),fun w => ?_⟩
  have h:=uP (q4 A) (q4 B) lA lB w
  rw [←hA,←hB] at h
  exact h
 ·simp at hg
def iB (p:P4):P4:=⟨rfs 0 p.x,p.y,p.z,rfs 0 p.t⟩
theorem gK {p:P4} (h:p.ok):(iB p).ok:=⟨bT _ (by decide),h.y,h.z,bT _ (by decide)⟩
theorem uL (p:P4):sfun Tryz.prog H0 60 Tryz.f50 (ag Tryz.f50) [qv p]=some ([IW (nv 0) (nv p.x),IW (nv 0) (nv p.t)],qv ⟨rfs (bg (nv 0)) (bg (nv p.x)),p.y,p.z,rfs (bg (nv 0)) (bg (nv p.t))⟩):=by kernel_rfl
def gRmir:List Value→Option (List Prop × Value)
 | [A]=>some ([IsQ A],qv (iB (q4 A)))
 | _=>none
theorem tN {X:Cx} (hX:X.Ok Tryz.prog):(X.pure 50 gRmir).Ok Tryz.prog:=by
 refine aA hX Tryz.func50 (by kernel_rfl) (by kernel_rfl) ?_
 intro args ps v ha hg hp
 unfold gRmir at hg
 split at hg
 ·rename_i A
  simp only [qG,qH] at hg
  obtain ⟨rfl,rfl⟩:=hg
  obtain ⟨hA,lA⟩:=hp _ (YJ.2 rfl)
  refine ⟨.inl (dX _),fun w => ?_⟩
  have run:=uL (q4 A)
  rw [aY (n:=0) (by decide),aY lA.x,aY lA.t] at run
  have h:=aq ns mixed Tryz.func50 (by kernel_rfl) run (al (iw (by decide) lA.x) (al (iw (by decide) lA.t) al0)) rfl (.inl (dX _)) w
  rw [←hA] at h
  exact h
 ·simp at hg
def eiV (p:P4):Value:=WI (nv p.z)
def exN (p:P4):Nat:=rfm p.x (rfi p.z) % pp
def eyN (p:P4):Nat:=rfm p.y (rfi p.z) % pp
def exS (p:P4):Nat:=bg (WM (nv p.x) (eiV p)) % pp
def eyS (p:P4):Nat:=bg (WM (nv p.y) (eiV p)) % pp
def Gw (x:Nat):Int:=IntKind.u8.wrap (Int.tmod (lw x 0) 2)
def KU (y x:Nat):Value := .agg ((bl y).take 31 ++ [Value.int .u8 (bits .or .u8 (by8 y 31) (IntKind.u8.wrap (Gw x*2 ^ 7)))]).toArray
theorem yt (p:P4):sfun Tryz.prog H0 60 Tryz.f47 (ag Tryz.f47) [qv p]=some ([IsW (nv p.z),IW (nv p.x) (eiV p),IsW (WM (nv p.x) (eiV p)),IW (nv p.y) (eiV p),IsW (WM (nv p.y) (eiV p))],KU (eyS p) (exS p)):=by kernel_rfl
theorem yZ (x:Nat):Gw x=((x % 2:Nat):Int):=by
 have h:Int.tmod (lw x 0) 2=((x % 2:Nat):Int):=by
  unfold lw
  rw [Nat.pow_zero,Nat.div_one]
  show ((x % 18446744073709551616 % 2:Nat):Int)=_
  congr 1
  omega
 have hx:x % 2<2:=Nat.mod_lt _ (by decide)
 unfold Gw
 rw [h]
 rcases (by omega:x % 2=0∨x % 2=1) with e | e <;> rw [e] <;> rfl
theorem or_zero : ∀ y:Fin 256,bits .or .u8 ((y.val:Nat):Int) 0=((y.val:Nat):Int):=by decide +kernel
theorem zx (y x:Nat) (hy:y<TT):KU y x=bv (y+x % 2*TT):=by
 have hx:x % 2<2:=Nat.mod_lt _ (by decide)
 unfold KU
 rw [yZ]
 rcases (by omega:x % 2=0∨x % 2=1) with e | e
 ·rw [e,Nat.zero_mul,Nat.add_zero]
  have hb:y/256 ^ 31 % 256<256:=Nat.mod_lt _ (by decide)
  have o:=or_zero ⟨y/256 ^ 31 % 256,hb⟩
  have e2:IntKind.u8.wrap (((0:Nat):Int)*2 ^ 7)=0:=by decide
  rw [e2]
  have o':bits .or .u8 (by8 y 31) 0=by8 y 31:=o
  rw [o',←nD]
  rfl
 ·rw [e,Nat.one_mul]
  have e2:IntKind.u8.wrap (((1:Nat):Int)*2 ^ 7)=128:=by decide
  rw [e2]
  exact tE y hy
def wqN (p:P4):Nat:=eyN p+exN p % 2*TT
def zu:List Value→Option (List Prop × Value)
 | [A]=>some ([IsQ A],bv (wqN (q4 A)))
 | _=>none
theorem vH {X:Cx} (hX:X.Ok Tryz.prog):(X.pure 47 zu).Ok Tryz.prog:=by
 refine aA hX Tryz.func47 (by kernel_rfl) (by kernel_rfl) ?_
 intro args ps v ha hg hp
 unfold zu at hg
 split at hg
 ·rename_i A
  simp only [qG,qH] at hg
  obtain ⟨rfl,rfl⟩:=hg
  obtain ⟨hA,lA⟩:=hp _ (YJ.2 rfl)
  refine ⟨.inl (aB _),fun w => ?_⟩
  have run:=yt (q4 A)
  have lz:=ou lA.z
  have e1:eiV (q4 A)=nv (rfi (q4 A).z):=vWI lA.z
  have e2:exS (q4 A)=exN (q4 A):=by unfold exS exN;rw [e1,vWM lA.x lz,aY (bI lA.x lz)]
  have e3:eyS (q4 A)=eyN (q4 A):=by unfold eyS eyN;rw [e1,vWM lA.y lz,aY (bI lA.y lz)]
  have ly:eyN (q4 A)<TT:=Nat.lt_trans (Nat.mod_lt _ (by decide)) fv
  rw [e2,e3,e1,vWM lA.x lz,vWM lA.y lz,zx _ _ ly] at run
  have h:=aq ns mixed Tryz.func47 (by kernel_rfl) run (al (fl lA.z) (al (iw lA.x lz) (al (fl (bI lA.x lz)) (al (iw lA.y lz) (al (fl (bI lA.y lz)) al0))))) rfl (.inl (aB _)) w
  rw [←hA] at h
  exact h
 ·simp at hg
def H1:Cx:=(((H0.pure 93 gRneu).pure 48 gRsum).pure 50 gRmir).pure 47 zu
theorem Om:H1.Ok Tryz.prog:=vH (tN (nB (vy ns)))
theorem E2 (d x1 y1 z1 t1 x2 y2 z2 t2:KK):(⟨((y1+x1)*(y2+x2) - (y1 - x1)*(y2 - x2))*((z1+z1)*z2 - t1*t2*(d+d)),((z1+z1)*z2+t1*t2*(d+d))*((y1+x1)*(y2+x2)+(y1 - x1)*(y2 - x2)),((z1+z1)*z2 - t1*t2*(d+d))*((z1+z1)*z2+t1*t2*(d+d)),((y1+x1)*(y2+x2) - (y1 - x1)*(y2 - x2))*((y1+x1)*(y2+x2)+(y1 - x1)*(y2 - x2))⟩:E4 KK)=An d ⟨x1,y1,z1,t1⟩ ⟨x2,y2,z2,t2⟩:=by
 unfold An wO
 simp only [E4.mk.injEq]
 refine ⟨?_,?_,?_,?_⟩ <;> grind
theorem ku {a b:P4} {p q:PT} (la:a.ok) (lb:b.ok) (ha:Rep (cP a) p) (hb:Rep (cP b) q):Rep (cP (aU a b)) (wo p q):=by
 have h:=nn FK ha hb
 have l1:=sI la lb
 have l2:=lL la lb
 have l3:=sL la lb
 have l4:=lh la lb
 have k1:cK (raN a b)=(cK a.y - cK a.x)*(cK b.y - cK b.x):=by unfold raN;rw [di (bT _ la.y) (bT _ lb.y),jX _ la.y,jX _ lb.y]
 have k2:cK (rbN a b)=(cK a.y+cK a.x)*(cK b.y+cK b.x):=by unfold rbN;rw [di (bE la.y la.x) (bE lb.y lb.x),j5 la.y la.x,j5 lb.y lb.x]
 have k3:cK (rcN a b)=(cK a.t*cK b.t)*(DK+DK):=by unfold rcN;rw [di (bI la.t lb.t) (bE dd dd),di la.t lb.t,j5 dd dd];rfl
 have k4:cK (rdN a b)=(cK a.z+cK a.z)*cK b.z:=by unfold rdN;rw [di (bE la.z la.z) lb.z,j5 la.z la.z]
 have e:cP (aU a b)=An DK (cP a) (cP b):=by
  unfold cP aU
  simp only
  rw [di (bT _ l2) (bT _ l4),di (bE l4 l3) (bE l2 l1),di (bT _ l4) (bE l4 l3),di (bT _ l2) (bE l2 l1),jX _ l2,jX _ l4,j5 l4 l3,j5 l2 l1,k1,k2,k3,k4]
  exact E2 DK (cK a.x) (cK a.y) (cK a.z) (cK a.t) (cK b.x) (cK b.y) (cK b.z) (cK b.t)
 rw [e];exact h
theorem vd {a:P4} {p:PT} (ha:Rep (cP a) p):Rep (cP (iB a)) p.neg:=by
 have e:cP (iB a)=AY (cP a):=by
  unfold iB AY cP
  simp only
  rw [jX _ (show 0<RN by decide),jX _ (show 0<RN by decide),km]
 rw [e];exact zk ha
theorem xX {a:P4} {p:PT} (la:a.ok) (h:Rep (cP a) p):wqN a=enc p:=by
 obtain ⟨h1,h2,h3,_⟩:=h
 have hz:cK a.z≠0:=h1
 have iv:=FK.inv _ hz
 have hx:cK a.x=p.x*cK a.z:=h2
 have hy:cK a.y=p.y*cK a.z:=h3
 have lz:=ou la.z
 have kx:cK (exN a)=p.x:=by
  unfold exN;rw [oz,di la.x lz,xi la.z,hx]
  have:=gV p.x (cK a.z) (my (cK a.z))
  rw [this,iv,kG]
 have ky:cK (eyN a)=p.y:=by
  unfold eyN;rw [oz,di la.y lz,xi la.z,hy]
  have:=gV p.y (cK a.z) (my (cK a.z))
  rw [this,iv,kG]
 unfold wqN enc
 rw [←oy (Nat.mod_lt _ (by decide)) kx,←oy (Nat.mod_lt _ (by decide)) ky]
 rfl
end Go.Proofs.YtajehiidpecknaaGreatDoor
namespace Go.Proofs.YtajehiidpecknaaGreatDoor
open Go Go.RowKit
def ohd (t22 t50 n:Nat) (p out:P4) (i:Int):Act × Mem :=
 (⟨#[cT,cT,.pointer (some ⟨0,0,none⟩),.pointer (some ⟨1,0,none⟩),.pointer (some ⟨2,0,none⟩),.pointer (some ⟨3,0,none⟩),.int .i64 i] ++ Array.replicate 22 cT,[]⟩,
  [some ⟨bl n,t22⟩,some ⟨q16 p,t50⟩,some ⟨q16 ⟨0,0,0,0⟩,t50⟩,some ⟨q16 out,t50⟩])
def oF:List Nat:=[0,1] ++ (List.range 22).map (· + 7)
def oK (s:Act × Mem):Act × Mem:=(forgetL s.1 oF,s.2)
def oLB (fn:Func):Code:=cL (cL (cR (cL (cR (cR (ag fn))))))
def oT (fn:Func):Code:=cR (cR (cR (ag fn)))
def gRS (S:P4→P4→P4):List Value→Option (List Prop × Value)
 | [A,B]=>some ([IsQ A∧IsQ B],qv (S (q4 A) (q4 B)))
 | _=>none
def HS (S:P4→P4→P4):Cx:=(Cx.none.pure 93 gRneu).pure 48 (gRS S)
theorem Ko:gRS aU=gRsum:=rfl
theorem o8:(HS aU).Ok Tryz.prog:=by
 unfold HS
 rw [Ko]
 exact nB (vy Cx.none_ok)
def HtX (S:P4→P4→P4):Cx:=(HS S).terms
theorem oW:(HtX aU).Ok Tryz.prog:=Cx.terms_ok o8
def os1 (S:P4→P4→P4) (P:Program) (fn:Func) (n:Nat) (p:P4):Act × Mem:=cQ P (HS S) 20 (cL (ag fn)) (bS fn [bv n,qv p],[])
def os2 (S:P4→P4→P4) (P:Program) (fn:Func) (n:Nat) (p:P4):Act × Mem:=cQ P (HS S) 20 (cL (cR (ag fn))) (os1 S P fn n p)
def os3 (S:P4→P4→P4) (P:Program) (fn:Func) (n:Nat) (p:P4):Act × Mem:=cQ P (HS S) 20 (cL (cL (cR (cR (ag fn))))) (os2 S P fn n p)
theorem o_1 (S:P4→P4→P4) (n:Nat) (p:P4):kR (sexec Tryz.prog (HS S) 20 (cL (ag Tryz.f49)) [] (bS Tryz.f49 [bv n,qv p],[]))=some ([],.normal):=by kernel_rfl
theorem o_2 (S:P4→P4→P4) (n:Nat) (p:P4):kR (sexec Tryz.prog (HS S) 20 (cL (cR (ag Tryz.f49))) [] (os1 S Tryz.prog Tryz.f49 n p))=some ([],.normal):=by kernel_rfl
theorem o_3 (S:P4→P4→P4) (n:Nat) (p:P4):kR (sexec Tryz.prog (HS S) 20 (cL (cL (cR (cR (ag Tryz.f49))))) [] (os2 S Tryz.prog Tryz.f49 n p))=some ([],.normal):=by kernel_rfl
theorem o_h (S:P4→P4→P4) (n:Nat) (p:P4):oK (os3 S Tryz.prog Tryz.f49 n p)=ohd 22 70 n p iC 255:=by kernel_rfl
def oQ (i:Int):Int:=IntKind.i64.wrap (Int.tdiv i 8)
def oU (i:Int):Int:=IntKind.u64.wrap (Int.tmod i 8)
def oY (n:Nat) (i:Int):Int:=j8 (bl n) (0+(oQ i).toNat*1)
def oB (n:Nat) (i:Int):Int:=bits .and .u8 (Int.fdiv (oY n i) (2 ^ min (oU i).toNat 8)) 1
def oO (n:Nat) (i:Int):List Prop:=[0≤oQ i∧oQ i<((32:Nat):Int),(bl n)[0+(oQ i).toNat*1]? = some (.int .u8 (oY n i)),0≤oU i]
def o2 (S:P4→P4→P4) (out:P4):P4:=S (q4 (qv out)) (q4 (qv out))
def oB1 (fn:Func):Code:=cL (cL (cR (oLB fn)))
def oR4 (fn:Func):Code:=cR (cR (oLB fn))
theorem Pf (S:P4→P4→P4) (n:Nat) (p out:P4) (i:Int):proj oK (sexec Tryz.prog ((HtX S).tell [(9,true)]) 40 (cL (oLB Tryz.f49)) [] (ohd 22 70 n p out i))=some ([decide (i≥0)=true],ohd 22 70 n p out i):=by kernel_rfl
theorem o_5 (S:P4→P4→P4) (n:Nat) (p out:P4) (i:Int):proj oK (sexec Tryz.prog (HtX S) 40 (cL (oB1 Tryz.f49)) [] (ohd 22 70 n p out i))=some ([IsQ (qv out)∧IsQ (qv out)],ohd 22 70 n p (o2 S out) i):=by kernel_rfl
theorem o_t (S:P4→P4→P4) (n:Nat) (p out:P4) (i:Int):proj oK (sexec Tryz.prog ((HtX S).tell [(24,true)]) 40 (cR (oB1 Tryz.f49)) [] (ohd 22 70 n p out i))=some (oO n i ++ [(oB n i == 1)=true,IsQ (qv out)∧IsQ (qv p)],ohd 22 70 n p (S (q4 (qv out)) (q4 (qv p))) i):=by kernel_rfl
theorem o_f (S:P4→P4→P4) (n:Nat) (p out:P4) (i:Int):proj oK (sexec Tryz.prog ((HtX S).tell [(24,false)]) 40 (cR (oB1 Tryz.f49)) [] (ohd 22 70 n p out i))=some (oO n i ++ [(oB n i == 1)=false],ohd 22 70 n p out i):=by kernel_rfl
theorem o_4 (S:P4→P4→P4) (n:Nat) (p out:P4) (i:Int):proj oK (sexec Tryz.prog (HS S) 40 (oR4 Tryz.f49) [] (ohd 22 70 n p out i))=some ([],ohd 22 70 n p out (IntKind.i64.wrap (i - 1))):=by kernel_rfl
def oX (S:P4→P4→P4) (P:Program) (fn:Func) (t22 t50 n:Nat) (p out:P4) (i:Int):Act × Mem:=cQ P ((HtX S).tell [(9,false)]) 40 (cL (oLB fn)) (ohd t22 t50 n p out i)
theorem o_x (S:P4→P4→P4) (n:Nat) (p out:P4) (i:Int):kR (sexec Tryz.prog ((HtX S).tell [(9,false)]) 40 (cL (oLB Tryz.f49)) [] (ohd 22 70 n p out i))=some ([decide (i≥0)=false],.exit 0):=by kernel_rfl
theorem o_z (S:P4→P4→P4) (n:Nat) (p out:P4) (i:Int):kR (sexec Tryz.prog (HS S) 40 (oT Tryz.f49) [] (oX S Tryz.prog Tryz.f49 22 70 n p out i))=some ([],.ret):=by kernel_rfl
theorem o_r (S:P4→P4→P4) (n:Nat) (p out:P4) (i:Int):sres Tryz.prog Tryz.f49 (cQ Tryz.prog (HS S) 40 (oT Tryz.f49) (oX S Tryz.prog Tryz.f49 22 70 n p out i))=some (qv out):=by kernel_rfl
theorem o_d (S:P4→P4→P4) (n:Nat) (p out:P4) (i:Int):(cQ Tryz.prog (HS S) 40 (oT Tryz.f49) (oX S Tryz.prog Tryz.f49 22 70 n p out i)).1.defers = []:=by kernel_rfl
theorem Nc (n:Nat) (p T:P4) (i:Int):SW Tryz.prog [] (oT Tryz.f49) (oX aU Tryz.prog Tryz.f49 22 70 n p T i) (fun e s=>(e = .normal∨e = .ret)∧s.1.defers = [] ∧ ∃ v x,sres Tryz.prog Tryz.f49 s=some v∧(flat v=true∨v=undef)∧s.2 = [] ++ x∧v=qv T):=by
 refine SW.run (X:=HS aU) o8 mixed 40 (dG (o_z aU n p T i)) (by simp) ?_
 exact ⟨.inr rfl,o_d aU n p T i,qv T,_,o_r aU n p T i,.inl (dX T),(List.nil_append _).symm,rfl⟩
def oR (p:P4) (n:Nat):Nat→P4
 | 0=>iC
 | j+1=>if n/2 ^ (255 - j) % 2=1 then aU (aU (oR p n j) (oR p n j)) p else aU (oR p n j) (oR p n j)
theorem kF {p:P4} (hp:p.ok) (n:Nat) : ∀ j,(oR p n j).ok
 | 0=>rY
 | j+1=>by
  have ih:=kF hp n j
  unfold oR
  split
  ·exact dD (dD ih ih) hp
  ·exact dD ih ih
def dM (n:Nat) (p:P4):P4:=oR p n 256
theorem Jn (j:Nat) (hj:j<256):oQ (j:Int)=((j/8:Nat):Int):=by
 unfold oQ
 rw [Int.tdiv_eq_ediv_of_nonneg (by omega),mD _ (by omega)]
 omega
theorem Jm (j:Nat) (hj:j<256):oU (j:Int)=((j % 8:Nat):Int):=by
 unfold oU
 rw [Int.tmod_eq_emod_of_nonneg (by omega)]
 have:(j:Int) % 8=((j % 8:Nat):Int):=by omega
 rw [this]
 have h8:j % 8<8:=Nat.mod_lt _ (by decide)
 have key : ∀ k:Fin 8,IntKind.u64.wrap ((k.val:Nat):Int)=((k.val:Nat):Int):=by decide +kernel
 exact key ⟨j % 8,h8⟩
theorem Jw (n j:Nat) (hj:j<256):(bl n)[0+(oQ (j:Int)).toNat*1]? = some (.int .u8 (oY n (j:Int)))∧oY n (j:Int)=((n/256 ^ (j/8) % 256:Nat):Int):=by
 have e:0+(oQ (j:Int)).toNat*1=j/8:=by rw [Jn j hj,Int.toNat_natCast];omega
 have hb:(bl n)[j/8]? = some (.int .u8 (by8 n (j/8))):=by simp [bl,show j/8<32 by omega]
 have ey:oY n (j:Int)=by8 n (j/8):=by unfold oY;rw [e];unfold j8;rw [hb]
 exact ⟨by rw [e,ey];exact hb,ey⟩
theorem N5 (n j:Nat) (hj:j<256) : ∀ p ∈ oO n (j:Int),p:=by
 unfold oO
 refine al ?_ (al (Jw n j hj).1 (al ?_ al0))
 ·rw [Jn j hj];omega
 ·rw [Jm j hj];omega
theorem Dr : ∀ (y:Fin 256) (k:Fin 8),bits .and .u8 (Int.fdiv ((y.val:Nat):Int) (2 ^ min ((k.val:Nat):Int).toNat 8)) 1=((y.val/2 ^ k.val % 2:Nat):Int):=by decide +kernel
theorem Nr (n j:Nat) (hj:j<256):oB n (j:Int)=((n/2 ^ j % 2:Nat):Int):=by
 unfold oB
 rw [(Jw n j hj).2,Jm j hj]
 have h:=Dr ⟨n/256 ^ (j/8) % 256,Nat.mod_lt _ (by decide)⟩ ⟨j % 8,Nat.mod_lt _ (by decide)⟩
 simp only at h
 rw [h]
 congr 1
 have e1:(256:Nat) ^ (j/8)=2 ^ (8*(j/8)):=by rw [Nat.pow_mul]
 have e2:(256:Nat)=2 ^ (j % 8)*(2*2 ^ (7 - j % 8)):=by
  rw [←Nat.pow_succ',←Nat.pow_add,show j % 8+(7 - j % 8+1)=8 by omega]
 have e3:n/2 ^ j=n/2 ^ (8*(j/8))/2 ^ (j % 8):=by
  rw [YL,←Nat.pow_add,show 8*(j/8)+j % 8=j by omega]
 rw [e1,e3]
 generalize n/2 ^ (8*(j/8))=y
 conv=>lhs;rw [e2]
 rw [Nat.mod_mul_right_div_self,Nat.mod_mul_right_mod]
set_option maxRecDepth 10000 in
theorem qu (n:Nat) (hn:n<RN) {p:P4} (lp:p.ok) (w:World) :
  Calls Tryz.prog 49 #[bv n,qv p] w fun e w'=>e = .returned (qv (dM n p))∧Below w.heap.size w w':=by
 have hb:Tryz.f49.body=some (ag Tryz.f49):=by kernel_rfl
 refine (cD (gl:=[]) (m:=[]) (r:=fun _=>none) (R:=fun u=>u=qv (dM n p)) (args:=[bv n,qv p]) (args':=[bv n,qv p]) Tryz.func49 hb ?_ (Rel.nil w) (by simp) (ej (by simp [aB,dX]))).mono ?_
 ·refine SW.seqC (by kernel_rfl) ?_
  refine SW.run (X:=HS aU) o8 mixed 20 (dG (o_1 aU n p)) (by simp) ?_
  show SW Tryz.prog [] (cR (ag Tryz.f49)) (os1 aU Tryz.prog Tryz.f49 n p) _
  refine SW.seqC (by kernel_rfl) ?_
  refine SW.run (X:=HS aU) o8 mixed 20 (dG (o_2 aU n p)) (by simp) ?_
  show SW Tryz.prog [] (cR (cR (ag Tryz.f49))) (os2 aU Tryz.prog Tryz.f49 n p) _
  refine SW.seqC (by kernel_rfl) ?_
  refine SW.seqC (by kernel_rfl) ?_
  refine SW.run (X:=HS aU) o8 mixed 20 (dG (o_3 aU n p)) (by simp) ?_
  show SW Tryz.prog [] (cR (cL (cR (cR (ag Tryz.f49))))) (os3 aU Tryz.prog Tryz.f49 n p) _
  refine SW.blockC (by kernel_rfl) ?_
  refine SW.loopC (by kernel_rfl) (fun k s=>k≤256∧oK s=ohd 22 70 n p (oR p n (256 - k)) ((k:Int) - 1)) 256 ⟨Nat.le_refl _,?_⟩ ?_
  ·have e2:oR p n (256 - 256)=iC:=rfl
   have e3:((256:Nat):Int) - 1=255:=rfl
   rw [o_h aU,e2,e3]
  ·rintro k s ⟨hk,hs⟩
   refine SW.forget (a:=s.1) (m:=s.2) oF ?_
   show SW Tryz.prog [] (oLB Tryz.f49) (oK s) _
   rw [hs]
   refine SW.seqC (by kernel_rfl) ?_
   cases k with
   | zero =>
    refine SW.run (X:=(HtX aU).tell [(9,false)]) (Cx.tell_ok oW _) mixed 40 (dG (o_x aU n p _ _)) (by simp) ?_
    show SW Tryz.prog [] (oT Tryz.f49) (oX aU Tryz.prog Tryz.f49 22 70 n p _ _) _
    exact Nc n p (oR p n (256 - 0)) _
   | succ j =>
    have hj:j<256:=by omega
    have ei:((j+1:Nat):Int) - 1=(j:Int):=by omega
    rw [ei]
    have lt:=kF lp n (256 - (j+1))
    have hge:decide ((j:Int)≥0)=true:=by simp
    have hO:=N5 n j hj
    have hB:=Nr n j hj
    have e:256 - j=(256 - (j+1))+1:=by omega
    obtain ⟨s1,h1,k1⟩:=bD (Pf aU n p (oR p n (256 - (j+1))) (j:Int))
    refine SW.run (X:=(HtX aU).tell [(9,true)]) (Cx.tell_ok oW _) mixed 40 h1 (al hge al0) ?_
    show SW Tryz.prog [] (cR (oLB Tryz.f49)) s1 _
    refine SW.forget (a:=s1.1) (m:=s1.2) oF ?_
    show SW Tryz.prog [] (cR (oLB Tryz.f49)) (oK s1) _
    rw [k1]
    refine SW.seqC (by kernel_rfl) ?_
    refine SW.blockC (by kernel_rfl) ?_
    refine SW.seqC (by kernel_rfl) ?_
    obtain ⟨s2,h2,k2⟩:=bD (o_5 aU n p (oR p n (256 - (j+1))) (j:Int))
    refine SW.run (X:=HtX aU) oW mixed 40 h2 (al ⟨iF lt,iF lt⟩ al0) ?_
    show SW Tryz.prog [] (cR (oB1 Tryz.f49)) s2 _
    refine SW.forget (a:=s2.1) (m:=s2.2) oF ?_
    show SW Tryz.prog [] (cR (oB1 Tryz.f49)) (oK s2) _
    have eo:o2 aU (oR p n (256 - (j+1)))=aU (oR p n (256 - (j+1))) (oR p n (256 - (j+1))):=by unfold o2;rw [l6 lt]
    rw [k2,eo]
    have lt2:=dD lt lt
    by_cases hbit:n/2 ^ j % 2=1
    ·obtain ⟨s3,h3,k3⟩:=bD (o_t aU n p (aU (oR p n (256 - (j+1))) (oR p n (256 - (j+1)))) (j:Int))
     refine SW.run (X:=(HtX aU).tell [(24,true)]) (Cx.tell_ok oW _) mixed 40 h3 ?_ ?_
     ·intro q hq
      rcases List.mem_append.1 hq with hq | hq
      ·exact hO q hq
      ·refine (al ?_ (al ⟨iF lt2,iF lp⟩ al0)) q hq
       rw [hB,hbit];rfl
     ·show SW Tryz.prog [] (oR4 Tryz.f49) s3 _
      refine SW.forget (a:=s3.1) (m:=s3.2) oF ?_
      show SW Tryz.prog [] (oR4 Tryz.f49) (oK s3) _
      rw [k3,l6 lt2,l6 lp]
      obtain ⟨s4,h4,k4⟩:=bD (o_4 aU n p (aU (aU (oR p n (256 - (j+1))) (oR p n (256 - (j+1)))) p) (j:Int))
      refine SW.run (X:=HS aU) o8 mixed 40 h4 (by simp) ⟨j,by omega,by omega,?_⟩
      rw [k4,mD _ (by omega),e,oR,show 255 - (256 - (j+1))=j by omega,if_pos hbit]
    ·obtain ⟨s3,h3,k3⟩:=bD (o_f aU n p (aU (oR p n (256 - (j+1))) (oR p n (256 - (j+1)))) (j:Int))
     have hb0:n/2 ^ j % 2=0:=by omega
     refine SW.run (X:=(HtX aU).tell [(24,false)]) (Cx.tell_ok oW _) mixed 40 h3 ?_ ?_
     ·intro q hq
      rcases List.mem_append.1 hq with hq | hq
      ·exact hO q hq
      ·refine (al ?_ al0) q hq
       rw [hB,hb0];rfl
     ·show SW Tryz.prog [] (oR4 Tryz.f49) s3 _
      refine SW.forget (a:=s3.1) (m:=s3.2) oF ?_
      show SW Tryz.prog [] (oR4 Tryz.f49) (oK s3) _
      rw [k3]
      obtain ⟨s4,h4,k4⟩:=bD (o_4 aU n p (aU (oR p n (256 - (j+1))) (oR p n (256 - (j+1)))) (j:Int))
      refine SW.run (X:=HS aU) o8 mixed 40 h4 (by simp) ⟨j,by omega,by omega,?_⟩
      rw [k4,mD _ (by omega),e,oR,show 255 - (256 - (j+1))=j by omega,if_neg hbit]
 ·rintro e w' ⟨v,rfl,rfl,hb⟩
  exact ⟨rfl,hb⟩
theorem D0 {p:P4} {P:PT} (lp:p.ok) (h:Rep (cP p) P) (n:Nat) (hn:n<2 ^ 256) : ∀ j,j≤256→Rep (cP (oR p n j)) (dU (n/2 ^ (256 - j)) P)
 | 0,_=>by
  rw [Nat.sub_zero,Nat.div_eq_of_lt hn]
  show Rep (cP iC) (Pt.zero DK)
  rw [EA];exact yE FK
 | j+1,hj=>by
  have ih:=D0 lp h n hn j (by omega)
  have l:=kF lp n j
  have e1:256 - j=(255 - j)+1:=by omega
  have e2:256 - (j+1)=255 - j:=by omega
  have hd:n/2 ^ (255 - j)=n/2 ^ (256 - j)+n/2 ^ (256 - j)+n/2 ^ (255 - j) % 2:=by
   rw [e1,Nat.pow_succ,←YL];omega
  have h2:=ku l l ih ih
  rw [show wo (dU (n/2 ^ (256 - j)) P) (dU (n/2 ^ (256 - j)) P)=dU (n/2 ^ (256 - j)+n/2 ^ (256 - j)) P from (Pt.smul_add FK P _ _).symm] at h2
  rw [e2]
  unfold oR
  split
  ·rename_i hb
   rw [hb] at hd
   rw [hd]
   exact ku (dD l l) lp h2 h
  ·rename_i hb
   have hb0:n/2 ^ (255 - j) % 2=0:=by omega
   rw [hb0,Nat.add_zero] at hd
   rw [hd]
   exact h2
theorem gJ {p:P4} {P:PT} (lp:p.ok) (h:Rep (cP p) P) (n:Nat) (hn:n<RN):Rep (cP (dM n p)) (dU n P):=by
 have:=D0 lp h n hn 256 (Nat.le_refl _)
 rw [Nat.sub_self,Nat.pow_zero,Nat.div_one] at this
 exact this
def zA:List Value→Option (List Prop × Value)
 | [A,B]=>some ([IsB A∧IsQ B],qv (dM (ai A) (q4 B)))
 | _=>none
theorem u9 {X:Cx} (hX:X.Ok Tryz.prog):(X.pure 49 zA).Ok Tryz.prog:=by
 refine aA hX Tryz.func49 (by kernel_rfl) (by kernel_rfl) ?_
 intro args ps v ha hg hp
 unfold zA at hg
 split at hg
 ·rename_i A B
  simp only [qG,qH] at hg
  obtain ⟨rfl,rfl⟩:=hg
  obtain ⟨hA,⟨hB,lB⟩⟩:=hp _ (YJ.2 rfl)
  refine ⟨.inl (dX _),fun w => ?_⟩
  have h:=qu (ai A) (aT hA) lB w
  rw [← (show A=bv (ai A) from hA),←hB] at h
  exact h
 ·simp at hg
def H2:Cx:=H1.pure 49 zA
theorem qL:H2.Ok Tryz.prog:=u9 Om
end Go.Proofs.YtajehiidpecknaaGreatDoor
