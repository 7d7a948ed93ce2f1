/- Package point: at, neutral, generator, mirror, quotients, sum, double, sixteenfold. -/
import Derived.Test.YtajehiidpecknaaGreatDoorFieQ
import Derived.Test.YtajehiidpecknaaGreatDoorPoiM
set_option linter.all false
namespace Go.Proofs.YtajehiidpecknaaGreatDoor
open Go Go.RowKit
theorem Fc {X:Cx} (hX:X.Ok Tryz.prog):(X.pure 115 gAdF).Ok Tryz.prog:=by
 refine aD hX Tryz.func115 (by kernel_rfl) (by kernel_rfl) ?_
 intro args ps v ha hg hp
 unfold gAdF at hg
 split at hg
 ·rename_i A B
  simp only [qG,qH] at hg
  obtain ⟨rfl,rfl⟩:=hg
  obtain ⟨hA,hB⟩:=hp _ (List.mem_singleton.2 rfl)
  refine ⟨.inl (aE _),fun w => ?_⟩
  have h:=DH (aj A) (aj B) (aS hA) (aS hB) w
  rw [← (show A=bv (aj A) from hA),← (show B=bv (aj B) from hB)] at h
  exact h
 ·simp at hg
theorem CX {X:Cx} (hX:X.Ok Tryz.prog):(X.pure 113 IE).Ok Tryz.prog:=by
 refine aD hX Tryz.func113 (by kernel_rfl) (by kernel_rfl) ?_
 intro args ps v ha hg hp
 unfold IE at hg
 split at hg
 ·rename_i A B
  simp only [qG,qH] at hg
  obtain ⟨rfl,rfl⟩:=hg
  obtain ⟨hA,hB⟩:=hp _ (List.mem_singleton.2 rfl)
  refine ⟨.inl (aE _),fun w => ?_⟩
  have h:=E1 (aj A) (aj B) (aS hA) (aS hB) w
  rw [← (show A=bv (aj A) from hA),← (show B=bv (aj B) from hB)] at h
  exact h
 ·simp at hg
theorem CP {X:Cx} (hX:X.Ok Tryz.prog):(X.pure 95 Gn).Ok Tryz.prog:=by
 refine aD hX Tryz.func95 (by kernel_rfl) (by kernel_rfl) ?_
 intro args ps v ha hg hp
 unfold Gn at hg
 split at hg
 ·rename_i A B
  simp only [qG,qH] at hg
  obtain ⟨rfl,rfl⟩:=hg
  obtain ⟨hA,hB⟩:=hp _ (List.mem_singleton.2 rfl)
  refine ⟨.inl (aE _),fun w => ?_⟩
  have h:=DG (aj A) (aj B) (aS hA) (aS hB) w
  rw [← (show A=bv (aj A) from hA),← (show B=bv (aj B) from hB)] at h
  exact h
 ·simp at hg
theorem E2 {X:Cx} (hX:X.Ok Tryz.prog):(X.pure 94 gIvF).Ok Tryz.prog:=by
 refine aD hX Tryz.func94 (by kernel_rfl) (by kernel_rfl) ?_
 intro args ps v ha hg hp
 unfold gIvF at hg
 split at hg
 ·rename_i A
  simp only [qG,qH] at hg
  obtain ⟨rfl,rfl⟩:=hg
  have hA:=hp _ (List.mem_singleton.2 rfl)
  refine ⟨.inl (aE _),fun w => ?_⟩
  have h:=DB (aj A) (aS hA) w
  rw [← (show A=bv (aj A) from hA)] at h
  exact h
 ·simp at hg
theorem EU {X:Cx} (hX:X.Ok Tryz.prog):(X.pure 110 Ga).Ok Tryz.prog:=by
 refine aD hX Tryz.func110 (by kernel_rfl) (by kernel_rfl) ?_
 intro args ps v ha hg hp
 unfold Ga at hg
 split at hg
 ·rename_i A
  simp only [qG,qH] at hg
  obtain ⟨rfl,rfl⟩:=hg
  have hA:=hp _ (List.mem_singleton.2 rfl)
  refine ⟨.inl rfl,fun w => ?_⟩
  have h:=fp (aj A) (aS hA) w
  rw [← (show A=bv (aj A) from hA)] at h
  exact h
 ·simp at hg
theorem tn:F0.Ok Tryz.prog:=EU (E2 (CP (CX (Fc (Cx.glo_ok Cx.none_ok (fun g h=>(by cases h)))))))
def lR (x xu y yu:Nat):P4:=⟨fml x yu,fml y xu,fml xu yu,fml x y⟩
theorem vV (x xu y yu:Nat):(lR x xu y yu).ok:=⟨gV (eF _ _),gV (eF _ _),gV (eF _ _),gV (eF _ _)⟩
def ji (a b:P4):P4 :=
 let less:=fml (fsb a.y a.x) (fsb b.y b.x)
 let more:=fml (fad a.y a.x) (fad b.y b.x)
 let turn:=fml DN' (fml a.t b.t)
 let both:=fml a.z b.z
 lR (fsb more less) (fad (fad both both) (fad turn turn)) (fad more less) (fsb (fad both both) (fad turn turn))
theorem kV (a b:P4):(ji a b).ok:=vV _ _ _ _
def dD (a:P4):P4 :=
 let below:=fsb (fml a.y a.y) (fml a.x a.x)
 lR (fad (fml a.x a.y) (fml a.x a.y)) below (fad (fml a.y a.y) (fml a.x a.x)) (fsb (fad (fml a.z a.z) (fml a.z a.z)) below)
theorem dj (a:P4):(dD a).ok:=vV _ _ _ _
def gO:P4:=⟨0,1,1,0⟩
theorem qk:gO.ok:=⟨by decide,by decide,by decide,by decide⟩
def atN (x y:Nat):P4:=⟨x,y,1,fml x y⟩
theorem Cy {x y:Nat} (hx:x<RN) (hy:y<RN):(atN x y).ok:=⟨hx,hy,(show (1:Nat)<RN by decide),gV (eF _ _)⟩
def BI (p:P4):P4:=⟨fsb 0 p.x,p.y,p.z,fsb 0 p.t⟩
theorem vN {p:P4} (h:p.ok):(BI p).ok:=⟨gV (qw _ _),h.y,h.z,gV (qw _ _)⟩
def rV:P4:=atN GX GY
theorem GV (x y:Nat):sfunG Tryz.prog F0 M0 60 Tryz.f100 (ai Tryz.f100) [bv x,bv y]=some ([IsB (bv x)∧IsB (bv y)],pv ⟨x,y,1,fml (aj (bv x)) (aj (bv y))⟩):=by kernel_rfl
def gAt:List Value→Option (List Prop × Value)
 | [A,B]=>some ([IsB A∧IsB B],pv (atN (aj A) (aj B)))
 | _=>none
theorem Gc {X:Cx} (hX:X.Ok Tryz.prog) (hc:aZ M0 X.gl=true):(X.var M0 100 gAt).Ok Tryz.prog:=by
 refine bE hX aL hc Tryz.func100 (by kernel_rfl) (by kernel_rfl) ?_
 intro args ps v ha hg hp
 unfold gAt at hg
 split at hg
 ·rename_i A B
  simp only [qG,qH] at hg
  obtain ⟨rfl,rfl⟩:=hg
  obtain ⟨hA,hB⟩:=hp _ (List.mem_singleton.2 rfl)
  refine ⟨.inl (aX _),fun w hw => ?_⟩
  have run:=GV (aj A) (aj B)
  rw [ar (aS hA),ar (aS hB)] at run
  have h:=az tn mixed aL (by kernel_rfl) Tryz.func100 (by kernel_rfl) run (by
   intro p hp
   simp only [List.mem_cons,List.not_mem_nil,or_false] at hp
   rcases hp with rfl
   exact ⟨aG _,aG _⟩) (by simp [aE]) (.inl (aX _)) w hw
  rw [← (show A=bv (aj A) from hA),← (show B=bv (aj B) from hB)] at h
  exact h
 ·simp at hg
theorem Df:sfunG Tryz.prog F0 M0 60 Tryz.f97 (ai Tryz.f97) []=some ([],pv gO):=by kernel_rfl
def gNeu:List Value→Option (List Prop × Value)
 | []=>some ([],pv gO)
 | _=>none
theorem CK {X:Cx} (hX:X.Ok Tryz.prog) (hc:aZ M0 X.gl=true):(X.var M0 97 gNeu).Ok Tryz.prog:=by
 refine bE hX aL hc Tryz.func97 (by kernel_rfl) (by kernel_rfl) ?_
 intro args ps v ha hg hp
 unfold gNeu at hg
 split at hg
 ·simp only [qG,qH] at hg
  obtain ⟨rfl,rfl⟩:=hg
  exact ⟨.inl (aX _),fun w hw=>az tn mixed aL (by kernel_rfl) Tryz.func97 (by kernel_rfl) Df (by simp) rfl (.inl (aX _)) w hw⟩
 ·simp at hg
theorem EL (p:P4):sfunG Tryz.prog F0 M0 60 Tryz.f118 (ai Tryz.f118) [pv p]=some ([IsB (bv 0)∧IsB (bv p.x),IsB (bv 0)∧IsB (bv p.t)],pv ⟨fsb (aj (bv 0)) (aj (bv p.x)),p.y,p.z,fsb (aj (bv 0)) (aj (bv p.t))⟩):=by kernel_rfl
def gMir:List Value→Option (List Prop × Value)
 | [A]=>some ([IsP A],pv (BI (p4 A)))
 | _=>none
theorem EN {X:Cx} (hX:X.Ok Tryz.prog) (hc:aZ M0 X.gl=true):(X.var M0 118 gMir).Ok Tryz.prog:=by
 refine bE hX aL hc Tryz.func118 (by kernel_rfl) (by kernel_rfl) ?_
 intro args ps v ha hg hp
 unfold gMir at hg
 split at hg
 ·rename_i A
  simp only [qG,qH] at hg
  obtain ⟨rfl,rfl⟩:=hg
  obtain ⟨hA,lA⟩:=hp _ (List.mem_singleton.2 rfl)
  refine ⟨.inl (aX _),fun w hw => ?_⟩
  have run:=EL (p4 A)
  rw [ar (n:=0) (by decide),ar lA.x,ar lA.t] at run
  have h:=az tn mixed aL (by kernel_rfl) Tryz.func118 (by kernel_rfl) run (by
   intro p hp
   simp only [List.mem_cons,List.not_mem_nil,or_false] at hp
   rcases hp with rfl | rfl <;> exact ⟨aG _,aG _⟩) (by simp [aX]) (.inl (aX _)) w hw
  rw [←hA] at h
  exact h
 ·simp at hg
theorem DD (x xu y yu:Nat):sfunG Tryz.prog F0 M0 60 Tryz.f114 (ai Tryz.f114) [bv x,bv xu,bv y,bv yu]=some ([IsB (bv x)∧IsB (bv yu),IsB (bv y)∧IsB (bv xu),IsB (bv xu)∧IsB (bv yu),IsB (bv x)∧IsB (bv y)],pv (lR (aj (bv x)) (aj (bv xu)) (aj (bv y)) (aj (bv yu)))):=by kernel_rfl
def gQuo:List Value→Option (List Prop × Value)
 | [A,B,C,D]=>some ([IsB A∧IsB B∧IsB C∧IsB D],pv (lR (aj A) (aj B) (aj C) (aj D)))
 | _=>none
theorem CU {X:Cx} (hX:X.Ok Tryz.prog) (hc:aZ M0 X.gl=true):(X.var M0 114 gQuo).Ok Tryz.prog:=by
 refine bE hX aL hc Tryz.func114 (by kernel_rfl) (by kernel_rfl) ?_
 intro args ps v ha hg hp
 unfold gQuo at hg
 split at hg
 ·rename_i A B C D
  simp only [qG,qH] at hg
  obtain ⟨rfl,rfl⟩:=hg
  obtain ⟨hA,hB,hC,hD⟩:=hp _ (List.mem_singleton.2 rfl)
  refine ⟨.inl (aX _),fun w hw => ?_⟩
  have run:=DD (aj A) (aj B) (aj C) (aj D)
  rw [ar (aS hA),ar (aS hB),ar (aS hC),ar (aS hD)] at run
  have h:=az tn mixed aL (by kernel_rfl) Tryz.func114 (by kernel_rfl) run (by
   intro p hp
   simp only [List.mem_cons,List.not_mem_nil,or_false] at hp
   rcases hp with rfl | rfl | rfl | rfl <;> exact ⟨aG _,aG _⟩) (by simp [aE]) (.inl (aX _)) w hw
  rw [← (show A=bv (aj A) from hA),← (show B=bv (aj B) from hB),← (show C=bv (aj C) from hC),← (show D=bv (aj D) from hD)] at h
  exact h
 ·simp at hg
def F1:Cx:=(((F0.var M0 100 gAt).var M0 97 gNeu).var M0 118 gMir).var M0 114 gQuo
theorem oN:F1.Ok Tryz.prog:=CU (EN (CK (Gc tn (by kernel_rfl)) (by kernel_rfl)) (by kernel_rfl)) (by kernel_rfl)
def iE (a b:P4):Value:=ML (SB (bv a.y) (bv a.x)) (SB (bv b.y) (bv b.x))
def iF (a b:P4):Value:=ML (AD (bv a.y) (bv a.x)) (AD (bv b.y) (bv b.x))
def pa (a b:P4):Value:=ML (bv DN') (ML (bv a.t) (bv b.t))
def ov (a b:P4):Value:=ML (bv a.z) (bv b.z)
def ff (a b:P4):Value:=AD (pa a b) (pa a b)
def fl (a b:P4):Value:=AD (ov a b) (ov a b)
def IB (A B:Value):Prop:=IsB A∧IsB B
theorem DS (a b:P4):sfunG Tryz.prog F1 M0 60 Tryz.f98 (ai Tryz.f98) [pv a,pv b]=some ([
  IB (bv a.y) (bv a.x),IB (bv b.y) (bv b.x),IB (SB (bv a.y) (bv a.x)) (SB (bv b.y) (bv b.x)),
  IB (bv a.y) (bv a.x),IB (bv b.y) (bv b.x),IB (AD (bv a.y) (bv a.x)) (AD (bv b.y) (bv b.x)),
  IB (bv a.t) (bv b.t),IB (bv DN') (ML (bv a.t) (bv b.t)),IB (pa a b) (pa a b),
  IB (bv a.z) (bv b.z),IB (ov a b) (ov a b),
  IB (iF a b) (iE a b),IB (fl a b) (ff a b),IB (iF a b) (iE a b),IB (fl a b) (ff a b),
  IsB (SB (iF a b) (iE a b))∧IsB (AD (fl a b) (ff a b))∧IsB (AD (iF a b) (iE a b))∧IsB (SB (fl a b) (ff a b))],
  pv (lR (aj (SB (iF a b) (iE a b))) (aj (AD (fl a b) (ff a b))) (aj (AD (iF a b) (iE a b))) (aj (SB (fl a b) (ff a b))))):=by kernel_rfl
end Go.Proofs.YtajehiidpecknaaGreatDoor
namespace Go.Proofs.YtajehiidpecknaaGreatDoor
open Go Go.RowKit
theorem dz (a b:Nat) (ha:a<RN) (hb:b<RN):AD (bv a) (bv b)=bv (fad a b):=by unfold AD;rw [ar ha,ar hb]
theorem eV (a b:Nat) (ha:a<RN) (hb:b<RN):SB (bv a) (bv b)=bv (fsb a b):=by unfold SB;rw [ar ha,ar hb]
theorem cX (a b:Nat) (ha:a<RN) (hb:b<RN):ML (bv a) (bv b)=bv (fml a b):=by unfold ML;rw [ar ha,ar hb]
theorem xn (a:Nat) (ha:a<RN):IV (bv a)=bv (fiv a):=by unfold IV;rw [ar ha]
theorem kN (a b:Nat):fad a b<RN:=gV (Gy a b)
theorem mN (a b:Nat):fsb a b<RN:=gV (qw a b)
theorem fj (a b:Nat):fml a b<RN:=gV (eF a b)
theorem Gw (a:Nat):fiv a<RN:=gV (GZ a)
theorem Dj {a b:P4} (la:a.ok) (lb:b.ok):lR (aj (SB (iF a b) (iE a b))) (aj (AD (fl a b) (ff a b))) (aj (AD (iF a b) (iE a b))) (aj (SB (fl a b) (ff a b)))=ji a b:=by
 have h1:iF a b=bv (fml (fad a.y a.x) (fad b.y b.x)):=by unfold iF;rw [dz _ _ la.y la.x,dz _ _ lb.y lb.x,cX _ _ (kN _ _) (kN _ _)]
 have h2:iE a b=bv (fml (fsb a.y a.x) (fsb b.y b.x)):=by unfold iE;rw [eV _ _ la.y la.x,eV _ _ lb.y lb.x,cX _ _ (mN _ _) (mN _ _)]
 have h3:pa a b=bv (fml DN' (fml a.t b.t)):=by unfold pa;rw [cX _ _ la.t lb.t,cX _ _ (by decide) (fj _ _)]
 have h4:ov a b=bv (fml a.z b.z):=by unfold ov;rw [cX _ _ la.z lb.z]
 have h5:ff a b=bv (fad (fml DN' (fml a.t b.t)) (fml DN' (fml a.t b.t))):=by unfold ff;rw [h3,dz _ _ (fj _ _) (fj _ _)]
 have h6:fl a b=bv (fad (fml a.z b.z) (fml a.z b.z)):=by unfold fl;rw [h4,dz _ _ (fj _ _) (fj _ _)]
 rw [h1,h2,h5,h6,eV _ _ (fj _ _) (fj _ _),dz _ _ (kN _ _) (kN _ _),dz _ _ (fj _ _) (fj _ _),eV _ _ (kN _ _) (kN _ _),ar (mN _ _),ar (kN _ _),ar (kN _ _),ar (mN _ _)]
 rfl
theorem ib {A B:Nat} : IB (bv A) (bv B):=⟨aG _,aG _⟩
def gSum:List Value→Option (List Prop × Value)
 | [A,B]=>some ([IsP A∧IsP B],pv (ji (p4 A) (p4 B)))
 | _=>none
theorem Da {X:Cx} (hX:X.Ok Tryz.prog) (hc:aZ M0 X.gl=true):(X.var M0 98 gSum).Ok Tryz.prog:=by
 refine bE hX aL hc Tryz.func98 (by kernel_rfl) (by kernel_rfl) ?_
 intro args ps v ha hg hp
 unfold gSum at hg
 split at hg
 ·rename_i A B
  simp only [qG,qH] at hg
  obtain ⟨rfl,rfl⟩:=hg
  obtain ⟨⟨hA,lA⟩,⟨hB,lB⟩⟩:=hp _ (List.mem_singleton.2 rfl)
  refine ⟨.inl (aX _),fun w hw => ?_⟩
  have run:=DS (p4 A) (p4 B)
  rw [Dj lA lB] at run
  have h:=az oN mixed aL (by kernel_rfl) Tryz.func98 (by kernel_rfl) run (by
   intro p hp
   simp only [List.mem_cons,List.not_mem_nil,or_false] at hp
   rcases hp with rfl | rfl | rfl | rfl | rfl | rfl | rfl | rfl | rfl | rfl | rfl | rfl | rfl | rfl | rfl | rfl <;> first | exact ib | exact ⟨aG _,aG _,aG _,aG _⟩) (by simp [aX]) (.inl (aX _)) w hw
  rw [←hA,←hB] at h
  exact h
 ·simp at hg
def xxV (a:P4):Value:=ML (bv a.x) (bv a.x)
def yyV (a:P4):Value:=ML (bv a.y) (bv a.y)
def zzV (a:P4):Value:=ML (bv a.z) (bv a.z)
def xyV (a:P4):Value:=ML (bv a.x) (bv a.y)
def gy (a:P4):Value:=SB (yyV a) (xxV a)
theorem Ec (a:P4):sfunG Tryz.prog F1 M0 60 Tryz.f71 (ai Tryz.f71) [pv a]=some ([
  IB (bv a.x) (bv a.x),IB (bv a.y) (bv a.y),IB (bv a.z) (bv a.z),IB (bv a.x) (bv a.y),IB (yyV a) (xxV a),
  IB (xyV a) (xyV a),IB (yyV a) (xxV a),IB (zzV a) (zzV a),IB (AD (zzV a) (zzV a)) (gy a),
  IsB (AD (xyV a) (xyV a))∧IsB (gy a)∧IsB (AD (yyV a) (xxV a))∧IsB (SB (AD (zzV a) (zzV a)) (gy a))],
  pv (lR (aj (AD (xyV a) (xyV a))) (aj (gy a)) (aj (AD (yyV a) (xxV a))) (aj (SB (AD (zzV a) (zzV a)) (gy a))))):=by kernel_rfl
theorem CB {a:P4} (la:a.ok):lR (aj (AD (xyV a) (xyV a))) (aj (gy a)) (aj (AD (yyV a) (xxV a))) (aj (SB (AD (zzV a) (zzV a)) (gy a)))=dD a:=by
 have h1:xxV a=bv (fml a.x a.x):=by unfold xxV;rw [cX _ _ la.x la.x]
 have h2:yyV a=bv (fml a.y a.y):=by unfold yyV;rw [cX _ _ la.y la.y]
 have h3:zzV a=bv (fml a.z a.z):=by unfold zzV;rw [cX _ _ la.z la.z]
 have h4:xyV a=bv (fml a.x a.y):=by unfold xyV;rw [cX _ _ la.x la.y]
 have h5:gy a=bv (fsb (fml a.y a.y) (fml a.x a.x)):=by unfold gy;rw [h1,h2,eV _ _ (fj _ _) (fj _ _)]
 rw [h1,h2,h3,h4,h5,dz _ _ (fj _ _) (fj _ _),dz _ _ (fj _ _) (fj _ _),dz _ _ (fj _ _) (fj _ _),eV _ _ (kN _ _) (mN _ _),ar (kN _ _),ar (mN _ _),ar (kN _ _),ar (mN _ _)]
 rfl
def gDbl:List Value→Option (List Prop × Value)
 | [A]=>some ([IsP A],pv (dD (p4 A)))
 | _=>none
theorem E7 {X:Cx} (hX:X.Ok Tryz.prog) (hc:aZ M0 X.gl=true):(X.var M0 71 gDbl).Ok Tryz.prog:=by
 refine bE hX aL hc Tryz.func71 (by kernel_rfl) (by kernel_rfl) ?_
 intro args ps v ha hg hp
 unfold gDbl at hg
 split at hg
 ·rename_i A
  simp only [qG,qH] at hg
  obtain ⟨rfl,rfl⟩:=hg
  obtain ⟨hA,lA⟩:=hp _ (List.mem_singleton.2 rfl)
  refine ⟨.inl (aX _),fun w hw => ?_⟩
  have run:=Ec (p4 A)
  rw [CB lA] at run
  have h:=az oN mixed aL (by kernel_rfl) Tryz.func71 (by kernel_rfl) run (by
   intro p hp
   simp only [List.mem_cons,List.not_mem_nil,or_false] at hp
   rcases hp with rfl | rfl | rfl | rfl | rfl | rfl | rfl | rfl | rfl | rfl <;> first | exact ib | exact ⟨aG _,aG _,aG _,aG _⟩) (by simp [aX]) (.inl (aX _)) w hw
  rw [←hA] at h
  exact h
 ·simp at hg
def F2:Cx:=(F1.var M0 98 gSum).var M0 71 gDbl
theorem tC:F2.Ok Tryz.prog:=E7 (Da oN (by kernel_rfl)) (by kernel_rfl)
def D1 (a:P4):P4:=dD (p4 (pv a))
theorem xl {a:P4} (h:a.ok):D1 a=dD a:=by unfold D1;rw [cN h]
theorem DW (a:P4):sfunG Tryz.prog F2 M0 60 Tryz.f99 (ai Tryz.f99) [pv a]=some ([IsP (pv a),IsP (pv (D1 a)),IsP (pv (D1 (D1 a))),IsP (pv (D1 (D1 (D1 a))))],pv (D1 (D1 (D1 (D1 a))))):=by kernel_rfl
def ux (a:P4):P4:=dD (dD (dD (dD a)))
theorem wh (a:P4):(ux a).ok:=dj _
def Ic:List Value→Option (List Prop × Value)
 | [A]=>some ([IsP A],pv (ux (p4 A)))
 | _=>none
theorem Dd {X:Cx} (hX:X.Ok Tryz.prog) (hc:aZ M0 X.gl=true):(X.var M0 99 Ic).Ok Tryz.prog:=by
 refine bE hX aL hc Tryz.func99 (by kernel_rfl) (by kernel_rfl) ?_
 intro args ps v ha hg hp
 unfold Ic at hg
 split at hg
 ·rename_i A
  simp only [qG,qH] at hg
  obtain ⟨rfl,rfl⟩:=hg
  obtain ⟨hA,lA⟩:=hp _ (List.mem_singleton.2 rfl)
  refine ⟨.inl (aX _),fun w hw => ?_⟩
  have run:=DW (p4 A)
  rw [xl lA,xl (dj _),xl (dj _),xl (dj _)] at run
  have h:=az tC mixed aL (by kernel_rfl) Tryz.func99 (by kernel_rfl) run (by
   intro p hp
   simp only [List.mem_cons,List.not_mem_nil,or_false] at hp
   rcases hp with rfl | rfl | rfl | rfl
   ·exact bR lA
   all_goals exact bR (dj _)) (by simp [aX]) (.inl (aX _)) w hw
  rw [←hA] at h
  exact h
 ·simp at hg
theorem Jg {g:Nat} (h:g ∈ gl4):g ∈ gl5:=by
 unfold gl4 at h
 unfold gl5
 simp only [List.mem_cons,List.not_mem_nil,or_false] at h ⊢
 omega
theorem Hw:(F2.glo gl5).Ok Tryz.prog:=Cx.glo_ok tC fun g h=>Jg h
theorem C7:sfunG Tryz.prog (F2.glo gl5) M1 60 Tryz.f53 (ai Tryz.f53) []=some ([IsB (bv GX)∧IsB (bv GY)],pv (atN (aj (bv GX)) (aj (bv GY)))):=by kernel_rfl
def gGen:List Value→Option (List Prop × Value)
 | []=>some ([],pv rV)
 | _=>none
theorem Fh {X:Cx} (hX:X.Ok Tryz.prog) (hc:aZ M1 X.gl=true):(X.var M1 53 gGen).Ok Tryz.prog:=by
 refine bE hX kS hc Tryz.func53 (by kernel_rfl) (by kernel_rfl) ?_
 intro args ps v ha hg hp
 unfold gGen at hg
 split at hg
 ·simp only [qG,qH] at hg
  obtain ⟨rfl,rfl⟩:=hg
  have run:=C7
  rw [ar (n:=GX) (by decide),ar (n:=GY) (by decide)] at run
  exact ⟨.inl (aX _),fun w hw=>az Hw mixed kS (by kernel_rfl) Tryz.func53 (by kernel_rfl) run (by
   intro p hp
   simp only [List.mem_cons,List.not_mem_nil,or_false] at hp
   rcases hp with rfl
   exact ⟨aG _,aG _⟩) rfl (.inl (aX _)) w hw⟩
 ·simp at hg
def F3:Cx:=F2.var M0 99 Ic
theorem rT:F3.Ok Tryz.prog:=Dd tC (by kernel_rfl)
end Go.Proofs.YtajehiidpecknaaGreatDoor
namespace Go.Proofs.YtajehiidpecknaaGreatDoor
open Go Go.RowKit
def SU (p q:P4):P4:=ji (p4 (pv p)) (p4 (pv q))
def muS (a:P4):Nat→P4
 | 0=>gO
 | n+1=>SU (muS a n) a
def muN (a:P4):Nat→P4
 | 0=>gO
 | n+1=>ji (muN a n) a
theorem ke (a:P4) : ∀ n,(muN a n).ok
 | 0=>qk
 | n+1=>kV _ _
theorem um {a:P4} (h:a.ok) : ∀ n,muS a n=muN a n
 | 0=>rfl
 | n+1=>by
  show ji (p4 (pv (muS a n))) (p4 (pv a))=ji (muN a n) a
  rw [um h n,cN (ke a n),cN h]
def muT (a:P4) (i:Nat):Prop:=IsP (pv (muS a i))∧IsP (pv a)
def Gf (o:Option (List Prop × Value)):Option (List Prop):=o.map (·.1)
def Jw (o:Option (List Prop × Value)):Value:=(o.map (·.2)).getD undef
theorem Gr {o:Option (List Prop × Value)} {ps:List Prop} (h:Gf o=some ps):o=some (ps,Jw o):=by
 cases o with
 | none=>cases h
 | some q=>simp only [Gf,Option.map_some,qG] at h;subst h;rfl
def Bb (P:Program) (fn:Func) (a:P4):Value:=Jw (sfunG P F3 M0 100 fn (ai fn) [pv a])
def cellsOf:Value→List Value
 | .agg cs=>cs.toList
 | _=>[]
def vq:Value→Bool
 | .agg _=>true
 | _=>false
theorem yn {v:Value} (h:vq v=true):v = .agg (cellsOf v).toArray:=by
 cases v <;> simp [vq] at h
 rename_i cs
 simp [cellsOf]
def sl (l:List Value) (i:Nat):List Value:=(l.drop (128*i)).take 128
def muL (g:Nat→P4):List Value:=(List.range 16).flatMap fun i=>pcs (g i)
theorem od (f:Nat→List Value) : ∀ (n:Nat) (l:List Value),l.length=128*n→(∀ i,i<n→sl l i=f i)→l=(List.range n).flatMap f
 | 0,l,hl,_=>by
  have:l = []:=List.eq_nil_of_length_eq_zero (by omega)
  rw [this];rfl
 | n+1,l,hl,h=>by
  have ih:=od f n (l.take (128*n)) (by rw [List.length_take];omega) (fun i hi=>by
   rw [←h i (by omega)]
   unfold sl
   rw [List.drop_take,List.take_take]
   congr 1
   omega)
  have hn:=h n (by omega)
  unfold sl at hn
  rw [List.take_of_length_le (by rw [List.length_drop];omega)] at hn
  rw [List.range_succ,List.flatMap_append,←ih,List.flatMap_cons,List.flatMap_nil,List.append_nil,←hn,List.take_append_drop]
theorem AM (a:P4):Gf (sfunG Tryz.prog F3 M0 100 Tryz.f96 (ai Tryz.f96) [pv a])=some [muT a 0,muT a 1,muT a 2,muT a 3,muT a 4,muT a 5,muT a 6,muT a 7,muT a 8,muT a 9,muT a 10,muT a 11,muT a 12,muT a 13,muT a 14]:=by kernel_rfl
theorem CQ (a:P4):vq (Bb Tryz.prog Tryz.f96 a)=true:=by kernel_rfl
theorem Fl (a:P4):(cellsOf (Bb Tryz.prog Tryz.f96 a)).length=2048:=by kernel_rfl
theorem It (a:P4):(List.range 16).map (sl (cellsOf (Bb Tryz.prog Tryz.f96 a)))=(List.range 16).map fun i=>pcs (muS a i):=by kernel_rfl
theorem Dp {a:P4} (h:a.ok):Bb Tryz.prog Tryz.f96 a = .agg (muL (muN a)).toArray:=by
 have e:=od (fun i=>pcs (muS a i)) 16 _ (Fl a) (fun i hi=>List.map_inj_left.1 (It a) i (List.mem_range.2 hi))
 rw [yn (CQ a),e]
 unfold muL
 rw [show muS a=muN a from funext (um h)]
theorem ru (g:Nat→P4):flat (.agg (muL g).toArray)=true:=by
 show ((muL g).toArray.toList.all flat1)=true
 rw [List.toList_toArray]
 unfold muL
 rw [List.all_flatMap]
 refine List.all_eq_true.2 fun i _ => ?_
 unfold pcs
 simp only [List.all_append,lh,Bool.and_self]
def gMus:List Value→Option (List Prop × Value)
 | [A]=>some ([IsP A],.agg (muL (muN (p4 A))).toArray)
 | _=>none
theorem DZ {X:Cx} (hX:X.Ok Tryz.prog) (hc:aZ M0 X.gl=true):(X.var M0 96 gMus).Ok Tryz.prog:=by
 refine bE hX aL hc Tryz.func96 (by kernel_rfl) (by kernel_rfl) ?_
 intro args ps v ha hg hp
 unfold gMus at hg
 split at hg
 ·rename_i A
  simp only [qG,qH] at hg
  obtain ⟨rfl,rfl⟩:=hg
  obtain ⟨hA,lA⟩:=hp _ (List.mem_singleton.2 rfl)
  refine ⟨.inl (ru _),fun w hw => ?_⟩
  have run:=Gr (AM (p4 A))
  have e:=Dp lA
  unfold Bb at e
  rw [e] at run
  have ht : ∀ i,muT (p4 A) i:=fun i=>by
   unfold muT
   rw [um lA]
   exact ⟨bR (ke _ _),bR lA⟩
  have h:=az rT mixed aL (by kernel_rfl) Tryz.func96 (by kernel_rfl) run (by
   intro p hp
   simp only [List.mem_cons,List.not_mem_nil,or_false] at hp
   rcases hp with rfl | rfl | rfl | rfl | rfl | rfl | rfl | rfl | rfl | rfl | rfl | rfl | rfl | rfl | rfl <;> exact ht _) (by simp [aX]) (.inl (ru _)) w hw
  rw [←hA] at h
  exact h
 ·simp at hg
def F4:Cx:=F3.var M0 96 gMus
theorem gT:F4.Ok Tryz.prog:=DZ rT (by kernel_rfl)
end Go.Proofs.YtajehiidpecknaaGreatDoor
