import Derived.Test.YtajehiidpecknaaGreatDoorFieI
import Derived.Test.YtajehiidpecknaaGreatDoorPoiM
set_option linter.all false
namespace Go.Proofs.YtajehiidpecknaaGreatDoor
open Go Go.RowKit
theorem Fo {X:Cx} (hX:X.Ok Tryz.prog):(X.pure 115 gAdF).Ok Tryz.prog:=by
 refine aA hX Tryz.func115 (by kernel_rfl) (by kernel_rfl) ?_
 intro args ps v ha hg hp
 unfold gAdF at hg
 split at hg
 ·rename_i A B
  simp only [qG,qH] at hg
  obtain ⟨rfl,rfl⟩:=hg
  obtain ⟨hA,hB⟩:=hp _ (YJ.2 rfl)
  refine ⟨.inl (aB _),fun w => ?_⟩
  have h:=Fv (ai A) (ai B) (aT hA) (aT hB) w
  rw [← (show A=bv (ai A) from hA),← (show B=bv (ai B) from hB)] at h
  exact h
 ·simp at hg
theorem Gt {X:Cx} (hX:X.Ok Tryz.prog):(X.pure 113 Kk).Ok Tryz.prog:=by
 refine aA hX Tryz.func113 (by kernel_rfl) (by kernel_rfl) ?_
 intro args ps v ha hg hp
 unfold Kk at hg
 split at hg
 ·rename_i A B
  simp only [qG,qH] at hg
  obtain ⟨rfl,rfl⟩:=hg
  obtain ⟨hA,hB⟩:=hp _ (YJ.2 rfl)
  refine ⟨.inl (aB _),fun w => ?_⟩
  have h:=Hw (ai A) (ai B) (aT hA) (aT hB) w
  rw [← (show A=bv (ai A) from hA),← (show B=bv (ai B) from hB)] at h
  exact h
 ·simp at hg
theorem Gh {X:Cx} (hX:X.Ok Tryz.prog):(X.pure 95 JM).Ok Tryz.prog:=by
 refine aA hX Tryz.func95 (by kernel_rfl) (by kernel_rfl) ?_
 intro args ps v ha hg hp
 unfold JM at hg
 split at hg
 ·rename_i A B
  simp only [qG,qH] at hg
  obtain ⟨rfl,rfl⟩:=hg
  obtain ⟨hA,hB⟩:=hp _ (YJ.2 rfl)
  refine ⟨.inl (aB _),fun w => ?_⟩
  have h:=FD (ai A) (ai B) (aT hA) (aT hB) w
  rw [← (show A=bv (ai A) from hA),← (show B=bv (ai B) from hB)] at h
  exact h
 ·simp at hg
theorem Fw {X:Cx} (hX:X.Ok Tryz.prog):(X.pure 94 gIvF).Ok Tryz.prog:=by
 refine aA hX Tryz.func94 (by kernel_rfl) (by kernel_rfl) ?_
 intro args ps v ha hg hp
 unfold gIvF at hg
 split at hg
 ·rename_i A
  simp only [qG,qH] at hg
  obtain ⟨rfl,rfl⟩:=hg
  have hA:=hp _ (YJ.2 rfl)
  refine ⟨.inl (aB _),fun w => ?_⟩
  have h:=I7 (ai A) (aT hA) w
  rw [← (show A=bv (ai A) from hA)] at h
  exact h
 ·simp at hg
theorem H7 {X:Cx} (hX:X.Ok Tryz.prog):(X.pure 110 KL).Ok Tryz.prog:=by
 refine aA hX Tryz.func110 (by kernel_rfl) (by kernel_rfl) ?_
 intro args ps v ha hg hp
 unfold KL at hg
 split at hg
 ·rename_i A
  simp only [qG,qH] at hg
  obtain ⟨rfl,rfl⟩:=hg
  have hA:=hp _ (YJ.2 rfl)
  refine ⟨.inl rfl,fun w => ?_⟩
  have h:=fU (ai A) (aT hA) w
  rw [← (show A=bv (ai A) from hA)] at h
  exact h
 ·simp at hg
theorem vo:F0.Ok Tryz.prog:=H7 (Fw (Gh (Gt (Fo (Cx.glo_ok Cx.none_ok (fun g h=>(by cases h)))))))
def nH (x xu y yu:Nat):P4:=⟨fml x yu,fml y xu,fml xu yu,fml x y⟩
theorem zy (x xu y yu:Nat):(nH x xu y yu).ok:=⟨iL (ff _ _),iL (ff _ _),iL (ff _ _),iL (ff _ _)⟩
def jS (a b:P4):P4 :=
 let less:=fml (fsb a.y a.x) (fsb b.y b.x)
 let more:=fml (fad a.y a.x) (fad b.y b.x)
 let turn:=fml DN' (fml a.t b.t)
 let both:=fml a.z b.z
 nH (fsb more less) (fad (fad both both) (fad turn turn)) (fad more less) (fsb (fad both both) (fad turn turn))
theorem mV (a b:P4):(jS a b).ok:=zy _ _ _ _
def eg (a:P4):P4 :=
 let below:=fsb (fml a.y a.y) (fml a.x a.x)
 nH (fad (fml a.x a.y) (fml a.x a.y)) below (fad (fml a.y a.y) (fml a.x a.x)) (fsb (fad (fml a.z a.z) (fml a.z a.z)) below)
theorem dB (a:P4):(eg a).ok:=zy _ _ _ _
def iC:P4:=⟨0,1,1,0⟩
theorem rY:iC.ok:=⟨by decide,by decide,by decide,by decide⟩
def atN (x y:Nat):P4:=⟨x,y,1,fml x y⟩
theorem Ds {x y:Nat} (hx:x<RN) (hy:y<RN):(atN x y).ok:=⟨hx,hy,(show (1:Nat)<RN by decide),iL (ff _ _)⟩
def wb (p:P4):P4:=⟨fsb 0 p.x,p.y,p.z,fsb 0 p.t⟩
theorem zc {p:P4} (h:p.ok):(wb p).ok:=⟨iL (rZ _ _),h.y,h.z,iL (rZ _ _)⟩
def uS:P4:=atN GX GY
theorem K2 (x y:Nat):sfunG Tryz.prog F0 M0 60 Tryz.f100 (ag Tryz.f100) [bv x,bv y]=some ([IsB (bv x)∧IsB (bv y)],pv ⟨x,y,1,fml (ai (bv x)) (ai (bv y))⟩):=by kernel_rfl
def gAt:List Value→Option (List Prop × Value)
 | [A,B]=>some ([IsB A∧IsB B],pv (atN (ai A) (ai B)))
 | _=>none
theorem J2 {X:Cx} (hX:X.Ok Tryz.prog) (hc:bk M0 X.gl=true):(X.var M0 100 gAt).Ok Tryz.prog:=by
 refine bO hX aP hc Tryz.func100 (by kernel_rfl) (by kernel_rfl) ?_
 intro args ps v ha hg hp
 unfold gAt at hg
 split at hg
 ·rename_i A B
  simp only [qG,qH] at hg
  obtain ⟨rfl,rfl⟩:=hg
  obtain ⟨hA,hB⟩:=hp _ (YJ.2 rfl)
  refine ⟨.inl (bf _),fun w hw => ?_⟩
  have run:=K2 (ai A) (ai B)
  rw [ao (aT hA),ao (aT hB)] at run
  have h:=aH vo mixed aP (by kernel_rfl) Tryz.func100 (by kernel_rfl) run (by
   intro p hp
   simp only [List.mem_cons,List.not_mem_nil,or_false] at hp
   rcases hp with rfl
   exact ⟨aJ _,aJ _⟩) (by simp [aB]) (.inl (bf _)) w hw
  rw [← (show A=bv (ai A) from hA),← (show B=bv (ai B) from hB)] at h
  exact h
 ·simp at hg
theorem Gy:sfunG Tryz.prog F0 M0 60 Tryz.f97 (ag Tryz.f97) []=some ([],pv iC):=by kernel_rfl
def gNeu:List Value→Option (List Prop × Value)
 | []=>some ([],pv iC)
 | _=>none
theorem Ip {X:Cx} (hX:X.Ok Tryz.prog) (hc:bk M0 X.gl=true):(X.var M0 97 gNeu).Ok Tryz.prog:=by
 refine bO hX aP hc Tryz.func97 (by kernel_rfl) (by kernel_rfl) ?_
 intro args ps v ha hg hp
 unfold gNeu at hg
 split at hg
 ·simp only [qG,qH] at hg
  obtain ⟨rfl,rfl⟩:=hg
  exact ⟨.inl (bf _),fun w hw=>aH vo mixed aP (by kernel_rfl) Tryz.func97 (by kernel_rfl) Gy (by simp) rfl (.inl (bf _)) w hw⟩
 ·simp at hg
theorem Hf (p:P4):sfunG Tryz.prog F0 M0 60 Tryz.f118 (ag Tryz.f118) [pv p]=some ([IsB (bv 0)∧IsB (bv p.x),IsB (bv 0)∧IsB (bv p.t)],pv ⟨fsb (ai (bv 0)) (ai (bv p.x)),p.y,p.z,fsb (ai (bv 0)) (ai (bv p.t))⟩):=by kernel_rfl
def gMir:List Value→Option (List Prop × Value)
 | [A]=>some ([IsP A],pv (wb (p4 A)))
 | _=>none
theorem ID {X:Cx} (hX:X.Ok Tryz.prog) (hc:bk M0 X.gl=true):(X.var M0 118 gMir).Ok Tryz.prog:=by
 refine bO hX aP hc Tryz.func118 (by kernel_rfl) (by kernel_rfl) ?_
 intro args ps v ha hg hp
 unfold gMir at hg
 split at hg
 ·rename_i A
  simp only [qG,qH] at hg
  obtain ⟨rfl,rfl⟩:=hg
  obtain ⟨hA,lA⟩:=hp _ (YJ.2 rfl)
  refine ⟨.inl (bf _),fun w hw => ?_⟩
  have run:=Hf (p4 A)
  rw [ao (n:=0) (by decide),ao lA.x,ao lA.t] at run
  have h:=aH vo mixed aP (by kernel_rfl) Tryz.func118 (by kernel_rfl) run (by
   intro p hp
   simp only [List.mem_cons,List.not_mem_nil,or_false] at hp
   rcases hp with rfl | rfl <;> exact ⟨aJ _,aJ _⟩) (by simp [bf]) (.inl (bf _)) w hw
  rw [←hA] at h
  exact h
 ·simp at hg
theorem G7 (x xu y yu:Nat):sfunG Tryz.prog F0 M0 60 Tryz.f114 (ag Tryz.f114) [bv x,bv xu,bv y,bv yu]=some ([IsB (bv x)∧IsB (bv yu),IsB (bv y)∧IsB (bv xu),IsB (bv xu)∧IsB (bv yu),IsB (bv x)∧IsB (bv y)],pv (nH (ai (bv x)) (ai (bv xu)) (ai (bv y)) (ai (bv yu)))):=by kernel_rfl
def gQuo:List Value→Option (List Prop × Value)
 | [A,B,C,D]=>some ([IsB A∧IsB B∧IsB C∧IsB D],pv (nH (ai A) (ai B) (ai C) (ai D)))
 | _=>none
theorem FJ {X:Cx} (hX:X.Ok Tryz.prog) (hc:bk M0 X.gl=true):(X.var M0 114 gQuo).Ok Tryz.prog:=by
 refine bO hX aP hc Tryz.func114 (by kernel_rfl) (by kernel_rfl) ?_
 intro args ps v ha hg hp
 unfold gQuo at hg
 split at hg
 ·rename_i A B C D
  simp only [qG,qH] at hg
  obtain ⟨rfl,rfl⟩:=hg
  obtain ⟨hA,hB,hC,hD⟩:=hp _ (YJ.2 rfl)
  refine ⟨.inl (bf _),fun w hw => ?_⟩
  have run:=G7 (ai A) (ai B) (ai C) (ai D)
  rw [ao (aT hA),ao (aT hB),ao (aT hC),ao (aT hD)] at run
  have h:=aH vo mixed aP (by kernel_rfl) Tryz.func114 (by kernel_rfl) run (by
   intro p hp
   simp only [List.mem_cons,List.not_mem_nil,or_false] at hp
   rcases hp with rfl | rfl | rfl | rfl <;> exact ⟨aJ _,aJ _⟩) (by simp [aB]) (.inl (bf _)) w hw
  rw [← (show A=bv (ai A) from hA),← (show B=bv (ai B) from hB),← (show C=bv (ai C) from hC),← (show D=bv (ai D) from hD)] at h
  exact h
 ·simp at hg
def F1:Cx:=(((F0.var M0 100 gAt).var M0 97 gNeu).var M0 118 gMir).var M0 114 gQuo
theorem pY:F1.Ok Tryz.prog:=FJ (ID (Ip (J2 vo (by kernel_rfl)) (by kernel_rfl)) (by kernel_rfl)) (by kernel_rfl)
def jB (a b:P4):Value:=ML (SB (bv a.y) (bv a.x)) (SB (bv b.y) (bv b.x))
def jF (a b:P4):Value:=ML (AD (bv a.y) (bv a.x)) (AD (bv b.y) (bv b.x))
def pK (a b:P4):Value:=ML (bv DN') (ML (bv a.t) (bv b.t))
def qX (a b:P4):Value:=ML (bv a.z) (bv b.z)
def fY (a b:P4):Value:=AD (pK a b) (pK a b)
def fW (a b:P4):Value:=AD (qX a b) (qX a b)
def IB (A B:Value):Prop:=IsB A∧IsB B
theorem GW (a b:P4):sfunG Tryz.prog F1 M0 60 Tryz.f98 (ag Tryz.f98) [pv a,pv b]=some ([
  IB (bv a.y) (bv a.x),IB (bv b.y) (bv b.x),IB (SB (bv a.y) (bv a.x)) (SB (bv b.y) (bv b.x)),
  IB (bv a.y) (bv a.x),IB (bv b.y) (bv b.x),IB (AD (bv a.y) (bv a.x)) (AD (bv b.y) (bv b.x)),
  IB (bv a.t) (bv b.t),IB (bv DN') (ML (bv a.t) (bv b.t)),IB (pK a b) (pK a b),
  IB (bv a.z) (bv b.z),IB (qX a b) (qX a b),
  IB (jF a b) (jB a b),IB (fW a b) (fY a b),IB (jF a b) (jB a b),IB (fW a b) (fY a b),
  IsB (SB (jF a b) (jB a b))∧IsB (AD (fW a b) (fY a b))∧IsB (AD (jF a b) (jB a b))∧IsB (SB (fW a b) (fY a b))],
  pv (nH (ai (SB (jF a b) (jB a b))) (ai (AD (fW a b) (fY a b))) (ai (AD (jF a b) (jB a b))) (ai (SB (fW a b) (fY a b))))):=by kernel_rfl
end Go.Proofs.YtajehiidpecknaaGreatDoor
namespace Go.Proofs.YtajehiidpecknaaGreatDoor
open Go Go.RowKit
theorem dY (a b:Nat) (ha:a<RN) (hb:b<RN):AD (bv a) (bv b)=bv (fad a b):=by unfold AD;rw [ao ha,ao hb]
theorem fH (a b:Nat) (ha:a<RN) (hb:b<RN):SB (bv a) (bv b)=bv (fsb a b):=by unfold SB;rw [ao ha,ao hb]
theorem dp (a b:Nat) (ha:a<RN) (hb:b<RN):ML (bv a) (bv b)=bv (fml a b):=by unfold ML;rw [ao ha,ao hb]
theorem zl (a:Nat) (ha:a<RN):IV (bv a)=bv (fiv a):=by unfold IV;rw [ao ha]
theorem mz (a b:Nat):fad a b<RN:=iL (Kh a b)
theorem nu (a b:Nat):fsb a b<RN:=iL (rZ a b)
theorem fR (a b:Nat):fml a b<RN:=iL (ff a b)
theorem KY (a:Nat):fiv a<RN:=iL (J3 a)
theorem FE {a b:P4} (la:a.ok) (lb:b.ok):nH (ai (SB (jF a b) (jB a b))) (ai (AD (fW a b) (fY a b))) (ai (AD (jF a b) (jB a b))) (ai (SB (fW a b) (fY a b)))=jS a b:=by
 have h1:jF a b=bv (fml (fad a.y a.x) (fad b.y b.x)):=by unfold jF;rw [dY _ _ la.y la.x,dY _ _ lb.y lb.x,dp _ _ (mz _ _) (mz _ _)]
 have h2:jB a b=bv (fml (fsb a.y a.x) (fsb b.y b.x)):=by unfold jB;rw [fH _ _ la.y la.x,fH _ _ lb.y lb.x,dp _ _ (nu _ _) (nu _ _)]
 have h3:pK a b=bv (fml DN' (fml a.t b.t)):=by unfold pK;rw [dp _ _ la.t lb.t,dp _ _ (by decide) (fR _ _)]
 have h4:qX a b=bv (fml a.z b.z):=by unfold qX;rw [dp _ _ la.z lb.z]
 have h5:fY a b=bv (fad (fml DN' (fml a.t b.t)) (fml DN' (fml a.t b.t))):=by unfold fY;rw [h3,dY _ _ (fR _ _) (fR _ _)]
 have h6:fW a b=bv (fad (fml a.z b.z) (fml a.z b.z)):=by unfold fW;rw [h4,dY _ _ (fR _ _) (fR _ _)]
 rw [h1,h2,h5,h6,fH _ _ (fR _ _) (fR _ _),dY _ _ (mz _ _) (mz _ _),dY _ _ (fR _ _) (fR _ _),fH _ _ (mz _ _) (mz _ _),ao (nu _ _),ao (mz _ _),ao (mz _ _),ao (nu _ _)]
 rfl
theorem ib {A B:Nat} : IB (bv A) (bv B):=⟨aJ _,aJ _⟩
def gSum:List Value→Option (List Prop × Value)
 | [A,B]=>some ([IsP A∧IsP B],pv (jS (p4 A) (p4 B)))
 | _=>none
theorem IY {X:Cx} (hX:X.Ok Tryz.prog) (hc:bk M0 X.gl=true):(X.var M0 98 gSum).Ok Tryz.prog:=by
 refine bO hX aP hc Tryz.func98 (by kernel_rfl) (by kernel_rfl) ?_
 intro args ps v ha hg hp
 unfold gSum at hg
 split at hg
 ·rename_i A B
  simp only [qG,qH] at hg
  obtain ⟨rfl,rfl⟩:=hg
  obtain ⟨⟨hA,lA⟩,⟨hB,lB⟩⟩:=hp _ (YJ.2 rfl)
  refine ⟨.inl (bf _),fun w hw => ?_⟩
  have run:=GW (p4 A) (p4 B)
  rw [FE lA lB] at run
  have h:=aH pY mixed aP (by kernel_rfl) Tryz.func98 (by kernel_rfl) run (by
   intro p hp
   simp only [List.mem_cons,List.not_mem_nil,or_false] at hp
   rcases hp with rfl | rfl | rfl | rfl | rfl | rfl | rfl | rfl | rfl | rfl | rfl | rfl | rfl | rfl | rfl | rfl <;> first | exact ib | exact ⟨aJ _,aJ _,aJ _,aJ _⟩) (by simp [bf]) (.inl (bf _)) w hw
  rw [←hA,←hB] at h
  exact h
 ·simp at hg
def xxV (a:P4):Value:=ML (bv a.x) (bv a.x)
def yyV (a:P4):Value:=ML (bv a.y) (bv a.y)
def zzV (a:P4):Value:=ML (bv a.z) (bv a.z)
def xyV (a:P4):Value:=ML (bv a.x) (bv a.y)
def ig (a:P4):Value:=SB (yyV a) (xxV a)
theorem Ih (a:P4):sfunG Tryz.prog F1 M0 60 Tryz.f71 (ag Tryz.f71) [pv a]=some ([
  IB (bv a.x) (bv a.x),IB (bv a.y) (bv a.y),IB (bv a.z) (bv a.z),IB (bv a.x) (bv a.y),IB (yyV a) (xxV a),
  IB (xyV a) (xyV a),IB (yyV a) (xxV a),IB (zzV a) (zzV a),IB (AD (zzV a) (zzV a)) (ig a),
  IsB (AD (xyV a) (xyV a))∧IsB (ig a)∧IsB (AD (yyV a) (xxV a))∧IsB (SB (AD (zzV a) (zzV a)) (ig a))],
  pv (nH (ai (AD (xyV a) (xyV a))) (ai (ig a)) (ai (AD (yyV a) (xxV a))) (ai (SB (AD (zzV a) (zzV a)) (ig a))))):=by kernel_rfl
theorem I8 {a:P4} (la:a.ok):nH (ai (AD (xyV a) (xyV a))) (ai (ig a)) (ai (AD (yyV a) (xxV a))) (ai (SB (AD (zzV a) (zzV a)) (ig a)))=eg a:=by
 have h1:xxV a=bv (fml a.x a.x):=by unfold xxV;rw [dp _ _ la.x la.x]
 have h2:yyV a=bv (fml a.y a.y):=by unfold yyV;rw [dp _ _ la.y la.y]
 have h3:zzV a=bv (fml a.z a.z):=by unfold zzV;rw [dp _ _ la.z la.z]
 have h4:xyV a=bv (fml a.x a.y):=by unfold xyV;rw [dp _ _ la.x la.y]
 have h5:ig a=bv (fsb (fml a.y a.y) (fml a.x a.x)):=by unfold ig;rw [h1,h2,fH _ _ (fR _ _) (fR _ _)]
 rw [h1,h2,h3,h4,h5,dY _ _ (fR _ _) (fR _ _),dY _ _ (fR _ _) (fR _ _),dY _ _ (fR _ _) (fR _ _),fH _ _ (mz _ _) (nu _ _),ao (mz _ _),ao (nu _ _),ao (mz _ _),ao (nu _ _)]
 rfl
def gDbl:List Value→Option (List Prop × Value)
 | [A]=>some ([IsP A],pv (eg (p4 A)))
 | _=>none
theorem Gz {X:Cx} (hX:X.Ok Tryz.prog) (hc:bk M0 X.gl=true):(X.var M0 71 gDbl).Ok Tryz.prog:=by
 refine bO hX aP hc Tryz.func71 (by kernel_rfl) (by kernel_rfl) ?_
 intro args ps v ha hg hp
 unfold gDbl at hg
 split at hg
 ·rename_i A
  simp only [qG,qH] at hg
  obtain ⟨rfl,rfl⟩:=hg
  obtain ⟨hA,lA⟩:=hp _ (YJ.2 rfl)
  refine ⟨.inl (bf _),fun w hw => ?_⟩
  have run:=Ih (p4 A)
  rw [I8 lA] at run
  have h:=aH pY mixed aP (by kernel_rfl) Tryz.func71 (by kernel_rfl) run (by
   intro p hp
   simp only [List.mem_cons,List.not_mem_nil,or_false] at hp
   rcases hp with rfl | rfl | rfl | rfl | rfl | rfl | rfl | rfl | rfl | rfl <;> first | exact ib | exact ⟨aJ _,aJ _,aJ _,aJ _⟩) (by simp [bf]) (.inl (bf _)) w hw
  rw [←hA] at h
  exact h
 ·simp at hg
def F2:Cx:=(F1.var M0 98 gSum).var M0 71 gDbl
theorem tQ:F2.Ok Tryz.prog:=Gz (IY pY (by kernel_rfl)) (by kernel_rfl)
def D1 (a:P4):P4:=eg (p4 (pv a))
theorem yL {a:P4} (h:a.ok):D1 a=eg a:=by unfold D1;rw [c9 h]
theorem Gk (a:P4):sfunG Tryz.prog F2 M0 60 Tryz.f99 (ag Tryz.f99) [pv a]=some ([IsP (pv a),IsP (pv (D1 a)),IsP (pv (D1 (D1 a))),IsP (pv (D1 (D1 (D1 a))))],pv (D1 (D1 (D1 (D1 a))))):=by kernel_rfl
def xM (a:P4):P4:=eg (eg (eg (eg a)))
theorem zC (a:P4):(xM a).ok:=dB _
def Lj:List Value→Option (List Prop × Value)
 | [A]=>some ([IsP A],pv (xM (p4 A)))
 | _=>none
theorem IQ {X:Cx} (hX:X.Ok Tryz.prog) (hc:bk M0 X.gl=true):(X.var M0 99 Lj).Ok Tryz.prog:=by
 refine bO hX aP hc Tryz.func99 (by kernel_rfl) (by kernel_rfl) ?_
 intro args ps v ha hg hp
 unfold Lj at hg
 split at hg
 ·rename_i A
  simp only [qG,qH] at hg
  obtain ⟨rfl,rfl⟩:=hg
  obtain ⟨hA,lA⟩:=hp _ (YJ.2 rfl)
  refine ⟨.inl (bf _),fun w hw => ?_⟩
  have run:=Gk (p4 A)
  rw [yL lA,yL (dB _),yL (dB _),yL (dB _)] at run
  have h:=aH tQ mixed aP (by kernel_rfl) Tryz.func99 (by kernel_rfl) run (by
   intro p hp
   simp only [List.mem_cons,List.not_mem_nil,or_false] at hp
   rcases hp with rfl | rfl | rfl | rfl
   ·exact cm lA
   all_goals exact cm (dB _)) (by simp [bf]) (.inl (bf _)) w hw
  rw [←hA] at h
  exact h
 ·simp at hg
theorem NP {g:Nat} (h:g ∈ gl4):g ∈ gl5:=by
 unfold gl4 at h
 unfold gl5
 simp only [List.mem_cons,List.not_mem_nil,or_false] at h ⊢
 omega
theorem Lo:(F2.glo gl5).Ok Tryz.prog:=Cx.glo_ok tQ fun g h=>NP h
theorem GB:sfunG Tryz.prog (F2.glo gl5) M1 60 Tryz.f53 (ag Tryz.f53) []=some ([IsB (bv GX)∧IsB (bv GY)],pv (atN (ai (bv GX)) (ai (bv GY)))):=by kernel_rfl
def gGen:List Value→Option (List Prop × Value)
 | []=>some ([],pv uS)
 | _=>none
theorem H9 {X:Cx} (hX:X.Ok Tryz.prog) (hc:bk M1 X.gl=true):(X.var M1 53 gGen).Ok Tryz.prog:=by
 refine bO hX mB hc Tryz.func53 (by kernel_rfl) (by kernel_rfl) ?_
 intro args ps v ha hg hp
 unfold gGen at hg
 split at hg
 ·simp only [qG,qH] at hg
  obtain ⟨rfl,rfl⟩:=hg
  have run:=GB
  rw [ao (n:=GX) (by decide),ao (n:=GY) (by decide)] at run
  exact ⟨.inl (bf _),fun w hw=>aH Lo mixed mB (by kernel_rfl) Tryz.func53 (by kernel_rfl) run (by
   intro p hp
   simp only [List.mem_cons,List.not_mem_nil,or_false] at hp
   rcases hp with rfl
   exact ⟨aJ _,aJ _⟩) rfl (.inl (bf _)) w hw⟩
 ·simp at hg
def F3:Cx:=F2.var M0 99 Lj
theorem vB:F3.Ok Tryz.prog:=IQ tQ (by kernel_rfl)
end Go.Proofs.YtajehiidpecknaaGreatDoor
namespace Go.Proofs.YtajehiidpecknaaGreatDoor
open Go Go.RowKit
def SU (p q:P4):P4:=jS (p4 (pv p)) (p4 (pv q))
def muS (a:P4):Nat→P4
 | 0=>iC
 | n+1=>SU (muS a n) a
def muN (a:P4):Nat→P4
 | 0=>iC
 | n+1=>jS (muN a n) a
theorem kW (a:P4) : ∀ n,(muN a n).ok
 | 0=>rY
 | n+1=>mV _ _
theorem wI {a:P4} (h:a.ok) : ∀ n,muS a n=muN a n
 | 0=>rfl
 | n+1=>by
  show jS (p4 (pv (muS a n))) (p4 (pv a))=jS (muN a n) a
  rw [wI h n,c9 (kW a n),c9 h]
def muT (a:P4) (i:Nat):Prop:=IsP (pv (muS a i))∧IsP (pv a)
def Ln (o:Option (List Prop × Value)):Option (List Prop):=o.map (·.1)
def Na (o:Option (List Prop × Value)):Value:=(o.map (·.2)).getD undef
theorem KN {o:Option (List Prop × Value)} {ps:List Prop} (h:Ln o=some ps):o=some (ps,Na o):=by
 cases o with
 | none=>cases h
 | some q=>simp only [Ln,YO,qG] at h;subst h;rfl
def DA (P:Program) (fn:Func) (a:P4):Value:=Na (sfunG P F3 M0 100 fn (ag fn) [pv a])
def cellsOf:Value→List Value
 | .agg cs=>cs.toList
 | _=>[]
def xz:Value→Bool
 | .agg _=>true
 | _=>false
theorem As {v:Value} (h:xz v=true):v = .agg (cellsOf v).toArray:=by
 cases v <;> simp [xz] at h
 rename_i cs
 simp [cellsOf]
def sl (l:List Value) (i:Nat):List Value:=(l.drop (128*i)).take 128
def muL (g:Nat→P4):List Value:=(List.range 16).flatMap fun i=>pcs (g i)
theorem rK (f:Nat→List Value) : ∀ (n:Nat) (l:List Value),l.length=128*n→(∀ i,i<n→sl l i=f i)→l=(List.range n).flatMap f
 | 0,l,hl,_=>by
  have:l = []:=List.eq_nil_of_length_eq_zero (by omega)
  rw [this];rfl
 | n+1,l,hl,h=>by
  have ih:=rK f n (l.take (128*n)) (by rw [List.length_take];omega) (fun i hi=>by
   rw [←h i (by omega)]
   unfold sl
   rw [List.drop_take,List.take_take]
   congr 1
   omega)
  have hn:=h n (by omega)
  unfold sl at hn
  rw [List.take_of_length_le (by rw [List.length_drop];omega)] at hn
  rw [List.range_succ,List.flatMap_append,←ih,List.flatMap_cons,List.flatMap_nil,List.append_nil,←hn,List.take_append_drop]
theorem DI (a:P4):Ln (sfunG Tryz.prog F3 M0 100 Tryz.f96 (ag Tryz.f96) [pv a])=some [muT a 0,muT a 1,muT a 2,muT a 3,muT a 4,muT a 5,muT a 6,muT a 7,muT a 8,muT a 9,muT a 10,muT a 11,muT a 12,muT a 13,muT a 14]:=by kernel_rfl
theorem Hb (a:P4):xz (DA Tryz.prog Tryz.f96 a)=true:=by kernel_rfl
theorem Hy (a:P4):(cellsOf (DA Tryz.prog Tryz.f96 a)).length=2048:=by kernel_rfl
theorem J9 (a:P4):(List.range 16).map (sl (cellsOf (DA Tryz.prog Tryz.f96 a)))=(List.range 16).map fun i=>pcs (muS a i):=by kernel_rfl
theorem I5 {a:P4} (h:a.ok):DA Tryz.prog Tryz.f96 a = .agg (muL (muN a)).toArray:=by
 have e:=rK (fun i=>pcs (muS a i)) 16 _ (Hy a) (fun i hi=>List.map_inj_left.1 (J9 a) i (List.mem_range.2 hi))
 rw [As (Hb a),e]
 unfold muL
 rw [show muS a=muN a from funext (wI h)]
theorem tZ (g:Nat→P4):flat (.agg (muL g).toArray)=true:=by
 show ((muL g).toArray.toList.all flat1)=true
 rw [YN]
 unfold muL
 rw [List.all_flatMap]
 refine List.all_eq_true.2 fun i _ => ?_
 unfold pcs
 simp only [List.all_append,m6,Bool.and_self]
def gMus:List Value→Option (List Prop × Value)
 | [A]=>some ([IsP A],.agg (muL (muN (p4 A))).toArray)
 | _=>none
theorem Hc {X:Cx} (hX:X.Ok Tryz.prog) (hc:bk M0 X.gl=true):(X.var M0 96 gMus).Ok Tryz.prog:=by
 refine bO hX aP hc Tryz.func96 (by kernel_rfl) (by kernel_rfl) ?_
 intro args ps v ha hg hp
 unfold gMus at hg
 split at hg
 ·rename_i A
  simp only [qG,qH] at hg
  obtain ⟨rfl,rfl⟩:=hg
  obtain ⟨hA,lA⟩:=hp _ (YJ.2 rfl)
  refine ⟨.inl (tZ _),fun w hw => ?_⟩
  have run:=KN (DI (p4 A))
  have e:=I5 lA
  unfold DA at e
  rw [e] at run
  have ht : ∀ i,muT (p4 A) i:=fun i=>by
   unfold muT
   rw [wI lA]
   exact ⟨cm (kW _ _),cm lA⟩
  have h:=aH vB mixed aP (by kernel_rfl) Tryz.func96 (by kernel_rfl) run (by
   intro p hp
   simp only [List.mem_cons,List.not_mem_nil,or_false] at hp
   rcases hp with rfl | rfl | rfl | rfl | rfl | rfl | rfl | rfl | rfl | rfl | rfl | rfl | rfl | rfl | rfl <;> exact ht _) (by simp [bf]) (.inl (tZ _)) w hw
  rw [←hA] at h
  exact h
 ·simp at hg
def F4:Cx:=F3.var M0 96 gMus
theorem iI:F4.Ok Tryz.prog:=Hc vB (by kernel_rfl)
end Go.Proofs.YtajehiidpecknaaGreatDoor
