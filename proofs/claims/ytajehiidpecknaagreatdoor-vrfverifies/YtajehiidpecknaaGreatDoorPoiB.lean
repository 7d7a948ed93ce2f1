import Derived.Test.YtajehiidpecknaaGreatDoorFieQ
import Derived.Test.YtajehiidpecknaaGreatDoorPoiM
set_option linter.all false
namespace Go.Proofs.YtajehiidpecknaaGreatDoor
open Go Go.RowKit
theorem FF {X:Cx} (hX:X.Ok Tryz.prog):(X.pure 115 gAdF).Ok Tryz.prog:=by
 refine aC hX Tryz.func115 (by kernel_rfl) (by kernel_rfl) ?_
 intro args ps v ha hg hp
 unfold gAdF at hg
 split at hg
 ·rename_i A B
  simp only [qG,qH] at hg
  obtain ⟨rfl,rfl⟩:=hg
  obtain ⟨hA,hB⟩:=hp _ (YJ.2 rfl)
  refine ⟨.inl (aE _),fun w => ?_⟩
  have h:=Eb (aj A) (aj B) (aS hA) (aS hB) w
  rw [← (show A=bv (aj A) from hA),← (show B=bv (aj B) from hB)] at h
  exact h
 ·simp at hg
theorem EK {X:Cx} (hX:X.Ok Tryz.prog):(X.pure 113 Is).Ok Tryz.prog:=by
 refine aC hX Tryz.func113 (by kernel_rfl) (by kernel_rfl) ?_
 intro args ps v ha hg hp
 unfold Is at hg
 split at hg
 ·rename_i A B
  simp only [qG,qH] at hg
  obtain ⟨rfl,rfl⟩:=hg
  obtain ⟨hA,hB⟩:=hp _ (YJ.2 rfl)
  refine ⟨.inl (aE _),fun w => ?_⟩
  have h:=ED (aj A) (aj B) (aS hA) (aS hB) w
  rw [← (show A=bv (aj A) from hA),← (show B=bv (aj B) from hB)] at h
  exact h
 ·simp at hg
theorem En {X:Cx} (hX:X.Ok Tryz.prog):(X.pure 95 JI).Ok Tryz.prog:=by
 refine aC hX Tryz.func95 (by kernel_rfl) (by kernel_rfl) ?_
 intro args ps v ha hg hp
 unfold JI at hg
 split at hg
 ·rename_i A B
  simp only [qG,qH] at hg
  obtain ⟨rfl,rfl⟩:=hg
  obtain ⟨hA,hB⟩:=hp _ (YJ.2 rfl)
  refine ⟨.inl (aE _),fun w => ?_⟩
  have h:=E7 (aj A) (aj B) (aS hA) (aS hB) w
  rw [← (show A=bv (aj A) from hA),← (show B=bv (aj B) from hB)] at h
  exact h
 ·simp at hg
theorem Gq {X:Cx} (hX:X.Ok Tryz.prog):(X.pure 94 gIvF).Ok Tryz.prog:=by
 refine aC hX Tryz.func94 (by kernel_rfl) (by kernel_rfl) ?_
 intro args ps v ha hg hp
 unfold gIvF at hg
 split at hg
 ·rename_i A
  simp only [qG,qH] at hg
  obtain ⟨rfl,rfl⟩:=hg
  have hA:=hp _ (YJ.2 rfl)
  refine ⟨.inl (aE _),fun w => ?_⟩
  have h:=G7 (aj A) (aS hA) w
  rw [← (show A=bv (aj A) from hA)] at h
  exact h
 ·simp at hg
theorem E2 {X:Cx} (hX:X.Ok Tryz.prog):(X.pure 110 Ji).Ok Tryz.prog:=by
 refine aC hX Tryz.func110 (by kernel_rfl) (by kernel_rfl) ?_
 intro args ps v ha hg hp
 unfold Ji at hg
 split at hg
 ·rename_i A
  simp only [qG,qH] at hg
  obtain ⟨rfl,rfl⟩:=hg
  have hA:=hp _ (YJ.2 rfl)
  refine ⟨.inl rfl,fun w => ?_⟩
  have h:=fO (aj A) (aS hA) w
  rw [← (show A=bv (aj A) from hA)] at h
  exact h
 ·simp at hg
theorem uk:F0.Ok Tryz.prog:=E2 (Gq (En (EK (FF (Cx.glo_ok Cx.none_ok (fun g h=>(by cases h)))))))
def ou (x xu y yu:Nat):P4:=⟨fml x yu,fml y xu,fml xu yu,fml x y⟩
theorem xw (x xu y yu:Nat):(ou x xu y yu).ok:=⟨ir (eZ _ _),ir (eZ _ _),ir (eZ _ _),ir (eZ _ _)⟩
def jG (a b:P4):P4 :=
 let less:=fml (fsb a.y a.x) (fsb b.y b.x)
 let more:=fml (fad a.y a.x) (fad b.y b.x)
 let turn:=fml DN' (fml a.t b.t)
 let both:=fml a.z b.z
 ou (fsb more less) (fad (fad both both) (fad turn turn)) (fad more less) (fsb (fad both both) (fad turn turn))
theorem mQ (a b:P4):(jG a b).ok:=xw _ _ _ _
def dY (a:P4):P4 :=
 let below:=fsb (fml a.y a.y) (fml a.x a.x)
 ou (fad (fml a.x a.y) (fml a.x a.y)) below (fad (fml a.y a.y) (fml a.x a.x)) (fsb (fad (fml a.z a.z) (fml a.z a.z)) below)
theorem dF (a:P4):(dY a).ok:=xw _ _ _ _
def iB:P4:=⟨0,1,1,0⟩
theorem sN:iB.ok:=⟨by decide,by decide,by decide,by decide⟩
def atN (x y:Nat):P4:=⟨x,y,1,fml x y⟩
theorem Cb {x y:Nat} (hx:x<RN) (hy:y<RN):(atN x y).ok:=⟨hx,hy,(show (1:Nat)<RN by decide),ir (eZ _ _)⟩
def vl (p:P4):P4:=⟨fsb 0 p.x,p.y,p.z,fsb 0 p.t⟩
theorem xM {p:P4} (h:p.ok):(vl p).ok:=⟨ir (sr _ _),h.y,h.z,ir (sr _ _)⟩
def uR:P4:=atN GX GY
theorem J1 (x y:Nat):sfunG Tryz.prog F0 M0 60 Tryz.f100 (ag Tryz.f100) [bv x,bv y]=some ([IsB (bv x)∧IsB (bv y)],pv ⟨x,y,1,fml (aj (bv x)) (aj (bv y))⟩):=by kernel_rfl
def gAt:List Value→Option (List Prop × Value)
 | [A,B]=>some ([IsB A∧IsB B],pv (atN (aj A) (aj B)))
 | _=>none
theorem Im {X:Cx} (hX:X.Ok Tryz.prog) (hc:bm M0 X.gl=true):(X.var M0 100 gAt).Ok Tryz.prog:=by
 refine bM hX aO hc Tryz.func100 (by kernel_rfl) (by kernel_rfl) ?_
 intro args ps v ha hg hp
 unfold gAt at hg
 split at hg
 ·rename_i A B
  simp only [qG,qH] at hg
  obtain ⟨rfl,rfl⟩:=hg
  obtain ⟨hA,hB⟩:=hp _ (YJ.2 rfl)
  refine ⟨.inl (bg _),fun w hw => ?_⟩
  have run:=J1 (aj A) (aj B)
  rw [ao (aS hA),ao (aS hB)] at run
  have h:=aD uk mixed aO (by kernel_rfl) Tryz.func100 (by kernel_rfl) run (by
   intro p hp
   simp only [List.mem_cons,List.not_mem_nil,or_false] at hp
   rcases hp with rfl
   exact ⟨aI _,aI _⟩) (by simp [aE]) (.inl (bg _)) w hw
  rw [← (show A=bv (aj A) from hA),← (show B=bv (aj B) from hB)] at h
  exact h
 ·simp at hg
theorem Es:sfunG Tryz.prog F0 M0 60 Tryz.f97 (ag Tryz.f97) []=some ([],pv iB):=by kernel_rfl
def gNeu:List Value→Option (List Prop × Value)
 | []=>some ([],pv iB)
 | _=>none
theorem EY {X:Cx} (hX:X.Ok Tryz.prog) (hc:bm M0 X.gl=true):(X.var M0 97 gNeu).Ok Tryz.prog:=by
 refine bM hX aO hc Tryz.func97 (by kernel_rfl) (by kernel_rfl) ?_
 intro args ps v ha hg hp
 unfold gNeu at hg
 split at hg
 ·simp only [qG,qH] at hg
  obtain ⟨rfl,rfl⟩:=hg
  exact ⟨.inl (bg _),fun w hw=>aD uk mixed aO (by kernel_rfl) Tryz.func97 (by kernel_rfl) Es (by simp) rfl (.inl (bg _)) w hw⟩
 ·simp at hg
theorem Gf (p:P4):sfunG Tryz.prog F0 M0 60 Tryz.f118 (ag Tryz.f118) [pv p]=some ([IsB (bv 0)∧IsB (bv p.x),IsB (bv 0)∧IsB (bv p.t)],pv ⟨fsb (aj (bv 0)) (aj (bv p.x)),p.y,p.z,fsb (aj (bv 0)) (aj (bv p.t))⟩):=by kernel_rfl
def gMir:List Value→Option (List Prop × Value)
 | [A]=>some ([IsP A],pv (vl (p4 A)))
 | _=>none
theorem EO {X:Cx} (hX:X.Ok Tryz.prog) (hc:bm M0 X.gl=true):(X.var M0 118 gMir).Ok Tryz.prog:=by
 refine bM hX aO hc Tryz.func118 (by kernel_rfl) (by kernel_rfl) ?_
 intro args ps v ha hg hp
 unfold gMir at hg
 split at hg
 ·rename_i A
  simp only [qG,qH] at hg
  obtain ⟨rfl,rfl⟩:=hg
  obtain ⟨hA,lA⟩:=hp _ (YJ.2 rfl)
  refine ⟨.inl (bg _),fun w hw => ?_⟩
  have run:=Gf (p4 A)
  rw [ao (n:=0) (by decide),ao lA.x,ao lA.t] at run
  have h:=aD uk mixed aO (by kernel_rfl) Tryz.func118 (by kernel_rfl) run (by
   intro p hp
   simp only [List.mem_cons,List.not_mem_nil,or_false] at hp
   rcases hp with rfl | rfl <;> exact ⟨aI _,aI _⟩) (by simp [bg]) (.inl (bg _)) w hw
  rw [←hA] at h
  exact h
 ·simp at hg
theorem EU (x xu y yu:Nat):sfunG Tryz.prog F0 M0 60 Tryz.f114 (ag Tryz.f114) [bv x,bv xu,bv y,bv yu]=some ([IsB (bv x)∧IsB (bv yu),IsB (bv y)∧IsB (bv xu),IsB (bv xu)∧IsB (bv yu),IsB (bv x)∧IsB (bv y)],pv (ou (aj (bv x)) (aj (bv xu)) (aj (bv y)) (aj (bv yu)))):=by kernel_rfl
def gQuo:List Value→Option (List Prop × Value)
 | [A,B,C,D]=>some ([IsB A∧IsB B∧IsB C∧IsB D],pv (ou (aj A) (aj B) (aj C) (aj D)))
 | _=>none
theorem EB {X:Cx} (hX:X.Ok Tryz.prog) (hc:bm M0 X.gl=true):(X.var M0 114 gQuo).Ok Tryz.prog:=by
 refine bM hX aO hc Tryz.func114 (by kernel_rfl) (by kernel_rfl) ?_
 intro args ps v ha hg hp
 unfold gQuo at hg
 split at hg
 ·rename_i A B C D
  simp only [qG,qH] at hg
  obtain ⟨rfl,rfl⟩:=hg
  obtain ⟨hA,hB,hC,hD⟩:=hp _ (YJ.2 rfl)
  refine ⟨.inl (bg _),fun w hw => ?_⟩
  have run:=EU (aj A) (aj B) (aj C) (aj D)
  rw [ao (aS hA),ao (aS hB),ao (aS hC),ao (aS hD)] at run
  have h:=aD uk mixed aO (by kernel_rfl) Tryz.func114 (by kernel_rfl) run (by
   intro p hp
   simp only [List.mem_cons,List.not_mem_nil,or_false] at hp
   rcases hp with rfl | rfl | rfl | rfl <;> exact ⟨aI _,aI _⟩) (by simp [aE]) (.inl (bg _)) w hw
  rw [← (show A=bv (aj A) from hA),← (show B=bv (aj B) from hB),← (show C=bv (aj C) from hC),← (show D=bv (aj D) from hD)] at h
  exact h
 ·simp at hg
def F1:Cx:=(((F0.var M0 100 gAt).var M0 97 gNeu).var M0 118 gMir).var M0 114 gQuo
theorem qS:F1.Ok Tryz.prog:=EB (EO (EY (Im uk (by kernel_rfl)) (by kernel_rfl)) (by kernel_rfl)) (by kernel_rfl)
def jg (a b:P4):Value:=ML (SB (bv a.y) (bv a.x)) (SB (bv b.y) (bv b.x))
def je (a b:P4):Value:=ML (AD (bv a.y) (bv a.x)) (AD (bv b.y) (bv b.x))
def pD (a b:P4):Value:=ML (bv DN') (ML (bv a.t) (bv b.t))
def qX (a b:P4):Value:=ML (bv a.z) (bv b.z)
def fN (a b:P4):Value:=AD (pD a b) (pD a b)
def fM (a b:P4):Value:=AD (qX a b) (qX a b)
def IB (A B:Value):Prop:=IsB A∧IsB B
theorem E6 (a b:P4):sfunG Tryz.prog F1 M0 60 Tryz.f98 (ag Tryz.f98) [pv a,pv b]=some ([
  IB (bv a.y) (bv a.x),IB (bv b.y) (bv b.x),IB (SB (bv a.y) (bv a.x)) (SB (bv b.y) (bv b.x)),
  IB (bv a.y) (bv a.x),IB (bv b.y) (bv b.x),IB (AD (bv a.y) (bv a.x)) (AD (bv b.y) (bv b.x)),
  IB (bv a.t) (bv b.t),IB (bv DN') (ML (bv a.t) (bv b.t)),IB (pD a b) (pD a b),
  IB (bv a.z) (bv b.z),IB (qX a b) (qX a b),
  IB (je a b) (jg a b),IB (fM a b) (fN a b),IB (je a b) (jg a b),IB (fM a b) (fN a b),
  IsB (SB (je a b) (jg a b))∧IsB (AD (fM a b) (fN a b))∧IsB (AD (je a b) (jg a b))∧IsB (SB (fM a b) (fN a b))],
  pv (ou (aj (SB (je a b) (jg a b))) (aj (AD (fM a b) (fN a b))) (aj (AD (je a b) (jg a b))) (aj (SB (fM a b) (fN a b))))):=by kernel_rfl
end Go.Proofs.YtajehiidpecknaaGreatDoor
namespace Go.Proofs.YtajehiidpecknaaGreatDoor
open Go Go.RowKit
theorem dU (a b:Nat) (ha:a<RN) (hb:b<RN):AD (bv a) (bv b)=bv (fad a b):=by unfold AD;rw [ao ha,ao hb]
theorem fv (a b:Nat) (ha:a<RN) (hb:b<RN):SB (bv a) (bv b)=bv (fsb a b):=by unfold SB;rw [ao ha,ao hb]
theorem de (a b:Nat) (ha:a<RN) (hb:b<RN):ML (bv a) (bv b)=bv (fml a b):=by unfold ML;rw [ao ha,ao hb]
theorem yE (a:Nat) (ha:a<RN):IV (bv a)=bv (fiv a):=by unfold IV;rw [ao ha]
theorem ma (a b:Nat):fad a b<RN:=ir (I7 a b)
theorem oa (a b:Nat):fsb a b<RN:=ir (sr a b)
theorem fJ (a b:Nat):fml a b<RN:=ir (eZ a b)
theorem J6 (a:Nat):fiv a<RN:=ir (Kf a)
theorem Fu {a b:P4} (la:a.ok) (lb:b.ok):ou (aj (SB (je a b) (jg a b))) (aj (AD (fM a b) (fN a b))) (aj (AD (je a b) (jg a b))) (aj (SB (fM a b) (fN a b)))=jG a b:=by
 have h1:je a b=bv (fml (fad a.y a.x) (fad b.y b.x)):=by unfold je;rw [dU _ _ la.y la.x,dU _ _ lb.y lb.x,de _ _ (ma _ _) (ma _ _)]
 have h2:jg a b=bv (fml (fsb a.y a.x) (fsb b.y b.x)):=by unfold jg;rw [fv _ _ la.y la.x,fv _ _ lb.y lb.x,de _ _ (oa _ _) (oa _ _)]
 have h3:pD a b=bv (fml DN' (fml a.t b.t)):=by unfold pD;rw [de _ _ la.t lb.t,de _ _ (by decide) (fJ _ _)]
 have h4:qX a b=bv (fml a.z b.z):=by unfold qX;rw [de _ _ la.z lb.z]
 have h5:fN a b=bv (fad (fml DN' (fml a.t b.t)) (fml DN' (fml a.t b.t))):=by unfold fN;rw [h3,dU _ _ (fJ _ _) (fJ _ _)]
 have h6:fM a b=bv (fad (fml a.z b.z) (fml a.z b.z)):=by unfold fM;rw [h4,dU _ _ (fJ _ _) (fJ _ _)]
 rw [h1,h2,h5,h6,fv _ _ (fJ _ _) (fJ _ _),dU _ _ (ma _ _) (ma _ _),dU _ _ (fJ _ _) (fJ _ _),fv _ _ (ma _ _) (ma _ _),ao (oa _ _),ao (ma _ _),ao (ma _ _),ao (oa _ _)]
 rfl
theorem ib {A B:Nat} : IB (bv A) (bv B):=⟨aI _,aI _⟩
def gSum:List Value→Option (List Prop × Value)
 | [A,B]=>some ([IsP A∧IsP B],pv (jG (p4 A) (p4 B)))
 | _=>none
theorem GZ {X:Cx} (hX:X.Ok Tryz.prog) (hc:bm M0 X.gl=true):(X.var M0 98 gSum).Ok Tryz.prog:=by
 refine bM hX aO hc Tryz.func98 (by kernel_rfl) (by kernel_rfl) ?_
 intro args ps v ha hg hp
 unfold gSum at hg
 split at hg
 ·rename_i A B
  simp only [qG,qH] at hg
  obtain ⟨rfl,rfl⟩:=hg
  obtain ⟨⟨hA,lA⟩,⟨hB,lB⟩⟩:=hp _ (YJ.2 rfl)
  refine ⟨.inl (bg _),fun w hw => ?_⟩
  have run:=E6 (p4 A) (p4 B)
  rw [Fu lA lB] at run
  have h:=aD qS mixed aO (by kernel_rfl) Tryz.func98 (by kernel_rfl) run (by
   intro p hp
   simp only [List.mem_cons,List.not_mem_nil,or_false] at hp
   rcases hp with rfl | rfl | rfl | rfl | rfl | rfl | rfl | rfl | rfl | rfl | rfl | rfl | rfl | rfl | rfl | rfl <;> first | exact ib | exact ⟨aI _,aI _,aI _,aI _⟩) (by simp [bg]) (.inl (bg _)) w hw
  rw [←hA,←hB] at h
  exact h
 ·simp at hg
def xxV (a:P4):Value:=ML (bv a.x) (bv a.x)
def yyV (a:P4):Value:=ML (bv a.y) (bv a.y)
def zzV (a:P4):Value:=ML (bv a.z) (bv a.z)
def xyV (a:P4):Value:=ML (bv a.x) (bv a.y)
def gH (a:P4):Value:=SB (yyV a) (xxV a)
theorem GF (a:P4):sfunG Tryz.prog F1 M0 60 Tryz.f71 (ag Tryz.f71) [pv a]=some ([
  IB (bv a.x) (bv a.x),IB (bv a.y) (bv a.y),IB (bv a.z) (bv a.z),IB (bv a.x) (bv a.y),IB (yyV a) (xxV a),
  IB (xyV a) (xyV a),IB (yyV a) (xxV a),IB (zzV a) (zzV a),IB (AD (zzV a) (zzV a)) (gH a),
  IsB (AD (xyV a) (xyV a))∧IsB (gH a)∧IsB (AD (yyV a) (xxV a))∧IsB (SB (AD (zzV a) (zzV a)) (gH a))],
  pv (ou (aj (AD (xyV a) (xyV a))) (aj (gH a)) (aj (AD (yyV a) (xxV a))) (aj (SB (AD (zzV a) (zzV a)) (gH a))))):=by kernel_rfl
theorem Gr {a:P4} (la:a.ok):ou (aj (AD (xyV a) (xyV a))) (aj (gH a)) (aj (AD (yyV a) (xxV a))) (aj (SB (AD (zzV a) (zzV a)) (gH a)))=dY a:=by
 have h1:xxV a=bv (fml a.x a.x):=by unfold xxV;rw [de _ _ la.x la.x]
 have h2:yyV a=bv (fml a.y a.y):=by unfold yyV;rw [de _ _ la.y la.y]
 have h3:zzV a=bv (fml a.z a.z):=by unfold zzV;rw [de _ _ la.z la.z]
 have h4:xyV a=bv (fml a.x a.y):=by unfold xyV;rw [de _ _ la.x la.y]
 have h5:gH a=bv (fsb (fml a.y a.y) (fml a.x a.x)):=by unfold gH;rw [h1,h2,fv _ _ (fJ _ _) (fJ _ _)]
 rw [h1,h2,h3,h4,h5,dU _ _ (fJ _ _) (fJ _ _),dU _ _ (fJ _ _) (fJ _ _),dU _ _ (fJ _ _) (fJ _ _),fv _ _ (ma _ _) (oa _ _),ao (ma _ _),ao (oa _ _),ao (ma _ _),ao (oa _ _)]
 rfl
def gDbl:List Value→Option (List Prop × Value)
 | [A]=>some ([IsP A],pv (dY (p4 A)))
 | _=>none
theorem EA {X:Cx} (hX:X.Ok Tryz.prog) (hc:bm M0 X.gl=true):(X.var M0 71 gDbl).Ok Tryz.prog:=by
 refine bM hX aO hc Tryz.func71 (by kernel_rfl) (by kernel_rfl) ?_
 intro args ps v ha hg hp
 unfold gDbl at hg
 split at hg
 ·rename_i A
  simp only [qG,qH] at hg
  obtain ⟨rfl,rfl⟩:=hg
  obtain ⟨hA,lA⟩:=hp _ (YJ.2 rfl)
  refine ⟨.inl (bg _),fun w hw => ?_⟩
  have run:=GF (p4 A)
  rw [Gr lA] at run
  have h:=aD qS mixed aO (by kernel_rfl) Tryz.func71 (by kernel_rfl) run (by
   intro p hp
   simp only [List.mem_cons,List.not_mem_nil,or_false] at hp
   rcases hp with rfl | rfl | rfl | rfl | rfl | rfl | rfl | rfl | rfl | rfl <;> first | exact ib | exact ⟨aI _,aI _,aI _,aI _⟩) (by simp [bg]) (.inl (bg _)) w hw
  rw [←hA] at h
  exact h
 ·simp at hg
def F2:Cx:=(F1.var M0 98 gSum).var M0 71 gDbl
theorem uS:F2.Ok Tryz.prog:=EA (GZ qS (by kernel_rfl)) (by kernel_rfl)
def D1 (a:P4):P4:=dY (p4 (pv a))
theorem xA {a:P4} (h:a.ok):D1 a=dY a:=by unfold D1;rw [cU h]
theorem GC (a:P4):sfunG Tryz.prog F2 M0 60 Tryz.f99 (ag Tryz.f99) [pv a]=some ([IsP (pv a),IsP (pv (D1 a)),IsP (pv (D1 (D1 a))),IsP (pv (D1 (D1 (D1 a))))],pv (D1 (D1 (D1 (D1 a))))):=by kernel_rfl
def xj (a:P4):P4:=dY (dY (dY (dY a)))
theorem yr (a:P4):(xj a).ok:=dF _
def JW:List Value→Option (List Prop × Value)
 | [A]=>some ([IsP A],pv (xj (p4 A)))
 | _=>none
theorem FV {X:Cx} (hX:X.Ok Tryz.prog) (hc:bm M0 X.gl=true):(X.var M0 99 JW).Ok Tryz.prog:=by
 refine bM hX aO hc Tryz.func99 (by kernel_rfl) (by kernel_rfl) ?_
 intro args ps v ha hg hp
 unfold JW at hg
 split at hg
 ·rename_i A
  simp only [qG,qH] at hg
  obtain ⟨rfl,rfl⟩:=hg
  obtain ⟨hA,lA⟩:=hp _ (YJ.2 rfl)
  refine ⟨.inl (bg _),fun w hw => ?_⟩
  have run:=GC (p4 A)
  rw [xA lA,xA (dF _),xA (dF _),xA (dF _)] at run
  have h:=aD uS mixed aO (by kernel_rfl) Tryz.func99 (by kernel_rfl) run (by
   intro p hp
   simp only [List.mem_cons,List.not_mem_nil,or_false] at hp
   rcases hp with rfl | rfl | rfl | rfl
   ·exact bY lA
   all_goals exact bY (dF _)) (by simp [bg]) (.inl (bg _)) w hw
  rw [←hA] at h
  exact h
 ·simp at hg
theorem Kv {g:Nat} (h:g ∈ gl4):g ∈ gl5:=by
 unfold gl4 at h
 unfold gl5
 simp only [List.mem_cons,List.not_mem_nil,or_false] at h ⊢
 omega
theorem Iw:(F2.glo gl5).Ok Tryz.prog:=Cx.glo_ok uS fun g h=>Kv h
theorem Fj:sfunG Tryz.prog (F2.glo gl5) M1 60 Tryz.f53 (ag Tryz.f53) []=some ([IsB (bv GX)∧IsB (bv GY)],pv (atN (aj (bv GX)) (aj (bv GY)))):=by kernel_rfl
def gGen:List Value→Option (List Prop × Value)
 | []=>some ([],pv uR)
 | _=>none
theorem GW {X:Cx} (hX:X.Ok Tryz.prog) (hc:bm M1 X.gl=true):(X.var M1 53 gGen).Ok Tryz.prog:=by
 refine bM hX me hc Tryz.func53 (by kernel_rfl) (by kernel_rfl) ?_
 intro args ps v ha hg hp
 unfold gGen at hg
 split at hg
 ·simp only [qG,qH] at hg
  obtain ⟨rfl,rfl⟩:=hg
  have run:=Fj
  rw [ao (n:=GX) (by decide),ao (n:=GY) (by decide)] at run
  exact ⟨.inl (bg _),fun w hw=>aD Iw mixed me (by kernel_rfl) Tryz.func53 (by kernel_rfl) run (by
   intro p hp
   simp only [List.mem_cons,List.not_mem_nil,or_false] at hp
   rcases hp with rfl
   exact ⟨aI _,aI _⟩) rfl (.inl (bg _)) w hw⟩
 ·simp at hg
def F3:Cx:=F2.var M0 99 JW
theorem tL:F3.Ok Tryz.prog:=FV uS (by kernel_rfl)
end Go.Proofs.YtajehiidpecknaaGreatDoor
namespace Go.Proofs.YtajehiidpecknaaGreatDoor
open Go Go.RowKit
def SU (p q:P4):P4:=jG (p4 (pv p)) (p4 (pv q))
def muS (a:P4):Nat→P4
 | 0=>iB
 | n+1=>SU (muS a n) a
def muN (a:P4):Nat→P4
 | 0=>iB
 | n+1=>jG (muN a n) a
theorem kO (a:P4) : ∀ n,(muN a n).ok
 | 0=>sN
 | n+1=>mQ _ _
theorem wo {a:P4} (h:a.ok) : ∀ n,muS a n=muN a n
 | 0=>rfl
 | n+1=>by
  show jG (p4 (pv (muS a n))) (p4 (pv a))=jG (muN a n) a
  rw [wo h n,cU (kO a n),cU h]
def muT (a:P4) (i:Nat):Prop:=IsP (pv (muS a i))∧IsP (pv a)
def IJ (o:Option (List Prop × Value)):Option (List Prop):=o.map (·.1)
def K7 (o:Option (List Prop × Value)):Value:=(o.map (·.2)).getD undef
theorem ID {o:Option (List Prop × Value)} {ps:List Prop} (h:IJ o=some ps):o=some (ps,K7 o):=by
 cases o with
 | none=>cases h
 | some q=>simp only [IJ,YO,qG] at h;subst h;rfl
def Bv (P:Program) (fn:Func) (a:P4):Value:=K7 (sfunG P F3 M0 100 fn (ag fn) [pv a])
def cellsOf:Value→List Value
 | .agg cs=>cs.toList
 | _=>[]
def wT:Value→Bool
 | .agg _=>true
 | _=>false
theorem zW {v:Value} (h:wT v=true):v = .agg (cellsOf v).toArray:=by
 cases v <;> simp [wT] at h
 rename_i cs
 simp [cellsOf]
def sl (l:List Value) (i:Nat):List Value:=(l.drop (128*i)).take 128
def muL (g:Nat→P4):List Value:=(List.range 16).flatMap fun i=>pcs (g i)
theorem pU (f:Nat→List Value) : ∀ (n:Nat) (l:List Value),l.length=128*n→(∀ i,i<n→sl l i=f i)→l=(List.range n).flatMap f
 | 0,l,hl,_=>by
  have:l = []:=List.eq_nil_of_length_eq_zero (by omega)
  rw [this];rfl
 | n+1,l,hl,h=>by
  have ih:=pU f n (l.take (128*n)) (by rw [List.length_take];omega) (fun i hi=>by
   rw [←h i (by omega)]
   unfold sl
   rw [List.drop_take,List.take_take]
   congr 1
   omega)
  have hn:=h n (by omega)
  unfold sl at hn
  rw [List.take_of_length_le (by rw [List.length_drop];omega)] at hn
  rw [List.range_succ,List.flatMap_append,←ih,List.flatMap_cons,List.flatMap_nil,List.append_nil,←hn,List.take_append_drop]
theorem D0 (a:P4):IJ (sfunG Tryz.prog F3 M0 100 Tryz.f96 (ag Tryz.f96) [pv a])=some [muT a 0,muT a 1,muT a 2,muT a 3,muT a 4,muT a 5,muT a 6,muT a 7,muT a 8,muT a 9,muT a 10,muT a 11,muT a 12,muT a 13,muT a 14]:=by kernel_rfl
theorem Gd (a:P4):wT (Bv Tryz.prog Tryz.f96 a)=true:=by kernel_rfl
theorem Gl (a:P4):(cellsOf (Bv Tryz.prog Tryz.f96 a)).length=2048:=by kernel_rfl
theorem Jm (a:P4):(List.range 16).map (sl (cellsOf (Bv Tryz.prog Tryz.f96 a)))=(List.range 16).map fun i=>pcs (muS a i):=by kernel_rfl
theorem EH {a:P4} (h:a.ok):Bv Tryz.prog Tryz.f96 a = .agg (muL (muN a)).toArray:=by
 have e:=pU (fun i=>pcs (muS a i)) 16 _ (Gl a) (fun i hi=>List.map_inj_left.1 (Jm a) i (List.mem_range.2 hi))
 rw [zW (Gd a),e]
 unfold muL
 rw [show muS a=muN a from funext (wo h)]
theorem va (g:Nat→P4):flat (.agg (muL g).toArray)=true:=by
 show ((muL g).toArray.toList.all flat1)=true
 rw [YN]
 unfold muL
 rw [List.all_flatMap]
 refine List.all_eq_true.2 fun i _ => ?_
 unfold pcs
 simp only [List.all_append,mG,Bool.and_self]
def gMus:List Value→Option (List Prop × Value)
 | [A]=>some ([IsP A],.agg (muL (muN (p4 A))).toArray)
 | _=>none
theorem FG {X:Cx} (hX:X.Ok Tryz.prog) (hc:bm M0 X.gl=true):(X.var M0 96 gMus).Ok Tryz.prog:=by
 refine bM hX aO hc Tryz.func96 (by kernel_rfl) (by kernel_rfl) ?_
 intro args ps v ha hg hp
 unfold gMus at hg
 split at hg
 ·rename_i A
  simp only [qG,qH] at hg
  obtain ⟨rfl,rfl⟩:=hg
  obtain ⟨hA,lA⟩:=hp _ (YJ.2 rfl)
  refine ⟨.inl (va _),fun w hw => ?_⟩
  have run:=ID (D0 (p4 A))
  have e:=EH lA
  unfold Bv at e
  rw [e] at run
  have ht : ∀ i,muT (p4 A) i:=fun i=>by
   unfold muT
   rw [wo lA]
   exact ⟨bY (kO _ _),bY lA⟩
  have h:=aD tL mixed aO (by kernel_rfl) Tryz.func96 (by kernel_rfl) run (by
   intro p hp
   simp only [List.mem_cons,List.not_mem_nil,or_false] at hp
   rcases hp with rfl | rfl | rfl | rfl | rfl | rfl | rfl | rfl | rfl | rfl | rfl | rfl | rfl | rfl | rfl <;> exact ht _) (by simp [bg]) (.inl (va _)) w hw
  rw [←hA] at h
  exact h
 ·simp at hg
def F4:Cx:=F3.var M0 96 gMus
theorem iy:F4.Ok Tryz.prog:=FG tL (by kernel_rfl)
end Go.Proofs.YtajehiidpecknaaGreatDoor
