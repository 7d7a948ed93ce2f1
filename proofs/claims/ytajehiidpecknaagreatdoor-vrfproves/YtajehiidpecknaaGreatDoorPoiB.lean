/- Package point: at, neutral, generator, mirror, quotients, sum, double, sixteenfold. -/
import Derived.Test.YtajehiidpecknaaGreatDoorFieQ
import Derived.Test.YtajehiidpecknaaGreatDoorPoiM
set_option linter.all false
namespace Go.Proofs.YtajehiidpecknaaGreatDoor
open Go Go.RowKit
theorem El {X:Cx} (hX:X.Ok Tryz.prog):(X.pure 115 gAdF).Ok Tryz.prog:=by
 refine aA hX Tryz.func115 (by kernel_rfl) (by kernel_rfl) ?_
 intro args ps v ha hg hp
 unfold gAdF at hg
 split at hg
 ·rename_i A B
  simp only [qG,qH] at hg
  obtain ⟨rfl,rfl⟩:=hg
  obtain ⟨hA,hB⟩:=hp _ (List.mem_singleton.2 rfl)
  refine ⟨.inl (aC _),fun w => ?_⟩
  have h:=Gm (aj A) (aj B) (aQ hA) (aQ hB) w
  rw [← (show A=bv (aj A) from hA),← (show B=bv (aj B) from hB)] at h
  exact h
 ·simp at hg
theorem En {X:Cx} (hX:X.Ok Tryz.prog):(X.pure 113 Ih).Ok Tryz.prog:=by
 refine aA hX Tryz.func113 (by kernel_rfl) (by kernel_rfl) ?_
 intro args ps v ha hg hp
 unfold Ih at hg
 split at hg
 ·rename_i A B
  simp only [qG,qH] at hg
  obtain ⟨rfl,rfl⟩:=hg
  obtain ⟨hA,hB⟩:=hp _ (List.mem_singleton.2 rfl)
  refine ⟨.inl (aC _),fun w => ?_⟩
  have h:=Ev (aj A) (aj B) (aQ hA) (aQ hB) w
  rw [← (show A=bv (aj A) from hA),← (show B=bv (aj B) from hB)] at h
  exact h
 ·simp at hg
theorem Ec {X:Cx} (hX:X.Ok Tryz.prog):(X.pure 95 Jq).Ok Tryz.prog:=by
 refine aA hX Tryz.func95 (by kernel_rfl) (by kernel_rfl) ?_
 intro args ps v ha hg hp
 unfold Jq at hg
 split at hg
 ·rename_i A B
  simp only [qG,qH] at hg
  obtain ⟨rfl,rfl⟩:=hg
  obtain ⟨hA,hB⟩:=hp _ (List.mem_singleton.2 rfl)
  refine ⟨.inl (aC _),fun w => ?_⟩
  have h:=ED (aj A) (aj B) (aQ hA) (aQ hB) w
  rw [← (show A=bv (aj A) from hA),← (show B=bv (aj B) from hB)] at h
  exact h
 ·simp at hg
theorem EY {X:Cx} (hX:X.Ok Tryz.prog):(X.pure 94 gIvF).Ok Tryz.prog:=by
 refine aA hX Tryz.func94 (by kernel_rfl) (by kernel_rfl) ?_
 intro args ps v ha hg hp
 unfold gIvF at hg
 split at hg
 ·rename_i A
  simp only [qG,qH] at hg
  obtain ⟨rfl,rfl⟩:=hg
  have hA:=hp _ (List.mem_singleton.2 rfl)
  refine ⟨.inl (aC _),fun w => ?_⟩
  have h:=Er (aj A) (aQ hA) w
  rw [← (show A=bv (aj A) from hA)] at h
  exact h
 ·simp at hg
theorem GJ {X:Cx} (hX:X.Ok Tryz.prog):(X.pure 110 JS).Ok Tryz.prog:=by
 refine aA hX Tryz.func110 (by kernel_rfl) (by kernel_rfl) ?_
 intro args ps v ha hg hp
 unfold JS at hg
 split at hg
 ·rename_i A
  simp only [qG,qH] at hg
  obtain ⟨rfl,rfl⟩:=hg
  have hA:=hp _ (List.mem_singleton.2 rfl)
  refine ⟨.inl rfl,fun w => ?_⟩
  have h:=fF (aj A) (aQ hA) w
  rw [← (show A=bv (aj A) from hA)] at h
  exact h
 ·simp at hg
theorem sN:F0.Ok Tryz.prog:=GJ (EY (Ec (En (El (Cx.glo_ok Cx.none_ok (fun g h=>(by cases h)))))))
def mV (x xu y yu:Nat):P4:=⟨fml x yu,fml y xu,fml xu yu,fml x y⟩
theorem yx (x xu y yu:Nat):(mV x xu y yu).ok:=⟨il (fL _ _),il (fL _ _),il (fL _ _),il (fL _ _)⟩
def jF (a b:P4):P4 :=
 let less:=fml (fsb a.y a.x) (fsb b.y b.x)
 let more:=fml (fad a.y a.x) (fad b.y b.x)
 let turn:=fml DN' (fml a.t b.t)
 let both:=fml a.z b.z
 mV (fsb more less) (fad (fad both both) (fad turn turn)) (fad more less) (fsb (fad both both) (fad turn turn))
theorem lQ (a b:P4):(jF a b).ok:=yx _ _ _ _
def dS (a:P4):P4 :=
 let below:=fsb (fml a.y a.y) (fml a.x a.x)
 mV (fad (fml a.x a.y) (fml a.x a.y)) below (fad (fml a.y a.y) (fml a.x a.x)) (fsb (fad (fml a.z a.z) (fml a.z a.z)) below)
theorem dx (a:P4):(dS a).ok:=yx _ _ _ _
def ia:P4:=⟨0,1,1,0⟩
theorem rL:ia.ok:=⟨by decide,by decide,by decide,by decide⟩
def atN (x y:Nat):P4:=⟨x,y,1,fml x y⟩
theorem B9 {x y:Nat} (hx:x<RN) (hy:y<RN):(atN x y).ok:=⟨hx,hy,(show (1:Nat)<RN by decide),il (fL _ _)⟩
def AE (p:P4):P4:=⟨fsb 0 p.x,p.y,p.z,fsb 0 p.t⟩
theorem xE {p:P4} (h:p.ok):(AE p).ok:=⟨il (rS _ _),h.y,h.z,il (rS _ _)⟩
def tp:P4:=atN GX GY
theorem Is (x y:Nat):sfunG Tryz.prog F0 M0 60 Tryz.f100 (ag Tryz.f100) [bv x,bv y]=some ([IsB (bv x)∧IsB (bv y)],pv ⟨x,y,1,fml (aj (bv x)) (aj (bv y))⟩):=by kernel_rfl
def gAt:List Value→Option (List Prop × Value)
 | [A,B]=>some ([IsB A∧IsB B],pv (atN (aj A) (aj B)))
 | _=>none
theorem IH {X:Cx} (hX:X.Ok Tryz.prog) (hc:bp M0 X.gl=true):(X.var M0 100 gAt).Ok Tryz.prog:=by
 refine bW hX aO hc Tryz.func100 (by kernel_rfl) (by kernel_rfl) ?_
 intro args ps v ha hg hp
 unfold gAt at hg
 split at hg
 ·rename_i A B
  simp only [qG,qH] at hg
  obtain ⟨rfl,rfl⟩:=hg
  obtain ⟨hA,hB⟩:=hp _ (List.mem_singleton.2 rfl)
  refine ⟨.inl (aZ _),fun w hw => ?_⟩
  have run:=Is (aj A) (aj B)
  rw [au (aQ hA),au (aQ hB)] at run
  have h:=aD sN mixed aO (by kernel_rfl) Tryz.func100 (by kernel_rfl) run (by
   intro p hp
   simp only [List.mem_cons,List.not_mem_nil,or_false] at hp
   rcases hp with rfl
   exact ⟨aI _,aI _⟩) (by simp [aC]) (.inl (aZ _)) w hw
  rw [← (show A=bv (aj A) from hA),← (show B=bv (aj B) from hB)] at h
  exact h
 ·simp at hg
theorem E9:sfunG Tryz.prog F0 M0 60 Tryz.f97 (ag Tryz.f97) []=some ([],pv ia):=by kernel_rfl
def gNeu:List Value→Option (List Prop × Value)
 | []=>some ([],pv ia)
 | _=>none
theorem DW {X:Cx} (hX:X.Ok Tryz.prog) (hc:bp M0 X.gl=true):(X.var M0 97 gNeu).Ok Tryz.prog:=by
 refine bW hX aO hc Tryz.func97 (by kernel_rfl) (by kernel_rfl) ?_
 intro args ps v ha hg hp
 unfold gNeu at hg
 split at hg
 ·simp only [qG,qH] at hg
  obtain ⟨rfl,rfl⟩:=hg
  exact ⟨.inl (aZ _),fun w hw=>aD sN mixed aO (by kernel_rfl) Tryz.func97 (by kernel_rfl) E9 (by simp) rfl (.inl (aZ _)) w hw⟩
 ·simp at hg
theorem Gb (p:P4):sfunG Tryz.prog F0 M0 60 Tryz.f118 (ag Tryz.f118) [pv p]=some ([IsB (bv 0)∧IsB (bv p.x),IsB (bv 0)∧IsB (bv p.t)],pv ⟨fsb (aj (bv 0)) (aj (bv p.x)),p.y,p.z,fsb (aj (bv 0)) (aj (bv p.t))⟩):=by kernel_rfl
def gMir:List Value→Option (List Prop × Value)
 | [A]=>some ([IsP A],pv (AE (p4 A)))
 | _=>none
theorem E3 {X:Cx} (hX:X.Ok Tryz.prog) (hc:bp M0 X.gl=true):(X.var M0 118 gMir).Ok Tryz.prog:=by
 refine bW hX aO hc Tryz.func118 (by kernel_rfl) (by kernel_rfl) ?_
 intro args ps v ha hg hp
 unfold gMir at hg
 split at hg
 ·rename_i A
  simp only [qG,qH] at hg
  obtain ⟨rfl,rfl⟩:=hg
  obtain ⟨hA,lA⟩:=hp _ (List.mem_singleton.2 rfl)
  refine ⟨.inl (aZ _),fun w hw => ?_⟩
  have run:=Gb (p4 A)
  rw [au (n:=0) (by decide),au lA.x,au lA.t] at run
  have h:=aD sN mixed aO (by kernel_rfl) Tryz.func118 (by kernel_rfl) run (by
   intro p hp
   simp only [List.mem_cons,List.not_mem_nil,or_false] at hp
   rcases hp with rfl | rfl <;> exact ⟨aI _,aI _⟩) (by simp [aZ]) (.inl (aZ _)) w hw
  rw [←hA] at h
  exact h
 ·simp at hg
theorem Gh (x xu y yu:Nat):sfunG Tryz.prog F0 M0 60 Tryz.f114 (ag Tryz.f114) [bv x,bv xu,bv y,bv yu]=some ([IsB (bv x)∧IsB (bv yu),IsB (bv y)∧IsB (bv xu),IsB (bv xu)∧IsB (bv yu),IsB (bv x)∧IsB (bv y)],pv (mV (aj (bv x)) (aj (bv xu)) (aj (bv y)) (aj (bv yu)))):=by kernel_rfl
def gQuo:List Value→Option (List Prop × Value)
 | [A,B,C,D]=>some ([IsB A∧IsB B∧IsB C∧IsB D],pv (mV (aj A) (aj B) (aj C) (aj D)))
 | _=>none
theorem D8 {X:Cx} (hX:X.Ok Tryz.prog) (hc:bp M0 X.gl=true):(X.var M0 114 gQuo).Ok Tryz.prog:=by
 refine bW hX aO hc Tryz.func114 (by kernel_rfl) (by kernel_rfl) ?_
 intro args ps v ha hg hp
 unfold gQuo at hg
 split at hg
 ·rename_i A B C D
  simp only [qG,qH] at hg
  obtain ⟨rfl,rfl⟩:=hg
  obtain ⟨hA,hB,hC,hD⟩:=hp _ (List.mem_singleton.2 rfl)
  refine ⟨.inl (aZ _),fun w hw => ?_⟩
  have run:=Gh (aj A) (aj B) (aj C) (aj D)
  rw [au (aQ hA),au (aQ hB),au (aQ hC),au (aQ hD)] at run
  have h:=aD sN mixed aO (by kernel_rfl) Tryz.func114 (by kernel_rfl) run (by
   intro p hp
   simp only [List.mem_cons,List.not_mem_nil,or_false] at hp
   rcases hp with rfl | rfl | rfl | rfl <;> exact ⟨aI _,aI _⟩) (by simp [aC]) (.inl (aZ _)) w hw
  rw [← (show A=bv (aj A) from hA),← (show B=bv (aj B) from hB),← (show C=bv (aj C) from hC),← (show D=bv (aj D) from hD)] at h
  exact h
 ·simp at hg
def F1:Cx:=(((F0.var M0 100 gAt).var M0 97 gNeu).var M0 118 gMir).var M0 114 gQuo
theorem py:F1.Ok Tryz.prog:=D8 (E3 (DW (IH sN (by kernel_rfl)) (by kernel_rfl)) (by kernel_rfl)) (by kernel_rfl)
def jq (a b:P4):Value:=ML (SB (bv a.y) (bv a.x)) (SB (bv b.y) (bv b.x))
def jr (a b:P4):Value:=ML (AD (bv a.y) (bv a.x)) (AD (bv b.y) (bv b.x))
def oZ (a b:P4):Value:=ML (bv DN') (ML (bv a.t) (bv b.t))
def oe (a b:P4):Value:=ML (bv a.z) (bv b.z)
def fK (a b:P4):Value:=AD (oZ a b) (oZ a b)
def fI (a b:P4):Value:=AD (oe a b) (oe a b)
def IB (A B:Value):Prop:=IsB A∧IsB B
theorem DO (a b:P4):sfunG Tryz.prog F1 M0 60 Tryz.f98 (ag Tryz.f98) [pv a,pv b]=some ([
  IB (bv a.y) (bv a.x),IB (bv b.y) (bv b.x),IB (SB (bv a.y) (bv a.x)) (SB (bv b.y) (bv b.x)),
  IB (bv a.y) (bv a.x),IB (bv b.y) (bv b.x),IB (AD (bv a.y) (bv a.x)) (AD (bv b.y) (bv b.x)),
  IB (bv a.t) (bv b.t),IB (bv DN') (ML (bv a.t) (bv b.t)),IB (oZ a b) (oZ a b),
  IB (bv a.z) (bv b.z),IB (oe a b) (oe a b),
  IB (jr a b) (jq a b),IB (fI a b) (fK a b),IB (jr a b) (jq a b),IB (fI a b) (fK a b),
  IsB (SB (jr a b) (jq a b))∧IsB (AD (fI a b) (fK a b))∧IsB (AD (jr a b) (jq a b))∧IsB (SB (fI a b) (fK a b))],
  pv (mV (aj (SB (jr a b) (jq a b))) (aj (AD (fI a b) (fK a b))) (aj (AD (jr a b) (jq a b))) (aj (SB (fI a b) (fK a b))))):=by kernel_rfl
end Go.Proofs.YtajehiidpecknaaGreatDoor
namespace Go.Proofs.YtajehiidpecknaaGreatDoor
open Go Go.RowKit
theorem dO (a b:Nat) (ha:a<RN) (hb:b<RN):AD (bv a) (bv b)=bv (fad a b):=by unfold AD;rw [au ha,au hb]
theorem fE (a b:Nat) (ha:a<RN) (hb:b<RN):SB (bv a) (bv b)=bv (fsb a b):=by unfold SB;rw [au ha,au hb]
theorem di (a b:Nat) (ha:a<RN) (hb:b<RN):ML (bv a) (bv b)=bv (fml a b):=by unfold ML;rw [au ha,au hb]
theorem yl (a:Nat) (ha:a<RN):IV (bv a)=bv (fiv a):=by unfold IV;rw [au ha]
theorem lv (a b:Nat):fad a b<RN:=il (I3 a b)
theorem mY (a b:Nat):fsb a b<RN:=il (rS a b)
theorem fM (a b:Nat):fml a b<RN:=il (fL a b)
theorem J5 (a:Nat):fiv a<RN:=il (I7 a)
theorem Gl {a b:P4} (la:a.ok) (lb:b.ok):mV (aj (SB (jr a b) (jq a b))) (aj (AD (fI a b) (fK a b))) (aj (AD (jr a b) (jq a b))) (aj (SB (fI a b) (fK a b)))=jF a b:=by
 have h1:jr a b=bv (fml (fad a.y a.x) (fad b.y b.x)):=by unfold jr;rw [dO _ _ la.y la.x,dO _ _ lb.y lb.x,di _ _ (lv _ _) (lv _ _)]
 have h2:jq a b=bv (fml (fsb a.y a.x) (fsb b.y b.x)):=by unfold jq;rw [fE _ _ la.y la.x,fE _ _ lb.y lb.x,di _ _ (mY _ _) (mY _ _)]
 have h3:oZ a b=bv (fml DN' (fml a.t b.t)):=by unfold oZ;rw [di _ _ la.t lb.t,di _ _ (by decide) (fM _ _)]
 have h4:oe a b=bv (fml a.z b.z):=by unfold oe;rw [di _ _ la.z lb.z]
 have h5:fK a b=bv (fad (fml DN' (fml a.t b.t)) (fml DN' (fml a.t b.t))):=by unfold fK;rw [h3,dO _ _ (fM _ _) (fM _ _)]
 have h6:fI a b=bv (fad (fml a.z b.z) (fml a.z b.z)):=by unfold fI;rw [h4,dO _ _ (fM _ _) (fM _ _)]
 rw [h1,h2,h5,h6,fE _ _ (fM _ _) (fM _ _),dO _ _ (lv _ _) (lv _ _),dO _ _ (fM _ _) (fM _ _),fE _ _ (lv _ _) (lv _ _),au (mY _ _),au (lv _ _),au (lv _ _),au (mY _ _)]
 rfl
theorem ib {A B:Nat} : IB (bv A) (bv B):=⟨aI _,aI _⟩
def gSum:List Value→Option (List Prop × Value)
 | [A,B]=>some ([IsP A∧IsP B],pv (jF (p4 A) (p4 B)))
 | _=>none
theorem GO {X:Cx} (hX:X.Ok Tryz.prog) (hc:bp M0 X.gl=true):(X.var M0 98 gSum).Ok Tryz.prog:=by
 refine bW hX aO hc Tryz.func98 (by kernel_rfl) (by kernel_rfl) ?_
 intro args ps v ha hg hp
 unfold gSum at hg
 split at hg
 ·rename_i A B
  simp only [qG,qH] at hg
  obtain ⟨rfl,rfl⟩:=hg
  obtain ⟨⟨hA,lA⟩,⟨hB,lB⟩⟩:=hp _ (List.mem_singleton.2 rfl)
  refine ⟨.inl (aZ _),fun w hw => ?_⟩
  have run:=DO (p4 A) (p4 B)
  rw [Gl lA lB] at run
  have h:=aD py mixed aO (by kernel_rfl) Tryz.func98 (by kernel_rfl) run (by
   intro p hp
   simp only [List.mem_cons,List.not_mem_nil,or_false] at hp
   rcases hp with rfl | rfl | rfl | rfl | rfl | rfl | rfl | rfl | rfl | rfl | rfl | rfl | rfl | rfl | rfl | rfl <;> first | exact ib | exact ⟨aI _,aI _,aI _,aI _⟩) (by simp [aZ]) (.inl (aZ _)) w hw
  rw [←hA,←hB] at h
  exact h
 ·simp at hg
def xxV (a:P4):Value:=ML (bv a.x) (bv a.x)
def yyV (a:P4):Value:=ML (bv a.y) (bv a.y)
def zzV (a:P4):Value:=ML (bv a.z) (bv a.z)
def xyV (a:P4):Value:=ML (bv a.x) (bv a.y)
def gH (a:P4):Value:=SB (yyV a) (xxV a)
theorem DG (a:P4):sfunG Tryz.prog F1 M0 60 Tryz.f71 (ag Tryz.f71) [pv a]=some ([
  IB (bv a.x) (bv a.x),IB (bv a.y) (bv a.y),IB (bv a.z) (bv a.z),IB (bv a.x) (bv a.y),IB (yyV a) (xxV a),
  IB (xyV a) (xyV a),IB (yyV a) (xxV a),IB (zzV a) (zzV a),IB (AD (zzV a) (zzV a)) (gH a),
  IsB (AD (xyV a) (xyV a))∧IsB (gH a)∧IsB (AD (yyV a) (xxV a))∧IsB (SB (AD (zzV a) (zzV a)) (gH a))],
  pv (mV (aj (AD (xyV a) (xyV a))) (aj (gH a)) (aj (AD (yyV a) (xxV a))) (aj (SB (AD (zzV a) (zzV a)) (gH a))))):=by kernel_rfl
theorem Gs {a:P4} (la:a.ok):mV (aj (AD (xyV a) (xyV a))) (aj (gH a)) (aj (AD (yyV a) (xxV a))) (aj (SB (AD (zzV a) (zzV a)) (gH a)))=dS a:=by
 have h1:xxV a=bv (fml a.x a.x):=by unfold xxV;rw [di _ _ la.x la.x]
 have h2:yyV a=bv (fml a.y a.y):=by unfold yyV;rw [di _ _ la.y la.y]
 have h3:zzV a=bv (fml a.z a.z):=by unfold zzV;rw [di _ _ la.z la.z]
 have h4:xyV a=bv (fml a.x a.y):=by unfold xyV;rw [di _ _ la.x la.y]
 have h5:gH a=bv (fsb (fml a.y a.y) (fml a.x a.x)):=by unfold gH;rw [h1,h2,fE _ _ (fM _ _) (fM _ _)]
 rw [h1,h2,h3,h4,h5,dO _ _ (fM _ _) (fM _ _),dO _ _ (fM _ _) (fM _ _),dO _ _ (fM _ _) (fM _ _),fE _ _ (lv _ _) (mY _ _),au (lv _ _),au (mY _ _),au (lv _ _),au (mY _ _)]
 rfl
def gDbl:List Value→Option (List Prop × Value)
 | [A]=>some ([IsP A],pv (dS (p4 A)))
 | _=>none
theorem FO {X:Cx} (hX:X.Ok Tryz.prog) (hc:bp M0 X.gl=true):(X.var M0 71 gDbl).Ok Tryz.prog:=by
 refine bW hX aO hc Tryz.func71 (by kernel_rfl) (by kernel_rfl) ?_
 intro args ps v ha hg hp
 unfold gDbl at hg
 split at hg
 ·rename_i A
  simp only [qG,qH] at hg
  obtain ⟨rfl,rfl⟩:=hg
  obtain ⟨hA,lA⟩:=hp _ (List.mem_singleton.2 rfl)
  refine ⟨.inl (aZ _),fun w hw => ?_⟩
  have run:=DG (p4 A)
  rw [Gs lA] at run
  have h:=aD py mixed aO (by kernel_rfl) Tryz.func71 (by kernel_rfl) run (by
   intro p hp
   simp only [List.mem_cons,List.not_mem_nil,or_false] at hp
   rcases hp with rfl | rfl | rfl | rfl | rfl | rfl | rfl | rfl | rfl | rfl <;> first | exact ib | exact ⟨aI _,aI _,aI _,aI _⟩) (by simp [aZ]) (.inl (aZ _)) w hw
  rw [←hA] at h
  exact h
 ·simp at hg
def F2:Cx:=(F1.var M0 98 gSum).var M0 71 gDbl
theorem sL:F2.Ok Tryz.prog:=FO (GO py (by kernel_rfl)) (by kernel_rfl)
def D1 (a:P4):P4:=dS (p4 (pv a))
theorem xO {a:P4} (h:a.ok):D1 a=dS a:=by unfold D1;rw [cY h]
theorem DC (a:P4):sfunG Tryz.prog F2 M0 60 Tryz.f99 (ag Tryz.f99) [pv a]=some ([IsP (pv a),IsP (pv (D1 a)),IsP (pv (D1 (D1 a))),IsP (pv (D1 (D1 (D1 a))))],pv (D1 (D1 (D1 (D1 a))))):=by kernel_rfl
def wN (a:P4):P4:=dS (dS (dS (dS a)))
theorem yn (a:P4):(wN a).ok:=dx _
def JG:List Value→Option (List Prop × Value)
 | [A]=>some ([IsP A],pv (wN (p4 A)))
 | _=>none
theorem FX {X:Cx} (hX:X.Ok Tryz.prog) (hc:bp M0 X.gl=true):(X.var M0 99 JG).Ok Tryz.prog:=by
 refine bW hX aO hc Tryz.func99 (by kernel_rfl) (by kernel_rfl) ?_
 intro args ps v ha hg hp
 unfold JG at hg
 split at hg
 ·rename_i A
  simp only [qG,qH] at hg
  obtain ⟨rfl,rfl⟩:=hg
  obtain ⟨hA,lA⟩:=hp _ (List.mem_singleton.2 rfl)
  refine ⟨.inl (aZ _),fun w hw => ?_⟩
  have run:=DC (p4 A)
  rw [xO lA,xO (dx _),xO (dx _),xO (dx _)] at run
  have h:=aD sL mixed aO (by kernel_rfl) Tryz.func99 (by kernel_rfl) run (by
   intro p hp
   simp only [List.mem_cons,List.not_mem_nil,or_false] at hp
   rcases hp with rfl | rfl | rfl | rfl
   ·exact cg lA
   all_goals exact cg (dx _)) (by simp [aZ]) (.inl (aZ _)) w hw
  rw [←hA] at h
  exact h
 ·simp at hg
theorem Lw {g:Nat} (h:g ∈ gl4):g ∈ gl5:=by
 unfold gl4 at h
 unfold gl5
 simp only [List.mem_cons,List.not_mem_nil,or_false] at h ⊢
 omega
theorem JY:(F2.glo gl5).Ok Tryz.prog:=Cx.glo_ok sL fun g h=>Lw h
theorem Ef:sfunG Tryz.prog (F2.glo gl5) M1 60 Tryz.f53 (ag Tryz.f53) []=some ([IsB (bv GX)∧IsB (bv GY)],pv (atN (aj (bv GX)) (aj (bv GY)))):=by kernel_rfl
def gGen:List Value→Option (List Prop × Value)
 | []=>some ([],pv tp)
 | _=>none
theorem FI {X:Cx} (hX:X.Ok Tryz.prog) (hc:bp M1 X.gl=true):(X.var M1 53 gGen).Ok Tryz.prog:=by
 refine bW hX lO hc Tryz.func53 (by kernel_rfl) (by kernel_rfl) ?_
 intro args ps v ha hg hp
 unfold gGen at hg
 split at hg
 ·simp only [qG,qH] at hg
  obtain ⟨rfl,rfl⟩:=hg
  have run:=Ef
  rw [au (n:=GX) (by decide),au (n:=GY) (by decide)] at run
  exact ⟨.inl (aZ _),fun w hw=>aD JY mixed lO (by kernel_rfl) Tryz.func53 (by kernel_rfl) run (by
   intro p hp
   simp only [List.mem_cons,List.not_mem_nil,or_false] at hp
   rcases hp with rfl
   exact ⟨aI _,aI _⟩) rfl (.inl (aZ _)) w hw⟩
 ·simp at hg
def F3:Cx:=F2.var M0 99 JG
theorem tE:F3.Ok Tryz.prog:=FX sL (by kernel_rfl)
end Go.Proofs.YtajehiidpecknaaGreatDoor
namespace Go.Proofs.YtajehiidpecknaaGreatDoor
open Go Go.RowKit
def SU (p q:P4):P4:=jF (p4 (pv p)) (p4 (pv q))
def muS (a:P4):Nat→P4
 | 0=>ia
 | n+1=>SU (muS a n) a
def muN (a:P4):Nat→P4
 | 0=>ia
 | n+1=>jF (muN a n) a
theorem kK (a:P4) : ∀ n,(muN a n).ok
 | 0=>rL
 | n+1=>lQ _ _
theorem vB {a:P4} (h:a.ok) : ∀ n,muS a n=muN a n
 | 0=>rfl
 | n+1=>by
  show jF (p4 (pv (muS a n))) (p4 (pv a))=jF (muN a n) a
  rw [vB h n,cY (kK a n),cY h]
def muT (a:P4) (i:Nat):Prop:=IsP (pv (muS a i))∧IsP (pv a)
def Ix (o:Option (List Prop × Value)):Option (List Prop):=o.map (·.1)
def Lp (o:Option (List Prop × Value)):Value:=(o.map (·.2)).getD undef
theorem I8 {o:Option (List Prop × Value)} {ps:List Prop} (h:Ix o=some ps):o=some (ps,Lp o):=by
 cases o with
 | none=>cases h
 | some q=>simp only [Ix,Option.map_some,qG] at h;subst h;rfl
def An (P:Program) (fn:Func) (a:P4):Value:=Lp (sfunG P F3 M0 100 fn (ag fn) [pv a])
def cellsOf:Value→List Value
 | .agg cs=>cs.toList
 | _=>[]
def vR:Value→Bool
 | .agg _=>true
 | _=>false
theorem zd {v:Value} (h:vR v=true):v = .agg (cellsOf v).toArray:=by
 cases v <;> simp [vR] at h
 rename_i cs
 simp [cellsOf]
def sl (l:List Value) (i:Nat):List Value:=(l.drop (128*i)).take 128
def muL (g:Nat→P4):List Value:=(List.range 16).flatMap fun i=>pcs (g i)
theorem po (f:Nat→List Value) : ∀ (n:Nat) (l:List Value),l.length=128*n→(∀ i,i<n→sl l i=f i)→l=(List.range n).flatMap f
 | 0,l,hl,_=>by
  have:l = []:=List.eq_nil_of_length_eq_zero (by omega)
  rw [this];rfl
 | n+1,l,hl,h=>by
  have ih:=po f n (l.take (128*n)) (by rw [List.length_take];omega) (fun i hi=>by
   rw [←h i (by omega)]
   unfold sl
   rw [List.drop_take,List.take_take]
   congr 1
   omega)
  have hn:=h n (by omega)
  unfold sl at hn
  rw [List.take_of_length_le (by rw [List.length_drop];omega)] at hn
  rw [List.range_succ,List.flatMap_append,←ih,List.flatMap_cons,List.flatMap_nil,List.append_nil,←hn,List.take_append_drop]
theorem Db (a:P4):Ix (sfunG Tryz.prog F3 M0 100 Tryz.f96 (ag Tryz.f96) [pv a])=some [muT a 0,muT a 1,muT a 2,muT a 3,muT a 4,muT a 5,muT a 6,muT a 7,muT a 8,muT a 9,muT a 10,muT a 11,muT a 12,muT a 13,muT a 14]:=by kernel_rfl
theorem EU (a:P4):vR (An Tryz.prog Tryz.f96 a)=true:=by kernel_rfl
theorem GF (a:P4):(cellsOf (An Tryz.prog Tryz.f96 a)).length=2048:=by kernel_rfl
theorem JT (a:P4):(List.range 16).map (sl (cellsOf (An Tryz.prog Tryz.f96 a)))=(List.range 16).map fun i=>pcs (muS a i):=by kernel_rfl
theorem Gv {a:P4} (h:a.ok):An Tryz.prog Tryz.f96 a = .agg (muL (muN a)).toArray:=by
 have e:=po (fun i=>pcs (muS a i)) 16 _ (GF a) (fun i hi=>List.map_inj_left.1 (JT a) i (List.mem_range.2 hi))
 rw [zd (EU a),e]
 unfold muL
 rw [show muS a=muN a from funext (vB h)]
theorem vd (g:Nat→P4):flat (.agg (muL g).toArray)=true:=by
 show ((muL g).toArray.toList.all flat1)=true
 rw [List.toList_toArray]
 unfold muL
 rw [List.all_flatMap]
 refine List.all_eq_true.2 fun i _ => ?_
 unfold pcs
 simp only [List.all_append,lZ,Bool.and_self]
def gMus:List Value→Option (List Prop × Value)
 | [A]=>some ([IsP A],.agg (muL (muN (p4 A))).toArray)
 | _=>none
theorem FU {X:Cx} (hX:X.Ok Tryz.prog) (hc:bp M0 X.gl=true):(X.var M0 96 gMus).Ok Tryz.prog:=by
 refine bW hX aO hc Tryz.func96 (by kernel_rfl) (by kernel_rfl) ?_
 intro args ps v ha hg hp
 unfold gMus at hg
 split at hg
 ·rename_i A
  simp only [qG,qH] at hg
  obtain ⟨rfl,rfl⟩:=hg
  obtain ⟨hA,lA⟩:=hp _ (List.mem_singleton.2 rfl)
  refine ⟨.inl (vd _),fun w hw => ?_⟩
  have run:=I8 (Db (p4 A))
  have e:=Gv lA
  unfold An at e
  rw [e] at run
  have ht : ∀ i,muT (p4 A) i:=fun i=>by
   unfold muT
   rw [vB lA]
   exact ⟨cg (kK _ _),cg lA⟩
  have h:=aD tE mixed aO (by kernel_rfl) Tryz.func96 (by kernel_rfl) run (by
   intro p hp
   simp only [List.mem_cons,List.not_mem_nil,or_false] at hp
   rcases hp with rfl | rfl | rfl | rfl | rfl | rfl | rfl | rfl | rfl | rfl | rfl | rfl | rfl | rfl | rfl <;> exact ht _) (by simp [aZ]) (.inl (vd _)) w hw
  rw [←hA] at h
  exact h
 ·simp at hg
def F4:Cx:=F3.var M0 96 gMus
theorem iP:F4.Ok Tryz.prog:=FU tE (by kernel_rfl)
end Go.Proofs.YtajehiidpecknaaGreatDoor
