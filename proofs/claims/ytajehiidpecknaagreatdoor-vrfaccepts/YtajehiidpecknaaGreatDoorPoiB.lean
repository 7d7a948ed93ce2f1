/- Package point: at, neutral, generator, mirror, quotients, sum, double, sixteenfold. -/
import Derived.Test.YtajehiidpecknaaGreatDoorFieQ
import Derived.Test.YtajehiidpecknaaGreatDoorPoiM
set_option linter.unusedSimpArgs false
set_option linter.unusedVariables false
namespace Go.Proofs.YtajehiidpecknaaGreatDoor
open Go Go.RowKit
theorem FB {X:Cx} (hX:X.Ok Tryz.prog):(X.pure 115 gAdF).Ok Tryz.prog:=by
 refine aC hX Tryz.func115 (by kernel_rfl) (by kernel_rfl) ?_
 intro args ps v ha hg hp
 unfold gAdF at hg
 split at hg
 ·rename_i A B
  simp only [qG,qH] at hg
  obtain ⟨rfl,rfl⟩:=hg
  obtain ⟨hA,hB⟩:=hp _ (List.mem_singleton.2 rfl)
  refine ⟨.inl (aE _),fun w => ?_⟩
  have h:=EK (aj A) (aj B) (aT hA) (aT hB) w
  rw [← (show A=bv (aj A) from hA),← (show B=bv (aj B) from hB)] at h
  exact h
 ·simp at hg
theorem DV {X:Cx} (hX:X.Ok Tryz.prog):(X.pure 113 Iz).Ok Tryz.prog:=by
 refine aC hX Tryz.func113 (by kernel_rfl) (by kernel_rfl) ?_
 intro args ps v ha hg hp
 unfold Iz at hg
 split at hg
 ·rename_i A B
  simp only [qG,qH] at hg
  obtain ⟨rfl,rfl⟩:=hg
  obtain ⟨hA,hB⟩:=hp _ (List.mem_singleton.2 rfl)
  refine ⟨.inl (aE _),fun w => ?_⟩
  have h:=Gd (aj A) (aj B) (aT hA) (aT hB) w
  rw [← (show A=bv (aj A) from hA),← (show B=bv (aj B) from hB)] at h
  exact h
 ·simp at hg
theorem Ez {X:Cx} (hX:X.Ok Tryz.prog):(X.pure 95 GN).Ok Tryz.prog:=by
 refine aC hX Tryz.func95 (by kernel_rfl) (by kernel_rfl) ?_
 intro args ps v ha hg hp
 unfold GN at hg
 split at hg
 ·rename_i A B
  simp only [qG,qH] at hg
  obtain ⟨rfl,rfl⟩:=hg
  obtain ⟨hA,hB⟩:=hp _ (List.mem_singleton.2 rfl)
  refine ⟨.inl (aE _),fun w => ?_⟩
  have h:=DD (aj A) (aj B) (aT hA) (aT hB) w
  rw [← (show A=bv (aj A) from hA),← (show B=bv (aj B) from hB)] at h
  exact h
 ·simp at hg
theorem Eo {X:Cx} (hX:X.Ok Tryz.prog):(X.pure 94 gIvF).Ok Tryz.prog:=by
 refine aC hX Tryz.func94 (by kernel_rfl) (by kernel_rfl) ?_
 intro args ps v ha hg hp
 unfold gIvF at hg
 split at hg
 ·rename_i A
  simp only [qG,qH] at hg
  obtain ⟨rfl,rfl⟩:=hg
  have hA:=hp _ (List.mem_singleton.2 rfl)
  refine ⟨.inl (aE _),fun w => ?_⟩
  have h:=Da (aj A) (aT hA) w
  rw [← (show A=bv (aj A) from hA)] at h
  exact h
 ·simp at hg
theorem EA {X:Cx} (hX:X.Ok Tryz.prog):(X.pure 110 Iv).Ok Tryz.prog:=by
 refine aC hX Tryz.func110 (by kernel_rfl) (by kernel_rfl) ?_
 intro args ps v ha hg hp
 unfold Iv at hg
 split at hg
 ·rename_i A
  simp only [qG,qH] at hg
  obtain ⟨rfl,rfl⟩:=hg
  have hA:=hp _ (List.mem_singleton.2 rfl)
  refine ⟨.inl rfl,fun w => ?_⟩
  have h:=fE (aj A) (aT hA) w
  rw [← (show A=bv (aj A) from hA)] at h
  exact h
 ·simp at hg
theorem ug:F0.Ok Tryz.prog:=EA (Eo (Ez (DV (FB (Cx.glo_ok Cx.none_ok (fun g h=>(by cases h)))))))
def me (x xu y yu:Nat):P4:=⟨fml x yu,fml y xu,fml xu yu,fml x y⟩
theorem w8 (x xu y yu:Nat):(me x xu y yu).ok:=⟨ie (eN _ _),ie (eN _ _),ie (eN _ _),ie (eN _ _)⟩
def jh (a b:P4):P4 :=
 let less:=fml (fsb a.y a.x) (fsb b.y b.x)
 let more:=fml (fad a.y a.x) (fad b.y b.x)
 let turn:=fml DN' (fml a.t b.t)
 let both:=fml a.z b.z
 me (fsb more less) (fad (fad both both) (fad turn turn)) (fad more less) (fsb (fad both both) (fad turn turn))
theorem lY (a b:P4):(jh a b).ok:=w8 _ _ _ _
def dI (a:P4):P4 :=
 let below:=fsb (fml a.y a.y) (fml a.x a.x)
 me (fad (fml a.x a.y) (fml a.x a.y)) below (fad (fml a.y a.y) (fml a.x a.x)) (fsb (fad (fml a.z a.z) (fml a.z a.z)) below)
theorem dx (a:P4):(dI a).ok:=w8 _ _ _ _
def gV:P4:=⟨0,1,1,0⟩
theorem qh:gV.ok:=⟨by decide,by decide,by decide,by decide⟩
def atN (x y:Nat):P4:=⟨x,y,1,fml x y⟩
theorem AJ {x y:Nat} (hx:x<RN) (hy:y<RN):(atN x y).ok:=⟨hx,hy,(show (1:Nat)<RN by decide),ie (eN _ _)⟩
def vv (p:P4):P4:=⟨fsb 0 p.x,p.y,p.z,fsb 0 p.t⟩
theorem xP {p:P4} (h:p.ok):(vv p).ok:=⟨ie (qZ _ _),h.y,h.z,ie (qZ _ _)⟩
def jG:P4:=atN GX GY
theorem Hd (x y:Nat):sfunG Tryz.prog F0 M0 60 Tryz.f100 (ai Tryz.f100) [bv x,bv y]=some ([IsB (bv x)∧IsB (bv y)],pv ⟨x,y,1,fml (aj (bv x)) (aj (bv y))⟩):=by kernel_rfl
def gAt:List Value→Option (List Prop × Value)
 | [A,B]=>some ([IsB A∧IsB B],pv (atN (aj A) (aj B)))
 | _=>none
theorem Jc {X:Cx} (hX:X.Ok Tryz.prog) (hc:a7 M0 X.gl=true):(X.var M0 100 gAt).Ok Tryz.prog:=by
 refine bG hX aL hc Tryz.func100 (by kernel_rfl) (by kernel_rfl) ?_
 intro args ps v ha hg hp
 unfold gAt at hg
 split at hg
 ·rename_i A B
  simp only [qG,qH] at hg
  obtain ⟨rfl,rfl⟩:=hg
  obtain ⟨hA,hB⟩:=hp _ (List.mem_singleton.2 rfl)
  refine ⟨.inl (aY _),fun w hw => ?_⟩
  have run:=Hd (aj A) (aj B)
  rw [ar (aT hA),ar (aT hB)] at run
  have h:=az ug mixed aL (by kernel_rfl) Tryz.func100 (by kernel_rfl) run (by
   intro p hp
   simp only [List.mem_cons,List.not_mem_nil,or_false] at hp
   rcases hp with rfl
   exact ⟨aG _,aG _⟩) (by simp [aE]) (.inl (aY _)) w hw
  rw [← (show A=bv (aj A) from hA),← (show B=bv (aj B) from hB)] at h
  exact h
 ·simp at hg
theorem FW:sfunG Tryz.prog F0 M0 60 Tryz.f97 (ai Tryz.f97) []=some ([],pv gV):=by kernel_rfl
def gNeu:List Value→Option (List Prop × Value)
 | []=>some ([],pv gV)
 | _=>none
theorem Ft {X:Cx} (hX:X.Ok Tryz.prog) (hc:a7 M0 X.gl=true):(X.var M0 97 gNeu).Ok Tryz.prog:=by
 refine bG hX aL hc Tryz.func97 (by kernel_rfl) (by kernel_rfl) ?_
 intro args ps v ha hg hp
 unfold gNeu at hg
 split at hg
 ·simp only [qG,qH] at hg
  obtain ⟨rfl,rfl⟩:=hg
  exact ⟨.inl (aY _),fun w hw=>az ug mixed aL (by kernel_rfl) Tryz.func97 (by kernel_rfl) FW (by simp) rfl (.inl (aY _)) w hw⟩
 ·simp at hg
theorem EW (p:P4):sfunG Tryz.prog F0 M0 60 Tryz.f118 (ai Tryz.f118) [pv p]=some ([IsB (bv 0)∧IsB (bv p.x),IsB (bv 0)∧IsB (bv p.t)],pv ⟨fsb (aj (bv 0)) (aj (bv p.x)),p.y,p.z,fsb (aj (bv 0)) (aj (bv p.t))⟩):=by kernel_rfl
def gMir:List Value→Option (List Prop × Value)
 | [A]=>some ([IsP A],pv (vv (p4 A)))
 | _=>none
theorem E7 {X:Cx} (hX:X.Ok Tryz.prog) (hc:a7 M0 X.gl=true):(X.var M0 118 gMir).Ok Tryz.prog:=by
 refine bG hX aL hc Tryz.func118 (by kernel_rfl) (by kernel_rfl) ?_
 intro args ps v ha hg hp
 unfold gMir at hg
 split at hg
 ·rename_i A
  simp only [qG,qH] at hg
  obtain ⟨rfl,rfl⟩:=hg
  obtain ⟨hA,lA⟩:=hp _ (List.mem_singleton.2 rfl)
  refine ⟨.inl (aY _),fun w hw => ?_⟩
  have run:=EW (p4 A)
  rw [ar (n:=0) (by decide),ar lA.x,ar lA.t] at run
  have h:=az ug mixed aL (by kernel_rfl) Tryz.func118 (by kernel_rfl) run (by
   intro p hp
   simp only [List.mem_cons,List.not_mem_nil,or_false] at hp
   rcases hp with rfl | rfl <;> exact ⟨aG _,aG _⟩) (by simp [aY]) (.inl (aY _)) w hw
  rw [←hA] at h
  exact h
 ·simp at hg
theorem Fu (x xu y yu:Nat):sfunG Tryz.prog F0 M0 60 Tryz.f114 (ai Tryz.f114) [bv x,bv xu,bv y,bv yu]=some ([IsB (bv x)∧IsB (bv yu),IsB (bv y)∧IsB (bv xu),IsB (bv xu)∧IsB (bv yu),IsB (bv x)∧IsB (bv y)],pv (me (aj (bv x)) (aj (bv xu)) (aj (bv y)) (aj (bv yu)))):=by kernel_rfl
def gQuo:List Value→Option (List Prop × Value)
 | [A,B,C,D]=>some ([IsB A∧IsB B∧IsB C∧IsB D],pv (me (aj A) (aj B) (aj C) (aj D)))
 | _=>none
theorem Fv {X:Cx} (hX:X.Ok Tryz.prog) (hc:a7 M0 X.gl=true):(X.var M0 114 gQuo).Ok Tryz.prog:=by
 refine bG hX aL hc Tryz.func114 (by kernel_rfl) (by kernel_rfl) ?_
 intro args ps v ha hg hp
 unfold gQuo at hg
 split at hg
 ·rename_i A B C D
  simp only [qG,qH] at hg
  obtain ⟨rfl,rfl⟩:=hg
  obtain ⟨hA,hB,hC,hD⟩:=hp _ (List.mem_singleton.2 rfl)
  refine ⟨.inl (aY _),fun w hw => ?_⟩
  have run:=Fu (aj A) (aj B) (aj C) (aj D)
  rw [ar (aT hA),ar (aT hB),ar (aT hC),ar (aT hD)] at run
  have h:=az ug mixed aL (by kernel_rfl) Tryz.func114 (by kernel_rfl) run (by
   intro p hp
   simp only [List.mem_cons,List.not_mem_nil,or_false] at hp
   rcases hp with rfl | rfl | rfl | rfl <;> exact ⟨aG _,aG _⟩) (by simp [aE]) (.inl (aY _)) w hw
  rw [← (show A=bv (aj A) from hA),← (show B=bv (aj B) from hB),← (show C=bv (aj C) from hC),← (show D=bv (aj D) from hD)] at h
  exact h
 ·simp at hg
def F1:Cx:=(((F0.var M0 100 gAt).var M0 97 gNeu).var M0 118 gMir).var M0 114 gQuo
theorem pq:F1.Ok Tryz.prog:=Fv (E7 (Ft (Jc ug (by kernel_rfl)) (by kernel_rfl)) (by kernel_rfl)) (by kernel_rfl)
def iW (a b:P4):Value:=ML (SB (bv a.y) (bv a.x)) (SB (bv b.y) (bv b.x))
def iU (a b:P4):Value:=ML (AD (bv a.y) (bv a.x)) (AD (bv b.y) (bv b.x))
def oW (a b:P4):Value:=ML (bv DN') (ML (bv a.t) (bv b.t))
def pV (a b:P4):Value:=ML (bv a.z) (bv b.z)
def ft (a b:P4):Value:=AD (oW a b) (oW a b)
def fI (a b:P4):Value:=AD (pV a b) (pV a b)
def IB (A B:Value):Prop:=IsB A∧IsB B
theorem Fg (a b:P4):sfunG Tryz.prog F1 M0 60 Tryz.f98 (ai Tryz.f98) [pv a,pv b]=some ([
  IB (bv a.y) (bv a.x),IB (bv b.y) (bv b.x),IB (SB (bv a.y) (bv a.x)) (SB (bv b.y) (bv b.x)),
  IB (bv a.y) (bv a.x),IB (bv b.y) (bv b.x),IB (AD (bv a.y) (bv a.x)) (AD (bv b.y) (bv b.x)),
  IB (bv a.t) (bv b.t),IB (bv DN') (ML (bv a.t) (bv b.t)),IB (oW a b) (oW a b),
  IB (bv a.z) (bv b.z),IB (pV a b) (pV a b),
  IB (iU a b) (iW a b),IB (fI a b) (ft a b),IB (iU a b) (iW a b),IB (fI a b) (ft a b),
  IsB (SB (iU a b) (iW a b))∧IsB (AD (fI a b) (ft a b))∧IsB (AD (iU a b) (iW a b))∧IsB (SB (fI a b) (ft a b))],
  pv (me (aj (SB (iU a b) (iW a b))) (aj (AD (fI a b) (ft a b))) (aj (AD (iU a b) (iW a b))) (aj (SB (fI a b) (ft a b))))):=by kernel_rfl
end Go.Proofs.YtajehiidpecknaaGreatDoor
/- Package point: sum, double, sixteenfold, generator as contracts. -/
namespace Go.Proofs.YtajehiidpecknaaGreatDoor
open Go Go.RowKit
theorem dH (a b:Nat) (ha:a<RN) (hb:b<RN):AD (bv a) (bv b)=bv (fad a b):=by unfold AD;rw [ar ha,ar hb]
theorem fb (a b:Nat) (ha:a<RN) (hb:b<RN):SB (bv a) (bv b)=bv (fsb a b):=by unfold SB;rw [ar ha,ar hb]
theorem de (a b:Nat) (ha:a<RN) (hb:b<RN):ML (bv a) (bv b)=bv (fml a b):=by unfold ML;rw [ar ha,ar hb]
theorem xD (a:Nat) (ha:a<RN):IV (bv a)=bv (fiv a):=by unfold IV;rw [ar ha]
theorem kY (a b:Nat):fad a b<RN:=ie (GU a b)
theorem mO (a b:Nat):fsb a b<RN:=ie (qZ a b)
theorem fx (a b:Nat):fml a b<RN:=ie (eN a b)
theorem GS (a:Nat):fiv a<RN:=ie (IJ a)
theorem DW {a b:P4} (la:a.ok) (lb:b.ok):me (aj (SB (iU a b) (iW a b))) (aj (AD (fI a b) (ft a b))) (aj (AD (iU a b) (iW a b))) (aj (SB (fI a b) (ft a b)))=jh a b:=by
 have h1:iU a b=bv (fml (fad a.y a.x) (fad b.y b.x)):=by unfold iU;rw [dH _ _ la.y la.x,dH _ _ lb.y lb.x,de _ _ (kY _ _) (kY _ _)]
 have h2:iW a b=bv (fml (fsb a.y a.x) (fsb b.y b.x)):=by unfold iW;rw [fb _ _ la.y la.x,fb _ _ lb.y lb.x,de _ _ (mO _ _) (mO _ _)]
 have h3:oW a b=bv (fml DN' (fml a.t b.t)):=by unfold oW;rw [de _ _ la.t lb.t,de _ _ (by decide) (fx _ _)]
 have h4:pV a b=bv (fml a.z b.z):=by unfold pV;rw [de _ _ la.z lb.z]
 have h5:ft a b=bv (fad (fml DN' (fml a.t b.t)) (fml DN' (fml a.t b.t))):=by unfold ft;rw [h3,dH _ _ (fx _ _) (fx _ _)]
 have h6:fI a b=bv (fad (fml a.z b.z) (fml a.z b.z)):=by unfold fI;rw [h4,dH _ _ (fx _ _) (fx _ _)]
 rw [h1,h2,h5,h6,fb _ _ (fx _ _) (fx _ _),dH _ _ (kY _ _) (kY _ _),dH _ _ (fx _ _) (fx _ _),fb _ _ (kY _ _) (kY _ _),ar (mO _ _),ar (kY _ _),ar (kY _ _),ar (mO _ _)]
 rfl
theorem ib {A B:Nat} : IB (bv A) (bv B):=⟨aG _,aG _⟩
def gSum:List Value→Option (List Prop × Value)
 | [A,B]=>some ([IsP A∧IsP B],pv (jh (p4 A) (p4 B)))
 | _=>none
theorem FG {X:Cx} (hX:X.Ok Tryz.prog) (hc:a7 M0 X.gl=true):(X.var M0 98 gSum).Ok Tryz.prog:=by
 refine bG hX aL hc Tryz.func98 (by kernel_rfl) (by kernel_rfl) ?_
 intro args ps v ha hg hp
 unfold gSum at hg
 split at hg
 ·rename_i A B
  simp only [qG,qH] at hg
  obtain ⟨rfl,rfl⟩:=hg
  obtain ⟨⟨hA,lA⟩,⟨hB,lB⟩⟩:=hp _ (List.mem_singleton.2 rfl)
  refine ⟨.inl (aY _),fun w hw => ?_⟩
  have run:=Fg (p4 A) (p4 B)
  rw [DW lA lB] at run
  have h:=az pq mixed aL (by kernel_rfl) Tryz.func98 (by kernel_rfl) run (by
   intro p hp
   simp only [List.mem_cons,List.not_mem_nil,or_false] at hp
   rcases hp with rfl | rfl | rfl | rfl | rfl | rfl | rfl | rfl | rfl | rfl | rfl | rfl | rfl | rfl | rfl | rfl <;> first | exact ib | exact ⟨aG _,aG _,aG _,aG _⟩) (by simp [aY]) (.inl (aY _)) w hw
  rw [←hA,←hB] at h
  exact h
 ·simp at hg
def xxV (a:P4):Value:=ML (bv a.x) (bv a.x)
def yyV (a:P4):Value:=ML (bv a.y) (bv a.y)
def zzV (a:P4):Value:=ML (bv a.z) (bv a.z)
def xyV (a:P4):Value:=ML (bv a.x) (bv a.y)
def gB (a:P4):Value:=SB (yyV a) (xxV a)
theorem Ei (a:P4):sfunG Tryz.prog F1 M0 60 Tryz.f71 (ai Tryz.f71) [pv a]=some ([
  IB (bv a.x) (bv a.x),IB (bv a.y) (bv a.y),IB (bv a.z) (bv a.z),IB (bv a.x) (bv a.y),IB (yyV a) (xxV a),
  IB (xyV a) (xyV a),IB (yyV a) (xxV a),IB (zzV a) (zzV a),IB (AD (zzV a) (zzV a)) (gB a),
  IsB (AD (xyV a) (xyV a))∧IsB (gB a)∧IsB (AD (yyV a) (xxV a))∧IsB (SB (AD (zzV a) (zzV a)) (gB a))],
  pv (me (aj (AD (xyV a) (xyV a))) (aj (gB a)) (aj (AD (yyV a) (xxV a))) (aj (SB (AD (zzV a) (zzV a)) (gB a))))):=by kernel_rfl
theorem En {a:P4} (la:a.ok):me (aj (AD (xyV a) (xyV a))) (aj (gB a)) (aj (AD (yyV a) (xxV a))) (aj (SB (AD (zzV a) (zzV a)) (gB a)))=dI a:=by
 have h1:xxV a=bv (fml a.x a.x):=by unfold xxV;rw [de _ _ la.x la.x]
 have h2:yyV a=bv (fml a.y a.y):=by unfold yyV;rw [de _ _ la.y la.y]
 have h3:zzV a=bv (fml a.z a.z):=by unfold zzV;rw [de _ _ la.z la.z]
 have h4:xyV a=bv (fml a.x a.y):=by unfold xyV;rw [de _ _ la.x la.y]
 have h5:gB a=bv (fsb (fml a.y a.y) (fml a.x a.x)):=by unfold gB;rw [h1,h2,fb _ _ (fx _ _) (fx _ _)]
 rw [h1,h2,h3,h4,h5,dH _ _ (fx _ _) (fx _ _),dH _ _ (fx _ _) (fx _ _),dH _ _ (fx _ _) (fx _ _),fb _ _ (kY _ _) (mO _ _),ar (kY _ _),ar (mO _ _),ar (kY _ _),ar (mO _ _)]
 rfl
def gDbl:List Value→Option (List Prop × Value)
 | [A]=>some ([IsP A],pv (dI (p4 A)))
 | _=>none
theorem Ev {X:Cx} (hX:X.Ok Tryz.prog) (hc:a7 M0 X.gl=true):(X.var M0 71 gDbl).Ok Tryz.prog:=by
 refine bG hX aL hc Tryz.func71 (by kernel_rfl) (by kernel_rfl) ?_
 intro args ps v ha hg hp
 unfold gDbl at hg
 split at hg
 ·rename_i A
  simp only [qG,qH] at hg
  obtain ⟨rfl,rfl⟩:=hg
  obtain ⟨hA,lA⟩:=hp _ (List.mem_singleton.2 rfl)
  refine ⟨.inl (aY _),fun w hw => ?_⟩
  have run:=Ei (p4 A)
  rw [En lA] at run
  have h:=az pq mixed aL (by kernel_rfl) Tryz.func71 (by kernel_rfl) run (by
   intro p hp
   simp only [List.mem_cons,List.not_mem_nil,or_false] at hp
   rcases hp with rfl | rfl | rfl | rfl | rfl | rfl | rfl | rfl | rfl | rfl <;> first | exact ib | exact ⟨aG _,aG _,aG _,aG _⟩) (by simp [aY]) (.inl (aY _)) w hw
  rw [←hA] at h
  exact h
 ·simp at hg
def F2:Cx:=(F1.var M0 98 gSum).var M0 71 gDbl
theorem tE:F2.Ok Tryz.prog:=Ev (FG pq (by kernel_rfl)) (by kernel_rfl)
def D1 (a:P4):P4:=dI (p4 (pv a))
theorem xK {a:P4} (h:a.ok):D1 a=dI a:=by unfold D1;rw [cS h]
theorem Fl (a:P4):sfunG Tryz.prog F2 M0 60 Tryz.f99 (ai Tryz.f99) [pv a]=some ([IsP (pv a),IsP (pv (D1 a)),IsP (pv (D1 (D1 a))),IsP (pv (D1 (D1 (D1 a))))],pv (D1 (D1 (D1 (D1 a))))):=by kernel_rfl
def uB (a:P4):P4:=dI (dI (dI (dI a)))
theorem xr (a:P4):(uB a).ok:=dx _
def Hg:List Value→Option (List Prop × Value)
 | [A]=>some ([IsP A],pv (uB (p4 A)))
 | _=>none
theorem FN {X:Cx} (hX:X.Ok Tryz.prog) (hc:a7 M0 X.gl=true):(X.var M0 99 Hg).Ok Tryz.prog:=by
 refine bG hX aL hc Tryz.func99 (by kernel_rfl) (by kernel_rfl) ?_
 intro args ps v ha hg hp
 unfold Hg at hg
 split at hg
 ·rename_i A
  simp only [qG,qH] at hg
  obtain ⟨rfl,rfl⟩:=hg
  obtain ⟨hA,lA⟩:=hp _ (List.mem_singleton.2 rfl)
  refine ⟨.inl (aY _),fun w hw => ?_⟩
  have run:=Fl (p4 A)
  rw [xK lA,xK (dx _),xK (dx _),xK (dx _)] at run
  have h:=az tE mixed aL (by kernel_rfl) Tryz.func99 (by kernel_rfl) run (by
   intro p hp
   simp only [List.mem_cons,List.not_mem_nil,or_false] at hp
   rcases hp with rfl | rfl | rfl | rfl
   ·exact bQ lA
   all_goals exact bQ (dx _)) (by simp [aY]) (.inl (aY _)) w hw
  rw [←hA] at h
  exact h
 ·simp at hg
theorem JV {g:Nat} (h:g ∈ gl4):g ∈ gl5:=by
 unfold gl4 at h
 unfold gl5
 simp only [List.mem_cons,List.not_mem_nil,or_false] at h ⊢
 omega
theorem GQ:(F2.glo gl5).Ok Tryz.prog:=Cx.glo_ok tE fun g h=>JV h
theorem DP:sfunG Tryz.prog (F2.glo gl5) M1 60 Tryz.f53 (ai Tryz.f53) []=some ([IsB (bv GX)∧IsB (bv GY)],pv (atN (aj (bv GX)) (aj (bv GY)))):=by kernel_rfl
def gGen:List Value→Option (List Prop × Value)
 | []=>some ([],pv jG)
 | _=>none
theorem Dk {X:Cx} (hX:X.Ok Tryz.prog) (hc:a7 M1 X.gl=true):(X.var M1 53 gGen).Ok Tryz.prog:=by
 refine bG hX lV hc Tryz.func53 (by kernel_rfl) (by kernel_rfl) ?_
 intro args ps v ha hg hp
 unfold gGen at hg
 split at hg
 ·simp only [qG,qH] at hg
  obtain ⟨rfl,rfl⟩:=hg
  have run:=DP
  rw [ar (n:=GX) (by decide),ar (n:=GY) (by decide)] at run
  exact ⟨.inl (aY _),fun w hw=>az GQ mixed lV (by kernel_rfl) Tryz.func53 (by kernel_rfl) run (by
   intro p hp
   simp only [List.mem_cons,List.not_mem_nil,or_false] at hp
   rcases hp with rfl
   exact ⟨aG _,aG _⟩) rfl (.inl (aY _)) w hw⟩
 ·simp at hg
def F3:Cx:=F2.var M0 99 Hg
theorem rU:F3.Ok Tryz.prog:=FN tE (by kernel_rfl)
end Go.Proofs.YtajehiidpecknaaGreatDoor
/- Package point: multiples. -/
namespace Go.Proofs.YtajehiidpecknaaGreatDoor
open Go Go.RowKit
def SU (p q:P4):P4:=jh (p4 (pv p)) (p4 (pv q))
def muS (a:P4):Nat→P4
 | 0=>gV
 | n+1=>SU (muS a n) a
def muN (a:P4):Nat→P4
 | 0=>gV
 | n+1=>jh (muN a n) a
theorem kF (a:P4) : ∀ n,(muN a n).ok
 | 0=>qh
 | n+1=>lY _ _
theorem vH {a:P4} (h:a.ok) : ∀ n,muS a n=muN a n
 | 0=>rfl
 | n+1=>by
  show jh (p4 (pv (muS a n))) (p4 (pv a))=jh (muN a n) a
  rw [vH h n,cS (kF a n),cS h]
def muT (a:P4) (i:Nat):Prop:=IsP (pv (muS a i))∧IsP (pv a)
def Jh (o:Option (List Prop × Value)):Option (List Prop):=o.map (·.1)
def JP (o:Option (List Prop × Value)):Value:=(o.map (·.2)).getD undef
theorem Ij {o:Option (List Prop × Value)} {ps:List Prop} (h:Jh o=some ps):o=some (ps,JP o):=by
 cases o with
 | none=>cases h
 | some q=>simp only [Jh,Option.map_some,qG] at h;subst h;rfl
def zw (P:Program) (fn:Func) (a:P4):Value:=JP (sfunG P F3 M0 100 fn (ai fn) [pv a])
def cellsOf:Value→List Value
 | .agg cs=>cs.toList
 | _=>[]
def vr:Value→Bool
 | .agg _=>true
 | _=>false
theorem yM {v:Value} (h:vr v=true):v = .agg (cellsOf v).toArray:=by
 cases v <;> simp [vr] at h
 rename_i cs
 simp [cellsOf]
def sl (l:List Value) (i:Nat):List Value:=(l.drop (128*i)).take 128
def muL (g:Nat→P4):List Value:=(List.range 16).flatMap fun i=>pcs (g i)
theorem p5 (f:Nat→List Value) : ∀ (n:Nat) (l:List Value),l.length=128*n→(∀ i,i<n→sl l i=f i)→l=(List.range n).flatMap f
 | 0,l,hl,_=>by
  have:l = []:=List.eq_nil_of_length_eq_zero (by omega)
  rw [this];rfl
 | n+1,l,hl,h=>by
  have ih:=p5 f n (l.take (128*n)) (by rw [List.length_take];omega) (fun i hi=>by
   rw [←h i (by omega)]
   unfold sl
   rw [List.drop_take,List.take_take]
   congr 1
   omega)
  have hn:=h n (by omega)
  unfold sl at hn
  rw [List.take_of_length_le (by rw [List.length_drop];omega)] at hn
  rw [List.range_succ,List.flatMap_append,←ih,List.flatMap_cons,List.flatMap_nil,List.append_nil,←hn,List.take_append_drop]
theorem Cr (a:P4):Jh (sfunG Tryz.prog F3 M0 100 Tryz.f96 (ai Tryz.f96) [pv a])=some [muT a 0,muT a 1,muT a 2,muT a 3,muT a 4,muT a 5,muT a 6,muT a 7,muT a 8,muT a 9,muT a 10,muT a 11,muT a 12,muT a 13,muT a 14]:=by kernel_rfl
theorem Fi (a:P4):vr (zw Tryz.prog Tryz.f96 a)=true:=by kernel_rfl
theorem FE (a:P4):(cellsOf (zw Tryz.prog Tryz.f96 a)).length=2048:=by kernel_rfl
theorem Il (a:P4):(List.range 16).map (sl (cellsOf (zw Tryz.prog Tryz.f96 a)))=(List.range 16).map fun i=>pcs (muS a i):=by kernel_rfl
theorem Dw {a:P4} (h:a.ok):zw Tryz.prog Tryz.f96 a = .agg (muL (muN a)).toArray:=by
 have e:=p5 (fun i=>pcs (muS a i)) 16 _ (FE a) (fun i hi=>List.map_inj_left.1 (Il a) i (List.mem_range.2 hi))
 rw [yM (Fi a),e]
 unfold muL
 rw [show muS a=muN a from funext (vH h)]
theorem sP (g:Nat→P4):flat (.agg (muL g).toArray)=true:=by
 show ((muL g).toArray.toList.all flat1)=true
 rw [List.toList_toArray]
 unfold muL
 rw [List.all_flatMap]
 refine List.all_eq_true.2 fun i _ => ?_
 unfold pcs
 simp only [List.all_append,lJ,Bool.and_self]
def gMus:List Value→Option (List Prop × Value)
 | [A]=>some ([IsP A],.agg (muL (muN (p4 A))).toArray)
 | _=>none
theorem Gc {X:Cx} (hX:X.Ok Tryz.prog) (hc:a7 M0 X.gl=true):(X.var M0 96 gMus).Ok Tryz.prog:=by
 refine bG hX aL hc Tryz.func96 (by kernel_rfl) (by kernel_rfl) ?_
 intro args ps v ha hg hp
 unfold gMus at hg
 split at hg
 ·rename_i A
  simp only [qG,qH] at hg
  obtain ⟨rfl,rfl⟩:=hg
  obtain ⟨hA,lA⟩:=hp _ (List.mem_singleton.2 rfl)
  refine ⟨.inl (sP _),fun w hw => ?_⟩
  have run:=Ij (Cr (p4 A))
  have e:=Dw lA
  unfold zw at e
  rw [e] at run
  have ht : ∀ i,muT (p4 A) i:=fun i=>by
   unfold muT
   rw [vH lA]
   exact ⟨bQ (kF _ _),bQ lA⟩
  have h:=az rU mixed aL (by kernel_rfl) Tryz.func96 (by kernel_rfl) run (by
   intro p hp
   simp only [List.mem_cons,List.not_mem_nil,or_false] at hp
   rcases hp with rfl | rfl | rfl | rfl | rfl | rfl | rfl | rfl | rfl | rfl | rfl | rfl | rfl | rfl | rfl <;> exact ht _) (by simp [aY]) (.inl (sP _)) w hw
  rw [←hA] at h
  exact h
 ·simp at hg
def F4:Cx:=F3.var M0 96 gMus
theorem ig:F4.Ok Tryz.prog:=Gc rU (by kernel_rfl)
end Go.Proofs.YtajehiidpecknaaGreatDoor
