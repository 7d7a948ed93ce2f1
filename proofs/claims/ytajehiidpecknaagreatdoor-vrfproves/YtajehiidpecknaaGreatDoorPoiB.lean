/- Package point: at, neutral, generator, mirror, quotients, sum, double, sixteenfold. -/
import Derived.Test.YtajehiidpecknaaGreatDoorFieQ
import Derived.Test.YtajehiidpecknaaGreatDoorPoiM
set_option linter.unusedSimpArgs false
set_option linter.unusedVariables false
namespace Go.Proofs.YtajehiidpecknaaGreatDoor
open Go Go.RowKit
theorem Fp {X:Cx} (hX:X.Ok Tryz.prog):(X.pure 115 gAdF).Ok Tryz.prog:=by
 refine aA hX Tryz.func115 (by kernel_rfl) (by kernel_rfl) ?_
 intro args ps v ha hg hp
 unfold gAdF at hg
 split at hg
 ·rename_i A B
  simp only [qG,qH] at hg
  obtain ⟨rfl,rfl⟩:=hg
  obtain ⟨hA,hB⟩:=hp _ (List.mem_singleton.2 rfl)
  refine ⟨.inl (aC _),fun w => ?_⟩
  have h:=DR (aj A) (aj B) (aQ hA) (aQ hB) w
  rw [← (show A=bv (aj A) from hA),← (show B=bv (aj B) from hB)] at h
  exact h
 ·simp at hg
theorem Eg {X:Cx} (hX:X.Ok Tryz.prog):(X.pure 113 JW).Ok Tryz.prog:=by
 refine aA hX Tryz.func113 (by kernel_rfl) (by kernel_rfl) ?_
 intro args ps v ha hg hp
 unfold JW at hg
 split at hg
 ·rename_i A B
  simp only [qG,qH] at hg
  obtain ⟨rfl,rfl⟩:=hg
  obtain ⟨hA,hB⟩:=hp _ (List.mem_singleton.2 rfl)
  refine ⟨.inl (aC _),fun w => ?_⟩
  have h:=GP (aj A) (aj B) (aQ hA) (aQ hB) w
  rw [← (show A=bv (aj A) from hA),← (show B=bv (aj B) from hB)] at h
  exact h
 ·simp at hg
theorem Fu {X:Cx} (hX:X.Ok Tryz.prog):(X.pure 95 Kb).Ok Tryz.prog:=by
 refine aA hX Tryz.func95 (by kernel_rfl) (by kernel_rfl) ?_
 intro args ps v ha hg hp
 unfold Kb at hg
 split at hg
 ·rename_i A B
  simp only [qG,qH] at hg
  obtain ⟨rfl,rfl⟩:=hg
  obtain ⟨hA,hB⟩:=hp _ (List.mem_singleton.2 rfl)
  refine ⟨.inl (aC _),fun w => ?_⟩
  have h:=FN (aj A) (aj B) (aQ hA) (aQ hB) w
  rw [← (show A=bv (aj A) from hA),← (show B=bv (aj B) from hB)] at h
  exact h
 ·simp at hg
theorem GG {X:Cx} (hX:X.Ok Tryz.prog):(X.pure 94 gIvF).Ok Tryz.prog:=by
 refine aA hX Tryz.func94 (by kernel_rfl) (by kernel_rfl) ?_
 intro args ps v ha hg hp
 unfold gIvF at hg
 split at hg
 ·rename_i A
  simp only [qG,qH] at hg
  obtain ⟨rfl,rfl⟩:=hg
  have hA:=hp _ (List.mem_singleton.2 rfl)
  refine ⟨.inl (aC _),fun w => ?_⟩
  have h:=Et (aj A) (aQ hA) w
  rw [← (show A=bv (aj A) from hA)] at h
  exact h
 ·simp at hg
theorem GM {X:Cx} (hX:X.Ok Tryz.prog):(X.pure 110 H8).Ok Tryz.prog:=by
 refine aA hX Tryz.func110 (by kernel_rfl) (by kernel_rfl) ?_
 intro args ps v ha hg hp
 unfold H8 at hg
 split at hg
 ·rename_i A
  simp only [qG,qH] at hg
  obtain ⟨rfl,rfl⟩:=hg
  have hA:=hp _ (List.mem_singleton.2 rfl)
  refine ⟨.inl rfl,fun w => ?_⟩
  have h:=fL (aj A) (aQ hA) w
  rw [← (show A=bv (aj A) from hA)] at h
  exact h
 ·simp at hg
theorem sM:F0.Ok Tryz.prog:=GM (GG (Fu (Eg (Fp (Cx.glo_ok Cx.none_ok (fun g h=>(by cases h)))))))
def nC (x xu y yu:Nat):P4:=⟨fml x yu,fml y xu,fml xu yu,fml x y⟩
theorem xL (x xu y yu:Nat):(nC x xu y yu).ok:=⟨ix (fM _ _),ix (fM _ _),ix (fM _ _),ix (fM _ _)⟩
def jx (a b:P4):P4 :=
 let less:=fml (fsb a.y a.x) (fsb b.y b.x)
 let more:=fml (fad a.y a.x) (fad b.y b.x)
 let turn:=fml DN' (fml a.t b.t)
 let both:=fml a.z b.z
 nC (fsb more less) (fad (fad both both) (fad turn turn)) (fad more less) (fsb (fad both both) (fad turn turn))
theorem lR (a b:P4):(jx a b).ok:=xL _ _ _ _
def eg (a:P4):P4 :=
 let below:=fsb (fml a.y a.y) (fml a.x a.x)
 nC (fad (fml a.x a.y) (fml a.x a.y)) below (fad (fml a.y a.y) (fml a.x a.x)) (fsb (fad (fml a.z a.z) (fml a.z a.z)) below)
theorem dv (a:P4):(eg a).ok:=xL _ _ _ _
def il:P4:=⟨0,1,1,0⟩
theorem qV:il.ok:=⟨by decide,by decide,by decide,by decide⟩
def atN (x y:Nat):P4:=⟨x,y,1,fml x y⟩
theorem Ax {x y:Nat} (hx:x<RN) (hy:y<RN):(atN x y).ok:=⟨hx,hy,(show (1:Nat)<RN by decide),ix (fM _ _)⟩
def Cc (p:P4):P4:=⟨fsb 0 p.x,p.y,p.z,fsb 0 p.t⟩
theorem xH {p:P4} (h:p.ok):(Cc p).ok:=⟨ix (rY _ _),h.y,h.z,ix (rY _ _)⟩
def uB:P4:=atN GX GY
theorem IZ (x y:Nat):sfunG Tryz.prog F0 M0 60 Tryz.f100 (ag Tryz.f100) [bv x,bv y]=some ([IsB (bv x)∧IsB (bv y)],pv ⟨x,y,1,fml (aj (bv x)) (aj (bv y))⟩):=by kernel_rfl
def gAt:List Value→Option (List Prop × Value)
 | [A,B]=>some ([IsB A∧IsB B],pv (atN (aj A) (aj B)))
 | _=>none
theorem Iw {X:Cx} (hX:X.Ok Tryz.prog) (hc:bp M0 X.gl=true):(X.var M0 100 gAt).Ok Tryz.prog:=by
 refine bW hX aO hc Tryz.func100 (by kernel_rfl) (by kernel_rfl) ?_
 intro args ps v ha hg hp
 unfold gAt at hg
 split at hg
 ·rename_i A B
  simp only [qG,qH] at hg
  obtain ⟨rfl,rfl⟩:=hg
  obtain ⟨hA,hB⟩:=hp _ (List.mem_singleton.2 rfl)
  refine ⟨.inl (aY _),fun w hw => ?_⟩
  have run:=IZ (aj A) (aj B)
  rw [au (aQ hA),au (aQ hB)] at run
  have h:=aD sM mixed aO (by kernel_rfl) Tryz.func100 (by kernel_rfl) run (by
   intro p hp
   simp only [List.mem_cons,List.not_mem_nil,or_false] at hp
   rcases hp with rfl
   exact ⟨aI _,aI _⟩) (by simp [aC]) (.inl (aY _)) w hw
  rw [← (show A=bv (aj A) from hA),← (show B=bv (aj B) from hB)] at h
  exact h
 ·simp at hg
theorem Fa:sfunG Tryz.prog F0 M0 60 Tryz.f97 (ag Tryz.f97) []=some ([],pv il):=by kernel_rfl
def gNeu:List Value→Option (List Prop × Value)
 | []=>some ([],pv il)
 | _=>none
theorem FB {X:Cx} (hX:X.Ok Tryz.prog) (hc:bp M0 X.gl=true):(X.var M0 97 gNeu).Ok Tryz.prog:=by
 refine bW hX aO hc Tryz.func97 (by kernel_rfl) (by kernel_rfl) ?_
 intro args ps v ha hg hp
 unfold gNeu at hg
 split at hg
 ·simp only [qG,qH] at hg
  obtain ⟨rfl,rfl⟩:=hg
  exact ⟨.inl (aY _),fun w hw=>aD sM mixed aO (by kernel_rfl) Tryz.func97 (by kernel_rfl) Fa (by simp) rfl (.inl (aY _)) w hw⟩
 ·simp at hg
theorem EB (p:P4):sfunG Tryz.prog F0 M0 60 Tryz.f118 (ag Tryz.f118) [pv p]=some ([IsB (bv 0)∧IsB (bv p.x),IsB (bv 0)∧IsB (bv p.t)],pv ⟨fsb (aj (bv 0)) (aj (bv p.x)),p.y,p.z,fsb (aj (bv 0)) (aj (bv p.t))⟩):=by kernel_rfl
def gMir:List Value→Option (List Prop × Value)
 | [A]=>some ([IsP A],pv (Cc (p4 A)))
 | _=>none
theorem ED {X:Cx} (hX:X.Ok Tryz.prog) (hc:bp M0 X.gl=true):(X.var M0 118 gMir).Ok Tryz.prog:=by
 refine bW hX aO hc Tryz.func118 (by kernel_rfl) (by kernel_rfl) ?_
 intro args ps v ha hg hp
 unfold gMir at hg
 split at hg
 ·rename_i A
  simp only [qG,qH] at hg
  obtain ⟨rfl,rfl⟩:=hg
  obtain ⟨hA,lA⟩:=hp _ (List.mem_singleton.2 rfl)
  refine ⟨.inl (aY _),fun w hw => ?_⟩
  have run:=EB (p4 A)
  rw [au (n:=0) (by decide),au lA.x,au lA.t] at run
  have h:=aD sM mixed aO (by kernel_rfl) Tryz.func118 (by kernel_rfl) run (by
   intro p hp
   simp only [List.mem_cons,List.not_mem_nil,or_false] at hp
   rcases hp with rfl | rfl <;> exact ⟨aI _,aI _⟩) (by simp [aY]) (.inl (aY _)) w hw
  rw [←hA] at h
  exact h
 ·simp at hg
theorem EP (x xu y yu:Nat):sfunG Tryz.prog F0 M0 60 Tryz.f114 (ag Tryz.f114) [bv x,bv xu,bv y,bv yu]=some ([IsB (bv x)∧IsB (bv yu),IsB (bv y)∧IsB (bv xu),IsB (bv xu)∧IsB (bv yu),IsB (bv x)∧IsB (bv y)],pv (nC (aj (bv x)) (aj (bv xu)) (aj (bv y)) (aj (bv yu)))):=by kernel_rfl
def gQuo:List Value→Option (List Prop × Value)
 | [A,B,C,D]=>some ([IsB A∧IsB B∧IsB C∧IsB D],pv (nC (aj A) (aj B) (aj C) (aj D)))
 | _=>none
theorem Ge {X:Cx} (hX:X.Ok Tryz.prog) (hc:bp M0 X.gl=true):(X.var M0 114 gQuo).Ok Tryz.prog:=by
 refine bW hX aO hc Tryz.func114 (by kernel_rfl) (by kernel_rfl) ?_
 intro args ps v ha hg hp
 unfold gQuo at hg
 split at hg
 ·rename_i A B C D
  simp only [qG,qH] at hg
  obtain ⟨rfl,rfl⟩:=hg
  obtain ⟨hA,hB,hC,hD⟩:=hp _ (List.mem_singleton.2 rfl)
  refine ⟨.inl (aY _),fun w hw => ?_⟩
  have run:=EP (aj A) (aj B) (aj C) (aj D)
  rw [au (aQ hA),au (aQ hB),au (aQ hC),au (aQ hD)] at run
  have h:=aD sM mixed aO (by kernel_rfl) Tryz.func114 (by kernel_rfl) run (by
   intro p hp
   simp only [List.mem_cons,List.not_mem_nil,or_false] at hp
   rcases hp with rfl | rfl | rfl | rfl <;> exact ⟨aI _,aI _⟩) (by simp [aC]) (.inl (aY _)) w hw
  rw [← (show A=bv (aj A) from hA),← (show B=bv (aj B) from hB),← (show C=bv (aj C) from hC),← (show D=bv (aj D) from hD)] at h
  exact h
 ·simp at hg
def F1:Cx:=(((F0.var M0 100 gAt).var M0 97 gNeu).var M0 118 gMir).var M0 114 gQuo
theorem ou:F1.Ok Tryz.prog:=Ge (ED (FB (Iw sM (by kernel_rfl)) (by kernel_rfl)) (by kernel_rfl)) (by kernel_rfl)
def ji (a b:P4):Value:=ML (SB (bv a.y) (bv a.x)) (SB (bv b.y) (bv b.x))
def je (a b:P4):Value:=ML (AD (bv a.y) (bv a.x)) (AD (bv b.y) (bv b.x))
def oP (a b:P4):Value:=ML (bv DN') (ML (bv a.t) (bv b.t))
def pd (a b:P4):Value:=ML (bv a.z) (bv b.z)
def fI (a b:P4):Value:=AD (oP a b) (oP a b)
def fK (a b:P4):Value:=AD (pd a b) (pd a b)
def IB (A B:Value):Prop:=IsB A∧IsB B
theorem DG (a b:P4):sfunG Tryz.prog F1 M0 60 Tryz.f98 (ag Tryz.f98) [pv a,pv b]=some ([
  IB (bv a.y) (bv a.x),IB (bv b.y) (bv b.x),IB (SB (bv a.y) (bv a.x)) (SB (bv b.y) (bv b.x)),
  IB (bv a.y) (bv a.x),IB (bv b.y) (bv b.x),IB (AD (bv a.y) (bv a.x)) (AD (bv b.y) (bv b.x)),
  IB (bv a.t) (bv b.t),IB (bv DN') (ML (bv a.t) (bv b.t)),IB (oP a b) (oP a b),
  IB (bv a.z) (bv b.z),IB (pd a b) (pd a b),
  IB (je a b) (ji a b),IB (fK a b) (fI a b),IB (je a b) (ji a b),IB (fK a b) (fI a b),
  IsB (SB (je a b) (ji a b))∧IsB (AD (fK a b) (fI a b))∧IsB (AD (je a b) (ji a b))∧IsB (SB (fK a b) (fI a b))],
  pv (nC (aj (SB (je a b) (ji a b))) (aj (AD (fK a b) (fI a b))) (aj (AD (je a b) (ji a b))) (aj (SB (fK a b) (fI a b))))):=by kernel_rfl
end Go.Proofs.YtajehiidpecknaaGreatDoor
/- Package point: sum, double, sixteenfold, generator as contracts. -/
namespace Go.Proofs.YtajehiidpecknaaGreatDoor
open Go Go.RowKit
theorem dR (a b:Nat) (ha:a<RN) (hb:b<RN):AD (bv a) (bv b)=bv (fad a b):=by unfold AD;rw [au ha,au hb]
theorem fk (a b:Nat) (ha:a<RN) (hb:b<RN):SB (bv a) (bv b)=bv (fsb a b):=by unfold SB;rw [au ha,au hb]
theorem dj (a b:Nat) (ha:a<RN) (hb:b<RN):ML (bv a) (bv b)=bv (fml a b):=by unfold ML;rw [au ha,au hb]
theorem xY (a:Nat) (ha:a<RN):IV (bv a)=bv (fiv a):=by unfold IV;rw [au ha]
theorem lJ (a b:Nat):fad a b<RN:=ix (I9 a b)
theorem mz (a b:Nat):fsb a b<RN:=ix (rY a b)
theorem fJ (a b:Nat):fml a b<RN:=ix (fM a b)
theorem Ji (a:Nat):fiv a<RN:=ix (JK a)
theorem Fk {a b:P4} (la:a.ok) (lb:b.ok):nC (aj (SB (je a b) (ji a b))) (aj (AD (fK a b) (fI a b))) (aj (AD (je a b) (ji a b))) (aj (SB (fK a b) (fI a b)))=jx a b:=by
 have h1:je a b=bv (fml (fad a.y a.x) (fad b.y b.x)):=by unfold je;rw [dR _ _ la.y la.x,dR _ _ lb.y lb.x,dj _ _ (lJ _ _) (lJ _ _)]
 have h2:ji a b=bv (fml (fsb a.y a.x) (fsb b.y b.x)):=by unfold ji;rw [fk _ _ la.y la.x,fk _ _ lb.y lb.x,dj _ _ (mz _ _) (mz _ _)]
 have h3:oP a b=bv (fml DN' (fml a.t b.t)):=by unfold oP;rw [dj _ _ la.t lb.t,dj _ _ (by decide) (fJ _ _)]
 have h4:pd a b=bv (fml a.z b.z):=by unfold pd;rw [dj _ _ la.z lb.z]
 have h5:fI a b=bv (fad (fml DN' (fml a.t b.t)) (fml DN' (fml a.t b.t))):=by unfold fI;rw [h3,dR _ _ (fJ _ _) (fJ _ _)]
 have h6:fK a b=bv (fad (fml a.z b.z) (fml a.z b.z)):=by unfold fK;rw [h4,dR _ _ (fJ _ _) (fJ _ _)]
 rw [h1,h2,h5,h6,fk _ _ (fJ _ _) (fJ _ _),dR _ _ (lJ _ _) (lJ _ _),dR _ _ (fJ _ _) (fJ _ _),fk _ _ (lJ _ _) (lJ _ _),au (mz _ _),au (lJ _ _),au (lJ _ _),au (mz _ _)]
 rfl
theorem ib {A B:Nat} : IB (bv A) (bv B):=⟨aI _,aI _⟩
def gSum:List Value→Option (List Prop × Value)
 | [A,B]=>some ([IsP A∧IsP B],pv (jx (p4 A) (p4 B)))
 | _=>none
theorem Gu {X:Cx} (hX:X.Ok Tryz.prog) (hc:bp M0 X.gl=true):(X.var M0 98 gSum).Ok Tryz.prog:=by
 refine bW hX aO hc Tryz.func98 (by kernel_rfl) (by kernel_rfl) ?_
 intro args ps v ha hg hp
 unfold gSum at hg
 split at hg
 ·rename_i A B
  simp only [qG,qH] at hg
  obtain ⟨rfl,rfl⟩:=hg
  obtain ⟨⟨hA,lA⟩,⟨hB,lB⟩⟩:=hp _ (List.mem_singleton.2 rfl)
  refine ⟨.inl (aY _),fun w hw => ?_⟩
  have run:=DG (p4 A) (p4 B)
  rw [Fk lA lB] at run
  have h:=aD ou mixed aO (by kernel_rfl) Tryz.func98 (by kernel_rfl) run (by
   intro p hp
   simp only [List.mem_cons,List.not_mem_nil,or_false] at hp
   rcases hp with rfl | rfl | rfl | rfl | rfl | rfl | rfl | rfl | rfl | rfl | rfl | rfl | rfl | rfl | rfl | rfl <;> first | exact ib | exact ⟨aI _,aI _,aI _,aI _⟩) (by simp [aY]) (.inl (aY _)) w hw
  rw [←hA,←hB] at h
  exact h
 ·simp at hg
def xxV (a:P4):Value:=ML (bv a.x) (bv a.x)
def yyV (a:P4):Value:=ML (bv a.y) (bv a.y)
def zzV (a:P4):Value:=ML (bv a.z) (bv a.z)
def xyV (a:P4):Value:=ML (bv a.x) (bv a.y)
def gV (a:P4):Value:=SB (yyV a) (xxV a)
theorem Es (a:P4):sfunG Tryz.prog F1 M0 60 Tryz.f71 (ag Tryz.f71) [pv a]=some ([
  IB (bv a.x) (bv a.x),IB (bv a.y) (bv a.y),IB (bv a.z) (bv a.z),IB (bv a.x) (bv a.y),IB (yyV a) (xxV a),
  IB (xyV a) (xyV a),IB (yyV a) (xxV a),IB (zzV a) (zzV a),IB (AD (zzV a) (zzV a)) (gV a),
  IsB (AD (xyV a) (xyV a))∧IsB (gV a)∧IsB (AD (yyV a) (xxV a))∧IsB (SB (AD (zzV a) (zzV a)) (gV a))],
  pv (nC (aj (AD (xyV a) (xyV a))) (aj (gV a)) (aj (AD (yyV a) (xxV a))) (aj (SB (AD (zzV a) (zzV a)) (gV a))))):=by kernel_rfl
theorem DS {a:P4} (la:a.ok):nC (aj (AD (xyV a) (xyV a))) (aj (gV a)) (aj (AD (yyV a) (xxV a))) (aj (SB (AD (zzV a) (zzV a)) (gV a)))=eg a:=by
 have h1:xxV a=bv (fml a.x a.x):=by unfold xxV;rw [dj _ _ la.x la.x]
 have h2:yyV a=bv (fml a.y a.y):=by unfold yyV;rw [dj _ _ la.y la.y]
 have h3:zzV a=bv (fml a.z a.z):=by unfold zzV;rw [dj _ _ la.z la.z]
 have h4:xyV a=bv (fml a.x a.y):=by unfold xyV;rw [dj _ _ la.x la.y]
 have h5:gV a=bv (fsb (fml a.y a.y) (fml a.x a.x)):=by unfold gV;rw [h1,h2,fk _ _ (fJ _ _) (fJ _ _)]
 rw [h1,h2,h3,h4,h5,dR _ _ (fJ _ _) (fJ _ _),dR _ _ (fJ _ _) (fJ _ _),dR _ _ (fJ _ _) (fJ _ _),fk _ _ (lJ _ _) (mz _ _),au (lJ _ _),au (mz _ _),au (lJ _ _),au (mz _ _)]
 rfl
def gDbl:List Value→Option (List Prop × Value)
 | [A]=>some ([IsP A],pv (eg (p4 A)))
 | _=>none
theorem D5 {X:Cx} (hX:X.Ok Tryz.prog) (hc:bp M0 X.gl=true):(X.var M0 71 gDbl).Ok Tryz.prog:=by
 refine bW hX aO hc Tryz.func71 (by kernel_rfl) (by kernel_rfl) ?_
 intro args ps v ha hg hp
 unfold gDbl at hg
 split at hg
 ·rename_i A
  simp only [qG,qH] at hg
  obtain ⟨rfl,rfl⟩:=hg
  obtain ⟨hA,lA⟩:=hp _ (List.mem_singleton.2 rfl)
  refine ⟨.inl (aY _),fun w hw => ?_⟩
  have run:=Es (p4 A)
  rw [DS lA] at run
  have h:=aD ou mixed aO (by kernel_rfl) Tryz.func71 (by kernel_rfl) run (by
   intro p hp
   simp only [List.mem_cons,List.not_mem_nil,or_false] at hp
   rcases hp with rfl | rfl | rfl | rfl | rfl | rfl | rfl | rfl | rfl | rfl <;> first | exact ib | exact ⟨aI _,aI _,aI _,aI _⟩) (by simp [aY]) (.inl (aY _)) w hw
  rw [←hA] at h
  exact h
 ·simp at hg
def F2:Cx:=(F1.var M0 98 gSum).var M0 71 gDbl
theorem sK:F2.Ok Tryz.prog:=D5 (Gu ou (by kernel_rfl)) (by kernel_rfl)
def D1 (a:P4):P4:=eg (p4 (pv a))
theorem xG {a:P4} (h:a.ok):D1 a=eg a:=by unfold D1;rw [cY h]
theorem Ep (a:P4):sfunG Tryz.prog F2 M0 60 Tryz.f99 (ag Tryz.f99) [pv a]=some ([IsP (pv a),IsP (pv (D1 a)),IsP (pv (D1 (D1 a))),IsP (pv (D1 (D1 (D1 a))))],pv (D1 (D1 (D1 (D1 a))))):=by kernel_rfl
def wW (a:P4):P4:=eg (eg (eg (eg a)))
theorem yi (a:P4):(wW a).ok:=dv _
def JY:List Value→Option (List Prop × Value)
 | [A]=>some ([IsP A],pv (wW (p4 A)))
 | _=>none
theorem FQ {X:Cx} (hX:X.Ok Tryz.prog) (hc:bp M0 X.gl=true):(X.var M0 99 JY).Ok Tryz.prog:=by
 refine bW hX aO hc Tryz.func99 (by kernel_rfl) (by kernel_rfl) ?_
 intro args ps v ha hg hp
 unfold JY at hg
 split at hg
 ·rename_i A
  simp only [qG,qH] at hg
  obtain ⟨rfl,rfl⟩:=hg
  obtain ⟨hA,lA⟩:=hp _ (List.mem_singleton.2 rfl)
  refine ⟨.inl (aY _),fun w hw => ?_⟩
  have run:=Ep (p4 A)
  rw [xG lA,xG (dv _),xG (dv _),xG (dv _)] at run
  have h:=aD sK mixed aO (by kernel_rfl) Tryz.func99 (by kernel_rfl) run (by
   intro p hp
   simp only [List.mem_cons,List.not_mem_nil,or_false] at hp
   rcases hp with rfl | rfl | rfl | rfl
   ·exact cm lA
   all_goals exact cm (dv _)) (by simp [aY]) (.inl (aY _)) w hw
  rw [←hA] at h
  exact h
 ·simp at hg
theorem KR {g:Nat} (h:g ∈ gl4):g ∈ gl5:=by
 unfold gl4 at h
 unfold gl5
 simp only [List.mem_cons,List.not_mem_nil,or_false] at h ⊢
 omega
theorem II:(F2.glo gl5).Ok Tryz.prog:=Cx.glo_ok sK fun g h=>KR h
theorem E2:sfunG Tryz.prog (F2.glo gl5) M1 60 Tryz.f53 (ag Tryz.f53) []=some ([IsB (bv GX)∧IsB (bv GY)],pv (atN (aj (bv GX)) (aj (bv GY)))):=by kernel_rfl
def gGen:List Value→Option (List Prop × Value)
 | []=>some ([],pv uB)
 | _=>none
theorem EU {X:Cx} (hX:X.Ok Tryz.prog) (hc:bp M1 X.gl=true):(X.var M1 53 gGen).Ok Tryz.prog:=by
 refine bW hX mo hc Tryz.func53 (by kernel_rfl) (by kernel_rfl) ?_
 intro args ps v ha hg hp
 unfold gGen at hg
 split at hg
 ·simp only [qG,qH] at hg
  obtain ⟨rfl,rfl⟩:=hg
  have run:=E2
  rw [au (n:=GX) (by decide),au (n:=GY) (by decide)] at run
  exact ⟨.inl (aY _),fun w hw=>aD II mixed mo (by kernel_rfl) Tryz.func53 (by kernel_rfl) run (by
   intro p hp
   simp only [List.mem_cons,List.not_mem_nil,or_false] at hp
   rcases hp with rfl
   exact ⟨aI _,aI _⟩) rfl (.inl (aY _)) w hw⟩
 ·simp at hg
def F3:Cx:=F2.var M0 99 JY
theorem uH:F3.Ok Tryz.prog:=FQ sK (by kernel_rfl)
end Go.Proofs.YtajehiidpecknaaGreatDoor
/- Package point: multiples. -/
namespace Go.Proofs.YtajehiidpecknaaGreatDoor
open Go Go.RowKit
def SU (p q:P4):P4:=jx (p4 (pv p)) (p4 (pv q))
def muS (a:P4):Nat→P4
 | 0=>il
 | n+1=>SU (muS a n) a
def muN (a:P4):Nat→P4
 | 0=>il
 | n+1=>jx (muN a n) a
theorem kk (a:P4) : ∀ n,(muN a n).ok
 | 0=>qV
 | n+1=>lR _ _
theorem wo {a:P4} (h:a.ok) : ∀ n,muS a n=muN a n
 | 0=>rfl
 | n+1=>by
  show jx (p4 (pv (muS a n))) (p4 (pv a))=jx (muN a n) a
  rw [wo h n,cY (kk a n),cY h]
def muT (a:P4) (i:Nat):Prop:=IsP (pv (muS a i))∧IsP (pv a)
def Hz (o:Option (List Prop × Value)):Option (List Prop):=o.map (·.1)
def Lp (o:Option (List Prop × Value)):Value:=(o.map (·.2)).getD undef
theorem I5 {o:Option (List Prop × Value)} {ps:List Prop} (h:Hz o=some ps):o=some (ps,Lp o):=by
 cases o with
 | none=>cases h
 | some q=>simp only [Hz,Option.map_some,qG] at h;subst h;rfl
def Bz (P:Program) (fn:Func) (a:P4):Value:=Lp (sfunG P F3 M0 100 fn (ag fn) [pv a])
def cellsOf:Value→List Value
 | .agg cs=>cs.toList
 | _=>[]
def vG:Value→Bool
 | .agg _=>true
 | _=>false
theorem zA {v:Value} (h:vG v=true):v = .agg (cellsOf v).toArray:=by
 cases v <;> simp [vG] at h
 rename_i cs
 simp [cellsOf]
def sl (l:List Value) (i:Nat):List Value:=(l.drop (128*i)).take 128
def muL (g:Nat→P4):List Value:=(List.range 16).flatMap fun i=>pcs (g i)
theorem qa (f:Nat→List Value) : ∀ (n:Nat) (l:List Value),l.length=128*n→(∀ i,i<n→sl l i=f i)→l=(List.range n).flatMap f
 | 0,l,hl,_=>by
  have:l = []:=List.eq_nil_of_length_eq_zero (by omega)
  rw [this];rfl
 | n+1,l,hl,h=>by
  have ih:=qa f n (l.take (128*n)) (by rw [List.length_take];omega) (fun i hi=>by
   rw [←h i (by omega)]
   unfold sl
   rw [List.drop_take,List.take_take]
   congr 1
   omega)
  have hn:=h n (by omega)
  unfold sl at hn
  rw [List.take_of_length_le (by rw [List.length_drop];omega)] at hn
  rw [List.range_succ,List.flatMap_append,←ih,List.flatMap_cons,List.flatMap_nil,List.append_nil,←hn,List.take_append_drop]
theorem Ac (a:P4):Hz (sfunG Tryz.prog F3 M0 100 Tryz.f96 (ag Tryz.f96) [pv a])=some [muT a 0,muT a 1,muT a 2,muT a 3,muT a 4,muT a 5,muT a 6,muT a 7,muT a 8,muT a 9,muT a 10,muT a 11,muT a 12,muT a 13,muT a 14]:=by kernel_rfl
theorem DW (a:P4):vG (Bz Tryz.prog Tryz.f96 a)=true:=by kernel_rfl
theorem DJ (a:P4):(cellsOf (Bz Tryz.prog Tryz.f96 a)).length=2048:=by kernel_rfl
theorem Jr (a:P4):(List.range 16).map (sl (cellsOf (Bz Tryz.prog Tryz.f96 a)))=(List.range 16).map fun i=>pcs (muS a i):=by kernel_rfl
theorem Fb {a:P4} (h:a.ok):Bz Tryz.prog Tryz.f96 a = .agg (muL (muN a)).toArray:=by
 have e:=qa (fun i=>pcs (muS a i)) 16 _ (DJ a) (fun i hi=>List.map_inj_left.1 (Jr a) i (List.mem_range.2 hi))
 rw [zA (DW a),e]
 unfold muL
 rw [show muS a=muN a from funext (wo h)]
theorem tP (g:Nat→P4):flat (.agg (muL g).toArray)=true:=by
 show ((muL g).toArray.toList.all flat1)=true
 rw [List.toList_toArray]
 unfold muL
 rw [List.all_flatMap]
 refine List.all_eq_true.2 fun i _ => ?_
 unfold pcs
 simp only [List.all_append,l7,Bool.and_self]
def gMus:List Value→Option (List Prop × Value)
 | [A]=>some ([IsP A],.agg (muL (muN (p4 A))).toArray)
 | _=>none
theorem Gn {X:Cx} (hX:X.Ok Tryz.prog) (hc:bp M0 X.gl=true):(X.var M0 96 gMus).Ok Tryz.prog:=by
 refine bW hX aO hc Tryz.func96 (by kernel_rfl) (by kernel_rfl) ?_
 intro args ps v ha hg hp
 unfold gMus at hg
 split at hg
 ·rename_i A
  simp only [qG,qH] at hg
  obtain ⟨rfl,rfl⟩:=hg
  obtain ⟨hA,lA⟩:=hp _ (List.mem_singleton.2 rfl)
  refine ⟨.inl (tP _),fun w hw => ?_⟩
  have run:=I5 (Ac (p4 A))
  have e:=Fb lA
  unfold Bz at e
  rw [e] at run
  have ht : ∀ i,muT (p4 A) i:=fun i=>by
   unfold muT
   rw [wo lA]
   exact ⟨cm (kk _ _),cm lA⟩
  have h:=aD uH mixed aO (by kernel_rfl) Tryz.func96 (by kernel_rfl) run (by
   intro p hp
   simp only [List.mem_cons,List.not_mem_nil,or_false] at hp
   rcases hp with rfl | rfl | rfl | rfl | rfl | rfl | rfl | rfl | rfl | rfl | rfl | rfl | rfl | rfl | rfl <;> exact ht _) (by simp [aY]) (.inl (tP _)) w hw
  rw [←hA] at h
  exact h
 ·simp at hg
def F4:Cx:=F3.var M0 96 gMus
theorem iD:F4.Ok Tryz.prog:=Gn uH (by kernel_rfl)
end Go.Proofs.YtajehiidpecknaaGreatDoor
