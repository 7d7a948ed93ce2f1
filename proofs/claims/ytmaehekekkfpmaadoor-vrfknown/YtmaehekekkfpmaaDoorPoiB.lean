/- Package point: at, neutral, generator, mirror, quotients, sum, double, sixteenfold. -/
import Derived.Test.YtmaehekekkfpmaaDoorFieM
import Derived.Test.YtmaehekekkfpmaaDoorPoiO
set_option linter.unusedSimpArgs false
set_option linter.unusedVariables false
namespace Go.Proofs.YtmaehekekkfpmaaDoor
open Go Go.RowKit
theorem gAdF_ok {X:Cx} (hX:X.Ok Tryd.prog):(X.pure 58 gAdF).Ok Tryd.prog:=by
 refine gBody_ok hX Tryd.func58 (by kernel_rfl) (by kernel_rfl) ?_
 intro args ps v ha hg hp
 unfold gAdF at hg
 split at hg
 ·rename_i A B
  simp only [Option.some.injEq,Prod.mk.injEq] at hg
  obtain ⟨rfl,rfl⟩:=hg
  obtain ⟨hA,hB⟩:=hp _ (List.mem_singleton.2 rfl)
  refine ⟨.inl (flat_bv _),fun w => ?_⟩
  have h:=Add_any (bnum A) (bnum B) (bnum_lt hA) (bnum_lt hB) w
  rw [← (show A=bv (bnum A) from hA),← (show B=bv (bnum B) from hB)] at h
  exact h
 ·simp at hg
theorem gSbF_ok {X:Cx} (hX:X.Ok Tryd.prog):(X.pure 56 gSbF).Ok Tryd.prog:=by
 refine gBody_ok hX Tryd.func56 (by kernel_rfl) (by kernel_rfl) ?_
 intro args ps v ha hg hp
 unfold gSbF at hg
 split at hg
 ·rename_i A B
  simp only [Option.some.injEq,Prod.mk.injEq] at hg
  obtain ⟨rfl,rfl⟩:=hg
  obtain ⟨hA,hB⟩:=hp _ (List.mem_singleton.2 rfl)
  refine ⟨.inl (flat_bv _),fun w => ?_⟩
  have h:=Sub_any (bnum A) (bnum B) (bnum_lt hA) (bnum_lt hB) w
  rw [← (show A=bv (bnum A) from hA),← (show B=bv (bnum B) from hB)] at h
  exact h
 ·simp at hg
theorem gMlF_ok {X:Cx} (hX:X.Ok Tryd.prog):(X.pure 40 gMlF).Ok Tryd.prog:=by
 refine gBody_ok hX Tryd.func40 (by kernel_rfl) (by kernel_rfl) ?_
 intro args ps v ha hg hp
 unfold gMlF at hg
 split at hg
 ·rename_i A B
  simp only [Option.some.injEq,Prod.mk.injEq] at hg
  obtain ⟨rfl,rfl⟩:=hg
  obtain ⟨hA,hB⟩:=hp _ (List.mem_singleton.2 rfl)
  refine ⟨.inl (flat_bv _),fun w => ?_⟩
  have h:=Mul_any (bnum A) (bnum B) (bnum_lt hA) (bnum_lt hB) w
  rw [← (show A=bv (bnum A) from hA),← (show B=bv (bnum B) from hB)] at h
  exact h
 ·simp at hg
theorem gIvF_ok {X:Cx} (hX:X.Ok Tryd.prog):(X.pure 39 gIvF).Ok Tryd.prog:=by
 refine gBody_ok hX Tryd.func39 (by kernel_rfl) (by kernel_rfl) ?_
 intro args ps v ha hg hp
 unfold gIvF at hg
 split at hg
 ·rename_i A
  simp only [Option.some.injEq,Prod.mk.injEq] at hg
  obtain ⟨rfl,rfl⟩:=hg
  have hA:=hp _ (List.mem_singleton.2 rfl)
  refine ⟨.inl (flat_bv _),fun w => ?_⟩
  have h:=Inv_any (bnum A) (bnum_lt hA) w
  rw [← (show A=bv (bnum A) from hA)] at h
  exact h
 ·simp at hg
theorem gCaF_ok {X:Cx} (hX:X.Ok Tryd.prog):(X.pure 53 gCaF).Ok Tryd.prog:=by
 refine gBody_ok hX Tryd.func53 (by kernel_rfl) (by kernel_rfl) ?_
 intro args ps v ha hg hp
 unfold gCaF at hg
 split at hg
 ·rename_i A
  simp only [Option.some.injEq,Prod.mk.injEq] at hg
  obtain ⟨rfl,rfl⟩:=hg
  have hA:=hp _ (List.mem_singleton.2 rfl)
  refine ⟨.inl rfl,fun w => ?_⟩
  have h:=Canonical_any (bnum A) (bnum_lt hA) w
  rw [← (show A=bv (bnum A) from hA)] at h
  exact h
 ·simp at hg
theorem F0_ok:F0.Ok Tryd.prog:=gCaF_ok (gIvF_ok (gMlF_ok (gSbF_ok (gAdF_ok (Cx.glo_ok Cx.none_ok (fun g h=>(by cases h)))))))
def quoN (x xu y yu:Nat):P4:=⟨fml x yu,fml y xu,fml xu yu,fml x y⟩
theorem quoN_ok (x xu y yu:Nat):(quoN x xu y yu).ok:=⟨lt_RN (fml_lt _ _),lt_RN (fml_lt _ _),lt_RN (fml_lt _ _),lt_RN (fml_lt _ _)⟩
def sumN (a b:P4):P4 :=
 let less:=fml (fsb a.y a.x) (fsb b.y b.x)
 let more:=fml (fad a.y a.x) (fad b.y b.x)
 let turn:=fml DN' (fml a.t b.t)
 let both:=fml a.z b.z
 quoN (fsb more less) (fad (fad both both) (fad turn turn)) (fad more less) (fsb (fad both both) (fad turn turn))
theorem sumN_ok (a b:P4):(sumN a b).ok:=quoN_ok _ _ _ _
def dblN (a:P4):P4 :=
 let below:=fsb (fml a.y a.y) (fml a.x a.x)
 quoN (fad (fml a.x a.y) (fml a.x a.y)) below (fad (fml a.y a.y) (fml a.x a.x)) (fsb (fad (fml a.z a.z) (fml a.z a.z)) below)
theorem dblN_ok (a:P4):(dblN a).ok:=quoN_ok _ _ _ _
def neuN:P4:=⟨0,1,1,0⟩
theorem neuN_ok:neuN.ok:=⟨by decide,by decide,by decide,by decide⟩
def atN (x y:Nat):P4:=⟨x,y,1,fml x y⟩
theorem atN_ok {x y:Nat} (hx:x<RN) (hy:y<RN):(atN x y).ok:=⟨hx,hy,(show (1:Nat)<RN by decide),lt_RN (fml_lt _ _)⟩
def mirN (p:P4):P4:=⟨fsb 0 p.x,p.y,p.z,fsb 0 p.t⟩
def genN:P4:=atN GX GY
theorem at_run (x y:Nat):sfunG Tryd.prog F0 M0 60 Tryd.f45 (bodyOf Tryd.f45) [bv x,bv y]=some ([IsB (bv x)∧IsB (bv y)],pv ⟨x,y,1,fml (bnum (bv x)) (bnum (bv y))⟩):=by kernel_rfl
def gAt:List Value→Option (List Prop × Value)
 | [A,B]=>some ([IsB A∧IsB B],pv (atN (bnum A) (bnum B)))
 | _=>none
theorem gAt_ok {X:Cx} (hX:X.Ok Tryd.prog) (hc:coversG M0 X.gl=true):(X.var M0 45 gAt).Ok Tryd.prog:=by
 refine gVar_ok hX M0_flat hc Tryd.func45 (by kernel_rfl) (by kernel_rfl) ?_
 intro args ps v ha hg hp
 unfold gAt at hg
 split at hg
 ·rename_i A B
  simp only [Option.some.injEq,Prod.mk.injEq] at hg
  obtain ⟨rfl,rfl⟩:=hg
  obtain ⟨hA,hB⟩:=hp _ (List.mem_singleton.2 rfl)
  refine ⟨.inl (flat_pv _),fun w hw => ?_⟩
  have run:=at_run (bnum A) (bnum B)
  rw [bnum_bv' (bnum_lt hA),bnum_bv' (bnum_lt hB)] at run
  have h:=sfunG_calls F0_ok mixed M0_flat (by kernel_rfl) Tryd.func45 (by kernel_rfl) run (by
   intro p hp
   simp only [List.mem_cons,List.not_mem_nil,or_false] at hp
   rcases hp with rfl
   exact ⟨isB_bv _,isB_bv _⟩) (by simp [flat_bv]) (.inl (flat_pv _)) w hw
  rw [← (show A=bv (bnum A) from hA),← (show B=bv (bnum B) from hB)] at h
  exact h
 ·simp at hg
theorem neu_run:sfunG Tryd.prog F0 M0 60 Tryd.f42 (bodyOf Tryd.f42) []=some ([],pv neuN):=by kernel_rfl
def gNeu:List Value→Option (List Prop × Value)
 | []=>some ([],pv neuN)
 | _=>none
theorem gNeu_ok {X:Cx} (hX:X.Ok Tryd.prog) (hc:coversG M0 X.gl=true):(X.var M0 42 gNeu).Ok Tryd.prog:=by
 refine gVar_ok hX M0_flat hc Tryd.func42 (by kernel_rfl) (by kernel_rfl) ?_
 intro args ps v ha hg hp
 unfold gNeu at hg
 split at hg
 ·simp only [Option.some.injEq,Prod.mk.injEq] at hg
  obtain ⟨rfl,rfl⟩:=hg
  exact ⟨.inl (flat_pv _),fun w hw=>sfunG_calls F0_ok mixed M0_flat (by kernel_rfl) Tryd.func42 (by kernel_rfl) neu_run (by simp) rfl (.inl (flat_pv _)) w hw⟩
 ·simp at hg
theorem quo_run (x xu y yu:Nat):sfunG Tryd.prog F0 M0 60 Tryd.f57 (bodyOf Tryd.f57) [bv x,bv xu,bv y,bv yu]=some ([IsB (bv x)∧IsB (bv yu),IsB (bv y)∧IsB (bv xu),IsB (bv xu)∧IsB (bv yu),IsB (bv x)∧IsB (bv y)],pv (quoN (bnum (bv x)) (bnum (bv xu)) (bnum (bv y)) (bnum (bv yu)))):=by kernel_rfl
def gQuo:List Value→Option (List Prop × Value)
 | [A,B,C,D]=>some ([IsB A∧IsB B∧IsB C∧IsB D],pv (quoN (bnum A) (bnum B) (bnum C) (bnum D)))
 | _=>none
theorem gQuo_ok {X:Cx} (hX:X.Ok Tryd.prog) (hc:coversG M0 X.gl=true):(X.var M0 57 gQuo).Ok Tryd.prog:=by
 refine gVar_ok hX M0_flat hc Tryd.func57 (by kernel_rfl) (by kernel_rfl) ?_
 intro args ps v ha hg hp
 unfold gQuo at hg
 split at hg
 ·rename_i A B C D
  simp only [Option.some.injEq,Prod.mk.injEq] at hg
  obtain ⟨rfl,rfl⟩:=hg
  obtain ⟨hA,hB,hC,hD⟩:=hp _ (List.mem_singleton.2 rfl)
  refine ⟨.inl (flat_pv _),fun w hw => ?_⟩
  have run:=quo_run (bnum A) (bnum B) (bnum C) (bnum D)
  rw [bnum_bv' (bnum_lt hA),bnum_bv' (bnum_lt hB),bnum_bv' (bnum_lt hC),bnum_bv' (bnum_lt hD)] at run
  have h:=sfunG_calls F0_ok mixed M0_flat (by kernel_rfl) Tryd.func57 (by kernel_rfl) run (by
   intro p hp
   simp only [List.mem_cons,List.not_mem_nil,or_false] at hp
   rcases hp with rfl | rfl | rfl | rfl <;> exact ⟨isB_bv _,isB_bv _⟩) (by simp [flat_bv]) (.inl (flat_pv _)) w hw
  rw [← (show A=bv (bnum A) from hA),← (show B=bv (bnum B) from hB),← (show C=bv (bnum C) from hC),← (show D=bv (bnum D) from hD)] at h
  exact h
 ·simp at hg
def F1:Cx:=(((F0.var M0 45 gAt).var M0 42 gNeu)).var M0 57 gQuo
theorem F1_ok:F1.Ok Tryd.prog:=gQuo_ok (gNeu_ok (gAt_ok F0_ok (by kernel_rfl)) (by kernel_rfl)) (by kernel_rfl)
def lessV (a b:P4):Value:=ML (SB (bv a.y) (bv a.x)) (SB (bv b.y) (bv b.x))
def moreV (a b:P4):Value:=ML (AD (bv a.y) (bv a.x)) (AD (bv b.y) (bv b.x))
def turnV (a b:P4):Value:=ML (bv DN') (ML (bv a.t) (bv b.t))
def bothV (a b:P4):Value:=ML (bv a.z) (bv b.z)
def turn2V (a b:P4):Value:=AD (turnV a b) (turnV a b)
def both2V (a b:P4):Value:=AD (bothV a b) (bothV a b)
def IB (A B:Value):Prop:=IsB A∧IsB B
theorem sum_run (a b:P4):sfunG Tryd.prog F1 M0 60 Tryd.f43 (bodyOf Tryd.f43) [pv a,pv b]=some ([
  IB (bv a.y) (bv a.x),IB (bv b.y) (bv b.x),IB (SB (bv a.y) (bv a.x)) (SB (bv b.y) (bv b.x)),
  IB (bv a.y) (bv a.x),IB (bv b.y) (bv b.x),IB (AD (bv a.y) (bv a.x)) (AD (bv b.y) (bv b.x)),
  IB (bv a.t) (bv b.t),IB (bv DN') (ML (bv a.t) (bv b.t)),IB (turnV a b) (turnV a b),
  IB (bv a.z) (bv b.z),IB (bothV a b) (bothV a b),
  IB (moreV a b) (lessV a b),IB (both2V a b) (turn2V a b),IB (moreV a b) (lessV a b),IB (both2V a b) (turn2V a b),
  IsB (SB (moreV a b) (lessV a b))∧IsB (AD (both2V a b) (turn2V a b))∧IsB (AD (moreV a b) (lessV a b))∧IsB (SB (both2V a b) (turn2V a b))],
  pv (quoN (bnum (SB (moreV a b) (lessV a b))) (bnum (AD (both2V a b) (turn2V a b))) (bnum (AD (moreV a b) (lessV a b))) (bnum (SB (both2V a b) (turn2V a b))))):=by kernel_rfl
end Go.Proofs.YtmaehekekkfpmaaDoor
/- Package point: sum, double, sixteenfold, generator as contracts. -/
namespace Go.Proofs.YtmaehekekkfpmaaDoor
open Go Go.RowKit
theorem bnum_AD (a b:Nat) (ha:a<RN) (hb:b<RN):AD (bv a) (bv b)=bv (fad a b):=by unfold AD;rw [bnum_bv' ha,bnum_bv' hb]
theorem bnum_SB (a b:Nat) (ha:a<RN) (hb:b<RN):SB (bv a) (bv b)=bv (fsb a b):=by unfold SB;rw [bnum_bv' ha,bnum_bv' hb]
theorem bnum_ML (a b:Nat) (ha:a<RN) (hb:b<RN):ML (bv a) (bv b)=bv (fml a b):=by unfold ML;rw [bnum_bv' ha,bnum_bv' hb]
theorem bnum_IV (a:Nat) (ha:a<RN):IV (bv a)=bv (fiv a):=by unfold IV;rw [bnum_bv' ha]
theorem fadR (a b:Nat):fad a b<RN:=lt_RN (fad_lt a b)
theorem fsbR (a b:Nat):fsb a b<RN:=lt_RN (fsb_lt a b)
theorem fmlR (a b:Nat):fml a b<RN:=lt_RN (fml_lt a b)
theorem fivR (a:Nat):fiv a<RN:=lt_RN (fiv_lt a)
theorem sum_val {a b:P4} (la:a.ok) (lb:b.ok):quoN (bnum (SB (moreV a b) (lessV a b))) (bnum (AD (both2V a b) (turn2V a b))) (bnum (AD (moreV a b) (lessV a b))) (bnum (SB (both2V a b) (turn2V a b)))=sumN a b:=by
 have h1:moreV a b=bv (fml (fad a.y a.x) (fad b.y b.x)):=by unfold moreV;rw [bnum_AD _ _ la.y la.x,bnum_AD _ _ lb.y lb.x,bnum_ML _ _ (fadR _ _) (fadR _ _)]
 have h2:lessV a b=bv (fml (fsb a.y a.x) (fsb b.y b.x)):=by unfold lessV;rw [bnum_SB _ _ la.y la.x,bnum_SB _ _ lb.y lb.x,bnum_ML _ _ (fsbR _ _) (fsbR _ _)]
 have h3:turnV a b=bv (fml DN' (fml a.t b.t)):=by unfold turnV;rw [bnum_ML _ _ la.t lb.t,bnum_ML _ _ (by decide) (fmlR _ _)]
 have h4:bothV a b=bv (fml a.z b.z):=by unfold bothV;rw [bnum_ML _ _ la.z lb.z]
 have h5:turn2V a b=bv (fad (fml DN' (fml a.t b.t)) (fml DN' (fml a.t b.t))):=by unfold turn2V;rw [h3,bnum_AD _ _ (fmlR _ _) (fmlR _ _)]
 have h6:both2V a b=bv (fad (fml a.z b.z) (fml a.z b.z)):=by unfold both2V;rw [h4,bnum_AD _ _ (fmlR _ _) (fmlR _ _)]
 rw [h1,h2,h5,h6,bnum_SB _ _ (fmlR _ _) (fmlR _ _),bnum_AD _ _ (fadR _ _) (fadR _ _),bnum_AD _ _ (fmlR _ _) (fmlR _ _),bnum_SB _ _ (fadR _ _) (fadR _ _),bnum_bv' (fsbR _ _),bnum_bv' (fadR _ _),bnum_bv' (fadR _ _),bnum_bv' (fsbR _ _)]
 rfl
theorem ib {A B:Nat} : IB (bv A) (bv B):=⟨isB_bv _,isB_bv _⟩
def gSum:List Value→Option (List Prop × Value)
 | [A,B]=>some ([IsP A∧IsP B],pv (sumN (p4 A) (p4 B)))
 | _=>none
theorem gSum_ok {X:Cx} (hX:X.Ok Tryd.prog) (hc:coversG M0 X.gl=true):(X.var M0 43 gSum).Ok Tryd.prog:=by
 refine gVar_ok hX M0_flat hc Tryd.func43 (by kernel_rfl) (by kernel_rfl) ?_
 intro args ps v ha hg hp
 unfold gSum at hg
 split at hg
 ·rename_i A B
  simp only [Option.some.injEq,Prod.mk.injEq] at hg
  obtain ⟨rfl,rfl⟩:=hg
  obtain ⟨⟨hA,lA⟩,⟨hB,lB⟩⟩:=hp _ (List.mem_singleton.2 rfl)
  refine ⟨.inl (flat_pv _),fun w hw => ?_⟩
  have run:=sum_run (p4 A) (p4 B)
  rw [sum_val lA lB] at run
  have h:=sfunG_calls F1_ok mixed M0_flat (by kernel_rfl) Tryd.func43 (by kernel_rfl) run (by
   intro p hp
   simp only [List.mem_cons,List.not_mem_nil,or_false] at hp
   rcases hp with rfl | rfl | rfl | rfl | rfl | rfl | rfl | rfl | rfl | rfl | rfl | rfl | rfl | rfl | rfl | rfl <;> first | exact ib | exact ⟨isB_bv _,isB_bv _,isB_bv _,isB_bv _⟩) (by simp [flat_pv]) (.inl (flat_pv _)) w hw
  rw [←hA,←hB] at h
  exact h
 ·simp at hg
def xxV (a:P4):Value:=ML (bv a.x) (bv a.x)
def yyV (a:P4):Value:=ML (bv a.y) (bv a.y)
def zzV (a:P4):Value:=ML (bv a.z) (bv a.z)
def xyV (a:P4):Value:=ML (bv a.x) (bv a.y)
def belowV (a:P4):Value:=SB (yyV a) (xxV a)
theorem dbl_run (a:P4):sfunG Tryd.prog F1 M0 60 Tryd.f36 (bodyOf Tryd.f36) [pv a]=some ([
  IB (bv a.x) (bv a.x),IB (bv a.y) (bv a.y),IB (bv a.z) (bv a.z),IB (bv a.x) (bv a.y),IB (yyV a) (xxV a),
  IB (xyV a) (xyV a),IB (yyV a) (xxV a),IB (zzV a) (zzV a),IB (AD (zzV a) (zzV a)) (belowV a),
  IsB (AD (xyV a) (xyV a))∧IsB (belowV a)∧IsB (AD (yyV a) (xxV a))∧IsB (SB (AD (zzV a) (zzV a)) (belowV a))],
  pv (quoN (bnum (AD (xyV a) (xyV a))) (bnum (belowV a)) (bnum (AD (yyV a) (xxV a))) (bnum (SB (AD (zzV a) (zzV a)) (belowV a))))):=by kernel_rfl
theorem dbl_val {a:P4} (la:a.ok):quoN (bnum (AD (xyV a) (xyV a))) (bnum (belowV a)) (bnum (AD (yyV a) (xxV a))) (bnum (SB (AD (zzV a) (zzV a)) (belowV a)))=dblN a:=by
 have h1:xxV a=bv (fml a.x a.x):=by unfold xxV;rw [bnum_ML _ _ la.x la.x]
 have h2:yyV a=bv (fml a.y a.y):=by unfold yyV;rw [bnum_ML _ _ la.y la.y]
 have h3:zzV a=bv (fml a.z a.z):=by unfold zzV;rw [bnum_ML _ _ la.z la.z]
 have h4:xyV a=bv (fml a.x a.y):=by unfold xyV;rw [bnum_ML _ _ la.x la.y]
 have h5:belowV a=bv (fsb (fml a.y a.y) (fml a.x a.x)):=by unfold belowV;rw [h1,h2,bnum_SB _ _ (fmlR _ _) (fmlR _ _)]
 rw [h1,h2,h3,h4,h5,bnum_AD _ _ (fmlR _ _) (fmlR _ _),bnum_AD _ _ (fmlR _ _) (fmlR _ _),bnum_AD _ _ (fmlR _ _) (fmlR _ _),bnum_SB _ _ (fadR _ _) (fsbR _ _),bnum_bv' (fadR _ _),bnum_bv' (fsbR _ _),bnum_bv' (fadR _ _),bnum_bv' (fsbR _ _)]
 rfl
def gDbl:List Value→Option (List Prop × Value)
 | [A]=>some ([IsP A],pv (dblN (p4 A)))
 | _=>none
theorem gDbl_ok {X:Cx} (hX:X.Ok Tryd.prog) (hc:coversG M0 X.gl=true):(X.var M0 36 gDbl).Ok Tryd.prog:=by
 refine gVar_ok hX M0_flat hc Tryd.func36 (by kernel_rfl) (by kernel_rfl) ?_
 intro args ps v ha hg hp
 unfold gDbl at hg
 split at hg
 ·rename_i A
  simp only [Option.some.injEq,Prod.mk.injEq] at hg
  obtain ⟨rfl,rfl⟩:=hg
  obtain ⟨hA,lA⟩:=hp _ (List.mem_singleton.2 rfl)
  refine ⟨.inl (flat_pv _),fun w hw => ?_⟩
  have run:=dbl_run (p4 A)
  rw [dbl_val lA] at run
  have h:=sfunG_calls F1_ok mixed M0_flat (by kernel_rfl) Tryd.func36 (by kernel_rfl) run (by
   intro p hp
   simp only [List.mem_cons,List.not_mem_nil,or_false] at hp
   rcases hp with rfl | rfl | rfl | rfl | rfl | rfl | rfl | rfl | rfl | rfl <;> first | exact ib | exact ⟨isB_bv _,isB_bv _,isB_bv _,isB_bv _⟩) (by simp [flat_pv]) (.inl (flat_pv _)) w hw
  rw [←hA] at h
  exact h
 ·simp at hg
def F2:Cx:=(F1.var M0 43 gSum).var M0 36 gDbl
theorem F2_ok:F2.Ok Tryd.prog:=gDbl_ok (gSum_ok F1_ok (by kernel_rfl)) (by kernel_rfl)
def D1 (a:P4):P4:=dblN (p4 (pv a))
theorem D1_eq {a:P4} (h:a.ok):D1 a=dblN a:=by unfold D1;rw [p4_pv h]
theorem six_run (a:P4):sfunG Tryd.prog F2 M0 60 Tryd.f44 (bodyOf Tryd.f44) [pv a]=some ([IsP (pv a),IsP (pv (D1 a)),IsP (pv (D1 (D1 a))),IsP (pv (D1 (D1 (D1 a))))],pv (D1 (D1 (D1 (D1 a))))):=by kernel_rfl
def sixN (a:P4):P4:=dblN (dblN (dblN (dblN a)))
theorem sixN_ok (a:P4):(sixN a).ok:=dblN_ok _
def gSix:List Value→Option (List Prop × Value)
 | [A]=>some ([IsP A],pv (sixN (p4 A)))
 | _=>none
theorem gSix_ok {X:Cx} (hX:X.Ok Tryd.prog) (hc:coversG M0 X.gl=true):(X.var M0 44 gSix).Ok Tryd.prog:=by
 refine gVar_ok hX M0_flat hc Tryd.func44 (by kernel_rfl) (by kernel_rfl) ?_
 intro args ps v ha hg hp
 unfold gSix at hg
 split at hg
 ·rename_i A
  simp only [Option.some.injEq,Prod.mk.injEq] at hg
  obtain ⟨rfl,rfl⟩:=hg
  obtain ⟨hA,lA⟩:=hp _ (List.mem_singleton.2 rfl)
  refine ⟨.inl (flat_pv _),fun w hw => ?_⟩
  have run:=six_run (p4 A)
  rw [D1_eq lA,D1_eq (dblN_ok _),D1_eq (dblN_ok _),D1_eq (dblN_ok _)] at run
  have h:=sfunG_calls F2_ok mixed M0_flat (by kernel_rfl) Tryd.func44 (by kernel_rfl) run (by
   intro p hp
   simp only [List.mem_cons,List.not_mem_nil,or_false] at hp
   rcases hp with rfl | rfl | rfl | rfl
   ·exact isP_pv lA
   all_goals exact isP_pv (dblN_ok _)) (by simp [flat_pv]) (.inl (flat_pv _)) w hw
  rw [←hA] at h
  exact h
 ·simp at hg
theorem inGl {g:Nat} (h:g ∈ gl4):g ∈ gl5:=by
 unfold gl4 at h
 unfold gl5
 simp only [List.mem_cons,List.not_mem_nil,or_false] at h ⊢
 omega
theorem F2g_ok:(F2.glo gl5).Ok Tryd.prog:=Cx.glo_ok F2_ok fun g h=>inGl h
theorem gen_run:sfunG Tryd.prog (F2.glo gl5) M1 60 Tryd.f23 (bodyOf Tryd.f23) []=some ([IsB (bv GX)∧IsB (bv GY)],pv (atN (bnum (bv GX)) (bnum (bv GY)))):=by kernel_rfl
def gGen:List Value→Option (List Prop × Value)
 | []=>some ([],pv genN)
 | _=>none
theorem gGen_ok {X:Cx} (hX:X.Ok Tryd.prog) (hc:coversG M1 X.gl=true):(X.var M1 23 gGen).Ok Tryd.prog:=by
 refine gVar_ok hX M1_flat hc Tryd.func23 (by kernel_rfl) (by kernel_rfl) ?_
 intro args ps v ha hg hp
 unfold gGen at hg
 split at hg
 ·simp only [Option.some.injEq,Prod.mk.injEq] at hg
  obtain ⟨rfl,rfl⟩:=hg
  have run:=gen_run
  rw [bnum_bv' (n:=GX) (by decide),bnum_bv' (n:=GY) (by decide)] at run
  exact ⟨.inl (flat_pv _),fun w hw=>sfunG_calls F2g_ok mixed M1_flat (by kernel_rfl) Tryd.func23 (by kernel_rfl) run (by
   intro p hp
   simp only [List.mem_cons,List.not_mem_nil,or_false] at hp
   rcases hp with rfl
   exact ⟨isB_bv _,isB_bv _⟩) rfl (.inl (flat_pv _)) w hw⟩
 ·simp at hg
def F3:Cx:=F2.var M0 44 gSix
theorem F3_ok:F3.Ok Tryd.prog:=gSix_ok F2_ok (by kernel_rfl)
end Go.Proofs.YtmaehekekkfpmaaDoor
/- Package point: multiples. -/
namespace Go.Proofs.YtmaehekekkfpmaaDoor
open Go Go.RowKit
def SU (p q:P4):P4:=sumN (p4 (pv p)) (p4 (pv q))
def muS (a:P4):Nat→P4
 | 0=>neuN
 | n+1=>SU (muS a n) a
def muN (a:P4):Nat→P4
 | 0=>neuN
 | n+1=>sumN (muN a n) a
theorem muN_ok (a:P4) : ∀ n,(muN a n).ok
 | 0=>neuN_ok
 | n+1=>sumN_ok _ _
theorem muS_eq {a:P4} (h:a.ok) : ∀ n,muS a n=muN a n
 | 0=>rfl
 | n+1=>by
  show sumN (p4 (pv (muS a n))) (p4 (pv a))=sumN (muN a n) a
  rw [muS_eq h n,p4_pv (muN_ok a n),p4_pv h]
def muT (a:P4) (i:Nat):Prop:=IsP (pv (muS a i))∧IsP (pv a)
def fstR (o:Option (List Prop × Value)):Option (List Prop):=o.map (·.1)
def sndR (o:Option (List Prop × Value)):Value:=(o.map (·.2)).getD undef
theorem of_fst {o:Option (List Prop × Value)} {ps:List Prop} (h:fstR o=some ps):o=some (ps,sndR o):=by
 cases o with
 | none=>cases h
 | some q=>simp only [fstR,Option.map_some,Option.some.injEq] at h;subst h;rfl
def mulV (P:Program) (fn:Func) (a:P4):Value:=sndR (sfunG P F3 M0 100 fn (bodyOf fn) [pv a])
def cellsOf:Value→List Value
 | .agg cs=>cs.toList
 | _=>[]
def isAggB:Value→Bool
 | .agg _=>true
 | _=>false
theorem agg_cells {v:Value} (h:isAggB v=true):v = .agg (cellsOf v).toArray:=by
 cases v <;> simp [isAggB] at h
 rename_i cs
 simp [cellsOf]
def sl (l:List Value) (i:Nat):List Value:=(l.drop (128*i)).take 128
def muL (g:Nat→P4):List Value:=(List.range 16).flatMap fun i=>pcs (g i)
theorem of_slices (f:Nat→List Value) : ∀ (n:Nat) (l:List Value),l.length=128*n→(∀ i,i<n→sl l i=f i)→l=(List.range n).flatMap f
 | 0,l,hl,_=>by
  have:l = []:=List.eq_nil_of_length_eq_zero (by omega)
  rw [this];rfl
 | n+1,l,hl,h=>by
  have ih:=of_slices f n (l.take (128*n)) (by rw [List.length_take];omega) (fun i hi=>by
   rw [←h i (by omega)]
   unfold sl
   rw [List.drop_take,List.take_take]
   congr 1
   omega)
  have hn:=h n (by omega)
  unfold sl at hn
  rw [List.take_of_length_le (by rw [List.length_drop];omega)] at hn
  rw [List.range_succ,List.flatMap_append,←ih,List.flatMap_cons,List.flatMap_nil,List.append_nil,←hn,List.take_append_drop]
theorem mul_run1 (a:P4):fstR (sfunG Tryd.prog F3 M0 100 Tryd.f41 (bodyOf Tryd.f41) [pv a])=some [muT a 0,muT a 1,muT a 2,muT a 3,muT a 4,muT a 5,muT a 6,muT a 7,muT a 8,muT a 9,muT a 10,muT a 11,muT a 12,muT a 13,muT a 14]:=by kernel_rfl
theorem mul_agg (a:P4):isAggB (mulV Tryd.prog Tryd.f41 a)=true:=by kernel_rfl
theorem mul_len (a:P4):(cellsOf (mulV Tryd.prog Tryd.f41 a)).length=2048:=by kernel_rfl
theorem mul_sl (a:P4):(List.range 16).map (sl (cellsOf (mulV Tryd.prog Tryd.f41 a)))=(List.range 16).map fun i=>pcs (muS a i):=by kernel_rfl
theorem mul_val {a:P4} (h:a.ok):mulV Tryd.prog Tryd.f41 a = .agg (muL (muN a)).toArray:=by
 have e:=of_slices (fun i=>pcs (muS a i)) 16 _ (mul_len a) (fun i hi=>List.map_inj_left.1 (mul_sl a) i (List.mem_range.2 hi))
 rw [agg_cells (mul_agg a),e]
 unfold muL
 rw [show muS a=muN a from funext (muS_eq h)]
theorem flat_muL (g:Nat→P4):flat (.agg (muL g).toArray)=true:=by
 show ((muL g).toArray.toList.all flat1)=true
 rw [List.toList_toArray]
 unfold muL
 rw [List.all_flatMap]
 refine List.all_eq_true.2 fun i _ => ?_
 unfold pcs
 simp only [List.all_append,flat_bl,Bool.and_self]
def gMus:List Value→Option (List Prop × Value)
 | [A]=>some ([IsP A],.agg (muL (muN (p4 A))).toArray)
 | _=>none
theorem gMus_ok {X:Cx} (hX:X.Ok Tryd.prog) (hc:coversG M0 X.gl=true):(X.var M0 41 gMus).Ok Tryd.prog:=by
 refine gVar_ok hX M0_flat hc Tryd.func41 (by kernel_rfl) (by kernel_rfl) ?_
 intro args ps v ha hg hp
 unfold gMus at hg
 split at hg
 ·rename_i A
  simp only [Option.some.injEq,Prod.mk.injEq] at hg
  obtain ⟨rfl,rfl⟩:=hg
  obtain ⟨hA,lA⟩:=hp _ (List.mem_singleton.2 rfl)
  refine ⟨.inl (flat_muL _),fun w hw => ?_⟩
  have run:=of_fst (mul_run1 (p4 A))
  have e:=mul_val lA
  unfold mulV at e
  rw [e] at run
  have ht : ∀ i,muT (p4 A) i:=fun i=>by
   unfold muT
   rw [muS_eq lA]
   exact ⟨isP_pv (muN_ok _ _),isP_pv lA⟩
  have h:=sfunG_calls F3_ok mixed M0_flat (by kernel_rfl) Tryd.func41 (by kernel_rfl) run (by
   intro p hp
   simp only [List.mem_cons,List.not_mem_nil,or_false] at hp
   rcases hp with rfl | rfl | rfl | rfl | rfl | rfl | rfl | rfl | rfl | rfl | rfl | rfl | rfl | rfl | rfl <;> exact ht _) (by simp [flat_pv]) (.inl (flat_muL _)) w hw
  rw [←hA] at h
  exact h
 ·simp at hg
def F4:Cx:=F3.var M0 41 gMus
theorem F4_ok:F4.Ok Tryd.prog:=gMus_ok F3_ok (by kernel_rfl)
end Go.Proofs.YtmaehekekkfpmaaDoor
