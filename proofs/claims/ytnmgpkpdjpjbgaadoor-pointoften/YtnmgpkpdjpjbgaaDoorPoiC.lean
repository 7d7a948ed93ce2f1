/- Package point: sum, double, sixteenfold, generator as contracts. -/
import Derived.Test.YtnmgpkpdjpjbgaaDoorPoiB
namespace Go.Proofs.YtnmgpkpdjpjbgaaDoor
open Go Go.RowKit
set_option linter.unusedSimpArgs false
set_option linter.unusedVariables false
theorem bnum_AD (a b : Nat) (ha : a < RN) (hb : b < RN) : AD (bv a) (bv b) = bv (fad a b) := by unfold AD; rw [bnum_bv' ha, bnum_bv' hb]
theorem bnum_SB (a b : Nat) (ha : a < RN) (hb : b < RN) : SB (bv a) (bv b) = bv (fsb a b) := by unfold SB; rw [bnum_bv' ha, bnum_bv' hb]
theorem bnum_ML (a b : Nat) (ha : a < RN) (hb : b < RN) : ML (bv a) (bv b) = bv (fml a b) := by unfold ML; rw [bnum_bv' ha, bnum_bv' hb]
theorem bnum_IV (a : Nat) (ha : a < RN) : IV (bv a) = bv (fiv a) := by unfold IV; rw [bnum_bv' ha]
theorem fadR (a b : Nat) : fad a b < RN := lt_RN (fad_lt a b)
theorem fsbR (a b : Nat) : fsb a b < RN := lt_RN (fsb_lt a b)
theorem fmlR (a b : Nat) : fml a b < RN := lt_RN (fml_lt a b)
theorem fivR (a : Nat) : fiv a < RN := lt_RN (fiv_lt a)
theorem sum_val {a b : P4} (la : a.ok) (lb : b.ok) : quoN (bnum (SB (moreV a b) (lessV a b))) (bnum (AD (both2V a b) (turn2V a b))) (bnum (AD (moreV a b) (lessV a b))) (bnum (SB (both2V a b) (turn2V a b))) = sumN a b := by
  have h1 : moreV a b = bv (fml (fad a.y a.x) (fad b.y b.x)) := by unfold moreV; rw [bnum_AD _ _ la.y la.x, bnum_AD _ _ lb.y lb.x, bnum_ML _ _ (fadR _ _) (fadR _ _)]
  have h2 : lessV a b = bv (fml (fsb a.y a.x) (fsb b.y b.x)) := by unfold lessV; rw [bnum_SB _ _ la.y la.x, bnum_SB _ _ lb.y lb.x, bnum_ML _ _ (fsbR _ _) (fsbR _ _)]
  have h3 : turnV a b = bv (fml DN' (fml a.t b.t)) := by unfold turnV; rw [bnum_ML _ _ la.t lb.t, bnum_ML _ _ (by decide) (fmlR _ _)]
  have h4 : bothV a b = bv (fml a.z b.z) := by unfold bothV; rw [bnum_ML _ _ la.z lb.z]
  have h5 : turn2V a b = bv (fad (fml DN' (fml a.t b.t)) (fml DN' (fml a.t b.t))) := by unfold turn2V; rw [h3, bnum_AD _ _ (fmlR _ _) (fmlR _ _)]
  have h6 : both2V a b = bv (fad (fml a.z b.z) (fml a.z b.z)) := by unfold both2V; rw [h4, bnum_AD _ _ (fmlR _ _) (fmlR _ _)]
  rw [h1, h2, h5, h6, bnum_SB _ _ (fmlR _ _) (fmlR _ _), bnum_AD _ _ (fadR _ _) (fadR _ _), bnum_AD _ _ (fmlR _ _) (fmlR _ _), bnum_SB _ _ (fadR _ _) (fadR _ _), bnum_bv' (fsbR _ _), bnum_bv' (fadR _ _), bnum_bv' (fadR _ _), bnum_bv' (fsbR _ _)]
  rfl
theorem ib {A B : Nat} : IB (bv A) (bv B) := ⟨isB_bv _, isB_bv _⟩
def gSum : List Value → Option (List Prop × Value)
  | [A, B] => some ([IsP A ∧ IsP B], pv (sumN (p4 A) (p4 B)))
  | _ => none
theorem gSum_ok {X : Cx} (hX : X.Ok Tryd.prog) (hc : coversG M0 X.gl = true) : (X.var M0 32 gSum).Ok Tryd.prog := by
  refine gVar_ok hX M0_flat hc Tryd.func32 (by kernel_rfl) (by kernel_rfl) ?_
  intro args ps v ha hg hp
  unfold gSum at hg
  split at hg
  · rename_i A B
    simp only [Option.some.injEq, Prod.mk.injEq] at hg
    obtain ⟨rfl, rfl⟩ := hg
    obtain ⟨⟨hA, lA⟩, ⟨hB, lB⟩⟩ := hp _ (List.mem_singleton.2 rfl)
    refine ⟨.inl (flat_pv _), fun w hw => ?_⟩
    have run := sum_run (p4 A) (p4 B)
    rw [sum_val lA lB] at run
    have h := sfunG_calls F1_ok mixed M0_flat (by kernel_rfl) Tryd.func32 (by kernel_rfl) run (by
      intro p hp
      simp only [List.mem_cons, List.not_mem_nil, or_false] at hp
      rcases hp with rfl | rfl | rfl | rfl | rfl | rfl | rfl | rfl | rfl | rfl | rfl | rfl | rfl | rfl | rfl | rfl <;> first | exact ib | exact ⟨isB_bv _, isB_bv _, isB_bv _, isB_bv _⟩) (by simp [flat_pv]) (.inl (flat_pv _)) w hw
    rw [← hA, ← hB] at h
    exact h
  · simp at hg
/-- double -/
def xxV (a : P4) : Value := ML (bv a.x) (bv a.x)
def yyV (a : P4) : Value := ML (bv a.y) (bv a.y)
def zzV (a : P4) : Value := ML (bv a.z) (bv a.z)
def xyV (a : P4) : Value := ML (bv a.x) (bv a.y)
def belowV (a : P4) : Value := SB (yyV a) (xxV a)
theorem dbl_run (a : P4) : sfunG Tryd.prog F1 M0 60 Tryd.f35 (bodyOf Tryd.f35) [pv a] = some ([
    IB (bv a.x) (bv a.x), IB (bv a.y) (bv a.y), IB (bv a.z) (bv a.z), IB (bv a.x) (bv a.y), IB (yyV a) (xxV a),
    IB (xyV a) (xyV a), IB (yyV a) (xxV a), IB (zzV a) (zzV a), IB (AD (zzV a) (zzV a)) (belowV a),
    IsB (AD (xyV a) (xyV a)) ∧ IsB (belowV a) ∧ IsB (AD (yyV a) (xxV a)) ∧ IsB (SB (AD (zzV a) (zzV a)) (belowV a))],
    pv (quoN (bnum (AD (xyV a) (xyV a))) (bnum (belowV a)) (bnum (AD (yyV a) (xxV a))) (bnum (SB (AD (zzV a) (zzV a)) (belowV a))))) := by kernel_rfl
theorem dbl_val {a : P4} (la : a.ok) : quoN (bnum (AD (xyV a) (xyV a))) (bnum (belowV a)) (bnum (AD (yyV a) (xxV a))) (bnum (SB (AD (zzV a) (zzV a)) (belowV a))) = dblN a := by
  have h1 : xxV a = bv (fml a.x a.x) := by unfold xxV; rw [bnum_ML _ _ la.x la.x]
  have h2 : yyV a = bv (fml a.y a.y) := by unfold yyV; rw [bnum_ML _ _ la.y la.y]
  have h3 : zzV a = bv (fml a.z a.z) := by unfold zzV; rw [bnum_ML _ _ la.z la.z]
  have h4 : xyV a = bv (fml a.x a.y) := by unfold xyV; rw [bnum_ML _ _ la.x la.y]
  have h5 : belowV a = bv (fsb (fml a.y a.y) (fml a.x a.x)) := by unfold belowV; rw [h1, h2, bnum_SB _ _ (fmlR _ _) (fmlR _ _)]
  rw [h1, h2, h3, h4, h5, bnum_AD _ _ (fmlR _ _) (fmlR _ _), bnum_AD _ _ (fmlR _ _) (fmlR _ _), bnum_AD _ _ (fmlR _ _) (fmlR _ _), bnum_SB _ _ (fadR _ _) (fsbR _ _), bnum_bv' (fadR _ _), bnum_bv' (fsbR _ _), bnum_bv' (fadR _ _), bnum_bv' (fsbR _ _)]
  rfl
def gDbl : List Value → Option (List Prop × Value)
  | [A] => some ([IsP A], pv (dblN (p4 A)))
  | _ => none
theorem gDbl_ok {X : Cx} (hX : X.Ok Tryd.prog) (hc : coversG M0 X.gl = true) : (X.var M0 35 gDbl).Ok Tryd.prog := by
  refine gVar_ok hX M0_flat hc Tryd.func35 (by kernel_rfl) (by kernel_rfl) ?_
  intro args ps v ha hg hp
  unfold gDbl at hg
  split at hg
  · rename_i A
    simp only [Option.some.injEq, Prod.mk.injEq] at hg
    obtain ⟨rfl, rfl⟩ := hg
    obtain ⟨hA, lA⟩ := hp _ (List.mem_singleton.2 rfl)
    refine ⟨.inl (flat_pv _), fun w hw => ?_⟩
    have run := dbl_run (p4 A)
    rw [dbl_val lA] at run
    have h := sfunG_calls F1_ok mixed M0_flat (by kernel_rfl) Tryd.func35 (by kernel_rfl) run (by
      intro p hp
      simp only [List.mem_cons, List.not_mem_nil, or_false] at hp
      rcases hp with rfl | rfl | rfl | rfl | rfl | rfl | rfl | rfl | rfl | rfl <;> first | exact ib | exact ⟨isB_bv _, isB_bv _, isB_bv _, isB_bv _⟩) (by simp [flat_pv]) (.inl (flat_pv _)) w hw
    rw [← hA] at h
    exact h
  · simp at hg
def F2 : Cx := (F1.var M0 32 gSum).var M0 35 gDbl
theorem F2_ok : F2.Ok Tryd.prog := gDbl_ok (gSum_ok F1_ok (by kernel_rfl)) (by kernel_rfl)
/-- sixteenfold, generator -/
def D1 (a : P4) : P4 := dblN (p4 (pv a))
theorem D1_eq {a : P4} (h : a.ok) : D1 a = dblN a := by unfold D1; rw [p4_pv h]
theorem six_run (a : P4) : sfunG Tryd.prog F2 M0 60 Tryd.f56 (bodyOf Tryd.f56) [pv a] = some ([IsP (pv a), IsP (pv (D1 a)), IsP (pv (D1 (D1 a))), IsP (pv (D1 (D1 (D1 a))))], pv (D1 (D1 (D1 (D1 a))))) := by kernel_rfl
def sixN (a : P4) : P4 := dblN (dblN (dblN (dblN a)))
theorem sixN_ok (a : P4) : (sixN a).ok := dblN_ok _
def gSix : List Value → Option (List Prop × Value)
  | [A] => some ([IsP A], pv (sixN (p4 A)))
  | _ => none
theorem gSix_ok {X : Cx} (hX : X.Ok Tryd.prog) (hc : coversG M0 X.gl = true) : (X.var M0 56 gSix).Ok Tryd.prog := by
  refine gVar_ok hX M0_flat hc Tryd.func56 (by kernel_rfl) (by kernel_rfl) ?_
  intro args ps v ha hg hp
  unfold gSix at hg
  split at hg
  · rename_i A
    simp only [Option.some.injEq, Prod.mk.injEq] at hg
    obtain ⟨rfl, rfl⟩ := hg
    obtain ⟨hA, lA⟩ := hp _ (List.mem_singleton.2 rfl)
    refine ⟨.inl (flat_pv _), fun w hw => ?_⟩
    have run := six_run (p4 A)
    rw [D1_eq lA, D1_eq (dblN_ok _), D1_eq (dblN_ok _), D1_eq (dblN_ok _)] at run
    have h := sfunG_calls F2_ok mixed M0_flat (by kernel_rfl) Tryd.func56 (by kernel_rfl) run (by
      intro p hp
      simp only [List.mem_cons, List.not_mem_nil, or_false] at hp
      rcases hp with rfl | rfl | rfl | rfl
      · exact isP_pv lA
      all_goals exact isP_pv (dblN_ok _)) (by simp [flat_pv]) (.inl (flat_pv _)) w hw
    rw [← hA] at h
    exact h
  · simp at hg
theorem inGl {g : Nat} (h : g ∈ gl4) : g ∈ gl5 := by
  rw [gl4_eq] at h
  rw [gl5_eq]
  simp only [List.mem_cons, List.not_mem_nil, or_false] at h ⊢
  omega
theorem F2g_ok : (F2.glo gl5).Ok Tryd.prog := Cx.glo_ok F2_ok fun g h => inGl h
theorem gen_run : sfunG Tryd.prog (F2.glo gl5) M1 60 Tryd.f41 (bodyOf Tryd.f41) [] = some ([IsB (bv GX) ∧ IsB (bv GY)], pv (atN (bnum (bv GX)) (bnum (bv GY)))) := by kernel_rfl
def gGen : List Value → Option (List Prop × Value)
  | [] => some ([], pv genN)
  | _ => none
theorem gGen_ok {X : Cx} (hX : X.Ok Tryd.prog) (hc : coversG M1 X.gl = true) : (X.var M1 41 gGen).Ok Tryd.prog := by
  refine gVar_ok hX M1_flat hc Tryd.func41 (by kernel_rfl) (by kernel_rfl) ?_
  intro args ps v ha hg hp
  unfold gGen at hg
  split at hg
  · simp only [Option.some.injEq, Prod.mk.injEq] at hg
    obtain ⟨rfl, rfl⟩ := hg
    have run := gen_run
    rw [bnum_bv' (n := GX) (by decide), bnum_bv' (n := GY) (by decide)] at run
    exact ⟨.inl (flat_pv _), fun w hw => sfunG_calls F2g_ok mixed M1_flat (by kernel_rfl) Tryd.func41 (by kernel_rfl) run (by
      intro p hp
      simp only [List.mem_cons, List.not_mem_nil, or_false] at hp
      rcases hp with rfl
      exact ⟨isB_bv _, isB_bv _⟩) rfl (.inl (flat_pv _)) w hw⟩
  · simp at hg
def F3 : Cx := F2.var M0 56 gSix
theorem F3_ok : F3.Ok Tryd.prog := gSix_ok F2_ok (by kernel_rfl)
end Go.Proofs.YtnmgpkpdjpjbgaaDoor
