/- The law PointOften: its run, and that it answers true. -/
import Derived.Test.YtnmgpkpdjpjbgaaDoorPoiR
import Derived.Test.YtnmgpkpdjpjbgaaDoorPScT
namespace Go.Proofs.YtnmgpkpdjpjbgaaDoor
open Go Go.RowKit
set_option linter.unusedSimpArgs false
set_option linter.unusedVariables false
theorem sc_bv (n : Nat) : Sc.bv n = bv n := rfl
theorem sc_LN : Sc.LN = LN := rfl
theorem rfAdd_any (a b : Nat) (ha : a < RN) (hb : b < RN) (w : World) : Calls Tryd.prog 28 #[bv a, bv b] w fun e w' => e = .returned (bv ((a + b) % LN)) ∧ Below w.heap.size w w' := by
  have h := Sc.rAdd_any a b ha hb w
  rw [sc_bv, sc_bv, sc_bv, sc_LN] at h
  exact h
theorem rfMul_any (a b c : Nat) (ha : a < RN) (hb : b < RN) (hc : c < RN) (w : World) : Calls Tryd.prog 29 #[bv a, bv b, bv c] w fun e w' => e = .returned (bv ((a * b + c) % LN)) ∧ Below w.heap.size w w' := by
  have h := Sc.rMulAdd_any a b c ha hb hc w
  rw [sc_bv, sc_bv, sc_bv, sc_bv, sc_LN] at h
  exact h
def RAV (A B : Value) : Value := bv ((bnum A + bnum B) % LN)
def RMV (A B C : Value) : Value := bv ((bnum A * bnum B + bnum C) % LN)
def gRfA : List Value → Option (List Prop × Value)
  | [A, B] => some ([IsB A ∧ IsB B], RAV A B)
  | _ => none
def gRfM : List Value → Option (List Prop × Value)
  | [A, B, C] => some ([IsB A ∧ IsB B ∧ IsB C], RMV A B C)
  | _ => none
theorem gRfA_ok {X : Cx} (hX : X.Ok Tryd.prog) : (X.pure 28 gRfA).Ok Tryd.prog := by
  refine gBody_ok hX Tryd.func28 (by kernel_rfl) (by kernel_rfl) ?_
  intro args ps v ha hg hp
  unfold gRfA at hg
  split at hg
  · rename_i A B
    simp only [Option.some.injEq, Prod.mk.injEq] at hg
    obtain ⟨rfl, rfl⟩ := hg
    obtain ⟨hA, hB⟩ := hp _ (List.mem_singleton.2 rfl)
    refine ⟨.inl (flat_bv _), fun w => ?_⟩
    have h := rfAdd_any (bnum A) (bnum B) (bnum_lt hA) (bnum_lt hB) w
    rw [← (show A = bv (bnum A) from hA), ← (show B = bv (bnum B) from hB)] at h
    exact h
  · simp at hg
theorem gRfM_ok {X : Cx} (hX : X.Ok Tryd.prog) : (X.pure 29 gRfM).Ok Tryd.prog := by
  refine gBody_ok hX Tryd.func29 (by kernel_rfl) (by kernel_rfl) ?_
  intro args ps v ha hg hp
  unfold gRfM at hg
  split at hg
  · rename_i A B C
    simp only [Option.some.injEq, Prod.mk.injEq] at hg
    obtain ⟨rfl, rfl⟩ := hg
    obtain ⟨hA, hB, hC⟩ := hp _ (List.mem_singleton.2 rfl)
    refine ⟨.inl (flat_bv _), fun w => ?_⟩
    have h := rfMul_any (bnum A) (bnum B) (bnum C) (bnum_lt hA) (bnum_lt hB) (bnum_lt hC) w
    rw [← (show A = bv (bnum A) from hA), ← (show B = bv (bnum B) from hB), ← (show C = bv (bnum C) from hC)] at h
    exact h
  · simp at hg
def FD : Cx := (FCg.pure 28 gRfA).pure 29 gRfM
theorem FD_ok : FD.Ok Tryd.prog := gRfM_ok (gRfA_ok FCg_ok)
theorem oft_run (n m : Nat) : sfunG Tryd.prog (FD.tell [(27, true), (30, true), (38, true), (47, true)]) M1 100 Tryd.f5 (bodyOf Tryd.f5) [bv n, bv m] = some ([IsB (bv n), IsB (bv m), IsB (BAV (bv n)) ∧ IsB (BAV (bv m)), IsB (bv m), IsB (bv n) ∧ IsB (BAV (bv m)), (ADE (BAV (bv n)) (BAV (bv m)) == 0) = true, (REV (BAV (bv m)) == 0) = true, IsB (bv n) ∧ IsB (bv m), IsB (RAV (bv n) (bv m)), eqV (ADV (BAV (bv n)) (BAV (bv m))) (BAV (RAV (bv n) (bv m))) = true, IsB (bv n) ∧ IsB (bv m) ∧ IsB (bv 0), IsB (RMV (bv n) (bv m) (bv 0)), eqV (MLV (bv n) (BAV (bv m))) (BAV (RMV (bv n) (bv m) (bv 0))) = true], .bool true) := by kernel_rfl
theorem modL (k : Nat) : pmul (k % LN) BP = pmul k BP := by
  have h : k = k / LN * LN + k % LN := by rw [Nat.mul_comm]; exact (Nat.div_add_mod k LN).symm
  have h1 := Pt.smul_add FK BP (k / LN * LN) (k % LN)
  rw [← h, Pt.smul_mul FK BP LN (k / LN), show Pt.smul FK LN BP = PZ from LB_zero, Pt.smul_zero, Pt.zero_add] at h1
  exact h1.symm
theorem LN_RN (k : Nat) : k % LN < RN := Nat.lt_trans (Nat.mod_lt _ (by decide)) (by decide)
theorem pointOften_walk (n m : Nat) (hn : n < RN) (hm : m < RN) (w : World) (hw : Glo M1 w) : Calls Tryd.prog 5 #[bv n, bv m] w fun e w' => e = .returned (.bool true) ∧ Below w.heap.size w w' := by
  have r := oft_run n m
  have ra : RAV (bv n) (bv m) = bv ((n + m) % LN) := by unfold RAV; rw [bnum_bv' hn, bnum_bv' hm]
  have rm : RMV (bv n) (bv m) (bv 0) = bv (n * m % LN) := by unfold RMV; rw [bnum_bv' hn, bnum_bv' hm, bnum_bv' (n := 0) (by decide), Nat.add_zero]
  rw [ra, rm, BAV_enc n hn, BAV_enc m hm, BAV_enc _ (LN_RN _), BAV_enc _ (LN_RN _), ADV_enc, MLV_enc n hn] at r
  have e1 : padd (pmul n BP) (pmul m BP) = pmul ((n + m) % LN) BP := by
    rw [modL]
    exact (Pt.smul_add FK BP n m).symm
  have e2 : pmul n (pmul m BP) = pmul (n * m % LN) BP := by
    rw [modL]
    exact (Pt.smul_mul FK BP m n).symm
  exact sfunG_calls (Cx.tell_ok FD_ok _) mixed M1_flat (by kernel_rfl) Tryd.func5 (by kernel_rfl) r (al (isB_bv _) (al (isB_bv _) (al ib2 (al (isB_bv _) (al ib2 (al (is0 (ADE_enc _ _)) (al (is0 (REV_enc _)) (al ib2 (al (isB_bv _) (al (eqV_pt e1) (al ⟨isB_bv _, isB_bv _, isB_bv _⟩ (al (isB_bv _) (al (eqV_pt e2) al0))))))))))))) (by simp [flat_bv]) (.inl rfl) w hw
end Go.Proofs.YtnmgpkpdjpjbgaaDoor
