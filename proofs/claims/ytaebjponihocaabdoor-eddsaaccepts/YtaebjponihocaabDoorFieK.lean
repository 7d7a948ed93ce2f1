/- Package field: Canonical; the law's awake. -/
import Derived.Test.YtaebjponihocaabDoorFieJ
namespace Go.Proofs.YtaebjponihocaabDoor
open Go Go.RowKit Go.Lib
set_option linter.unusedSimpArgs false
set_option linter.unusedVariables false
theorem pp_lt : pp < RN := by decide
theorem mod_lt_RN (a : Nat) : a % pp < RN := Nat.lt_trans (Nat.mod_lt _ (by decide)) pp_lt
theorem mod_eq_self (a : Nat) : decide (a % pp = a) = decide (a < pp) := by
  by_cases h : a < pp
  · rw [decide_eq_true h, decide_eq_true (Nat.mod_eq_of_lt h)]
  · have := Nat.mod_lt a (show pp > 0 by decide)
    rw [decide_eq_false h, decide_eq_false (by omega)]
set_option maxRecDepth 100000 in
set_option maxHeartbeats 1000000 in
theorem Canonical_any (a : Nat) (ha : a < RN) (w : World) :
    Calls Tryd.prog 54 #[bv a] w fun e w' => e = .returned (.bool (decide (a < pp))) ∧ Below w.heap.size w w' := by
  have ld : ∀ n w, Calls Tryd.prog 66 #[Value.agg (bl n).toArray] w fun e w' => e = .returned (nv n) ∧ Below w.heap.size w w' := load_any
  have st : ∀ n, n < RN → ∀ w, Calls Tryd.prog 64 #[nv n] w fun e w' => e = .returned (.agg (bl (n % pp)).toArray) ∧ Below w.heap.size w w' := store_any
  have HS : Hid (HH w [(w.heap.size, bl a, 22)] (w.alloc (.cells (bl a).toArray 22))) := HH.one w _ _
  have hza : (bl a).toArray.size = 32 := br_size a
  have he := eq_row (a % pp) a (mod_lt_RN a) ha
  rw [mod_eq_self] at he
  simp only [bv, br]
  go_enter Tryd.func54, Tryd.ntmps54
  go_wp2
  obtain ⟨x0, hx0⟩ : ∃ x, x = w.alloc (.cells (bl a).toArray 22) := ⟨_, rfl⟩
  rw [← hx0] at HS ⊢
  clear hx0
  refine wp_region_held_drew (S := (fun w' => HH w [(w.heap.size, bl a, 22)] w')) (by kernel_rfl) ?_ (fun hHeld => ?_)
  · exact HS.out.drew
  refine take1 (i := 0) (v := _) 3 rfl rfl (by kernel_rfl) (by kernel_rfl) (by kernel_rfl) (fun _ _ _ h => h) (yieldsIf_load_mid (by rfl) _ _ rfl _ _ rfl _ _ (fun w h => h.range (i := 0) rfl) Tryd.underlying22 rfl (i32 a)) hHeld ?_
  simp only [Act.put, List.setIfInBounds_toArray, List.set_cons_zero, List.set_cons_succ]
  refine take1 (i := 3) (v := _) 6 rfl rfl (by kernel_rfl) (by kernel_rfl) (by kernel_rfl) (fun _ _ _ h => h) (yieldsIf_load_mid (by rfl) _ _ rfl _ _ rfl _ _ (fun w h => h.range (i := 0) rfl) Tryd.underlying22 rfl (i32 a)) hHeld ?_
  simp only [Act.put, List.setIfInBounds_toArray, List.set_cons_zero, List.set_cons_succ]
  refine wpAnyH_ready (rs := [1]) (by kernel_rfl) (by simp) ?_
  refine AllReadyH.cons rfl (fun K hK => ?_) AllReadyH.nil
  go_simp
  go_at_call 66
  refine (ld a _).mono ?_
  rintro e w1 ⟨rfl, hb1⟩
  refine hK.out _ _ ?_ (fun hHeld => ?_)
  · exact hHeld.call hb1
  clear hK K
  try simp only [Act.put, List.setIfInBounds_toArray, List.set_cons_zero, List.set_cons_succ]
  refine wpAnyH_ready (rs := [2]) (by kernel_rfl) (by simp) ?_
  refine AllReadyH.cons rfl (fun K hK => ?_) AllReadyH.nil
  go_simp
  go_at_call 64
  refine (st a ha _).mono ?_
  rintro e w2 ⟨rfl, hb2⟩
  refine hK.out _ _ ?_ (fun hHeld => ?_)
  · exact hHeld.call hb2
  clear hK K
  try simp only [Act.put, List.setIfInBounds_toArray, List.set_cons_zero, List.set_cons_succ]
  refine take1 (i := 4) (v := ?_) 7 rfl rfl (by kernel_rfl) (by kernel_rfl) (by kernel_rfl) (fun _ _ _ h => h) (Or.inl ⟨by rfl, ?_⟩) hHeld ?_
  rotate_left 1
  · intro w hSw; go_simp <;> with_reducible rfl
  simp only [Act.put, List.setIfInBounds_toArray, List.set_cons_zero, List.set_cons_succ]
  refine take1 (i := 5) (v := ?_) 2 rfl rfl (by kernel_rfl) (by kernel_rfl) (by kernel_rfl) (fun _ _ _ h => h) (Or.inl ⟨by rfl, ?_⟩) hHeld ?_
  rotate_left 1
  · intro w hSw; go_simp <;> with_reducible rfl
  simp only [Act.put, List.setIfInBounds_toArray, List.set_cons_zero, List.set_cons_succ]
  refine wpAnyH_done (by kernel_rfl) ?_ _
  go_wp2
  go_ret
  exact ⟨rfl, hHeld.below⟩
end Go.Proofs.YtaebjponihocaabDoor
