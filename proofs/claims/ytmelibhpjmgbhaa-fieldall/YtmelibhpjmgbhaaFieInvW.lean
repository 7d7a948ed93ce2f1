/- The walk of FieldInverses. -/
import Derived.Test.YtmelibhpjmgbhaaFieQ
import Derived.Test.YtmelibhpjmgbhaaFieRingW
namespace Go.Proofs.Ytmelibhpjmgbhaa
open Go Go.RowKit Go.Lib
set_option linter.unusedSimpArgs false
set_option linter.unusedVariables false
theorem invL (a : Nat) (ha : a < RN) (w : World) : Calls Try.prog 19 #[.agg (bl a).toArray] w fun e w' => e = .returned (.agg (bl (a ^ (pp - 2) % pp)).toArray) ∧ Below w.heap.size w w' := Inv_any a ha w
/-- Fermat: a's product with its power p - 2 is 1, but of 0. -/
theorem inv_one (a : Nat) (h : ¬ a % pp = 0) : a * (a ^ (pp - 2) % pp) % pp = 1 := by
  have hd : ¬ pp ∣ a := fun d => h (Nat.mod_eq_zero_of_dvd d)
  have f := prm.fermat hd
  rw [Nat.mul_mod_mod, Nat.mul_comm, ← Nat.pow_succ, show (pp - 2).succ = pp - 1 by decide]
  exact f
theorem inv_zero (a : Nat) (h : a % pp = 0) : a ^ (pp - 2) % pp = 0 := by
  obtain ⟨k, hk⟩ : ∃ k, pp - 2 = k + 1 := ⟨pp - 3, by decide⟩
  rw [hk, Nat.pow_succ, Nat.mul_mod, h, Nat.mul_zero, Nat.zero_mod]
theorem inv_inv (a : Nat) (h : ¬ a % pp = 0) : (a ^ (pp - 2) % pp) ^ (pp - 2) % pp = a % pp := by
  obtain ⟨i, hi⟩ : ∃ i, i = a ^ (pp - 2) % pp := ⟨_, rfl⟩
  have e1 := inv_one a h
  rw [← hi] at e1 ⊢
  have h0 : ¬ i % pp = 0 := fun h0 => by
    rw [Nat.mul_mod, h0, Nat.mul_zero, Nat.zero_mod] at e1
    exact absurd e1 (by decide)
  have e2 := inv_one i h0
  have : (a * (i * (i ^ (pp - 2) % pp))) % pp = a % pp := by rw [Nat.mul_mod, e2, Nat.mul_one, Nat.mod_mod]
  rw [← Nat.mul_assoc, Nat.mul_mod, e1, Nat.one_mul, Nat.mod_mod, Nat.mod_mod] at this
  exact this
set_option maxRecDepth 100000 in
set_option maxHeartbeats 4000000 in
theorem fieldInverses_walk (a : Nat) (ha : a < RN) (w : World) :
    Calls Try.prog 5 #[bv a] w fun e w' => e = .returned (.bool true) ∧ Below w.heap.size w w' := by
  have hza : (bl a).toArray.size = 32 := br_size a
  have HS : Hid (HH w [(w.heap.size, bl a, 22)] (w.alloc (.cells (bl a).toArray 22))) := HH.one w _ _
  by_cases hz0 : a % pp = 0
  · have HZ : Hid (a % pp = 0) := hz0
    have ka0 : ∀ w, Calls Try.prog 13 #[.agg (bl a).toArray, .agg #[.int .u8 0, .int .u8 0, .int .u8 0, .int .u8 0, .int .u8 0, .int .u8 0, .int .u8 0, .int .u8 0, .int .u8 0, .int .u8 0, .int .u8 0, .int .u8 0, .int .u8 0, .int .u8 0, .int .u8 0, .int .u8 0, .int .u8 0, .int .u8 0, .int .u8 0, .int .u8 0, .int .u8 0, .int .u8 0, .int .u8 0, .int .u8 0, .int .u8 0, .int .u8 0, .int .u8 0, .int .u8 0, .int .u8 0, .int .u8 0, .int .u8 0, .int .u8 0]] w fun e w' => e = .returned (.agg (bl 0).toArray) ∧ Below w.heap.size w w' := fun w => by
      have := addL a 0 ha (by decide) w
      rw [Nat.add_zero, HZ.out] at this
      rw [lit0]; exact this
    have ia : ∀ w, Calls Try.prog 19 #[.agg (bl a).toArray] w fun e w' => e = .returned (.agg (bl 0).toArray) ∧ Below w.heap.size w w' := fun w => by
      have := invL a ha w
      rw [inv_zero a HZ.out] at this
      exact this
    have e0 : ∀ w, (Op.equalIn 10000 22 (.agg (bl 0).toArray) (.agg #[.int .u8 0, .int .u8 0, .int .u8 0, .int .u8 0, .int .u8 0, .int .u8 0, .int .u8 0, .int .u8 0, .int .u8 0, .int .u8 0, .int .u8 0, .int .u8 0, .int .u8 0, .int .u8 0, .int .u8 0, .int .u8 0, .int .u8 0, .int .u8 0, .int .u8 0, .int .u8 0, .int .u8 0, .int .u8 0, .int .u8 0, .int .u8 0, .int .u8 0, .int .u8 0, .int .u8 0, .int .u8 0, .int .u8 0, .int .u8 0, .int .u8 0, .int .u8 0])).run Try.prog w = .ok true w := fun w => by rw [lit0]; exact eq_yes 0 0 (by decide) (by decide) rfl w
    clear hz0
    simp only [bv, br]
    go_enter Try.func5, Try.ntmps5
    go_wp2_with fail
    refine (awake_any _).mono ?_
    rintro e w1 ⟨rfl, hb1⟩
    have H1 : Hid (HH w [(w.heap.size, bl a, 22)] w1) := HS.out.call hb1
    clear HS hb1
    have CH10 : Hid (World.rangeAt _ (w.heap.size) 0 (bl a)) := H1.out.range (i := 0) rfl
    go_wp2_with (first | (refine wpList_load_mid rfl 22 _ rfl (w.heap.size) 0 rfl (bl a) _ CH10.out Try.underlying22 rfl (i32 a) ?_))
    refine (ka0 _).mono ?_
    rintro e wp1 ⟨rfl, hbp1⟩
    have Hp1 : Hid (HH w [(w.heap.size, bl a, 22)] wp1) := H1.out.call hbp1
    clear hbp1 CH10
    have CHp10 : Hid (World.rangeAt _ (w.heap.size) 0 (bl a)) := Hp1.out.range (i := 0) rfl
    go_wp2_with (first | (refine wpList_load_mid rfl 22 _ rfl (w.heap.size) 0 rfl (bl a) _ CHp10.out Try.underlying22 rfl (i32 a) ?_))
    refine (ia _).mono ?_
    rintro e wp2 ⟨rfl, hbp2⟩
    have Hp2 : Hid (HH w [(w.heap.size, bl a, 22)] wp2) := Hp1.out.call hbp2
    clear hbp2 CHp10
    have CHp20 : Hid (World.rangeAt _ (w.heap.size) 0 (bl a)) := Hp2.out.range (i := 0) rfl
    go_wp2_with (first | (refine wpList_load_mid rfl 22 _ rfl (w.heap.size) 0 rfl (bl a) _ CHp20.out Try.underlying22 rfl (i32 a) ?_))
    go_ret
    exact ⟨rfl, Hp2.out.below⟩
  · have HZ : Hid (¬ a % pp = 0) := hz0
    obtain ⟨i, qi⟩ : ∃ i, i = a ^ (pp - 2) % pp := ⟨_, rfl⟩
    have bi : i < RN := by rw [qi]; exact mod_lt_RN _
    obtain ⟨s3, qs⟩ : ∃ s, s = a % pp := ⟨_, rfl⟩
    have bs3 : s3 < RN := by rw [qs]; exact mod_lt_RN _
    have k1 : ∀ w, Calls Try.prog 13 #[.agg (bl a).toArray, .agg (bl 0).toArray] w fun e w' => e = .returned (.agg (bl s3).toArray) ∧ Below w.heap.size w w' := fun w => by
      have := addL a 0 ha (by decide) w
      rw [Nat.add_zero, ← qs] at this
      exact this
    have k0 : ∀ w, Calls Try.prog 13 #[.agg (bl a).toArray, .agg #[.int .u8 0, .int .u8 0, .int .u8 0, .int .u8 0, .int .u8 0, .int .u8 0, .int .u8 0, .int .u8 0, .int .u8 0, .int .u8 0, .int .u8 0, .int .u8 0, .int .u8 0, .int .u8 0, .int .u8 0, .int .u8 0, .int .u8 0, .int .u8 0, .int .u8 0, .int .u8 0, .int .u8 0, .int .u8 0, .int .u8 0, .int .u8 0, .int .u8 0, .int .u8 0, .int .u8 0, .int .u8 0, .int .u8 0, .int .u8 0, .int .u8 0, .int .u8 0]] w fun e w' => e = .returned (.agg (bl s3).toArray) ∧ Below w.heap.size w w' := fun w => by rw [lit0]; exact k1 w
    have ia : ∀ w, Calls Try.prog 19 #[.agg (bl a).toArray] w fun e w' => e = .returned (.agg (bl i).toArray) ∧ Below w.heap.size w w' := fun w => by
      have := invL a ha w
      rw [← qi] at this
      exact this
    have ii : ∀ w, Calls Try.prog 19 #[.agg (bl i).toArray] w fun e w' => e = .returned (.agg (bl s3).toArray) ∧ Below w.heap.size w w' := fun w => by
      have := invL i bi w
      rw [qi, inv_inv a HZ.out, ← qi, ← qs] at this
      exact this
    have mi : ∀ w, Calls Try.prog 17 #[.agg (bl a).toArray, .agg (bl i).toArray] w fun e w' => e = .returned (.agg (bl 1).toArray) ∧ Below w.heap.size w w' := fun w => by
      have := mulL a i ha bi w
      rw [qi, inv_one a HZ.out, ← qi] at this
      exact this
    have e0 : ∀ w, (Op.equalIn 10000 22 (.agg (bl s3).toArray) (.agg #[.int .u8 0, .int .u8 0, .int .u8 0, .int .u8 0, .int .u8 0, .int .u8 0, .int .u8 0, .int .u8 0, .int .u8 0, .int .u8 0, .int .u8 0, .int .u8 0, .int .u8 0, .int .u8 0, .int .u8 0, .int .u8 0, .int .u8 0, .int .u8 0, .int .u8 0, .int .u8 0, .int .u8 0, .int .u8 0, .int .u8 0, .int .u8 0, .int .u8 0, .int .u8 0, .int .u8 0, .int .u8 0, .int .u8 0, .int .u8 0, .int .u8 0, .int .u8 0])).run Try.prog w = .ok false w := fun w => by rw [lit0]; exact eq_no s3 0 bs3 (by decide) (by rw [qs]; exact HZ.out) w
    have e1 := eq_yes 1 1 (by decide) (by decide) rfl
    have e3 := eq_yes s3 s3 bs3 bs3 rfl
    clear hz0 HZ qi qs
    simp only [bv, br]
    go_enter Try.func5, Try.ntmps5
    go_wp2_with fail
    refine (awake_any _).mono ?_
    rintro e w1 ⟨rfl, hb1⟩
    have H1 : Hid (HH w [(w.heap.size, bl a, 22)] w1) := HS.out.call hb1
    clear HS hb1
    have CH10 : Hid (World.rangeAt _ (w.heap.size) 0 (bl a)) := H1.out.range (i := 0) rfl
    go_wp2_with (first | (refine wpList_load_mid rfl 22 _ rfl (w.heap.size) 0 rfl (bl a) _ CH10.out Try.underlying22 rfl (i32 a) ?_))
    refine (k0 _).mono ?_
    rintro e wp1 ⟨rfl, hbp1⟩
    have Hp1 : Hid (HH w [(w.heap.size, bl a, 22)] wp1) := H1.out.call hbp1
    clear hbp1 CH10
    have CHp10 : Hid (World.rangeAt _ (w.heap.size) 0 (bl a)) := Hp1.out.range (i := 0) rfl
    go_wp2_with (first | (refine wpList_load_mid rfl 22 _ rfl (w.heap.size) 0 rfl (bl a) _ CHp10.out Try.underlying22 rfl (i32 a) ?_))
    refine wp_region_held_drew (S := (fun w' => HH w [(w.heap.size, bl a, 22)] w')) (by kernel_rfl) ?_ (fun hHeld => ?_)
    · exact Hp1.out.drew
    refine take1 (i := 0) (v := _) 14 rfl rfl (by kernel_rfl) (by kernel_rfl) (by kernel_rfl) (fun _ _ _ h => h) (yieldsIf_load_mid (by rfl) _ _ rfl _ _ rfl _ _ (fun w h => h.range (i := 0) rfl) Try.underlying22 rfl (i32 a)) hHeld ?_
    simp only [Act.put, List.setIfInBounds_toArray, List.set_cons_zero, List.set_cons_succ]
    refine take1 (i := 1) (v := _) 15 rfl rfl (by kernel_rfl) (by kernel_rfl) (by kernel_rfl) (fun _ _ _ h => h) (yieldsIf_load_mid (by rfl) _ _ rfl _ _ rfl _ _ (fun w h => h.range (i := 0) rfl) Try.underlying22 rfl (i32 a)) hHeld ?_
    simp only [Act.put, List.setIfInBounds_toArray, List.set_cons_zero, List.set_cons_succ]
    refine take1 (i := 4) (v := ?_) 18 rfl rfl (by kernel_rfl) (by kernel_rfl) (by kernel_rfl) (fun _ _ _ h => h) (Or.inl ⟨by rfl, ?_⟩) hHeld ?_
    rotate_left 1
    · intro w hSw; go_simp <;> with_reducible rfl
    simp only [Act.put, List.setIfInBounds_toArray, List.set_cons_zero, List.set_cons_succ]
    rw [lit1]
    refine wpAnyH_ready (rs := [2]) (by kernel_rfl) (by simp) ?_
    refine AllReadyH.cons rfl (fun K hK => ?_) AllReadyH.nil
    go_simp
    go_at_call 19
    refine (ia _).mono ?_
    rintro e wq ⟨rfl, hbq⟩
    refine hK.out _ _ ?_ (fun hHeld => ?_)
    · exact hHeld.call hbq
    clear hK K
    try simp only [Act.put, List.setIfInBounds_toArray, List.set_cons_zero, List.set_cons_succ]
    refine wpAnyH_ready (rs := [3]) (by kernel_rfl) (by simp) ?_
    refine AllReadyH.cons rfl (fun K hK => ?_) AllReadyH.nil
    go_simp
    go_at_call 17
    refine (mi _).mono ?_
    rintro e wq ⟨rfl, hbq⟩
    refine hK.out _ _ ?_ (fun hHeld => ?_)
    · exact hHeld.call hbq
    clear hK K
    try simp only [Act.put, List.setIfInBounds_toArray, List.set_cons_zero, List.set_cons_succ]
    refine take1 (i := 5) (v := ?_) 19 rfl rfl (by kernel_rfl) (by kernel_rfl) (by kernel_rfl) (fun _ _ _ h => h) (Or.inl ⟨by rfl, ?_⟩) hHeld ?_
    rotate_left 1
    · intro w hSw; go_simp <;> with_reducible rfl
    simp only [Act.put, List.setIfInBounds_toArray, List.set_cons_zero, List.set_cons_succ]
    refine take1 (i := 6) (v := ?_) 20 rfl rfl (by kernel_rfl) (by kernel_rfl) (by kernel_rfl) (fun _ _ _ h => h) (Or.inl ⟨by rfl, ?_⟩) hHeld ?_
    rotate_left 1
    · intro w hSw; go_simp <;> with_reducible rfl
    simp only [Act.put, List.setIfInBounds_toArray, List.set_cons_zero, List.set_cons_succ]
    refine take1 (i := 7) (v := _) 21 rfl rfl (by kernel_rfl) (by kernel_rfl) (by kernel_rfl) (fun _ _ _ h => h) (yieldsIf_load_mid (by rfl) _ _ rfl _ _ rfl _ _ (fun w h => h.range (i := 0) rfl) Try.underlying22 rfl (i32 a)) hHeld ?_
    simp only [Act.put, List.setIfInBounds_toArray, List.set_cons_zero, List.set_cons_succ]
    refine take1 (i := 10) (v := _) 24 rfl rfl (by kernel_rfl) (by kernel_rfl) (by kernel_rfl) (fun _ _ _ h => h) (yieldsIf_load_mid (by rfl) _ _ rfl _ _ rfl _ _ (fun w h => h.range (i := 0) rfl) Try.underlying22 rfl (i32 a)) hHeld ?_
    simp only [Act.put, List.setIfInBounds_toArray, List.set_cons_zero, List.set_cons_succ]
    refine take1 (i := 11) (v := ?_) 25 rfl rfl (by kernel_rfl) (by kernel_rfl) (by kernel_rfl) (fun _ _ _ h => h) (Or.inl ⟨by rfl, ?_⟩) hHeld ?_
    rotate_left 1
    · intro w hSw; go_simp <;> with_reducible rfl
    simp only [Act.put, List.setIfInBounds_toArray, List.set_cons_zero, List.set_cons_succ]
    rw [lit0]
    refine wpAnyH_ready (rs := [8]) (by kernel_rfl) (by simp) ?_
    refine AllReadyH.cons rfl (fun K hK => ?_) AllReadyH.nil
    go_simp
    go_at_call 19
    refine (ia _).mono ?_
    rintro e wq ⟨rfl, hbq⟩
    refine hK.out _ _ ?_ (fun hHeld => ?_)
    · exact hHeld.call hbq
    clear hK K
    try simp only [Act.put, List.setIfInBounds_toArray, List.set_cons_zero, List.set_cons_succ]
    refine wpAnyH_ready (rs := [9]) (by kernel_rfl) (by simp) ?_
    refine AllReadyH.cons rfl (fun K hK => ?_) AllReadyH.nil
    go_simp
    go_at_call 19
    refine (ii _).mono ?_
    rintro e wq ⟨rfl, hbq⟩
    refine hK.out _ _ ?_ (fun hHeld => ?_)
    · exact hHeld.call hbq
    clear hK K
    try simp only [Act.put, List.setIfInBounds_toArray, List.set_cons_zero, List.set_cons_succ]
    refine wpAnyH_ready (rs := [12]) (by kernel_rfl) (by simp) ?_
    refine AllReadyH.cons rfl (fun K hK => ?_) AllReadyH.nil
    go_simp
    go_at_call 13
    refine (k1 _).mono ?_
    rintro e wq ⟨rfl, hbq⟩
    refine hK.out _ _ ?_ (fun hHeld => ?_)
    · exact hHeld.call hbq
    clear hK K
    try simp only [Act.put, List.setIfInBounds_toArray, List.set_cons_zero, List.set_cons_succ]
    refine take1 (i := 13) (v := ?_) 27 rfl rfl (by kernel_rfl) (by kernel_rfl) (by kernel_rfl) (fun _ _ _ h => h) (Or.inl ⟨by rfl, ?_⟩) hHeld ?_
    rotate_left 1
    · intro w hSw; go_simp <;> with_reducible rfl
    simp only [Act.put, List.setIfInBounds_toArray, List.set_cons_zero, List.set_cons_succ]
    refine take1 (i := 14) (v := ?_) 28 rfl rfl (by kernel_rfl) (by kernel_rfl) (by kernel_rfl) (fun _ _ _ h => h) (Or.inl ⟨by rfl, ?_⟩) hHeld ?_
    rotate_left 1
    · intro w hSw; go_simp <;> with_reducible rfl
    simp only [Act.put, List.setIfInBounds_toArray, List.set_cons_zero, List.set_cons_succ]
    refine take1 (i := 15) (v := ?_) 2 rfl rfl (by kernel_rfl) (by kernel_rfl) (by kernel_rfl) (fun _ _ _ h => h) (Or.inl ⟨by rfl, ?_⟩) hHeld ?_
    rotate_left 1
    · intro w hSw; go_simp <;> with_reducible rfl
    simp only [Act.put, List.setIfInBounds_toArray, List.set_cons_zero, List.set_cons_succ]
    refine wpAnyH_done (by kernel_rfl) ?_ _
    go_wp2
    go_ret
    exact ⟨rfl, hHeld.below⟩
end Go.Proofs.Ytmelibhpjmgbhaa
