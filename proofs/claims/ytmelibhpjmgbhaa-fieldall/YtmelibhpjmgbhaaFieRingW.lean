/- The walk of FieldRing. -/
import Derived.Test.YtmelibhpjmgbhaaFieL
namespace Go.Proofs.Ytmelibhpjmgbhaa
open Go Go.RowKit Go.Lib
set_option linter.unusedSimpArgs false
set_option linter.unusedVariables false
theorem subL (a b : Nat) (ha : a < RN) (hb : b < RN) (w : World) : Calls Try.prog 15 #[.agg (bl a).toArray, .agg (bl b).toArray] w fun e w' => e = .returned (.agg (bl ((a + (pp - b % pp)) % pp)).toArray) ∧ Below w.heap.size w w' := Sub_any a b ha hb w
theorem pp_pos : 0 < pp := by decide
theorem sub_back (a b : Nat) : ((a + b) % pp + (pp - b % pp)) % pp = a % pp := by
  have hb := Nat.mod_lt b pp_pos
  rw [Nat.mod_add_mod, show a + b + (pp - b % pp) = a + (pp * (b / pp)) + pp by have := Nat.div_add_mod b pp; omega, Nat.add_mod_right, Nat.add_mul_mod_self_left]
set_option maxRecDepth 100000 in
set_option maxHeartbeats 4000000 in
theorem fieldRing_walk (a b c : Nat) (ha : a < RN) (hb : b < RN) (hc : c < RN) (w : World) :
    Calls Try.prog 4 #[bv a, bv b, bv c] w fun e w' => e = .returned (.bool true) ∧ Below w.heap.size w w' := by
  obtain ⟨s1, q_s1⟩ : ∃ s, s = (a + b) % pp := ⟨_, rfl⟩
  have bs1 : s1 < RN := by rw [q_s1]; exact mod_lt_RN _
  have h_s1 : Hid (s1 = (a + b) % pp) := q_s1
  clear q_s1
  obtain ⟨s2, q_s2⟩ : ∃ s, s = (a * b) % pp := ⟨_, rfl⟩
  have bs2 : s2 < RN := by rw [q_s2]; exact mod_lt_RN _
  have h_s2 : Hid (s2 = (a * b) % pp) := q_s2
  clear q_s2
  obtain ⟨s3, q_s3⟩ : ∃ s, s = a % pp := ⟨_, rfl⟩
  have bs3 : s3 < RN := by rw [q_s3]; exact mod_lt_RN _
  have h_s3 : Hid (s3 = a % pp) := q_s3
  clear q_s3
  obtain ⟨s4, q_s4⟩ : ∃ s, s = (b + c) % pp := ⟨_, rfl⟩
  have bs4 : s4 < RN := by rw [q_s4]; exact mod_lt_RN _
  have h_s4 : Hid (s4 = (b + c) % pp) := q_s4
  clear q_s4
  obtain ⟨s5, q_s5⟩ : ∃ s, s = (a * (b + c)) % pp := ⟨_, rfl⟩
  have bs5 : s5 < RN := by rw [q_s5]; exact mod_lt_RN _
  have h_s5 : Hid (s5 = (a * (b + c)) % pp) := q_s5
  clear q_s5
  obtain ⟨s6, q_s6⟩ : ∃ s, s = (a * c) % pp := ⟨_, rfl⟩
  have bs6 : s6 < RN := by rw [q_s6]; exact mod_lt_RN _
  have h_s6 : Hid (s6 = (a * c) % pp) := q_s6
  clear q_s6
  obtain ⟨s7, q_s7⟩ : ∃ s, s = (a * b * c) % pp := ⟨_, rfl⟩
  have bs7 : s7 < RN := by rw [q_s7]; exact mod_lt_RN _
  have h_s7 : Hid (s7 = (a * b * c) % pp) := q_s7
  clear q_s7
  obtain ⟨s8, q_s8⟩ : ∃ s, s = (b * c) % pp := ⟨_, rfl⟩
  have bs8 : s8 < RN := by rw [q_s8]; exact mod_lt_RN _
  have h_s8 : Hid (s8 = (b * c) % pp) := q_s8
  clear q_s8
  have kab : ∀ w, Calls Try.prog 13 #[.agg (bl a).toArray, .agg (bl b).toArray] w fun e w' => e = .returned (.agg (bl s1).toArray) ∧ Below w.heap.size w w' := fun w => (addL a b ha hb w).mono fun e w' h => ⟨h.1.trans (congrArg (fun n => Ending.returned (.agg (bl n).toArray)) (h_s1.out.symm)), h.2⟩
  have kba : ∀ w, Calls Try.prog 13 #[.agg (bl b).toArray, .agg (bl a).toArray] w fun e w' => e = .returned (.agg (bl s1).toArray) ∧ Below w.heap.size w w' := fun w => (addL b a hb ha w).mono fun e w' h => ⟨h.1.trans (congrArg (fun n => Ending.returned (.agg (bl n).toArray)) (by rw [Nat.add_comm]; exact h_s1.out.symm)), h.2⟩
  have mab : ∀ w, Calls Try.prog 17 #[.agg (bl a).toArray, .agg (bl b).toArray] w fun e w' => e = .returned (.agg (bl s2).toArray) ∧ Below w.heap.size w w' := fun w => (mulL a b ha hb w).mono fun e w' h => ⟨h.1.trans (congrArg (fun n => Ending.returned (.agg (bl n).toArray)) (h_s2.out.symm)), h.2⟩
  have mba : ∀ w, Calls Try.prog 17 #[.agg (bl b).toArray, .agg (bl a).toArray] w fun e w' => e = .returned (.agg (bl s2).toArray) ∧ Below w.heap.size w w' := fun w => (mulL b a hb ha w).mono fun e w' h => ⟨h.1.trans (congrArg (fun n => Ending.returned (.agg (bl n).toArray)) (by rw [Nat.mul_comm]; exact h_s2.out.symm)), h.2⟩
  have ksb : ∀ w, Calls Try.prog 15 #[.agg (bl s1).toArray, .agg (bl b).toArray] w fun e w' => e = .returned (.agg (bl s3).toArray) ∧ Below w.heap.size w w' := fun w => (subL s1 b bs1 hb w).mono fun e w' h => ⟨h.1.trans (congrArg (fun n => Ending.returned (.agg (bl n).toArray)) (by rw [h_s1.out, sub_back]; exact h_s3.out.symm)), h.2⟩
  have ka0 : ∀ w, Calls Try.prog 13 #[.agg (bl a).toArray, .agg (bl 0).toArray] w fun e w' => e = .returned (.agg (bl s3).toArray) ∧ Below w.heap.size w w' := fun w => (addL a 0 ha (by decide) w).mono fun e w' h => ⟨h.1.trans (congrArg (fun n => Ending.returned (.agg (bl n).toArray)) (h_s3.out.symm)), h.2⟩
  have kbc : ∀ w, Calls Try.prog 13 #[.agg (bl b).toArray, .agg (bl c).toArray] w fun e w' => e = .returned (.agg (bl s4).toArray) ∧ Below w.heap.size w w' := fun w => (addL b c hb hc w).mono fun e w' h => ⟨h.1.trans (congrArg (fun n => Ending.returned (.agg (bl n).toArray)) (h_s4.out.symm)), h.2⟩
  have ma4 : ∀ w, Calls Try.prog 17 #[.agg (bl a).toArray, .agg (bl s4).toArray] w fun e w' => e = .returned (.agg (bl s5).toArray) ∧ Below w.heap.size w w' := fun w => (mulL a s4 ha bs4 w).mono fun e w' h => ⟨h.1.trans (congrArg (fun n => Ending.returned (.agg (bl n).toArray)) (by rw [h_s4.out, Nat.mul_mod_mod]; exact h_s5.out.symm)), h.2⟩
  have mac : ∀ w, Calls Try.prog 17 #[.agg (bl a).toArray, .agg (bl c).toArray] w fun e w' => e = .returned (.agg (bl s6).toArray) ∧ Below w.heap.size w w' := fun w => (mulL a c ha hc w).mono fun e w' h => ⟨h.1.trans (congrArg (fun n => Ending.returned (.agg (bl n).toArray)) (h_s6.out.symm)), h.2⟩
  have k26 : ∀ w, Calls Try.prog 13 #[.agg (bl s2).toArray, .agg (bl s6).toArray] w fun e w' => e = .returned (.agg (bl s5).toArray) ∧ Below w.heap.size w w' := fun w => (addL s2 s6 bs2 bs6 w).mono fun e w' h => ⟨h.1.trans (congrArg (fun n => Ending.returned (.agg (bl n).toArray)) (by rw [h_s2.out, h_s6.out, Nat.mod_add_mod, Nat.add_mod_mod, ← Nat.mul_add]; exact h_s5.out.symm)), h.2⟩
  have m2c : ∀ w, Calls Try.prog 17 #[.agg (bl s2).toArray, .agg (bl c).toArray] w fun e w' => e = .returned (.agg (bl s7).toArray) ∧ Below w.heap.size w w' := fun w => (mulL s2 c bs2 hc w).mono fun e w' h => ⟨h.1.trans (congrArg (fun n => Ending.returned (.agg (bl n).toArray)) (by rw [h_s2.out, Nat.mod_mul_mod]; exact h_s7.out.symm)), h.2⟩
  have mbc : ∀ w, Calls Try.prog 17 #[.agg (bl b).toArray, .agg (bl c).toArray] w fun e w' => e = .returned (.agg (bl s8).toArray) ∧ Below w.heap.size w w' := fun w => (mulL b c hb hc w).mono fun e w' h => ⟨h.1.trans (congrArg (fun n => Ending.returned (.agg (bl n).toArray)) (h_s8.out.symm)), h.2⟩
  have ma8 : ∀ w, Calls Try.prog 17 #[.agg (bl a).toArray, .agg (bl s8).toArray] w fun e w' => e = .returned (.agg (bl s7).toArray) ∧ Below w.heap.size w w' := fun w => (mulL a s8 ha bs8 w).mono fun e w' h => ⟨h.1.trans (congrArg (fun n => Ending.returned (.agg (bl n).toArray)) (by rw [h_s8.out, Nat.mul_mod_mod, ← Nat.mul_assoc]; exact h_s7.out.symm)), h.2⟩
  have ma1 : ∀ w, Calls Try.prog 17 #[.agg (bl a).toArray, .agg (bl 1).toArray] w fun e w' => e = .returned (.agg (bl s3).toArray) ∧ Below w.heap.size w w' := fun w => (mulL a 1 ha (by decide) w).mono fun e w' h => ⟨h.1.trans (congrArg (fun n => Ending.returned (.agg (bl n).toArray)) (by rw [Nat.mul_one]; exact h_s3.out.symm)), h.2⟩
  have e_s1 := eq_yes s1 s1 bs1 bs1 rfl
  have e_s2 := eq_yes s2 s2 bs2 bs2 rfl
  have e_s3 := eq_yes s3 s3 bs3 bs3 rfl
  have e_s5 := eq_yes s5 s5 bs5 bs5 rfl
  have e_s7 := eq_yes s7 s7 bs7 bs7 rfl
  have hza : (bl a).toArray.size = 32 := br_size a
  have hzb : (bl b).toArray.size = 32 := br_size b
  have hzc : (bl c).toArray.size = 32 := br_size c
  have HS0 := ((HH.one w (bl a) 22).more (bl b) 22).more (bl c) 22
  simp only [World.size_alloc, List.cons_append, List.nil_append] at HS0
  have HS : Hid (HH w [(w.heap.size, bl a, 22), (w.heap.size + 1, bl b, 22), (w.heap.size + 1 + 1, bl c, 22)] (((w.alloc (.cells (bl a).toArray 22)).alloc (.cells (bl b).toArray 22)).alloc (.cells (bl c).toArray 22))) := HS0
  clear HS0
  simp only [bv, br]
  go_enter Try.func4, Try.ntmps4
  go_wp2_with fail
  refine (awake_any _).mono ?_
  rintro e w1 ⟨rfl, hb1⟩
  have H1 : Hid (HH w [(w.heap.size, bl a, 22), (w.heap.size + 1, bl b, 22), (w.heap.size + 1 + 1, bl c, 22)] w1) := HS.out.call hb1
  clear HS hb1
  go_wp2
  refine wp_region_held_drew (S := (fun w' => HH w [(w.heap.size, bl a, 22), (w.heap.size + 1, bl b, 22), (w.heap.size + 1 + 1, bl c, 22)] w')) (by kernel_rfl) ?_ (fun hHeld => ?_)
  · exact H1.out.drew
  refine take1 (i := 0) (v := _) 9 rfl rfl (by kernel_rfl) (by kernel_rfl) (by kernel_rfl) (fun _ _ _ h => h) (yieldsIf_load_mid (by rfl) _ _ rfl _ _ rfl _ _ (fun w h => h.range (i := 0) rfl) Try.underlying22 rfl (i32 a)) hHeld ?_
  simp only [Act.put, List.setIfInBounds_toArray, List.set_cons_zero, List.set_cons_succ]
  refine take1 (i := 1) (v := _) 10 rfl rfl (by kernel_rfl) (by kernel_rfl) (by kernel_rfl) (fun _ _ _ h => h) (yieldsIf_load_mid (by rfl) _ _ rfl _ _ rfl _ _ (fun w h => h.range (i := 1) rfl) Try.underlying22 rfl (i32 b)) hHeld ?_
  simp only [Act.put, List.setIfInBounds_toArray, List.set_cons_zero, List.set_cons_succ]
  refine take1 (i := 3) (v := _) 12 rfl rfl (by kernel_rfl) (by kernel_rfl) (by kernel_rfl) (fun _ _ _ h => h) (yieldsIf_load_mid (by rfl) _ _ rfl _ _ rfl _ _ (fun w h => h.range (i := 1) rfl) Try.underlying22 rfl (i32 b)) hHeld ?_
  simp only [Act.put, List.setIfInBounds_toArray, List.set_cons_zero, List.set_cons_succ]
  refine take1 (i := 4) (v := _) 13 rfl rfl (by kernel_rfl) (by kernel_rfl) (by kernel_rfl) (fun _ _ _ h => h) (yieldsIf_load_mid (by rfl) _ _ rfl _ _ rfl _ _ (fun w h => h.range (i := 0) rfl) Try.underlying22 rfl (i32 a)) hHeld ?_
  simp only [Act.put, List.setIfInBounds_toArray, List.set_cons_zero, List.set_cons_succ]
  refine wpAnyH_ready (rs := [2]) (by kernel_rfl) (by simp) ?_
  refine AllReadyH.cons rfl (fun K hK => ?_) AllReadyH.nil
  go_simp
  go_at_call 13
  refine (kab _).mono ?_
  rintro e wq ⟨rfl, hbq⟩
  refine hK.out _ _ ?_ (fun hHeld => ?_)
  · exact hHeld.call hbq
  clear hK K
  try simp only [Act.put, List.setIfInBounds_toArray, List.set_cons_zero, List.set_cons_succ]
  refine wpAnyH_ready (rs := [5]) (by kernel_rfl) (by simp) ?_
  refine AllReadyH.cons rfl (fun K hK => ?_) AllReadyH.nil
  go_simp
  go_at_call 13
  refine (kba _).mono ?_
  rintro e wq ⟨rfl, hbq⟩
  refine hK.out _ _ ?_ (fun hHeld => ?_)
  · exact hHeld.call hbq
  clear hK K
  try simp only [Act.put, List.setIfInBounds_toArray, List.set_cons_zero, List.set_cons_succ]
  refine take1 (i := 6) (v := ?_) 15 rfl rfl (by kernel_rfl) (by kernel_rfl) (by kernel_rfl) (fun _ _ _ h => h) (Or.inl ⟨by rfl, ?_⟩) hHeld ?_
  rotate_left 1
  · intro w hSw; go_simp <;> with_reducible rfl
  simp only [Act.put, List.setIfInBounds_toArray, List.set_cons_zero, List.set_cons_succ]
  refine take1 (i := 7) (v := ?_) 16 rfl rfl (by kernel_rfl) (by kernel_rfl) (by kernel_rfl) (fun _ _ _ h => h) (Or.inl ⟨by rfl, ?_⟩) hHeld ?_
  rotate_left 1
  · intro w hSw; go_simp <;> with_reducible rfl
  simp only [Act.put, List.setIfInBounds_toArray, List.set_cons_zero, List.set_cons_succ]
  refine take1 (i := 8) (v := _) 17 rfl rfl (by kernel_rfl) (by kernel_rfl) (by kernel_rfl) (fun _ _ _ h => h) (yieldsIf_load_mid (by rfl) _ _ rfl _ _ rfl _ _ (fun w h => h.range (i := 0) rfl) Try.underlying22 rfl (i32 a)) hHeld ?_
  simp only [Act.put, List.setIfInBounds_toArray, List.set_cons_zero, List.set_cons_succ]
  refine take1 (i := 9) (v := _) 18 rfl rfl (by kernel_rfl) (by kernel_rfl) (by kernel_rfl) (fun _ _ _ h => h) (yieldsIf_load_mid (by rfl) _ _ rfl _ _ rfl _ _ (fun w h => h.range (i := 1) rfl) Try.underlying22 rfl (i32 b)) hHeld ?_
  simp only [Act.put, List.setIfInBounds_toArray, List.set_cons_zero, List.set_cons_succ]
  refine take1 (i := 11) (v := _) 20 rfl rfl (by kernel_rfl) (by kernel_rfl) (by kernel_rfl) (fun _ _ _ h => h) (yieldsIf_load_mid (by rfl) _ _ rfl _ _ rfl _ _ (fun w h => h.range (i := 1) rfl) Try.underlying22 rfl (i32 b)) hHeld ?_
  simp only [Act.put, List.setIfInBounds_toArray, List.set_cons_zero, List.set_cons_succ]
  refine take1 (i := 12) (v := _) 21 rfl rfl (by kernel_rfl) (by kernel_rfl) (by kernel_rfl) (fun _ _ _ h => h) (yieldsIf_load_mid (by rfl) _ _ rfl _ _ rfl _ _ (fun w h => h.range (i := 0) rfl) Try.underlying22 rfl (i32 a)) hHeld ?_
  simp only [Act.put, List.setIfInBounds_toArray, List.set_cons_zero, List.set_cons_succ]
  refine wpAnyH_ready (rs := [10]) (by kernel_rfl) (by simp) ?_
  refine AllReadyH.cons rfl (fun K hK => ?_) AllReadyH.nil
  go_simp
  go_at_call 17
  refine (mab _).mono ?_
  rintro e wq ⟨rfl, hbq⟩
  refine hK.out _ _ ?_ (fun hHeld => ?_)
  · exact hHeld.call hbq
  clear hK K
  try simp only [Act.put, List.setIfInBounds_toArray, List.set_cons_zero, List.set_cons_succ]
  refine wpAnyH_ready (rs := [13]) (by kernel_rfl) (by simp) ?_
  refine AllReadyH.cons rfl (fun K hK => ?_) AllReadyH.nil
  go_simp
  go_at_call 17
  refine (mba _).mono ?_
  rintro e wq ⟨rfl, hbq⟩
  refine hK.out _ _ ?_ (fun hHeld => ?_)
  · exact hHeld.call hbq
  clear hK K
  try simp only [Act.put, List.setIfInBounds_toArray, List.set_cons_zero, List.set_cons_succ]
  refine take1 (i := 14) (v := ?_) 23 rfl rfl (by kernel_rfl) (by kernel_rfl) (by kernel_rfl) (fun _ _ _ h => h) (Or.inl ⟨by rfl, ?_⟩) hHeld ?_
  rotate_left 1
  · intro w hSw; go_simp <;> with_reducible rfl
  simp only [Act.put, List.setIfInBounds_toArray, List.set_cons_zero, List.set_cons_succ]
  refine take1 (i := 15) (v := ?_) 24 rfl rfl (by kernel_rfl) (by kernel_rfl) (by kernel_rfl) (fun _ _ _ h => h) (Or.inl ⟨by rfl, ?_⟩) hHeld ?_
  rotate_left 1
  · intro w hSw; go_simp <;> with_reducible rfl
  simp only [Act.put, List.setIfInBounds_toArray, List.set_cons_zero, List.set_cons_succ]
  refine take1 (i := 16) (v := ?_) 25 rfl rfl (by kernel_rfl) (by kernel_rfl) (by kernel_rfl) (fun _ _ _ h => h) (Or.inl ⟨by rfl, ?_⟩) hHeld ?_
  rotate_left 1
  · intro w hSw; go_simp <;> with_reducible rfl
  simp only [Act.put, List.setIfInBounds_toArray, List.set_cons_zero, List.set_cons_succ]
  refine take1 (i := 17) (v := _) 26 rfl rfl (by kernel_rfl) (by kernel_rfl) (by kernel_rfl) (fun _ _ _ h => h) (yieldsIf_load_mid (by rfl) _ _ rfl _ _ rfl _ _ (fun w h => h.range (i := 0) rfl) Try.underlying22 rfl (i32 a)) hHeld ?_
  simp only [Act.put, List.setIfInBounds_toArray, List.set_cons_zero, List.set_cons_succ]
  refine take1 (i := 18) (v := _) 27 rfl rfl (by kernel_rfl) (by kernel_rfl) (by kernel_rfl) (fun _ _ _ h => h) (yieldsIf_load_mid (by rfl) _ _ rfl _ _ rfl _ _ (fun w h => h.range (i := 1) rfl) Try.underlying22 rfl (i32 b)) hHeld ?_
  simp only [Act.put, List.setIfInBounds_toArray, List.set_cons_zero, List.set_cons_succ]
  refine take1 (i := 20) (v := _) 29 rfl rfl (by kernel_rfl) (by kernel_rfl) (by kernel_rfl) (fun _ _ _ h => h) (yieldsIf_load_mid (by rfl) _ _ rfl _ _ rfl _ _ (fun w h => h.range (i := 1) rfl) Try.underlying22 rfl (i32 b)) hHeld ?_
  simp only [Act.put, List.setIfInBounds_toArray, List.set_cons_zero, List.set_cons_succ]
  refine take1 (i := 22) (v := _) 31 rfl rfl (by kernel_rfl) (by kernel_rfl) (by kernel_rfl) (fun _ _ _ h => h) (yieldsIf_load_mid (by rfl) _ _ rfl _ _ rfl _ _ (fun w h => h.range (i := 0) rfl) Try.underlying22 rfl (i32 a)) hHeld ?_
  simp only [Act.put, List.setIfInBounds_toArray, List.set_cons_zero, List.set_cons_succ]
  refine take1 (i := 23) (v := ?_) 32 rfl rfl (by kernel_rfl) (by kernel_rfl) (by kernel_rfl) (fun _ _ _ h => h) (Or.inl ⟨by rfl, ?_⟩) hHeld ?_
  rotate_left 1
  · intro w hSw; go_simp <;> with_reducible rfl
  simp only [Act.put, List.setIfInBounds_toArray, List.set_cons_zero, List.set_cons_succ]
  rw [lit0]
  refine wpAnyH_ready (rs := [19]) (by kernel_rfl) (by simp) ?_
  refine AllReadyH.cons rfl (fun K hK => ?_) AllReadyH.nil
  go_simp
  go_at_call 13
  refine (kab _).mono ?_
  rintro e wq ⟨rfl, hbq⟩
  refine hK.out _ _ ?_ (fun hHeld => ?_)
  · exact hHeld.call hbq
  clear hK K
  try simp only [Act.put, List.setIfInBounds_toArray, List.set_cons_zero, List.set_cons_succ]
  refine wpAnyH_ready (rs := [21]) (by kernel_rfl) (by simp) ?_
  refine AllReadyH.cons rfl (fun K hK => ?_) AllReadyH.nil
  go_simp
  go_at_call 15
  refine (ksb _).mono ?_
  rintro e wq ⟨rfl, hbq⟩
  refine hK.out _ _ ?_ (fun hHeld => ?_)
  · exact hHeld.call hbq
  clear hK K
  try simp only [Act.put, List.setIfInBounds_toArray, List.set_cons_zero, List.set_cons_succ]
  refine wpAnyH_ready (rs := [24]) (by kernel_rfl) (by simp) ?_
  refine AllReadyH.cons rfl (fun K hK => ?_) AllReadyH.nil
  go_simp
  go_at_call 13
  refine (ka0 _).mono ?_
  rintro e wq ⟨rfl, hbq⟩
  refine hK.out _ _ ?_ (fun hHeld => ?_)
  · exact hHeld.call hbq
  clear hK K
  try simp only [Act.put, List.setIfInBounds_toArray, List.set_cons_zero, List.set_cons_succ]
  refine take1 (i := 25) (v := ?_) 34 rfl rfl (by kernel_rfl) (by kernel_rfl) (by kernel_rfl) (fun _ _ _ h => h) (Or.inl ⟨by rfl, ?_⟩) hHeld ?_
  rotate_left 1
  · intro w hSw; go_simp <;> with_reducible rfl
  simp only [Act.put, List.setIfInBounds_toArray, List.set_cons_zero, List.set_cons_succ]
  refine take1 (i := 26) (v := ?_) 35 rfl rfl (by kernel_rfl) (by kernel_rfl) (by kernel_rfl) (fun _ _ _ h => h) (Or.inl ⟨by rfl, ?_⟩) hHeld ?_
  rotate_left 1
  · intro w hSw; go_simp <;> with_reducible rfl
  simp only [Act.put, List.setIfInBounds_toArray, List.set_cons_zero, List.set_cons_succ]
  refine wpAnyH_done (by kernel_rfl) ?_ _
  have H2 : Hid (HH w [(w.heap.size, bl a, 22), (w.heap.size + 1, bl b, 22), (w.heap.size + 1 + 1, bl c, 22)] _) := hHeld
  clear hHeld H1
  go_wp2
  refine wp_region_held_drew (S := (fun w' => HH w [(w.heap.size, bl a, 22), (w.heap.size + 1, bl b, 22), (w.heap.size + 1 + 1, bl c, 22)] w')) (by kernel_rfl) ?_ (fun hHeld => ?_)
  · exact H2.out.drew
  refine take1 (i := 0) (v := _) 36 rfl rfl (by kernel_rfl) (by kernel_rfl) (by kernel_rfl) (fun _ _ _ h => h) (yieldsIf_load_mid (by rfl) _ _ rfl _ _ rfl _ _ (fun w h => h.range (i := 0) rfl) Try.underlying22 rfl (i32 a)) hHeld ?_
  simp only [Act.put, List.setIfInBounds_toArray, List.set_cons_zero, List.set_cons_succ]
  refine take1 (i := 1) (v := _) 37 rfl rfl (by kernel_rfl) (by kernel_rfl) (by kernel_rfl) (fun _ _ _ h => h) (yieldsIf_load_mid (by rfl) _ _ rfl _ _ rfl _ _ (fun w h => h.range (i := 1) rfl) Try.underlying22 rfl (i32 b)) hHeld ?_
  simp only [Act.put, List.setIfInBounds_toArray, List.set_cons_zero, List.set_cons_succ]
  refine take1 (i := 2) (v := _) 38 rfl rfl (by kernel_rfl) (by kernel_rfl) (by kernel_rfl) (fun _ _ _ h => h) (yieldsIf_load_mid (by rfl) _ _ rfl _ _ rfl _ _ (fun w h => h.range (i := 2) rfl) Try.underlying22 rfl (i32 c)) hHeld ?_
  simp only [Act.put, List.setIfInBounds_toArray, List.set_cons_zero, List.set_cons_succ]
  refine take1 (i := 5) (v := _) 41 rfl rfl (by kernel_rfl) (by kernel_rfl) (by kernel_rfl) (fun _ _ _ h => h) (yieldsIf_load_mid (by rfl) _ _ rfl _ _ rfl _ _ (fun w h => h.range (i := 0) rfl) Try.underlying22 rfl (i32 a)) hHeld ?_
  simp only [Act.put, List.setIfInBounds_toArray, List.set_cons_zero, List.set_cons_succ]
  refine take1 (i := 6) (v := _) 42 rfl rfl (by kernel_rfl) (by kernel_rfl) (by kernel_rfl) (fun _ _ _ h => h) (yieldsIf_load_mid (by rfl) _ _ rfl _ _ rfl _ _ (fun w h => h.range (i := 1) rfl) Try.underlying22 rfl (i32 b)) hHeld ?_
  simp only [Act.put, List.setIfInBounds_toArray, List.set_cons_zero, List.set_cons_succ]
  refine take1 (i := 8) (v := _) 44 rfl rfl (by kernel_rfl) (by kernel_rfl) (by kernel_rfl) (fun _ _ _ h => h) (yieldsIf_load_mid (by rfl) _ _ rfl _ _ rfl _ _ (fun w h => h.range (i := 0) rfl) Try.underlying22 rfl (i32 a)) hHeld ?_
  simp only [Act.put, List.setIfInBounds_toArray, List.set_cons_zero, List.set_cons_succ]
  refine take1 (i := 9) (v := _) 45 rfl rfl (by kernel_rfl) (by kernel_rfl) (by kernel_rfl) (fun _ _ _ h => h) (yieldsIf_load_mid (by rfl) _ _ rfl _ _ rfl _ _ (fun w h => h.range (i := 2) rfl) Try.underlying22 rfl (i32 c)) hHeld ?_
  simp only [Act.put, List.setIfInBounds_toArray, List.set_cons_zero, List.set_cons_succ]
  refine wpAnyH_ready (rs := [3]) (by kernel_rfl) (by simp) ?_
  refine AllReadyH.cons rfl (fun K hK => ?_) AllReadyH.nil
  go_simp
  go_at_call 13
  refine (kbc _).mono ?_
  rintro e wq ⟨rfl, hbq⟩
  refine hK.out _ _ ?_ (fun hHeld => ?_)
  · exact hHeld.call hbq
  clear hK K
  try simp only [Act.put, List.setIfInBounds_toArray, List.set_cons_zero, List.set_cons_succ]
  refine wpAnyH_ready (rs := [4]) (by kernel_rfl) (by simp) ?_
  refine AllReadyH.cons rfl (fun K hK => ?_) AllReadyH.nil
  go_simp
  go_at_call 17
  refine (ma4 _).mono ?_
  rintro e wq ⟨rfl, hbq⟩
  refine hK.out _ _ ?_ (fun hHeld => ?_)
  · exact hHeld.call hbq
  clear hK K
  try simp only [Act.put, List.setIfInBounds_toArray, List.set_cons_zero, List.set_cons_succ]
  refine wpAnyH_ready (rs := [7]) (by kernel_rfl) (by simp) ?_
  refine AllReadyH.cons rfl (fun K hK => ?_) AllReadyH.nil
  go_simp
  go_at_call 17
  refine (mab _).mono ?_
  rintro e wq ⟨rfl, hbq⟩
  refine hK.out _ _ ?_ (fun hHeld => ?_)
  · exact hHeld.call hbq
  clear hK K
  try simp only [Act.put, List.setIfInBounds_toArray, List.set_cons_zero, List.set_cons_succ]
  refine wpAnyH_ready (rs := [10]) (by kernel_rfl) (by simp) ?_
  refine AllReadyH.cons rfl (fun K hK => ?_) AllReadyH.nil
  go_simp
  go_at_call 17
  refine (mac _).mono ?_
  rintro e wq ⟨rfl, hbq⟩
  refine hK.out _ _ ?_ (fun hHeld => ?_)
  · exact hHeld.call hbq
  clear hK K
  try simp only [Act.put, List.setIfInBounds_toArray, List.set_cons_zero, List.set_cons_succ]
  refine wpAnyH_ready (rs := [11]) (by kernel_rfl) (by simp) ?_
  refine AllReadyH.cons rfl (fun K hK => ?_) AllReadyH.nil
  go_simp
  go_at_call 13
  refine (k26 _).mono ?_
  rintro e wq ⟨rfl, hbq⟩
  refine hK.out _ _ ?_ (fun hHeld => ?_)
  · exact hHeld.call hbq
  clear hK K
  try simp only [Act.put, List.setIfInBounds_toArray, List.set_cons_zero, List.set_cons_succ]
  refine take1 (i := 12) (v := ?_) 48 rfl rfl (by kernel_rfl) (by kernel_rfl) (by kernel_rfl) (fun _ _ _ h => h) (Or.inl ⟨by rfl, ?_⟩) hHeld ?_
  rotate_left 1
  · intro w hSw; go_simp <;> with_reducible rfl
  simp only [Act.put, List.setIfInBounds_toArray, List.set_cons_zero, List.set_cons_succ]
  refine take1 (i := 13) (v := ?_) 49 rfl rfl (by kernel_rfl) (by kernel_rfl) (by kernel_rfl) (fun _ _ _ h => h) (Or.inl ⟨by rfl, ?_⟩) hHeld ?_
  rotate_left 1
  · intro w hSw; go_simp <;> with_reducible rfl
  simp only [Act.put, List.setIfInBounds_toArray, List.set_cons_zero, List.set_cons_succ]
  refine take1 (i := 14) (v := _) 50 rfl rfl (by kernel_rfl) (by kernel_rfl) (by kernel_rfl) (fun _ _ _ h => h) (yieldsIf_load_mid (by rfl) _ _ rfl _ _ rfl _ _ (fun w h => h.range (i := 0) rfl) Try.underlying22 rfl (i32 a)) hHeld ?_
  simp only [Act.put, List.setIfInBounds_toArray, List.set_cons_zero, List.set_cons_succ]
  refine take1 (i := 15) (v := _) 51 rfl rfl (by kernel_rfl) (by kernel_rfl) (by kernel_rfl) (fun _ _ _ h => h) (yieldsIf_load_mid (by rfl) _ _ rfl _ _ rfl _ _ (fun w h => h.range (i := 1) rfl) Try.underlying22 rfl (i32 b)) hHeld ?_
  simp only [Act.put, List.setIfInBounds_toArray, List.set_cons_zero, List.set_cons_succ]
  refine take1 (i := 17) (v := _) 53 rfl rfl (by kernel_rfl) (by kernel_rfl) (by kernel_rfl) (fun _ _ _ h => h) (yieldsIf_load_mid (by rfl) _ _ rfl _ _ rfl _ _ (fun w h => h.range (i := 2) rfl) Try.underlying22 rfl (i32 c)) hHeld ?_
  simp only [Act.put, List.setIfInBounds_toArray, List.set_cons_zero, List.set_cons_succ]
  refine take1 (i := 19) (v := _) 55 rfl rfl (by kernel_rfl) (by kernel_rfl) (by kernel_rfl) (fun _ _ _ h => h) (yieldsIf_load_mid (by rfl) _ _ rfl _ _ rfl _ _ (fun w h => h.range (i := 0) rfl) Try.underlying22 rfl (i32 a)) hHeld ?_
  simp only [Act.put, List.setIfInBounds_toArray, List.set_cons_zero, List.set_cons_succ]
  refine take1 (i := 20) (v := _) 56 rfl rfl (by kernel_rfl) (by kernel_rfl) (by kernel_rfl) (fun _ _ _ h => h) (yieldsIf_load_mid (by rfl) _ _ rfl _ _ rfl _ _ (fun w h => h.range (i := 1) rfl) Try.underlying22 rfl (i32 b)) hHeld ?_
  simp only [Act.put, List.setIfInBounds_toArray, List.set_cons_zero, List.set_cons_succ]
  refine take1 (i := 21) (v := _) 57 rfl rfl (by kernel_rfl) (by kernel_rfl) (by kernel_rfl) (fun _ _ _ h => h) (yieldsIf_load_mid (by rfl) _ _ rfl _ _ rfl _ _ (fun w h => h.range (i := 2) rfl) Try.underlying22 rfl (i32 c)) hHeld ?_
  simp only [Act.put, List.setIfInBounds_toArray, List.set_cons_zero, List.set_cons_succ]
  refine wpAnyH_ready (rs := [16]) (by kernel_rfl) (by simp) ?_
  refine AllReadyH.cons rfl (fun K hK => ?_) AllReadyH.nil
  go_simp
  go_at_call 17
  refine (mab _).mono ?_
  rintro e wq ⟨rfl, hbq⟩
  refine hK.out _ _ ?_ (fun hHeld => ?_)
  · exact hHeld.call hbq
  clear hK K
  try simp only [Act.put, List.setIfInBounds_toArray, List.set_cons_zero, List.set_cons_succ]
  refine wpAnyH_ready (rs := [18]) (by kernel_rfl) (by simp) ?_
  refine AllReadyH.cons rfl (fun K hK => ?_) AllReadyH.nil
  go_simp
  go_at_call 17
  refine (m2c _).mono ?_
  rintro e wq ⟨rfl, hbq⟩
  refine hK.out _ _ ?_ (fun hHeld => ?_)
  · exact hHeld.call hbq
  clear hK K
  try simp only [Act.put, List.setIfInBounds_toArray, List.set_cons_zero, List.set_cons_succ]
  refine wpAnyH_ready (rs := [22]) (by kernel_rfl) (by simp) ?_
  refine AllReadyH.cons rfl (fun K hK => ?_) AllReadyH.nil
  go_simp
  go_at_call 17
  refine (mbc _).mono ?_
  rintro e wq ⟨rfl, hbq⟩
  refine hK.out _ _ ?_ (fun hHeld => ?_)
  · exact hHeld.call hbq
  clear hK K
  try simp only [Act.put, List.setIfInBounds_toArray, List.set_cons_zero, List.set_cons_succ]
  refine wpAnyH_ready (rs := [23]) (by kernel_rfl) (by simp) ?_
  refine AllReadyH.cons rfl (fun K hK => ?_) AllReadyH.nil
  go_simp
  go_at_call 17
  refine (ma8 _).mono ?_
  rintro e wq ⟨rfl, hbq⟩
  refine hK.out _ _ ?_ (fun hHeld => ?_)
  · exact hHeld.call hbq
  clear hK K
  try simp only [Act.put, List.setIfInBounds_toArray, List.set_cons_zero, List.set_cons_succ]
  refine take1 (i := 24) (v := ?_) 60 rfl rfl (by kernel_rfl) (by kernel_rfl) (by kernel_rfl) (fun _ _ _ h => h) (Or.inl ⟨by rfl, ?_⟩) hHeld ?_
  rotate_left 1
  · intro w hSw; go_simp <;> with_reducible rfl
  simp only [Act.put, List.setIfInBounds_toArray, List.set_cons_zero, List.set_cons_succ]
  refine take1 (i := 25) (v := ?_) 61 rfl rfl (by kernel_rfl) (by kernel_rfl) (by kernel_rfl) (fun _ _ _ h => h) (Or.inl ⟨by rfl, ?_⟩) hHeld ?_
  rotate_left 1
  · intro w hSw; go_simp <;> with_reducible rfl
  simp only [Act.put, List.setIfInBounds_toArray, List.set_cons_zero, List.set_cons_succ]
  refine take1 (i := 26) (v := ?_) 62 rfl rfl (by kernel_rfl) (by kernel_rfl) (by kernel_rfl) (fun _ _ _ h => h) (Or.inl ⟨by rfl, ?_⟩) hHeld ?_
  rotate_left 1
  · intro w hSw; go_simp <;> with_reducible rfl
  simp only [Act.put, List.setIfInBounds_toArray, List.set_cons_zero, List.set_cons_succ]
  refine take1 (i := 27) (v := _) 63 rfl rfl (by kernel_rfl) (by kernel_rfl) (by kernel_rfl) (fun _ _ _ h => h) (yieldsIf_load_mid (by rfl) _ _ rfl _ _ rfl _ _ (fun w h => h.range (i := 0) rfl) Try.underlying22 rfl (i32 a)) hHeld ?_
  simp only [Act.put, List.setIfInBounds_toArray, List.set_cons_zero, List.set_cons_succ]
  refine take1 (i := 28) (v := ?_) 64 rfl rfl (by kernel_rfl) (by kernel_rfl) (by kernel_rfl) (fun _ _ _ h => h) (Or.inl ⟨by rfl, ?_⟩) hHeld ?_
  rotate_left 1
  · intro w hSw; go_simp <;> with_reducible rfl
  simp only [Act.put, List.setIfInBounds_toArray, List.set_cons_zero, List.set_cons_succ]
  rw [lit1]
  refine take1 (i := 30) (v := _) 66 rfl rfl (by kernel_rfl) (by kernel_rfl) (by kernel_rfl) (fun _ _ _ h => h) (yieldsIf_load_mid (by rfl) _ _ rfl _ _ rfl _ _ (fun w h => h.range (i := 0) rfl) Try.underlying22 rfl (i32 a)) hHeld ?_
  simp only [Act.put, List.setIfInBounds_toArray, List.set_cons_zero, List.set_cons_succ]
  refine take1 (i := 31) (v := ?_) 67 rfl rfl (by kernel_rfl) (by kernel_rfl) (by kernel_rfl) (fun _ _ _ h => h) (Or.inl ⟨by rfl, ?_⟩) hHeld ?_
  rotate_left 1
  · intro w hSw; go_simp <;> with_reducible rfl
  simp only [Act.put, List.setIfInBounds_toArray, List.set_cons_zero, List.set_cons_succ]
  rw [lit0]
  refine wpAnyH_ready (rs := [29]) (by kernel_rfl) (by simp) ?_
  refine AllReadyH.cons rfl (fun K hK => ?_) AllReadyH.nil
  go_simp
  go_at_call 17
  refine (ma1 _).mono ?_
  rintro e wq ⟨rfl, hbq⟩
  refine hK.out _ _ ?_ (fun hHeld => ?_)
  · exact hHeld.call hbq
  clear hK K
  try simp only [Act.put, List.setIfInBounds_toArray, List.set_cons_zero, List.set_cons_succ]
  refine wpAnyH_ready (rs := [32]) (by kernel_rfl) (by simp) ?_
  refine AllReadyH.cons rfl (fun K hK => ?_) AllReadyH.nil
  go_simp
  go_at_call 13
  refine (ka0 _).mono ?_
  rintro e wq ⟨rfl, hbq⟩
  refine hK.out _ _ ?_ (fun hHeld => ?_)
  · exact hHeld.call hbq
  clear hK K
  try simp only [Act.put, List.setIfInBounds_toArray, List.set_cons_zero, List.set_cons_succ]
  refine take1 (i := 33) (v := ?_) 69 rfl rfl (by kernel_rfl) (by kernel_rfl) (by kernel_rfl) (fun _ _ _ h => h) (Or.inl ⟨by rfl, ?_⟩) hHeld ?_
  rotate_left 1
  · intro w hSw; go_simp <;> with_reducible rfl
  simp only [Act.put, List.setIfInBounds_toArray, List.set_cons_zero, List.set_cons_succ]
  refine take1 (i := 34) (v := ?_) 70 rfl rfl (by kernel_rfl) (by kernel_rfl) (by kernel_rfl) (fun _ _ _ h => h) (Or.inl ⟨by rfl, ?_⟩) hHeld ?_
  rotate_left 1
  · intro w hSw; go_simp <;> with_reducible rfl
  simp only [Act.put, List.setIfInBounds_toArray, List.set_cons_zero, List.set_cons_succ]
  refine take1 (i := 35) (v := ?_) 6 rfl rfl (by kernel_rfl) (by kernel_rfl) (by kernel_rfl) (fun _ _ _ h => h) (Or.inl ⟨by rfl, ?_⟩) hHeld ?_
  rotate_left 1
  · intro w hSw; go_simp <;> with_reducible rfl
  simp only [Act.put, List.setIfInBounds_toArray, List.set_cons_zero, List.set_cons_succ]
  refine wpAnyH_done (by kernel_rfl) ?_ _
  go_wp2
  go_ret
  exact ⟨rfl, hHeld.below⟩
end Go.Proofs.Ytmelibhpjmgbhaa
