/- The walk of FieldAll. -/
import Derived.Test.YtmelibhpjmgbhaaFieRM
import Derived.Test.YtmelibhpjmgbhaaFieRootW
namespace Go.Proofs.Ytmelibhpjmgbhaa
open Go Go.RowKit Go.Lib
set_option linter.unusedSimpArgs false
set_option linter.unusedVariables false
set_option maxRecDepth 100000 in
set_option maxHeartbeats 4000000 in
theorem fieldAll_walk (a b : Nat) (ha : a < RN) (hb : b < RN) (w : World) :
    Calls Try.prog 3 #[bv a, bv b] w fun e w' => e = .returned (.bool true) ∧ Below w.heap.size w w' := by
  have hz := zero_32
  have hza : (bl a).toArray.size = 32 := br_size a
  have hzb : (bl b).toArray.size = 32 := br_size b
  have hz0 : (bl 0).toArray.size = 32 := br_size 0
  have HS0 := (HH.one w (bl a) 22).more (bl b) 22
  simp only [World.size_alloc, List.cons_append, List.nil_append] at HS0
  have HS : Hid (HH w [(w.heap.size, bl a, 22), (w.heap.size + 1, bl b, 22)] ((w.alloc (.cells (bl a).toArray 22)).alloc (.cells (bl b).toArray 22))) := HS0
  clear HS0
  obtain ⟨s1, q_s1⟩ : ∃ s, s = (a + b) % pp := ⟨_, rfl⟩
  have bs1 : s1 < RN := by rw [q_s1]; exact mod_lt_RN _
  obtain ⟨s2, q_s2⟩ : ∃ s, s = (a + (pp - b % pp)) % pp := ⟨_, rfl⟩
  have bs2 : s2 < RN := by rw [q_s2]; exact mod_lt_RN _
  obtain ⟨s3, q_s3⟩ : ∃ s, s = (a * b) % pp := ⟨_, rfl⟩
  have bs3 : s3 < RN := by rw [q_s3]; exact mod_lt_RN _
  obtain ⟨s4, q_s4⟩ : ∃ s, s = a ^ (pp - 2) % pp := ⟨_, rfl⟩
  have bs4 : s4 < RN := by rw [q_s4]; exact mod_lt_RN _
  obtain ⟨r, q_r⟩ : ∃ r, r = sqv a := ⟨_, rfl⟩
  obtain ⟨E, q_E⟩ : ∃ E, E = sqe a := ⟨_, rfl⟩
  obtain ⟨Bo, q_B⟩ : ∃ B, B = decide (a < pp) := ⟨_, rfl⟩
  have br0 : r < RN := by
    rw [q_r, sqv]
    split
    · exact Nat.lt_trans (ev_lt _ (rt_lt a)) pp_lt
    · decide
  have ca : ∀ w, Calls Try.prog 11 #[.agg (bl a).toArray] w fun e w' => e = .returned (.bool Bo) ∧ Below w.heap.size w w' := fun w => by
    have := canL a ha w
    rw [← q_B] at this
    exact this
  have da : ∀ w, Calls Try.prog 12 #[.agg (bl a).toArray] w fun e w' => e = .returned (.bool Bo) ∧ Below w.heap.size w w' := fun w => by
    have := rCanonical_any a ha w
    rw [← q_B] at this
    exact this
  have kab : ∀ w, Calls Try.prog 13 #[.agg (bl a).toArray, .agg (bl b).toArray] w fun e w' => e = .returned (.agg (bl s1).toArray) ∧ Below w.heap.size w w' := fun w => by
    have := addL a b ha hb w
    rw [← q_s1] at this
    exact this
  have rab : ∀ w, Calls Try.prog 14 #[.agg (bl a).toArray, .agg (bl b).toArray] w fun e w' => e = .returned (.agg (bl s1).toArray) ∧ Below w.heap.size w w' := fun w => by
    have := rAdd_any a b ha hb w
    rw [← q_s1] at this
    exact this
  have sab : ∀ w, Calls Try.prog 15 #[.agg (bl a).toArray, .agg (bl b).toArray] w fun e w' => e = .returned (.agg (bl s2).toArray) ∧ Below w.heap.size w w' := fun w => by
    have := subL a b ha hb w
    rw [← q_s2] at this
    exact this
  have tab : ∀ w, Calls Try.prog 16 #[.agg (bl a).toArray, .agg (bl b).toArray] w fun e w' => e = .returned (.agg (bl s2).toArray) ∧ Below w.heap.size w w' := fun w => by
    have := rSub_any a b ha hb w
    rw [← q_s2] at this
    exact this
  have mab : ∀ w, Calls Try.prog 17 #[.agg (bl a).toArray, .agg (bl b).toArray] w fun e w' => e = .returned (.agg (bl s3).toArray) ∧ Below w.heap.size w w' := fun w => by
    have := mulL a b ha hb w
    rw [← q_s3] at this
    exact this
  have nab : ∀ w, Calls Try.prog 18 #[.agg (bl a).toArray, .agg (bl b).toArray] w fun e w' => e = .returned (.agg (bl s3).toArray) ∧ Below w.heap.size w w' := fun w => by
    have := rMul_any a b ha hb w
    rw [← q_s3] at this
    exact this
  have ia : ∀ w, Calls Try.prog 19 #[.agg (bl a).toArray] w fun e w' => e = .returned (.agg (bl s4).toArray) ∧ Below w.heap.size w w' := fun w => by
    have := invL a ha w
    rw [← q_s4] at this
    exact this
  have ja : ∀ w, Calls Try.prog 20 #[.agg (bl a).toArray] w fun e w' => e = .returned (.agg (bl s4).toArray) ∧ Below w.heap.size w w' := fun w => by
    have := rInv_any a ha w
    rw [← q_s4] at this
    exact this
  have qa : ∀ w, Calls Try.prog 9 #[.agg (bl a).toArray] w fun e w' => e = .returned (.tuple #[.agg (bl r).toArray, .int .i64 E]) ∧ Below w.heap.size w w' := fun w => by
    have := sqrtL a ha w
    rw [← q_r, ← q_E] at this
    exact this
  have ra : ∀ w, Calls Try.prog 10 #[.agg (bl a).toArray] w fun e w' => e = .returned (.tuple #[.agg (bl r).toArray, .int .i64 E]) ∧ Below w.heap.size w w' := fun w => by
    have := rSqrt_any a ha w
    rw [← q_r, ← q_E] at this
    exact this
  have e_s1 := eq_yes s1 s1 bs1 bs1 rfl
  have e_s2 := eq_yes s2 s2 bs2 bs2 rfl
  have e_s3 := eq_yes s3 s3 bs3 bs3 rfl
  have e_s4 := eq_yes s4 s4 bs4 bs4 rfl
  have e_r := eq_yes r r br0 br0 rfl
  clear q_s1 q_s2 q_s3 q_s4 q_r q_E q_B
  simp only [bv, br] at hz ⊢
  go_enter Try.func3, Try.ntmps3
  go_wp2_with fail
  refine (awake_any _).mono ?_
  rintro e w1 ⟨rfl, hb1⟩
  have H1 : Hid (HH w [(w.heap.size, bl a, 22), (w.heap.size + 1, bl b, 22)] w1) := HS.out.call hb1
  have C1 : Hid (World.rangeAt _ w.heap.size 0 (bl a)) := H1.out.range (i := 0) rfl
  clear HS hb1
  go_wp2_with (first | (refine wpList_load_mid rfl 22 _ rfl (w.heap.size) 0 rfl (bl a) _ C1.out Try.underlying22 rfl (i32 a) ?_))
  refine (qa _).mono ?_
  rintro e wr ⟨rfl, hbr⟩
  have H2 : Hid (HH w [(w.heap.size, bl a, 22), (w.heap.size + 1, bl b, 22)] wr) := H1.out.call hbr
  have H3a : Hid (HH w [(w.heap.size, bl a, 22), (w.heap.size + 1, bl b, 22), (wr.heap.size, bl r, 22)] ((wr.alloc (.cells (bl 0).toArray 22)).setCells wr.heap.size 0 (bl r))) := H2.out.var r
  have T3 : Hid ((wr.alloc (.cells (bl 0).toArray 22)).there wr.heap.size 0 (br r).size) := var_there wr r
  clear hbr H1 C1
  go_wp2_with (first | (refine wpList_store_midL rfl 22 _ _ rfl (wr.heap.size) 0 (bl r) rfl rfl T3.out (i32 r) (br_one _) ?_; intro x3 hx3; have H3 : Hid (HH w [(w.heap.size, bl a, 22), (w.heap.size + 1, bl b, 22), (wr.heap.size, bl r, 22)] x3) := (by rw [hx3]; exact H3a.out); have C3 : Hid (x3.rangeAt w.heap.size 0 (bl a)) := H3.out.range (i := 0) rfl; clear hx3) | (refine wpList_load_mid rfl 22 _ rfl (w.heap.size) 0 rfl (bl a) _ C3.out Try.underlying22 rfl (i32 a) ?_))
  refine (ra _).mono ?_
  rintro e ws ⟨rfl, hbs⟩
  have H4 : Hid (HH w [(w.heap.size, bl a, 22), (w.heap.size + 1, bl b, 22), (wr.heap.size, bl r, 22)] ws) := H3.out.call hbs
  have H5a : Hid (HH w [(w.heap.size, bl a, 22), (w.heap.size + 1, bl b, 22), (wr.heap.size, bl r, 22), (ws.heap.size, bl r, 22)] ((ws.alloc (.cells (bl 0).toArray 22)).setCells ws.heap.size 0 (bl r))) := H4.out.var r
  have T5 : Hid ((ws.alloc (.cells (bl 0).toArray 22)).there ws.heap.size 0 (br r).size) := var_there ws r
  clear hbs H2 H3 T3 C3 H4 H3a
  go_wp2_with (first | (refine wpList_store_midL rfl 22 _ _ rfl (ws.heap.size) 0 (bl r) rfl rfl T5.out (i32 r) (br_one _) ?_; intro x5 hx5; have H5 : Hid (HH w [(w.heap.size, bl a, 22), (w.heap.size + 1, bl b, 22), (wr.heap.size, bl r, 22), (ws.heap.size, bl r, 22)] x5) := (by rw [hx5]; exact H5a.out); clear hx5))
  clear H5a T5
  refine wp_region_held_drew (S := (fun w' => HH w [(w.heap.size, bl a, 22), (w.heap.size + 1, bl b, 22), (wr.heap.size, bl r, 22), (ws.heap.size, bl r, 22)] w')) (by kernel_rfl) ?_ (fun hHeld => ?_)
  · exact H5.out.drew
  refine take1 (i := 0) (v := _) 21 rfl rfl (by kernel_rfl) (by kernel_rfl) (by kernel_rfl) (fun _ _ _ h => h) (yieldsIf_load_mid (by rfl) _ _ rfl _ _ rfl _ _ (fun w h => h.range (i := 0) rfl) Try.underlying22 rfl (i32 a)) hHeld ?_
  simp only [Act.put, List.setIfInBounds_toArray, List.set_cons_zero, List.set_cons_succ]
  refine take1 (i := 2) (v := _) 23 rfl rfl (by kernel_rfl) (by kernel_rfl) (by kernel_rfl) (fun _ _ _ h => h) (yieldsIf_load_mid (by rfl) _ _ rfl _ _ rfl _ _ (fun w h => h.range (i := 0) rfl) Try.underlying22 rfl (i32 a)) hHeld ?_
  simp only [Act.put, List.setIfInBounds_toArray, List.set_cons_zero, List.set_cons_succ]
  refine wpAnyH_ready (rs := [1]) (by kernel_rfl) (by simp) ?_
  refine AllReadyH.cons rfl (fun K hK => ?_) AllReadyH.nil
  go_simp
  go_at_call 11
  refine (ca _).mono ?_
  rintro e wq ⟨rfl, hbq⟩
  refine hK.out _ _ ?_ (fun hHeld => ?_)
  · exact hHeld.call hbq
  clear hK K
  try simp only [Act.put, List.setIfInBounds_toArray, List.set_cons_zero, List.set_cons_succ]
  refine wpAnyH_ready (rs := [3]) (by kernel_rfl) (by simp) ?_
  refine AllReadyH.cons rfl (fun K hK => ?_) AllReadyH.nil
  go_simp
  go_at_call 12
  refine (da _).mono ?_
  rintro e wq ⟨rfl, hbq⟩
  refine hK.out _ _ ?_ (fun hHeld => ?_)
  · exact hHeld.call hbq
  clear hK K
  try simp only [Act.put, List.setIfInBounds_toArray, List.set_cons_zero, List.set_cons_succ]
  refine take1 (i := 4) (v := ?_) 25 rfl rfl (by kernel_rfl) (by kernel_rfl) (by kernel_rfl) (fun _ _ _ h => h) (Or.inl ⟨by rfl, ?_⟩) hHeld ?_
  rotate_left 1
  · intro w hSw; go_simp <;> with_reducible rfl
  simp only [Act.put, List.setIfInBounds_toArray, List.set_cons_zero, List.set_cons_succ]
  refine take1 (i := 5) (v := ?_) 26 rfl rfl (by kernel_rfl) (by kernel_rfl) (by kernel_rfl) (fun _ _ _ h => h) (Or.inl ⟨by rfl, ?_⟩) hHeld ?_
  rotate_left 1
  · intro w hSw; go_simp <;> with_reducible rfl
  simp only [Act.put, List.setIfInBounds_toArray, List.set_cons_zero, List.set_cons_succ]
  refine take1 (i := 6) (v := _) 27 rfl rfl (by kernel_rfl) (by kernel_rfl) (by kernel_rfl) (fun _ _ _ h => h) (yieldsIf_load_mid (by rfl) _ _ rfl _ _ rfl _ _ (fun w h => h.range (i := 0) rfl) Try.underlying22 rfl (i32 a)) hHeld ?_
  simp only [Act.put, List.setIfInBounds_toArray, List.set_cons_zero, List.set_cons_succ]
  refine take1 (i := 7) (v := _) 28 rfl rfl (by kernel_rfl) (by kernel_rfl) (by kernel_rfl) (fun _ _ _ h => h) (yieldsIf_load_mid (by rfl) _ _ rfl _ _ rfl _ _ (fun w h => h.range (i := 1) rfl) Try.underlying22 rfl (i32 b)) hHeld ?_
  simp only [Act.put, List.setIfInBounds_toArray, List.set_cons_zero, List.set_cons_succ]
  refine take1 (i := 9) (v := _) 30 rfl rfl (by kernel_rfl) (by kernel_rfl) (by kernel_rfl) (fun _ _ _ h => h) (yieldsIf_load_mid (by rfl) _ _ rfl _ _ rfl _ _ (fun w h => h.range (i := 0) rfl) Try.underlying22 rfl (i32 a)) hHeld ?_
  simp only [Act.put, List.setIfInBounds_toArray, List.set_cons_zero, List.set_cons_succ]
  refine take1 (i := 10) (v := _) 31 rfl rfl (by kernel_rfl) (by kernel_rfl) (by kernel_rfl) (fun _ _ _ h => h) (yieldsIf_load_mid (by rfl) _ _ rfl _ _ rfl _ _ (fun w h => h.range (i := 1) rfl) Try.underlying22 rfl (i32 b)) hHeld ?_
  simp only [Act.put, List.setIfInBounds_toArray, List.set_cons_zero, List.set_cons_succ]
  refine wpAnyH_ready (rs := [8]) (by kernel_rfl) (by simp) ?_
  refine AllReadyH.cons rfl (fun K hK => ?_) AllReadyH.nil
  go_simp
  go_at_call 13
  refine (kab _).mono ?_
  rintro e wq ⟨rfl, hbq⟩
  refine hK.out _ _ ?_ (fun hHeld => ?_)
  · exact hHeld.call hbq
  clear hK K
  try simp only [Act.put, List.setIfInBounds_toArray, List.set_cons_zero, List.set_cons_succ]
  refine wpAnyH_ready (rs := [11]) (by kernel_rfl) (by simp) ?_
  refine AllReadyH.cons rfl (fun K hK => ?_) AllReadyH.nil
  go_simp
  go_at_call 14
  refine (rab _).mono ?_
  rintro e wq ⟨rfl, hbq⟩
  refine hK.out _ _ ?_ (fun hHeld => ?_)
  · exact hHeld.call hbq
  clear hK K
  try simp only [Act.put, List.setIfInBounds_toArray, List.set_cons_zero, List.set_cons_succ]
  refine take1 (i := 12) (v := ?_) 33 rfl rfl (by kernel_rfl) (by kernel_rfl) (by kernel_rfl) (fun _ _ _ h => h) (Or.inl ⟨by rfl, ?_⟩) hHeld ?_
  rotate_left 1
  · intro w hSw; go_simp <;> with_reducible rfl
  simp only [Act.put, List.setIfInBounds_toArray, List.set_cons_zero, List.set_cons_succ]
  refine take1 (i := 13) (v := ?_) 34 rfl rfl (by kernel_rfl) (by kernel_rfl) (by kernel_rfl) (fun _ _ _ h => h) (Or.inl ⟨by rfl, ?_⟩) hHeld ?_
  rotate_left 1
  · intro w hSw; go_simp <;> with_reducible rfl
  simp only [Act.put, List.setIfInBounds_toArray, List.set_cons_zero, List.set_cons_succ]
  refine take1 (i := 14) (v := ?_) 35 rfl rfl (by kernel_rfl) (by kernel_rfl) (by kernel_rfl) (fun _ _ _ h => h) (Or.inl ⟨by rfl, ?_⟩) hHeld ?_
  rotate_left 1
  · intro w hSw; go_simp <;> with_reducible rfl
  simp only [Act.put, List.setIfInBounds_toArray, List.set_cons_zero, List.set_cons_succ]
  refine take1 (i := 15) (v := _) 36 rfl rfl (by kernel_rfl) (by kernel_rfl) (by kernel_rfl) (fun _ _ _ h => h) (yieldsIf_load_mid (by rfl) _ _ rfl _ _ rfl _ _ (fun w h => h.range (i := 0) rfl) Try.underlying22 rfl (i32 a)) hHeld ?_
  simp only [Act.put, List.setIfInBounds_toArray, List.set_cons_zero, List.set_cons_succ]
  refine take1 (i := 16) (v := _) 37 rfl rfl (by kernel_rfl) (by kernel_rfl) (by kernel_rfl) (fun _ _ _ h => h) (yieldsIf_load_mid (by rfl) _ _ rfl _ _ rfl _ _ (fun w h => h.range (i := 1) rfl) Try.underlying22 rfl (i32 b)) hHeld ?_
  simp only [Act.put, List.setIfInBounds_toArray, List.set_cons_zero, List.set_cons_succ]
  refine take1 (i := 18) (v := _) 39 rfl rfl (by kernel_rfl) (by kernel_rfl) (by kernel_rfl) (fun _ _ _ h => h) (yieldsIf_load_mid (by rfl) _ _ rfl _ _ rfl _ _ (fun w h => h.range (i := 0) rfl) Try.underlying22 rfl (i32 a)) hHeld ?_
  simp only [Act.put, List.setIfInBounds_toArray, List.set_cons_zero, List.set_cons_succ]
  refine take1 (i := 19) (v := _) 40 rfl rfl (by kernel_rfl) (by kernel_rfl) (by kernel_rfl) (fun _ _ _ h => h) (yieldsIf_load_mid (by rfl) _ _ rfl _ _ rfl _ _ (fun w h => h.range (i := 1) rfl) Try.underlying22 rfl (i32 b)) hHeld ?_
  simp only [Act.put, List.setIfInBounds_toArray, List.set_cons_zero, List.set_cons_succ]
  refine wpAnyH_ready (rs := [17]) (by kernel_rfl) (by simp) ?_
  refine AllReadyH.cons rfl (fun K hK => ?_) AllReadyH.nil
  go_simp
  go_at_call 15
  refine (sab _).mono ?_
  rintro e wq ⟨rfl, hbq⟩
  refine hK.out _ _ ?_ (fun hHeld => ?_)
  · exact hHeld.call hbq
  clear hK K
  try simp only [Act.put, List.setIfInBounds_toArray, List.set_cons_zero, List.set_cons_succ]
  refine wpAnyH_ready (rs := [20]) (by kernel_rfl) (by simp) ?_
  refine AllReadyH.cons rfl (fun K hK => ?_) AllReadyH.nil
  go_simp
  go_at_call 16
  refine (tab _).mono ?_
  rintro e wq ⟨rfl, hbq⟩
  refine hK.out _ _ ?_ (fun hHeld => ?_)
  · exact hHeld.call hbq
  clear hK K
  try simp only [Act.put, List.setIfInBounds_toArray, List.set_cons_zero, List.set_cons_succ]
  refine take1 (i := 21) (v := ?_) 42 rfl rfl (by kernel_rfl) (by kernel_rfl) (by kernel_rfl) (fun _ _ _ h => h) (Or.inl ⟨by rfl, ?_⟩) hHeld ?_
  rotate_left 1
  · intro w hSw; go_simp <;> with_reducible rfl
  simp only [Act.put, List.setIfInBounds_toArray, List.set_cons_zero, List.set_cons_succ]
  refine take1 (i := 22) (v := ?_) 43 rfl rfl (by kernel_rfl) (by kernel_rfl) (by kernel_rfl) (fun _ _ _ h => h) (Or.inl ⟨by rfl, ?_⟩) hHeld ?_
  rotate_left 1
  · intro w hSw; go_simp <;> with_reducible rfl
  simp only [Act.put, List.setIfInBounds_toArray, List.set_cons_zero, List.set_cons_succ]
  refine take1 (i := 23) (v := ?_) 44 rfl rfl (by kernel_rfl) (by kernel_rfl) (by kernel_rfl) (fun _ _ _ h => h) (Or.inl ⟨by rfl, ?_⟩) hHeld ?_
  rotate_left 1
  · intro w hSw; go_simp <;> with_reducible rfl
  simp only [Act.put, List.setIfInBounds_toArray, List.set_cons_zero, List.set_cons_succ]
  refine take1 (i := 24) (v := _) 45 rfl rfl (by kernel_rfl) (by kernel_rfl) (by kernel_rfl) (fun _ _ _ h => h) (yieldsIf_load_mid (by rfl) _ _ rfl _ _ rfl _ _ (fun w h => h.range (i := 0) rfl) Try.underlying22 rfl (i32 a)) hHeld ?_
  simp only [Act.put, List.setIfInBounds_toArray, List.set_cons_zero, List.set_cons_succ]
  refine take1 (i := 25) (v := _) 46 rfl rfl (by kernel_rfl) (by kernel_rfl) (by kernel_rfl) (fun _ _ _ h => h) (yieldsIf_load_mid (by rfl) _ _ rfl _ _ rfl _ _ (fun w h => h.range (i := 1) rfl) Try.underlying22 rfl (i32 b)) hHeld ?_
  simp only [Act.put, List.setIfInBounds_toArray, List.set_cons_zero, List.set_cons_succ]
  refine take1 (i := 27) (v := _) 48 rfl rfl (by kernel_rfl) (by kernel_rfl) (by kernel_rfl) (fun _ _ _ h => h) (yieldsIf_load_mid (by rfl) _ _ rfl _ _ rfl _ _ (fun w h => h.range (i := 0) rfl) Try.underlying22 rfl (i32 a)) hHeld ?_
  simp only [Act.put, List.setIfInBounds_toArray, List.set_cons_zero, List.set_cons_succ]
  refine take1 (i := 28) (v := _) 49 rfl rfl (by kernel_rfl) (by kernel_rfl) (by kernel_rfl) (fun _ _ _ h => h) (yieldsIf_load_mid (by rfl) _ _ rfl _ _ rfl _ _ (fun w h => h.range (i := 1) rfl) Try.underlying22 rfl (i32 b)) hHeld ?_
  simp only [Act.put, List.setIfInBounds_toArray, List.set_cons_zero, List.set_cons_succ]
  refine wpAnyH_ready (rs := [26]) (by kernel_rfl) (by simp) ?_
  refine AllReadyH.cons rfl (fun K hK => ?_) AllReadyH.nil
  go_simp
  go_at_call 17
  refine (mab _).mono ?_
  rintro e wq ⟨rfl, hbq⟩
  refine hK.out _ _ ?_ (fun hHeld => ?_)
  · exact hHeld.call hbq
  clear hK K
  try simp only [Act.put, List.setIfInBounds_toArray, List.set_cons_zero, List.set_cons_succ]
  refine wpAnyH_ready (rs := [29]) (by kernel_rfl) (by simp) ?_
  refine AllReadyH.cons rfl (fun K hK => ?_) AllReadyH.nil
  go_simp
  go_at_call 18
  refine (nab _).mono ?_
  rintro e wq ⟨rfl, hbq⟩
  refine hK.out _ _ ?_ (fun hHeld => ?_)
  · exact hHeld.call hbq
  clear hK K
  try simp only [Act.put, List.setIfInBounds_toArray, List.set_cons_zero, List.set_cons_succ]
  refine take1 (i := 30) (v := ?_) 51 rfl rfl (by kernel_rfl) (by kernel_rfl) (by kernel_rfl) (fun _ _ _ h => h) (Or.inl ⟨by rfl, ?_⟩) hHeld ?_
  rotate_left 1
  · intro w hSw; go_simp <;> with_reducible rfl
  simp only [Act.put, List.setIfInBounds_toArray, List.set_cons_zero, List.set_cons_succ]
  refine take1 (i := 31) (v := ?_) 52 rfl rfl (by kernel_rfl) (by kernel_rfl) (by kernel_rfl) (fun _ _ _ h => h) (Or.inl ⟨by rfl, ?_⟩) hHeld ?_
  rotate_left 1
  · intro w hSw; go_simp <;> with_reducible rfl
  simp only [Act.put, List.setIfInBounds_toArray, List.set_cons_zero, List.set_cons_succ]
  refine take1 (i := 32) (v := ?_) 53 rfl rfl (by kernel_rfl) (by kernel_rfl) (by kernel_rfl) (fun _ _ _ h => h) (Or.inl ⟨by rfl, ?_⟩) hHeld ?_
  rotate_left 1
  · intro w hSw; go_simp <;> with_reducible rfl
  simp only [Act.put, List.setIfInBounds_toArray, List.set_cons_zero, List.set_cons_succ]
  refine take1 (i := 33) (v := _) 54 rfl rfl (by kernel_rfl) (by kernel_rfl) (by kernel_rfl) (fun _ _ _ h => h) (yieldsIf_load_mid (by rfl) _ _ rfl _ _ rfl _ _ (fun w h => h.range (i := 0) rfl) Try.underlying22 rfl (i32 a)) hHeld ?_
  simp only [Act.put, List.setIfInBounds_toArray, List.set_cons_zero, List.set_cons_succ]
  refine take1 (i := 35) (v := _) 56 rfl rfl (by kernel_rfl) (by kernel_rfl) (by kernel_rfl) (fun _ _ _ h => h) (yieldsIf_load_mid (by rfl) _ _ rfl _ _ rfl _ _ (fun w h => h.range (i := 0) rfl) Try.underlying22 rfl (i32 a)) hHeld ?_
  simp only [Act.put, List.setIfInBounds_toArray, List.set_cons_zero, List.set_cons_succ]
  refine wpAnyH_ready (rs := [34]) (by kernel_rfl) (by simp) ?_
  refine AllReadyH.cons rfl (fun K hK => ?_) AllReadyH.nil
  go_simp
  go_at_call 19
  refine (ia _).mono ?_
  rintro e wq ⟨rfl, hbq⟩
  refine hK.out _ _ ?_ (fun hHeld => ?_)
  · exact hHeld.call hbq
  clear hK K
  try simp only [Act.put, List.setIfInBounds_toArray, List.set_cons_zero, List.set_cons_succ]
  refine wpAnyH_ready (rs := [36]) (by kernel_rfl) (by simp) ?_
  refine AllReadyH.cons rfl (fun K hK => ?_) AllReadyH.nil
  go_simp
  go_at_call 20
  refine (ja _).mono ?_
  rintro e wq ⟨rfl, hbq⟩
  refine hK.out _ _ ?_ (fun hHeld => ?_)
  · exact hHeld.call hbq
  clear hK K
  try simp only [Act.put, List.setIfInBounds_toArray, List.set_cons_zero, List.set_cons_succ]
  refine take1 (i := 37) (v := ?_) 58 rfl rfl (by kernel_rfl) (by kernel_rfl) (by kernel_rfl) (fun _ _ _ h => h) (Or.inl ⟨by rfl, ?_⟩) hHeld ?_
  rotate_left 1
  · intro w hSw; go_simp <;> with_reducible rfl
  simp only [Act.put, List.setIfInBounds_toArray, List.set_cons_zero, List.set_cons_succ]
  refine take1 (i := 38) (v := ?_) 59 rfl rfl (by kernel_rfl) (by kernel_rfl) (by kernel_rfl) (fun _ _ _ h => h) (Or.inl ⟨by rfl, ?_⟩) hHeld ?_
  rotate_left 1
  · intro w hSw; go_simp <;> with_reducible rfl
  simp only [Act.put, List.setIfInBounds_toArray, List.set_cons_zero, List.set_cons_succ]
  refine take1 (i := 39) (v := ?_) 60 rfl rfl (by kernel_rfl) (by kernel_rfl) (by kernel_rfl) (fun _ _ _ h => h) (Or.inl ⟨by rfl, ?_⟩) hHeld ?_
  rotate_left 1
  · intro w hSw; go_simp <;> with_reducible rfl
  simp only [Act.put, List.setIfInBounds_toArray, List.set_cons_zero, List.set_cons_succ]
  refine take1 (i := 40) (v := _) 61 rfl rfl (by kernel_rfl) (by kernel_rfl) (by kernel_rfl) (fun _ _ _ h => h) (yieldsIf_load_mid (by rfl) _ _ rfl _ _ rfl _ _ (fun w h => h.range (i := 2) rfl) Try.underlying22 rfl (i32 r)) hHeld ?_
  simp only [Act.put, List.setIfInBounds_toArray, List.set_cons_zero, List.set_cons_succ]
  refine take1 (i := 41) (v := _) 62 rfl rfl (by kernel_rfl) (by kernel_rfl) (by kernel_rfl) (fun _ _ _ h => h) (yieldsIf_load_mid (by rfl) _ _ rfl _ _ rfl _ _ (fun w h => h.range (i := 3) rfl) Try.underlying22 rfl (i32 r)) hHeld ?_
  simp only [Act.put, List.setIfInBounds_toArray, List.set_cons_zero, List.set_cons_succ]
  refine take1 (i := 42) (v := ?_) 63 rfl rfl (by kernel_rfl) (by kernel_rfl) (by kernel_rfl) (fun _ _ _ h => h) (Or.inl ⟨by rfl, ?_⟩) hHeld ?_
  rotate_left 1
  · intro w hSw; go_simp <;> with_reducible rfl
  simp only [Act.put, List.setIfInBounds_toArray, List.set_cons_zero, List.set_cons_succ]
  refine take1 (i := 43) (v := ?_) 64 rfl rfl (by kernel_rfl) (by kernel_rfl) (by kernel_rfl) (fun _ _ _ h => h) (Or.inl ⟨by rfl, ?_⟩) hHeld ?_
  rotate_left 1
  · intro w hSw; go_simp <;> with_reducible rfl
  simp only [Act.put, List.setIfInBounds_toArray, List.set_cons_zero, List.set_cons_succ]
  refine take1 (i := 44) (v := ?_) 65 rfl rfl (by kernel_rfl) (by kernel_rfl) (by kernel_rfl) (fun _ _ _ h => h) (Or.inl ⟨by rfl, ?_⟩) hHeld ?_
  rotate_left 1
  · intro w hSw; go_simp <;> with_reducible rfl
  simp only [Act.put, List.setIfInBounds_toArray, List.set_cons_zero, List.set_cons_succ]
  refine take1 (i := 45) (v := ?_) 66 rfl rfl (by kernel_rfl) (by kernel_rfl) (by kernel_rfl) (fun _ _ _ h => h) (Or.inl ⟨by rfl, ?_⟩) hHeld ?_
  rotate_left 1
  · intro w hSw; go_simp <;> with_reducible rfl
  simp only [Act.put, List.setIfInBounds_toArray, List.set_cons_zero, List.set_cons_succ]
  refine take1 (i := 46) (v := ?_) 67 rfl rfl (by kernel_rfl) (by kernel_rfl) (by kernel_rfl) (fun _ _ _ h => h) (Or.inl ⟨by rfl, ?_⟩) hHeld ?_
  rotate_left 1
  · intro w hSw; go_simp <;> with_reducible rfl
  simp only [Act.put, List.setIfInBounds_toArray, List.set_cons_zero, List.set_cons_succ]
  refine take1 (i := 47) (v := ?_) 68 rfl rfl (by kernel_rfl) (by kernel_rfl) (by kernel_rfl) (fun _ _ _ h => h) (Or.inl ⟨by rfl, ?_⟩) hHeld ?_
  rotate_left 1
  · intro w hSw; go_simp <;> with_reducible rfl
  simp only [Act.put, List.setIfInBounds_toArray, List.set_cons_zero, List.set_cons_succ]
  refine take1 (i := 48) (v := ?_) 69 rfl rfl (by kernel_rfl) (by kernel_rfl) (by kernel_rfl) (fun _ _ _ h => h) (Or.inl ⟨by rfl, ?_⟩) hHeld ?_
  rotate_left 1
  · intro w hSw; go_simp <;> with_reducible rfl
  simp only [Act.put, List.setIfInBounds_toArray, List.set_cons_zero, List.set_cons_succ]
  refine take1 (i := 49) (v := ?_) 4 rfl rfl (by kernel_rfl) (by kernel_rfl) (by kernel_rfl) (fun _ _ _ h => h) (Or.inl ⟨by rfl, ?_⟩) hHeld ?_
  rotate_left 1
  · intro w hSw; go_simp <;> with_reducible rfl
  simp only [Act.put, List.setIfInBounds_toArray, List.set_cons_zero, List.set_cons_succ]
  refine wpAnyH_done (by kernel_rfl) ?_ _
  go_wp2
  go_ret
  exact ⟨by simp, hHeld.below⟩
end Go.Proofs.Ytmelibhpjmgbhaa
