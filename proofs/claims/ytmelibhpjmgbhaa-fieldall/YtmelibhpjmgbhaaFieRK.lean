/- The reference's Inverse, Canonical, Add, Sub, Mul, Inv. -/
import Derived.Test.YtmelibhpjmgbhaaFieRJ
namespace Go.Proofs.Ytmelibhpjmgbhaa
open Go Go.RowKit Go.Lib
set_option linter.unusedSimpArgs false
set_option linter.unusedVariables false
theorem litQ : (#[.int .u64 18446744073709551595, .int .u64 18446744073709551615, .int .u64 18446744073709551615, .int .u64 9223372036854775807] : Array Value) = (nl (pp - 2)).toArray := by kernel_rfl
theorem SS.num1 (w : World) (a : Nat) : SS w [(w.heap.size, nl a, 40)] (w.heap.size + 1) 4 ((w.alloc (.cells (nl a).toArray 40)).alloc (.cells #[.int .u64 0, .int .u64 0, .int .u64 0, .int .u64 0] 40)) := by
  refine ⟨((Below.refl _ _).alloc (Nat.le_refl _) _).alloc (by simp) _, ?_, there_of_row (heap_alloc_here _ _ _ (by simp)) 0 4 (by simp)⟩
  intro i g L t hm
  match i, hm with
  | 0, hm =>
    cases hm
    exact (heap_alloc_past _ _ _ (by simp)).trans (heap_alloc_here _ _ _ rfl)
set_option maxRecDepth 100000 in
set_option maxHeartbeats 2000000 in
theorem rinverse_nat (a : Nat) (ha : a < RN) (w : World) :
    Calls Try.prog 39 #[.agg (nl a).toArray] w fun e w' => ∃ s, s < RN ∧ e = .returned (.agg (nl s).toArray) ∧ s % pp = a ^ (pp - 2) % pp ∧ Below w.heap.size w w' := by
  have HS0 : Hid (SS w [(w.heap.size, nl a, 40)] (w.heap.size + 1) 4 _) := SS.num1 w a
  have rp := rp_any
  rw [← litP] at rp
  have pw : ∀ w, Calls Try.prog 50 #[.agg (nl a).toArray, .agg #[.int .u64 18446744073709551595, .int .u64 18446744073709551615, .int .u64 18446744073709551615, .int .u64 9223372036854775807]] w fun e w' => ∃ s, s < RN ∧ e = .returned (.agg (nl s).toArray) ∧ s % pp = a ^ (pp - 2) % pp ∧ Below w.heap.size w w' := fun w => by
    rw [litQ]; exact rpower_nat a (pp - 2) ha (by decide) w
  go_enter Try.func39, Try.ntmps39
  go_wp2_with fail
  refine (rp _).mono ?_
  rintro e w1 ⟨rfl, hb1⟩
  have S1 := HS0.out.call hb1
  have lr := S1.rlt
  have N1 := S1.holds 0 _ _ _ rfl
  have la := lt_of_heap N1
  obtain ⟨c0, c1, c2, c3, f0, f1, f2, f3⟩ := four N1
  have HS1 : Hid (SS w [(w.heap.size, nl a, 40)] (w.heap.size + 1) 4 (w1.alloc (.cells #[.int .u64 18446744073709551595, .int .u64 18446744073709551615, .int .u64 18446744073709551615, .int .u64 9223372036854775807] 40))) := S1.alloc _
  clear hb1 S1 N1 HS0
  go_wp2_with fail
  refine (pw _).mono ?_
  rintro e w2 ⟨s, hs, rfl, es, hb2⟩
  have S2 := HS1.out.call hb2
  have HT : Hid (w2.there (w.heap.size + 1) 0 4) := S2.there
  have HB : Hid (Below w.heap.size w w2) := S2.below
  have HE : Hid (s % pp = a ^ (pp - 2) % pp) := es
  clear S2 hb2 es
  go_wp2_with (refine wpList_store_mid rfl 40 _ _ rfl (w.heap.size + 1) 0 (nl s).toArray rfl rfl HT.out (r4 _) (four_one _) ?_)
  refine bodyPost_ret (v := .agg (nl s).toArray) (results_mid Try.results39 _ _ (w.heap.size + 1) 0 (nl s) _ rfl (World.rangeAt_setCells_same _ _ _ _ HT.out) Try.underlying40 rfl (r4 _)) rfl ⟨s, hs, rfl, HE.out, below_setCells _ (by omega) _ _ _ HB.out⟩
set_option maxRecDepth 100000 in
set_option maxHeartbeats 1000000 in
theorem rAdd_any (a b : Nat) (ha : a < RN) (hb : b < RN) (w : World) :
    Calls Try.prog 14 #[.agg (bl a).toArray, .agg (bl b).toArray] w fun e w' => e = .returned (.agg (bl ((a + b) % pp)).toArray) ∧ Below w.heap.size w w' := by
  have hz := zero_32
  have HS : Hid (SS w [(w.heap.size, bl a, 22), (w.heap.size + 1, bl b, 22)] (w.heap.size + 1 + 1) 32 (((w.alloc (.cells (bl a).toArray 22)).alloc (.cells (bl b).toArray 22)).alloc (.cells (bl 0).toArray 22))) := SS.two w _ _ _ _
  have hza : (bl a).toArray.size = 32 := br_size a
  have hzb : (bl b).toArray.size = 32 := br_size b
  have hz0 : (bl 0).toArray.size = 32 := br_size 0
  simp only [br] at hz
  go_enter Try.func14, Try.ntmps14
  go_wp2
  obtain ⟨x0, hx0⟩ : ∃ x, x = ((w.alloc (.cells (bl a).toArray 22)).alloc (.cells (bl b).toArray 22)).alloc (.cells (bl 0).toArray 22) := ⟨_, rfl⟩
  rw [← hx0] at HS ⊢
  clear hx0
  refine wp_region_held_drew (S := (fun w' => SS w [(w.heap.size, bl a, 22), (w.heap.size + 1, bl b, 22)] (w.heap.size + 1 + 1) 32 w')) (by kernel_rfl) ?_ (fun hHeld => ?_)
  · exact HS.out.drew
  refine take1 (i := 0) (v := _) 5 rfl rfl (by kernel_rfl) (by kernel_rfl) (by kernel_rfl) (fun _ _ _ h => h) (yieldsIf_load_mid (by rfl) _ _ rfl _ _ rfl _ _ (fun w h => h.range (i := 0) rfl) Try.underlying22 rfl (i32 a)) hHeld ?_
  simp only [Act.put, List.setIfInBounds_toArray, List.set_cons_zero, List.set_cons_succ]
  refine take1 (i := 2) (v := _) 7 rfl rfl (by kernel_rfl) (by kernel_rfl) (by kernel_rfl) (fun _ _ _ h => h) (yieldsIf_load_mid (by rfl) _ _ rfl _ _ rfl _ _ (fun w h => h.range (i := 1) rfl) Try.underlying22 rfl (i32 b)) hHeld ?_
  simp only [Act.put, List.setIfInBounds_toArray, List.set_cons_zero, List.set_cons_succ]
  refine wpAnyH_ready (rs := [1]) (by kernel_rfl) (by simp) ?_
  refine AllReadyH.cons rfl (fun K hK => ?_) AllReadyH.nil
  go_simp
  go_at_call 28
  refine (rfrom_nat a ha _).mono ?_
  rintro e w1 ⟨rfl, hb1⟩
  refine hK.out _ _ ?_ (fun hHeld => ?_)
  · exact hHeld.call hb1
  clear hK K
  try simp only [Act.put, List.setIfInBounds_toArray, List.set_cons_zero, List.set_cons_succ]
  refine wpAnyH_ready (rs := [3]) (by kernel_rfl) (by simp) ?_
  refine AllReadyH.cons rfl (fun K hK => ?_) AllReadyH.nil
  go_simp
  go_at_call 28
  refine (rfrom_nat b hb _).mono ?_
  rintro e w2 ⟨rfl, hb2⟩
  refine hK.out _ _ ?_ (fun hHeld => ?_)
  · exact hHeld.call hb2
  clear hK K
  try simp only [Act.put, List.setIfInBounds_toArray, List.set_cons_zero, List.set_cons_succ]
  refine wpAnyH_ready (rs := [4]) (by kernel_rfl) (by simp) ?_
  refine AllReadyH.cons rfl (fun K hK => ?_) AllReadyH.nil
  go_simp
  go_at_call 35
  refine (rplus_nat a b ha hb _).mono ?_
  rintro e w3 ⟨s, hs, rfl, es, hb3⟩
  refine hK.out _ _ ?_ (fun hHeld => ?_)
  · exact hHeld.call hb3
  clear hK K
  try simp only [Act.put, List.setIfInBounds_toArray, List.set_cons_zero, List.set_cons_succ]
  refine wpAnyH_ready (rs := [5]) (by kernel_rfl) (by simp) ?_
  refine AllReadyH.cons rfl (fun K hK => ?_) AllReadyH.nil
  go_simp
  go_at_call 31
  refine (rbytes_nat s hs _).mono ?_
  rintro e w4 ⟨rfl, hb4⟩
  refine hK.out _ _ ?_ (fun hHeld => ?_)
  · exact hHeld.call hb4
  clear hK K
  try simp only [Act.put, List.setIfInBounds_toArray, List.set_cons_zero, List.set_cons_succ]
  have hT : w4.there (w.heap.size + 1 + 1) 0 (br (s % pp)).size := by rw [br_size]; exact hHeld.there
  refine wpAnyH_ready (rs := [6]) (by kernel_rfl) (by simp) ?_
  refine AllReadyH.cons rfl (fun K hK => ?_) AllReadyH.nil
  rw [if_pos (by rfl)]
  refine wp_store_mid _ _ _ rfl _ _ (br (s % pp)) rfl rfl hT (by rw [br_size]; exact size_32) (br_one _) ?_
  refine hK.out _ _ ?_ (fun hHeld => ?_)
  · exact hHeld.store (by omega) (ne2 (by omega) (by omega)) _
  clear hK K
  try simp only [Act.put, List.setIfInBounds_toArray, List.set_cons_zero, List.set_cons_succ]
  refine wpAnyH_done (by kernel_rfl) ?_ _
  go_wp2
  refine bodyPost_ret (v := .agg (bl (s % pp)).toArray) ?_ rfl ⟨?_, hHeld.below⟩
  · exact results_mid Try.results14 _ _ (w.heap.size + 1 + 1) 0 (bl (s % pp)) _ rfl (World.rangeAt_setCells_same _ _ _ _ hT) Try.underlying22 rfl (i32 _)
  · rw [es]
set_option maxRecDepth 100000 in
set_option maxHeartbeats 1000000 in
theorem rSub_any (a b : Nat) (ha : a < RN) (hb : b < RN) (w : World) :
    Calls Try.prog 16 #[.agg (bl a).toArray, .agg (bl b).toArray] w fun e w' => e = .returned (.agg (bl ((a + (pp - b % pp)) % pp)).toArray) ∧ Below w.heap.size w w' := by
  have hz := zero_32
  have HS : Hid (SS w [(w.heap.size, bl a, 22), (w.heap.size + 1, bl b, 22)] (w.heap.size + 1 + 1) 32 (((w.alloc (.cells (bl a).toArray 22)).alloc (.cells (bl b).toArray 22)).alloc (.cells (bl 0).toArray 22))) := SS.two w _ _ _ _
  have hza : (bl a).toArray.size = 32 := br_size a
  have hzb : (bl b).toArray.size = 32 := br_size b
  have hz0 : (bl 0).toArray.size = 32 := br_size 0
  simp only [br] at hz
  go_enter Try.func16, Try.ntmps16
  go_wp2
  obtain ⟨x0, hx0⟩ : ∃ x, x = ((w.alloc (.cells (bl a).toArray 22)).alloc (.cells (bl b).toArray 22)).alloc (.cells (bl 0).toArray 22) := ⟨_, rfl⟩
  rw [← hx0] at HS ⊢
  clear hx0
  refine wp_region_held_drew (S := (fun w' => SS w [(w.heap.size, bl a, 22), (w.heap.size + 1, bl b, 22)] (w.heap.size + 1 + 1) 32 w')) (by kernel_rfl) ?_ (fun hHeld => ?_)
  · exact HS.out.drew
  refine take1 (i := 0) (v := _) 5 rfl rfl (by kernel_rfl) (by kernel_rfl) (by kernel_rfl) (fun _ _ _ h => h) (yieldsIf_load_mid (by rfl) _ _ rfl _ _ rfl _ _ (fun w h => h.range (i := 0) rfl) Try.underlying22 rfl (i32 a)) hHeld ?_
  simp only [Act.put, List.setIfInBounds_toArray, List.set_cons_zero, List.set_cons_succ]
  refine take1 (i := 2) (v := _) 7 rfl rfl (by kernel_rfl) (by kernel_rfl) (by kernel_rfl) (fun _ _ _ h => h) (yieldsIf_load_mid (by rfl) _ _ rfl _ _ rfl _ _ (fun w h => h.range (i := 1) rfl) Try.underlying22 rfl (i32 b)) hHeld ?_
  simp only [Act.put, List.setIfInBounds_toArray, List.set_cons_zero, List.set_cons_succ]
  refine wpAnyH_ready (rs := [1]) (by kernel_rfl) (by simp) ?_
  refine AllReadyH.cons rfl (fun K hK => ?_) AllReadyH.nil
  go_simp
  go_at_call 28
  refine (rfrom_nat a ha _).mono ?_
  rintro e w1 ⟨rfl, hb1⟩
  refine hK.out _ _ ?_ (fun hHeld => ?_)
  · exact hHeld.call hb1
  clear hK K
  try simp only [Act.put, List.setIfInBounds_toArray, List.set_cons_zero, List.set_cons_succ]
  refine wpAnyH_ready (rs := [3]) (by kernel_rfl) (by simp) ?_
  refine AllReadyH.cons rfl (fun K hK => ?_) AllReadyH.nil
  go_simp
  go_at_call 28
  refine (rfrom_nat b hb _).mono ?_
  rintro e w2 ⟨rfl, hb2⟩
  refine hK.out _ _ ?_ (fun hHeld => ?_)
  · exact hHeld.call hb2
  clear hK K
  try simp only [Act.put, List.setIfInBounds_toArray, List.set_cons_zero, List.set_cons_succ]
  refine wpAnyH_ready (rs := [4]) (by kernel_rfl) (by simp) ?_
  refine AllReadyH.cons rfl (fun K hK => ?_) AllReadyH.nil
  go_simp
  go_at_call 29
  refine (rminus_nat a b ha hb _).mono ?_
  rintro e w3 ⟨s, hs, rfl, es, hb3⟩
  refine hK.out _ _ ?_ (fun hHeld => ?_)
  · exact hHeld.call hb3
  clear hK K
  try simp only [Act.put, List.setIfInBounds_toArray, List.set_cons_zero, List.set_cons_succ]
  refine wpAnyH_ready (rs := [5]) (by kernel_rfl) (by simp) ?_
  refine AllReadyH.cons rfl (fun K hK => ?_) AllReadyH.nil
  go_simp
  go_at_call 31
  refine (rbytes_nat s hs _).mono ?_
  rintro e w4 ⟨rfl, hb4⟩
  refine hK.out _ _ ?_ (fun hHeld => ?_)
  · exact hHeld.call hb4
  clear hK K
  try simp only [Act.put, List.setIfInBounds_toArray, List.set_cons_zero, List.set_cons_succ]
  have hT : w4.there (w.heap.size + 1 + 1) 0 (br (s % pp)).size := by rw [br_size]; exact hHeld.there
  refine wpAnyH_ready (rs := [6]) (by kernel_rfl) (by simp) ?_
  refine AllReadyH.cons rfl (fun K hK => ?_) AllReadyH.nil
  rw [if_pos (by rfl)]
  refine wp_store_mid _ _ _ rfl _ _ (br (s % pp)) rfl rfl hT (by rw [br_size]; exact size_32) (br_one _) ?_
  refine hK.out _ _ ?_ (fun hHeld => ?_)
  · exact hHeld.store (by omega) (ne2 (by omega) (by omega)) _
  clear hK K
  try simp only [Act.put, List.setIfInBounds_toArray, List.set_cons_zero, List.set_cons_succ]
  refine wpAnyH_done (by kernel_rfl) ?_ _
  go_wp2
  refine bodyPost_ret (v := .agg (bl (s % pp)).toArray) ?_ rfl ⟨?_, hHeld.below⟩
  · exact results_mid Try.results16 _ _ (w.heap.size + 1 + 1) 0 (bl (s % pp)) _ rfl (World.rangeAt_setCells_same _ _ _ _ hT) Try.underlying22 rfl (i32 _)
  · rw [es]
set_option maxRecDepth 100000 in
set_option maxHeartbeats 1000000 in
theorem rMul_any (a b : Nat) (ha : a < RN) (hb : b < RN) (w : World) :
    Calls Try.prog 18 #[.agg (bl a).toArray, .agg (bl b).toArray] w fun e w' => e = .returned (.agg (bl ((a * b) % pp)).toArray) ∧ Below w.heap.size w w' := by
  have hz := zero_32
  have HS : Hid (SS w [(w.heap.size, bl a, 22), (w.heap.size + 1, bl b, 22)] (w.heap.size + 1 + 1) 32 (((w.alloc (.cells (bl a).toArray 22)).alloc (.cells (bl b).toArray 22)).alloc (.cells (bl 0).toArray 22))) := SS.two w _ _ _ _
  have hza : (bl a).toArray.size = 32 := br_size a
  have hzb : (bl b).toArray.size = 32 := br_size b
  have hz0 : (bl 0).toArray.size = 32 := br_size 0
  simp only [br] at hz
  go_enter Try.func18, Try.ntmps18
  go_wp2
  obtain ⟨x0, hx0⟩ : ∃ x, x = ((w.alloc (.cells (bl a).toArray 22)).alloc (.cells (bl b).toArray 22)).alloc (.cells (bl 0).toArray 22) := ⟨_, rfl⟩
  rw [← hx0] at HS ⊢
  clear hx0
  refine wp_region_held_drew (S := (fun w' => SS w [(w.heap.size, bl a, 22), (w.heap.size + 1, bl b, 22)] (w.heap.size + 1 + 1) 32 w')) (by kernel_rfl) ?_ (fun hHeld => ?_)
  · exact HS.out.drew
  refine take1 (i := 0) (v := _) 5 rfl rfl (by kernel_rfl) (by kernel_rfl) (by kernel_rfl) (fun _ _ _ h => h) (yieldsIf_load_mid (by rfl) _ _ rfl _ _ rfl _ _ (fun w h => h.range (i := 0) rfl) Try.underlying22 rfl (i32 a)) hHeld ?_
  simp only [Act.put, List.setIfInBounds_toArray, List.set_cons_zero, List.set_cons_succ]
  refine take1 (i := 2) (v := _) 7 rfl rfl (by kernel_rfl) (by kernel_rfl) (by kernel_rfl) (fun _ _ _ h => h) (yieldsIf_load_mid (by rfl) _ _ rfl _ _ rfl _ _ (fun w h => h.range (i := 1) rfl) Try.underlying22 rfl (i32 b)) hHeld ?_
  simp only [Act.put, List.setIfInBounds_toArray, List.set_cons_zero, List.set_cons_succ]
  refine wpAnyH_ready (rs := [1]) (by kernel_rfl) (by simp) ?_
  refine AllReadyH.cons rfl (fun K hK => ?_) AllReadyH.nil
  go_simp
  go_at_call 28
  refine (rfrom_nat a ha _).mono ?_
  rintro e w1 ⟨rfl, hb1⟩
  refine hK.out _ _ ?_ (fun hHeld => ?_)
  · exact hHeld.call hb1
  clear hK K
  try simp only [Act.put, List.setIfInBounds_toArray, List.set_cons_zero, List.set_cons_succ]
  refine wpAnyH_ready (rs := [3]) (by kernel_rfl) (by simp) ?_
  refine AllReadyH.cons rfl (fun K hK => ?_) AllReadyH.nil
  go_simp
  go_at_call 28
  refine (rfrom_nat b hb _).mono ?_
  rintro e w2 ⟨rfl, hb2⟩
  refine hK.out _ _ ?_ (fun hHeld => ?_)
  · exact hHeld.call hb2
  clear hK K
  try simp only [Act.put, List.setIfInBounds_toArray, List.set_cons_zero, List.set_cons_succ]
  refine wpAnyH_ready (rs := [4]) (by kernel_rfl) (by simp) ?_
  refine AllReadyH.cons rfl (fun K hK => ?_) AllReadyH.nil
  go_simp
  go_at_call 37
  refine (rtimes_nat a b ha hb _).mono ?_
  rintro e w3 ⟨s, hs, rfl, es, hb3⟩
  refine hK.out _ _ ?_ (fun hHeld => ?_)
  · exact hHeld.call hb3
  clear hK K
  try simp only [Act.put, List.setIfInBounds_toArray, List.set_cons_zero, List.set_cons_succ]
  refine wpAnyH_ready (rs := [5]) (by kernel_rfl) (by simp) ?_
  refine AllReadyH.cons rfl (fun K hK => ?_) AllReadyH.nil
  go_simp
  go_at_call 31
  refine (rbytes_nat s hs _).mono ?_
  rintro e w4 ⟨rfl, hb4⟩
  refine hK.out _ _ ?_ (fun hHeld => ?_)
  · exact hHeld.call hb4
  clear hK K
  try simp only [Act.put, List.setIfInBounds_toArray, List.set_cons_zero, List.set_cons_succ]
  have hT : w4.there (w.heap.size + 1 + 1) 0 (br (s % pp)).size := by rw [br_size]; exact hHeld.there
  refine wpAnyH_ready (rs := [6]) (by kernel_rfl) (by simp) ?_
  refine AllReadyH.cons rfl (fun K hK => ?_) AllReadyH.nil
  rw [if_pos (by rfl)]
  refine wp_store_mid _ _ _ rfl _ _ (br (s % pp)) rfl rfl hT (by rw [br_size]; exact size_32) (br_one _) ?_
  refine hK.out _ _ ?_ (fun hHeld => ?_)
  · exact hHeld.store (by omega) (ne2 (by omega) (by omega)) _
  clear hK K
  try simp only [Act.put, List.setIfInBounds_toArray, List.set_cons_zero, List.set_cons_succ]
  refine wpAnyH_done (by kernel_rfl) ?_ _
  go_wp2
  refine bodyPost_ret (v := .agg (bl (s % pp)).toArray) ?_ rfl ⟨?_, hHeld.below⟩
  · exact results_mid Try.results18 _ _ (w.heap.size + 1 + 1) 0 (bl (s % pp)) _ rfl (World.rangeAt_setCells_same _ _ _ _ hT) Try.underlying22 rfl (i32 _)
  · rw [es]
set_option maxRecDepth 100000 in
set_option maxHeartbeats 1000000 in
theorem rInv_any (a : Nat) (ha : a < RN) (w : World) :
    Calls Try.prog 20 #[.agg (bl a).toArray] w fun e w' => e = .returned (.agg (bl (a ^ (pp - 2) % pp)).toArray) ∧ Below w.heap.size w w' := by
  have hz := zero_32
  have HS : Hid (SS w _ _ _ _) := SS.one32 w a
  have HC : Hid (World.rangeAt _ w.heap.size 0 (bl a)) := HS.out.range (i := 0) rfl
  have hza : (bl a).toArray.size = 32 := br_size a
  have hz0 : (bl 0).toArray.size = 32 := br_size 0
  simp only [br] at hz
  go_enter Try.func20, Try.ntmps20
  go_wp2_with (refine wpList_load_mid rfl 22 _ rfl w.heap.size 0 rfl (bl a) _ HC.out Try.underlying22 rfl (i32 a) ?_)
  refine (rfrom_nat a ha _).mono ?_
  rintro e w1 ⟨rfl, hb1⟩
  have S1 : Hid (SS w _ _ _ w1) := HS.out.call hb1
  clear HC HS hb1
  go_wp2_with fail
  refine (rinverse_nat a ha _).mono ?_
  rintro e w2 ⟨s, hs, rfl, es, hb2⟩
  have S2 : Hid (SS w _ _ _ w2) := S1.out.call hb2
  have HES : Hid (s % pp = a ^ (pp - 2) % pp) := es
  clear S1 hb2 es
  go_wp2_with fail
  refine (rbytes_nat s hs _).mono ?_
  rintro e w3 ⟨rfl, hb3⟩
  have S3 : Hid (SS w _ _ _ w3) := S2.out.call hb3
  have HT : Hid (w3.there (w.heap.size + 1) 0 (br (s % pp)).size) := by rw [br_size]; exact S3.out.there
  clear S2 hb3
  go_wp2_with (refine wpList_store_mid rfl 22 _ _ rfl (w.heap.size + 1) 0 (br (s % pp)) rfl rfl HT.out (by rw [br_size]; exact size_32) (br_one _) ?_)
  refine bodyPost_ret (v := .agg (bl (s % pp)).toArray) (results_mid Try.results20 _ _ (w.heap.size + 1) 0 (bl (s % pp)) _ rfl (World.rangeAt_setCells_same _ _ _ _ HT.out) Try.underlying22 rfl (i32 _)) rfl ⟨by rw [HES.out], below_setCells _ (by omega) _ _ _ S3.out.below⟩
set_option maxRecDepth 100000 in
set_option maxHeartbeats 1000000 in
theorem rCanonical_any (a : Nat) (ha : a < RN) (w : World) :
    Calls Try.prog 12 #[.agg (bl a).toArray] w fun e w' => e = .returned (.bool (decide (a < pp))) ∧ Below w.heap.size w w' := by
  have HS : Hid (HH w [(w.heap.size, bl a, 22)] (w.alloc (.cells (bl a).toArray 22))) := HH.one w _ _
  have HC : Hid (World.rangeAt _ w.heap.size 0 (bl a)) := HS.out.range (i := 0) rfl
  have hza : (bl a).toArray.size = 32 := br_size a
  go_enter Try.func12, Try.ntmps12
  go_wp2_with (refine wpList_load_mid rfl 22 _ rfl w.heap.size 0 rfl (bl a) _ HC.out Try.underlying22 rfl (i32 a) ?_)
  refine (rfrom_nat a ha _).mono ?_
  rintro e w1 ⟨rfl, hb1⟩
  have S1 : Hid (Below w.heap.size w w1) := chain HS.out.below hb1
  clear HC HS hb1
  go_wp2_with fail
  refine (rp_any _).mono ?_
  rintro e w2 ⟨rfl, hb2⟩
  have S2 : Hid (Below w.heap.size w w2) := chain S1.out hb2
  clear hb2
  go_wp2_with fail
  refine (below_nat a pp ha pp_lt _).mono ?_
  rintro e w3 ⟨rfl, hb3⟩
  have S3 : Hid (Below w.heap.size w w3) := chain S2.out hb3
  clear hb3
  go_wp2
  go_ret
  exact ⟨rfl, S3.out⟩
end Go.Proofs.Ytmelibhpjmgbhaa
