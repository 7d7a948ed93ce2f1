/- The reference's Sqrt. -/
import Derived.Test.YtmelibhpjmgbhaaFieRL
namespace Go.Proofs.Ytmelibhpjmgbhaa
open Go Go.RowKit Go.Lib
set_option linter.unusedSimpArgs false
set_option linter.unusedVariables false
theorem lit0n : (#[.int .u64 0, .int .u64 0, .int .u64 0, .int .u64 0] : Array Value) = (nl 0).toArray := by kernel_rfl
theorem rem2 (m : Nat) : lw m 0 % 2 = ((m % 2 : Nat) : Int) ∧ (lw m 0).tmod 2 = ((m % 2 : Nat) : Int) := by
  have e : lw m 0 % 2 = ((m % 2 : Nat) : Int) := by unfold lw; rw [Nat.pow_zero, Nat.div_one]; omega
  refine ⟨e, ?_⟩
  rw [Int.tmod_eq_emod_of_nonneg (lw_word m 0).1]
  exact e
set_option maxRecDepth 100000 in
set_option maxHeartbeats 4000000 in
theorem rSqrt_any (a : Nat) (ha : a < RN) (w : World) :
    Calls Try.prog 10 #[.agg (bl a).toArray] w fun e w' => e = .returned (.tuple #[.agg (bl (sqv a)).toArray, .int .i64 (sqe a)]) ∧ Below w.heap.size w w' := by
  have hz32 := zero_32
  have hrp := rt_lt a
  have hrl : rt a < RN := Nat.lt_trans hrp pp_lt
  have sm0 := rSmall_any 0
  rw [lit0n] at sm0
  have HS : Hid (SS w [(w.heap.size, bl a, 22)] (w.heap.size + 1) 32 _) := SS.one32 w a
  have HC : Hid (World.rangeAt _ w.heap.size 0 (bl a)) := HS.out.range (i := 0) rfl
  have hza : (bl a).toArray.size = 32 := br_size a
  have hz0 : (bl 0).toArray.size = 32 := br_size 0
  have ro := rroot_nat a ha
  simp only [br] at hz32
  by_cases hd : rt a * rt a % pp = a % pp
  · have HD : Hid (rt a * rt a % pp = a % pp) := hd
    rw [decide_eq_true hd] at ro
    clear hd
    have rr := rem2 (rt a)
    have hev : rt a % 2 = 0 ∨ rt a % 2 = 1 := by omega
    have HZ0 : Hid (rt a % 2 = 1 → ∀ z, z % pp = (0 + (pp - rt a % pp)) % pp → z % pp = ev (rt a)) := fun ho z ez => by
      rw [ez, ev, if_pos ho, Nat.zero_add, Nat.mod_eq_of_lt hrp]
      exact Nat.mod_eq_of_lt (by omega)
    go_enter Try.func10, Try.ntmps10
    go_wp2_with (refine wpList_load_mid rfl 22 _ rfl w.heap.size 0 rfl (bl a) _ HC.out Try.underlying22 rfl (i32 a) ?_)
    refine (rfrom_nat a ha _).mono ?_
    rintro e w1 ⟨rfl, hb1⟩
    have S1 : Hid (SS w [(w.heap.size, bl a, 22)] (w.heap.size + 1) 32 w1) := HS.out.call hb1
    clear HC HS hb1
    go_wp2_with fail
    refine (ro _).mono ?_
    rintro e w2 ⟨rfl, hb2⟩
    have S2 := S1.out.call hb2
    have lr2 := S2.rlt
    have HSSa : Hid (SS w [(w.heap.size, bl a, 22)] (w.heap.size + 1) 32 (w2.alloc (.cells (nl (rt a)).toArray 40))) := S2.alloc _
    clear hb2 S1 S2
    rcases hev with he | he
    · rw [he] at rr
      obtain ⟨rr1, rr2⟩ := rr
      have HVX : Hid (rt a % pp = ev (rt a)) := by show _ = _; rw [ev, if_neg (by omega)]; exact Nat.mod_eq_of_lt hrp
      have HSX : Hid (SS w [(w.heap.size, bl a, 22)] (w.heap.size + 1) 32 (w2.alloc (.cells (nl (rt a)).toArray 40))) := HSSa.out
      have HNX : Hid ((w2.alloc (.cells (nl (rt a)).toArray 40)).heap[w2.heap.size]? = some (.cells (nl (rt a)).toArray 40 (0, 0))) := heap_alloc_here _ _ _ rfl
      clear HSSa
      have HC6 : Hid (World.rangeAt _ w2.heap.size 0 (nl (rt a))) := range_of_row (cs := (nl (rt a)).toArray) HNX.out
      go_wp2_with (refine wpList_load_mid rfl 40 _ rfl w2.heap.size 0 rfl (nl (rt a)) _ HC6.out Try.underlying40 rfl (r4 (rt a)) ?_)
      refine (rbytes_nat (rt a) hrl _).mono ?_
      rintro e wY ⟨rfl, hbY⟩
      have S6 : Hid (SS w [(w.heap.size, bl a, 22)] (w.heap.size + 1) 32 wY) := HSX.out.call hbY
      have HT6 : Hid (wY.there (w.heap.size + 1) 0 (br (rt a % pp)).size) := by rw [br_size]; exact S6.out.there
      clear hbY HC6
      go_wp2_with (refine wpList_store_mid rfl 22 _ _ rfl (w.heap.size + 1) 0 (br (rt a % pp)) rfl rfl HT6.out (by rw [br_size]; exact size_32) (br_one _) ?_)
      refine bodyPost_ret (v := .tuple #[.agg (bl (rt a % pp)).toArray, .int .i64 0]) (results_mid_tmp Try.results10 _ _ (w.heap.size + 1) 0 (bl (rt a % pp)) _ _ rfl rfl (World.rangeAt_setCells_same _ _ _ _ HT6.out) Try.underlying22 rfl (i32 _)) rfl ⟨?_, below_setCells _ (by omega) _ _ _ S6.out.below⟩
      rw [HVX.out, sqv, sqe, if_pos HD.out, if_pos HD.out]
    · have HZ : Hid (∀ z, z % pp = (0 + (pp - rt a % pp)) % pp → z % pp = ev (rt a)) := HZ0.out he
      rw [he] at rr
      obtain ⟨rr1, rr2⟩ := rr
      go_wp2_with fail
      obtain ⟨x2, hx2⟩ : ∃ x, x = w2.alloc (.cells (nl (rt a)).toArray 40) := ⟨_, rfl⟩
      have HSS : Hid (SS w [(w.heap.size, bl a, 22)] (w.heap.size + 1) 32 x2) := by rw [hx2]; exact HSSa.out
      have HNN : Hid (x2.heap[w2.heap.size]? = some (.cells (nl (rt a)).toArray 40 (0, 0))) := by rw [hx2]; exact heap_alloc_here _ _ _ rfl
      rw [← hx2]
      clear hx2 HSSa
      refine wp_region_held_drew (S := (fun w' => SS w [(w.heap.size, bl a, 22)] (w.heap.size + 1) 32 w')) (by kernel_rfl) ?_ (fun hHeld => ?_)
      · exact HSS.out.drew
      refine wpAnyH_ready (rs := [0, 1]) (by kernel_rfl) (by simp) ?_
      refine AllReadyH.cons rfl (fun K hK => ?_) (AllReadyH.cons rfl (fun K hK => ?_) AllReadyH.nil)
      · go_simp
        go_at_call 30
        refine (sm0 _).mono ?_
        rintro e wP ⟨rfl, hbP⟩
        refine hK.out _ _ (hHeld.call hbP) (fun hHeld => ?_)
        clear hK K
        try simp only [Act.put, List.setIfInBounds_toArray, List.set_cons_zero, List.set_cons_succ]
        have hnP := keep' (w := x2.drew) hbP HNN.out
        refine wpAnyH_ready (rs := [1]) (by kernel_rfl) (by simp) ?_
        refine AllReadyH.cons rfl (fun K hK => ?_) AllReadyH.nil
        rw [if_pos (by rfl)]
        refine wp_load_mid _ _ rfl _ _ rfl (nl (rt a)) _ (range_of_row (cs := (nl (rt a)).toArray) (w := wP) hnP) Try.underlying40 rfl (r4 (rt a)) ?_
        refine hK.out _ _ hHeld (fun hHeld => ?_)
        clear hK K
        try simp only [Act.put, List.setIfInBounds_toArray, List.set_cons_zero, List.set_cons_succ]
        refine wpAnyH_ready (rs := [2]) (by kernel_rfl) (by simp) ?_
        refine AllReadyH.cons rfl (fun K hK => ?_) AllReadyH.nil
        go_simp
        go_at_call 29
        refine (rminus_nat 0 (rt a) (by decide) hrl _).mono ?_
        rintro e wQ ⟨z, hz, rfl, ez, hbQ⟩
        refine hK.out _ _ (hHeld.call hbQ) (fun hHeld => ?_)
        clear hK K
        try simp only [Act.put, List.setIfInBounds_toArray, List.set_cons_zero, List.set_cons_succ]
        have hnQ := keep' hbQ hnP
        refine wpAnyH_ready (rs := [3]) (by kernel_rfl) (by simp) ?_
        refine AllReadyH.cons rfl (fun K hK => ?_) AllReadyH.nil
        rw [if_pos (by rfl)]
        refine wp_store_mid _ _ _ rfl _ _ (nl z).toArray rfl rfl (there_of_row hnQ 0 4 (by simp)) (r4 z) (four_one z) ?_
        refine hK.out _ _ (hHeld.put (by omega) (lt1 (by omega)) _) (fun hHeld => ?_)
        clear hK K
        try simp only [Act.put, List.setIfInBounds_toArray, List.set_cons_zero, List.set_cons_succ]
        refine wpAnyH_done (by kernel_rfl) ?_ _
        have hnZ := set_row4 (y0 := .int .u64 (lw z 0)) (y1 := .int .u64 (lw z 1)) (y2 := .int .u64 (lw z 2)) (y3 := .int .u64 (lw z 3)) hnQ
        have HSX : Hid (SS w [(w.heap.size, bl a, 22)] (w.heap.size + 1) 32 _) := hHeld
        have HNX : Hid (_ = _) := hnZ
        have HVX : Hid (z % pp = ev (rt a)) := HZ.out z ez
        clear hHeld ez
        have HC6 : Hid (World.rangeAt _ w2.heap.size 0 (nl z)) := range_of_row (cs := (nl z).toArray) HNX.out
        go_wp2_with (refine wpList_load_mid rfl 40 _ rfl w2.heap.size 0 rfl (nl z) _ HC6.out Try.underlying40 rfl (r4 z) ?_)
        refine (rbytes_nat z hz _).mono ?_
        rintro e wY ⟨rfl, hbY⟩
        have S6 : Hid (SS w [(w.heap.size, bl a, 22)] (w.heap.size + 1) 32 wY) := HSX.out.call hbY
        have HT6 : Hid (wY.there (w.heap.size + 1) 0 (br (z % pp)).size) := by rw [br_size]; exact S6.out.there
        clear hbY HC6
        go_wp2_with (refine wpList_store_mid rfl 22 _ _ rfl (w.heap.size + 1) 0 (br (z % pp)) rfl rfl HT6.out (by rw [br_size]; exact size_32) (br_one _) ?_)
        refine bodyPost_ret (v := .tuple #[.agg (bl (z % pp)).toArray, .int .i64 0]) (results_mid_tmp Try.results10 _ _ (w.heap.size + 1) 0 (bl (z % pp)) _ _ rfl rfl (World.rangeAt_setCells_same _ _ _ _ HT6.out) Try.underlying22 rfl (i32 _)) rfl ⟨?_, below_setCells _ (by omega) _ _ _ S6.out.below⟩
        rw [HVX.out, sqv, sqe, if_pos HD.out, if_pos HD.out]
      · rw [if_pos (by rfl)]
        refine wp_load_mid _ _ rfl _ _ rfl (nl (rt a)) _ (range_of_row (cs := (nl (rt a)).toArray) (w := x2.drew) HNN.out) Try.underlying40 rfl (r4 (rt a)) ?_
        refine hK.out _ _ hHeld (fun hHeld => ?_)
        clear hK K
        try simp only [Act.put, List.setIfInBounds_toArray, List.set_cons_zero, List.set_cons_succ]
        refine wpAnyH_ready (rs := [0]) (by kernel_rfl) (by simp) ?_
        refine AllReadyH.cons rfl (fun K hK => ?_) AllReadyH.nil
        go_simp
        go_at_call 30
        refine (sm0 _).mono ?_
        rintro e wP ⟨rfl, hbP⟩
        refine hK.out _ _ (hHeld.call hbP) (fun hHeld => ?_)
        clear hK K
        try simp only [Act.put, List.setIfInBounds_toArray, List.set_cons_zero, List.set_cons_succ]
        have hnP := keep' (w := x2.drew) hbP HNN.out
        refine wpAnyH_ready (rs := [2]) (by kernel_rfl) (by simp) ?_
        refine AllReadyH.cons rfl (fun K hK => ?_) AllReadyH.nil
        go_simp
        go_at_call 29
        refine (rminus_nat 0 (rt a) (by decide) hrl _).mono ?_
        rintro e wQ ⟨z, hz, rfl, ez, hbQ⟩
        refine hK.out _ _ (hHeld.call hbQ) (fun hHeld => ?_)
        clear hK K
        try simp only [Act.put, List.setIfInBounds_toArray, List.set_cons_zero, List.set_cons_succ]
        have hnQ := keep' hbQ hnP
        refine wpAnyH_ready (rs := [3]) (by kernel_rfl) (by simp) ?_
        refine AllReadyH.cons rfl (fun K hK => ?_) AllReadyH.nil
        rw [if_pos (by rfl)]
        refine wp_store_mid _ _ _ rfl _ _ (nl z).toArray rfl rfl (there_of_row hnQ 0 4 (by simp)) (r4 z) (four_one z) ?_
        refine hK.out _ _ (hHeld.put (by omega) (lt1 (by omega)) _) (fun hHeld => ?_)
        clear hK K
        try simp only [Act.put, List.setIfInBounds_toArray, List.set_cons_zero, List.set_cons_succ]
        refine wpAnyH_done (by kernel_rfl) ?_ _
        have hnZ := set_row4 (y0 := .int .u64 (lw z 0)) (y1 := .int .u64 (lw z 1)) (y2 := .int .u64 (lw z 2)) (y3 := .int .u64 (lw z 3)) hnQ
        have HSX : Hid (SS w [(w.heap.size, bl a, 22)] (w.heap.size + 1) 32 _) := hHeld
        have HNX : Hid (_ = _) := hnZ
        have HVX : Hid (z % pp = ev (rt a)) := HZ.out z ez
        clear hHeld ez
        have HC6 : Hid (World.rangeAt _ w2.heap.size 0 (nl z)) := range_of_row (cs := (nl z).toArray) HNX.out
        go_wp2_with (refine wpList_load_mid rfl 40 _ rfl w2.heap.size 0 rfl (nl z) _ HC6.out Try.underlying40 rfl (r4 z) ?_)
        refine (rbytes_nat z hz _).mono ?_
        rintro e wY ⟨rfl, hbY⟩
        have S6 : Hid (SS w [(w.heap.size, bl a, 22)] (w.heap.size + 1) 32 wY) := HSX.out.call hbY
        have HT6 : Hid (wY.there (w.heap.size + 1) 0 (br (z % pp)).size) := by rw [br_size]; exact S6.out.there
        clear hbY HC6
        go_wp2_with (refine wpList_store_mid rfl 22 _ _ rfl (w.heap.size + 1) 0 (br (z % pp)) rfl rfl HT6.out (by rw [br_size]; exact size_32) (br_one _) ?_)
        refine bodyPost_ret (v := .tuple #[.agg (bl (z % pp)).toArray, .int .i64 0]) (results_mid_tmp Try.results10 _ _ (w.heap.size + 1) 0 (bl (z % pp)) _ _ rfl rfl (World.rangeAt_setCells_same _ _ _ _ HT6.out) Try.underlying22 rfl (i32 _)) rfl ⟨?_, below_setCells _ (by omega) _ _ _ S6.out.below⟩
        rw [HVX.out, sqv, sqe, if_pos HD.out, if_pos HD.out]
  · have HD : Hid (¬ rt a * rt a % pp = a % pp) := hd
    rw [decide_eq_false hd] at ro
    clear hd
    go_enter Try.func10, Try.ntmps10
    go_wp2_with (refine wpList_load_mid rfl 22 _ rfl w.heap.size 0 rfl (bl a) _ HC.out Try.underlying22 rfl (i32 a) ?_)
    refine (rfrom_nat a ha _).mono ?_
    rintro e w1 ⟨rfl, hb1⟩
    have S1 : Hid (SS w [(w.heap.size, bl a, 22)] (w.heap.size + 1) 32 w1) := HS.out.call hb1
    clear HC HS hb1
    go_wp2_with fail
    refine (ro _).mono ?_
    rintro e w2 ⟨rfl, hb2⟩
    have S2 := S1.out.call hb2
    have lr2 := S2.rlt
    have HSSa : Hid (SS w [(w.heap.size, bl a, 22)] (w.heap.size + 1) 32 (w2.alloc (.cells (nl (rt a)).toArray 40))) := S2.alloc _
    have HT : Hid (World.there (w2.alloc (.cells (nl (rt a)).toArray 40)) (w.heap.size + 1) 0 (br 0).size) := by rw [br_size]; exact HSSa.out.there
    clear hb2 S1 S2
    go_wp2_with (refine wpList_store_mid rfl 22 _ _ rfl (w.heap.size + 1) 0 (br 0) rfl (by first | rfl | exact congrArg Value.agg lit0) HT.out (by rw [br_size]; exact size_32) (br_one _) ?_)
    refine bodyPost_ret (v := .tuple #[.agg (bl 0).toArray, .int .i64 4]) (results_mid_tmp Try.results10 _ _ (w.heap.size + 1) 0 (bl 0) _ _ rfl rfl (World.rangeAt_setCells_same _ _ _ _ HT.out) Try.underlying22 rfl (i32 _)) rfl ⟨?_, below_setCells _ (by omega) _ _ _ HSSa.out.below⟩
    rw [sqv, sqe, if_neg HD.out, if_neg HD.out]
end Go.Proofs.Ytmelibhpjmgbhaa
