/- The reference's Minus, Same. -/
import Derived.Test.YtnmgpkpdjpjbgaaDoorFieRE
namespace Go.Proofs.YtnmgpkpdjpjbgaaDoor
open Go Go.RowKit Go.Lib
set_option linter.unusedSimpArgs false
set_option linter.unusedVariables false
theorem SS.duo (w : World) (a b : Nat) : SS w [(w.heap.size, nl a, 48), (w.heap.size + 1, nl b, 48)] (w.heap.size + 1 + 1) 4 (((w.alloc (.cells (nl a).toArray 48)).alloc (.cells (nl b).toArray 48)).alloc (.cells #[.int .u64 0, .int .u64 0, .int .u64 0, .int .u64 0] 48)) := by
  have h1 : SS w [(w.heap.size, nl a, 48)] (w.heap.size + 1 + 1) 4 (((w.alloc (.cells (nl a).toArray 48)).alloc (.cells (nl b).toArray 48)).alloc (.cells #[.int .u64 0, .int .u64 0, .int .u64 0, .int .u64 0] 48)) := by
    refine ⟨(((Below.refl _ _).alloc (Nat.le_refl _) _).alloc (by simp) _).alloc (by simp; omega) _, ?_, there_of_row (heap_alloc_here _ _ _ (by simp)) 0 4 (by simp)⟩
    intro i g L t hm
    match i, hm with
    | 0, hm =>
      cases hm
      exact (heap_alloc_past _ _ _ (by simp only [World.size_alloc]; omega)).trans ((heap_alloc_past _ _ _ (by simp only [World.size_alloc]; omega)).trans (heap_alloc_here _ _ _ rfl))
  exact h1.add (nl b) _ ((heap_alloc_past _ _ _ (by simp only [World.size_alloc]; omega)).trans (heap_alloc_here _ _ _ (by simp)))
theorem u64_plain : Tryd.prog.plainKey 46 = true := by kernel_rfl
theorem nl_get (m i : Nat) (h : i < 4) : (nl m).toArray[i]? = some (.int .u64 (lw m i)) := by
  match i, h with
  | 0, _ => rfl
  | 1, _ => rfl
  | 2, _ => rfl
  | 3, _ => rfl
theorem items4 (m n : Nat) (d : Nat) (w : World) : ∀ is : List Nat, (∀ i ∈ is, i < 4) →
    (Op.eqItems (d + 1) 46 (Tryd.prog.cellsOf 46) (nl m).toArray (nl n).toArray is).run Tryd.prog w = .ok (is.all fun i => decide (lw m i = lw n i)) w
  | [], _ => by simp [Op.eqItems]
  | i :: is, h => by
    have hi := h i (by simp)
    have hc : Tryd.prog.cellsOf 46 = 1 := by kernel_rfl
    have p1 := run_part_plain (P := Tryd.prog) w u64_plain (xs := (nl m).toArray) (off := i) (nl_get m i hi)
    have p2 := run_part_plain (P := Tryd.prog) w u64_plain (xs := (nl n).toArray) (off := i) (nl_get n i hi)
    have p3 := run_equalIn_int (P := Tryd.prog) w d 46 .u64 .u64 (lw m i) (lw n i) Tryd.underlying46
    have ih := items4 m n d w is (fun j hj => h j (by simp [hj]))
    rw [hc] at ih
    simp only [Op.eqItems, hc, Nat.mul_one, Sem.run_bind, p1, p2, p3, Result.andThen_ok, List.all_cons]
    by_cases e : lw m i = lw n i
    · simp [e, ih]
    · simp [e]
theorem eq_num40 (m n : Nat) (hm : m < RN) (hn : n < RN) (w : World) : (Op.equalIn 10000 48 (.agg (nl m).toArray) (.agg (nl n).toArray)).run Tryd.prog w = .ok (decide (m = n)) w := by
  obtain ⟨i, hi⟩ : ∃ i, Tryd.prog.info? 46 = some i := by
    cases h : Tryd.prog.info? 46 with
    | none => have : (Tryd.prog.info? 46).map (·.size) = some 1 := by kernel_rfl
              rw [h] at this; cases this
    | some i => exact ⟨i, rfl⟩
  have := run_equalIn_array (P := Tryd.prog) w 9999 (nl m).toArray (nl n).toArray Tryd.underlying48 hi
  rw [items4 m n 9998 w _ (fun i hi => List.mem_range.1 hi)] at this
  refine this.trans ?_
  congr 1
  by_cases e : m = n
  · subst e; simp
  · rw [decide_eq_false e, Bool.eq_false_iff]
    intro h
    rw [List.all_eq_true] at h
    refine e (nv_inj hm hn ?_)
    have g := fun i (hi : i < 4) => of_decide_eq_true (h i (List.mem_range.2 hi))
    simp only [nv, g 0 (by omega), g 1 (by omega), g 2 (by omega), g 3 (by omega)]
set_option maxRecDepth 100000 in
set_option maxHeartbeats 2000000 in
theorem rminusX_nat (a b : Nat) (ha : a < RN) (hb : b < RN) (w : World) :
    Calls Tryd.prog 61 #[.agg (nl a).toArray, .agg (nl b).toArray] w fun e w' => ∃ s, s < RN ∧ e = .returned (.agg (nl s).toArray) ∧ (s % pp = (a + (pp - b % pp)) % pp ∧ s = fX (a + (pp - b % pp))) ∧ Below w.heap.size w w' := by
  have HS0 := SS.duo w a b
  go_enter Tryd.func61, Tryd.ntmps61
  go_wp2
  obtain ⟨x0, hx0⟩ : ∃ x, x = (((w.alloc (.cells (nl a).toArray 48)).alloc (.cells (nl b).toArray 48)).alloc (.cells #[.int .u64 0, .int .u64 0, .int .u64 0, .int .u64 0] 48)) := ⟨_, rfl⟩
  have HS : Hid (SS w [(w.heap.size, nl a, 48), (w.heap.size + 1, nl b, 48)] (w.heap.size + 1 + 1) 4 x0) := by rw [hx0]; exact HS0
  rw [← hx0]
  clear hx0 HS0
  refine wp_region_held_drew (S := (fun w' => SS w [(w.heap.size, nl a, 48), (w.heap.size + 1, nl b, 48)] (w.heap.size + 1 + 1) 4 w')) (by kernel_rfl) ?_ (fun hHeld => ?_)
  · exact HS.out.drew
  refine take1 (i := 0) (v := _) 5 rfl rfl (by kernel_rfl) (by kernel_rfl) (by kernel_rfl) (fun _ _ _ h => h) (yieldsIf_load_mid (by rfl) _ _ rfl _ _ rfl _ _ (fun w h => h.range (i := 0) rfl) Tryd.underlying48 rfl (r4 a)) hHeld ?_
  simp only [Act.put, List.setIfInBounds_toArray, List.set_cons_zero, List.set_cons_succ]
  refine take1 (i := 2) (v := _) 7 rfl rfl (by kernel_rfl) (by kernel_rfl) (by kernel_rfl) (fun _ _ _ h => h) (yieldsIf_load_mid (by rfl) _ _ rfl _ _ rfl _ _ (fun w h => h.range (i := 1) rfl) Tryd.underlying48 rfl (r4 b)) hHeld ?_
  simp only [Act.put, List.setIfInBounds_toArray, List.set_cons_zero, List.set_cons_succ]
  refine wpAnyH_ready (rs := [1]) (by kernel_rfl) (by simp) ?_
  refine AllReadyH.cons rfl (fun K hK => ?_) AllReadyH.nil
  go_simp
  go_at_call 83
  refine (rp_any _).mono ?_
  rintro e wA ⟨rfl, hbA⟩
  refine hK.out _ _ ?_ (fun hHeld => ?_)
  · exact hHeld.call hbA
  clear hK K
  try simp only [Act.put, List.setIfInBounds_toArray, List.set_cons_zero, List.set_cons_succ]
  refine wpAnyH_ready (rs := [3]) (by kernel_rfl) (by simp) ?_
  refine AllReadyH.cons rfl (fun K hK => ?_) AllReadyH.nil
  go_simp
  go_at_call 66
  refine (least_nat b hb _).mono ?_
  rintro e wB ⟨rfl, hbB⟩
  refine hK.out _ _ ?_ (fun hHeld => ?_)
  · exact hHeld.call hbB
  clear hK K
  try simp only [Act.put, List.setIfInBounds_toArray, List.set_cons_zero, List.set_cons_succ]
  refine wpAnyH_ready (rs := [4]) (by kernel_rfl) (by simp) ?_
  refine AllReadyH.cons rfl (fun K hK => ?_) AllReadyH.nil
  go_simp
  go_at_call 89
  refine (less_nat pp (b % pp) pp_lt (mod_lt_RN b) (Nat.le_of_lt (Nat.mod_lt _ (by decide))) _).mono ?_
  rintro e wC ⟨rfl, hbC⟩
  refine hK.out _ _ ?_ (fun hHeld => ?_)
  · exact hHeld.call hbC
  clear hK K
  try simp only [Act.put, List.setIfInBounds_toArray, List.set_cons_zero, List.set_cons_succ]
  refine wpAnyH_ready (rs := [5]) (by kernel_rfl) (by simp) ?_
  refine AllReadyH.cons rfl (fun K hK => ?_) AllReadyH.nil
  go_simp
  go_at_call 64
  refine (rplusX_nat a (pp - b % pp) ha (Nat.lt_of_le_of_lt (Nat.sub_le _ _) pp_lt) _).mono ?_
  rintro e wD ⟨s, hs, rfl, es, hbD⟩
  have HES : Hid (s % pp = (a + (pp - b % pp)) % pp ∧ s = fX (a + (pp - b % pp))) := es
  clear es
  refine hK.out _ _ ?_ (fun hHeld => ?_)
  · exact hHeld.call hbD
  clear hK K
  try simp only [Act.put, List.setIfInBounds_toArray, List.set_cons_zero, List.set_cons_succ]
  have hT : wD.there (w.heap.size + 1 + 1) 0 4 := hHeld.there
  refine wpAnyH_ready (rs := [6]) (by kernel_rfl) (by simp) ?_
  refine AllReadyH.cons rfl (fun K hK => ?_) AllReadyH.nil
  rw [if_pos (by rfl)]
  refine wp_store_mid _ _ _ rfl _ _ (nl s).toArray rfl rfl hT (r4 s) (four_one s) ?_
  refine hK.out _ _ ?_ (fun hHeld => ?_)
  · exact hHeld.store (by omega) (ne2 (by omega) (by omega)) _
  clear hK K
  try simp only [Act.put, List.setIfInBounds_toArray, List.set_cons_zero, List.set_cons_succ]
  refine wpAnyH_done (by kernel_rfl) ?_ _
  go_wp2
  refine bodyPost_ret (v := .agg (nl s).toArray) (results_mid Tryd.results61 _ _ (w.heap.size + 1 + 1) 0 (nl s) _ rfl (World.rangeAt_setCells_same _ _ _ _ hT) Tryd.underlying48 rfl (r4 s)) rfl ⟨s, hs, rfl, HES.out, hHeld.below⟩
set_option maxRecDepth 100000 in
set_option maxHeartbeats 2000000 in
theorem same_nat (a b : Nat) (ha : a < RN) (hb : b < RN) (w : World) :
    Calls Tryd.prog 87 #[.agg (nl a).toArray, .agg (nl b).toArray] w fun e w' => e = .returned (.bool (decide (a % pp = b % pp))) ∧ Below w.heap.size w w' := by
  have HS0 := (HH.one w (nl a) 48).more (nl b) 48
  simp only [World.size_alloc, List.cons_append, List.nil_append] at HS0
  have he := eq_num40 (a % pp) (b % pp) (mod_lt_RN a) (mod_lt_RN b)
  go_enter Tryd.func87, Tryd.ntmps87
  go_wp2
  obtain ⟨x0, hx0⟩ : ∃ x, x = (w.alloc (.cells (nl a).toArray 48)).alloc (.cells (nl b).toArray 48) := ⟨_, rfl⟩
  have HS : Hid (HH w [(w.heap.size, nl a, 48), (w.heap.size + 1, nl b, 48)] x0) := by rw [hx0]; exact HS0
  rw [← hx0]
  clear hx0 HS0
  refine wp_region_held_drew (S := (fun w' => HH w [(w.heap.size, nl a, 48), (w.heap.size + 1, nl b, 48)] w')) (by kernel_rfl) ?_ (fun hHeld => ?_)
  · exact HS.out.drew
  refine take1 (i := 0) (v := _) 5 rfl rfl (by kernel_rfl) (by kernel_rfl) (by kernel_rfl) (fun _ _ _ h => h) (yieldsIf_load_mid (by rfl) _ _ rfl _ _ rfl _ _ (fun w h => h.range (i := 0) rfl) Tryd.underlying48 rfl (r4 a)) hHeld ?_
  simp only [Act.put, List.setIfInBounds_toArray, List.set_cons_zero, List.set_cons_succ]
  refine take1 (i := 2) (v := _) 7 rfl rfl (by kernel_rfl) (by kernel_rfl) (by kernel_rfl) (fun _ _ _ h => h) (yieldsIf_load_mid (by rfl) _ _ rfl _ _ rfl _ _ (fun w h => h.range (i := 1) rfl) Tryd.underlying48 rfl (r4 b)) hHeld ?_
  simp only [Act.put, List.setIfInBounds_toArray, List.set_cons_zero, List.set_cons_succ]
  refine wpAnyH_ready (rs := [1]) (by kernel_rfl) (by simp) ?_
  refine AllReadyH.cons rfl (fun K hK => ?_) AllReadyH.nil
  go_simp
  go_at_call 66
  refine (least_nat a ha _).mono ?_
  rintro e wA ⟨rfl, hbA⟩
  refine hK.out _ _ ?_ (fun hHeld => ?_)
  · exact hHeld.call hbA
  clear hK K
  try simp only [Act.put, List.setIfInBounds_toArray, List.set_cons_zero, List.set_cons_succ]
  refine wpAnyH_ready (rs := [3]) (by kernel_rfl) (by simp) ?_
  refine AllReadyH.cons rfl (fun K hK => ?_) AllReadyH.nil
  go_simp
  go_at_call 66
  refine (least_nat b hb _).mono ?_
  rintro e wB ⟨rfl, hbB⟩
  refine hK.out _ _ ?_ (fun hHeld => ?_)
  · exact hHeld.call hbB
  clear hK K
  try simp only [Act.put, List.setIfInBounds_toArray, List.set_cons_zero, List.set_cons_succ]
  refine take1 (i := 4) (v := ?_) 9 rfl rfl (by kernel_rfl) (by kernel_rfl) (by kernel_rfl) (fun _ _ _ h => h) (Or.inl ⟨by rfl, ?_⟩) hHeld ?_
  rotate_left 1
  · intro w hSw; go_simp <;> with_reducible rfl
  simp only [Act.put, List.setIfInBounds_toArray, List.set_cons_zero, List.set_cons_succ]
  refine take1 (i := 5) (v := ?_) 4 rfl rfl (by kernel_rfl) (by kernel_rfl) (by kernel_rfl) (fun _ _ _ h => h) (Or.inl ⟨by rfl, ?_⟩) hHeld ?_
  rotate_left 1
  · intro w hSw; go_simp <;> with_reducible rfl
  simp only [Act.put, List.setIfInBounds_toArray, List.set_cons_zero, List.set_cons_succ]
  refine wpAnyH_done (by kernel_rfl) ?_ _
  go_wp2
  go_ret
  exact ⟨rfl, hHeld.below⟩
theorem rminus_nat (a b : Nat) (ha : a < RN) (hb : b < RN) (w : World) :
    Calls Tryd.prog 61 #[.agg (nl a).toArray, .agg (nl b).toArray] w fun e w' => ∃ s, s < RN ∧ e = .returned (.agg (nl s).toArray) ∧ s % pp = (a + (pp - b % pp)) % pp ∧ Below w.heap.size w w' :=
  (rminusX_nat a b ha hb w).mono fun e w' ⟨s, h1, h2, h3, h4⟩ => ⟨s, h1, h2, h3.1, h4⟩
end Go.Proofs.YtnmgpkpdjpjbgaaDoor
