/- The reference's Least. -/
import Derived.Test.YtnmgpkpdjpjbgaaDoorFieRD
namespace Go.Proofs.YtnmgpkpdjpjbgaaDoor
open Go Go.RowKit Go.Lib
set_option linter.unusedSimpArgs false
set_option linter.unusedVariables false
theorem SS.nothing {w0 : World} {bs : List (Nat × List Value × TypeId)} {r n : Nat} {w : World} (h : SS w0 bs r n w) : SS w0 [] r n w := ⟨h.below, fun i g L t hm => by simp at hm, h.there⟩
theorem SS.only {w0 : World} {r n q : Nat} {w : World} (h : SS w0 [] r n w) (L : List Value) (t : TypeId) (hq : w.heap[q]? = some (.cells L.toArray t (0, 0))) : SS w0 [(q, L, t)] r n w := h.add L t hq
set_option maxRecDepth 100000 in
set_option maxHeartbeats 4000000 in
theorem least_nat (a : Nat) (ha : a < RN) (w : World) :
    Calls Tryd.prog 66 #[.agg (nl a).toArray] w fun e w' => e = .returned (.agg (nl (a % pp)).toArray) ∧ Below w.heap.size w w' := by
  have HS0 : Hid (SS w [] (w.heap.size + 1) 4 _) := SS.num40 w (Num.of a)
  go_enter Tryd.func66, Tryd.ntmps66
  go_wp2
  go_loopg [3] (a / pp) (fun k _ wr => ∃ x : Nat, x < RN ∧ x % pp = a % pp ∧ x / pp ≤ k ∧ wr.heap[w.heap.size]? = some (.cells (nl x).toArray 48 (0, 0)) ∧ SS w [] (w.heap.size + 1) 4 wr)
  case atStart => exact ⟨a, ha, rfl, Nat.le_refl _, (heap_alloc_past _ _ _ (by simp)).trans (heap_alloc_here _ _ _ rfl), HS0.out⟩
  case round =>
    obtain ⟨x, hx, ex, hk, hnum, hss⟩ := hrel
    have HN : Hid (wr.heap[w.heap.size]? = some (.cells (nl x).toArray 48 (0, 0))) := hnum
    have HS1 : Hid (SS w [(w.heap.size, nl x, 48)] (w.heap.size + 1) 4 wr) := hss.only (nl x) _ hnum
    have HX : Hid (x % pp = a % pp) := ex
    have HK : Hid (x / pp ≤ gk) := hk
    clear ex hk hnum hss
    have bel0 := fun hx => below_nat x pp hx pp_lt
    by_cases hlt : x < pp
    · have bel : ∀ (hx : x < RN) w, Calls Tryd.prog 82 #[.agg (nl x).toArray, .agg (nl pp).toArray] w fun e w' => e = .returned (.bool true) ∧ Below w.heap.size w w' := fun hx w => by
        have := bel0 hx w; rw [decide_eq_true hlt] at this; exact this
      have HE : Hid (x = a % pp) := by show _ = _; rw [← HX.out, Nat.mod_eq_of_lt hlt]
      go_wp2_with fail
      refine wp_region_held_drew (S := (fun w' => SS w [(w.heap.size, nl x, 48)] (w.heap.size + 1) 4 w')) (by kernel_rfl) ?_ (fun hHeld => ?_)
      · exact HS1.out.drew
      refine take1 (i := 0) (v := _) 3 rfl rfl (by kernel_rfl) (by kernel_rfl) (by kernel_rfl) (fun _ _ _ h => h) (yieldsIf_load_mid (by rfl) _ _ rfl _ _ rfl _ _ (fun w h => h.range (i := 0) rfl) Tryd.underlying48 rfl (r4 x)) hHeld ?_
      simp only [Act.put, List.setIfInBounds_toArray, List.set_cons_zero, List.set_cons_succ]
      refine wpAnyH_ready (rs := [1]) (by kernel_rfl) (by simp) ?_
      refine AllReadyH.cons rfl (fun K hK => ?_) AllReadyH.nil
      go_simp
      go_at_call 83
      refine (rp_any _).mono ?_
      rintro e wA ⟨rfl, hbA⟩
      refine hK.out _ _ ?_ (fun hHeld => ?_)
      · exact hHeld.call hbA
      clear hK K
      try simp only [Act.put, List.setIfInBounds_toArray, List.set_cons_zero, List.set_cons_succ]
      refine wpAnyH_ready (rs := [2]) (by kernel_rfl) (by simp) ?_
      refine AllReadyH.cons rfl (fun K hK => ?_) AllReadyH.nil
      go_simp
      go_at_call 82
      refine (bel hx _).mono ?_
      rintro e wB ⟨rfl, hbB⟩
      refine hK.out _ _ ?_ (fun hHeld => ?_)
      · exact hHeld.call hbB
      clear hK K
      try simp only [Act.put, List.setIfInBounds_toArray, List.set_cons_zero, List.set_cons_succ]
      refine take1 (i := 3) (v := ?_) 6 rfl rfl (by kernel_rfl) (by kernel_rfl) (by kernel_rfl) (fun _ _ _ h => h) (Or.inl ⟨by rfl, ?_⟩) hHeld ?_
      rotate_left 1
      · intro w hSw; go_simp <;> with_reducible rfl
      simp only [Act.put, List.setIfInBounds_toArray, List.set_cons_zero, List.set_cons_succ]
      refine wpAnyH_done (by kernel_rfl) ?_ _
      have HC : Hid (World.rangeAt _ w.heap.size 0 (nl x)) := hHeld.range (i := 0) rfl
      have HT : Hid (World.there _ (w.heap.size + 1) 0 4) := hHeld.there
      have HB : Hid (Below w.heap.size w wB) := hHeld.below
      clear hHeld
      go_wp2_with (first | (refine wpList_load_mid rfl 48 _ rfl w.heap.size 0 rfl (nl x) _ HC.out Tryd.underlying48 rfl (r4 x) ?_) | (refine wpList_store_mid rfl 48 _ _ rfl (w.heap.size + 1) 0 (nl x).toArray rfl rfl HT.out (r4 x) (four_one x) ?_))
      refine bodyPost_ret (v := .agg (nl x).toArray) (results_mid Tryd.results66 _ _ (w.heap.size + 1) 0 (nl x) _ rfl (World.rangeAt_setCells_same _ _ _ _ HT.out) Tryd.underlying48 rfl (r4 x)) rfl ⟨congrArg (fun n => Ending.returned (.agg (nl n).toArray)) HE.out, below_setCells _ (by omega) _ _ _ HB.out⟩
    · have bel : ∀ (hx : x < RN) w, Calls Tryd.prog 82 #[.agg (nl x).toArray, .agg (nl pp).toArray] w fun e w' => e = .returned (.bool false) ∧ Below w.heap.size w w' := fun hx w => by
        have := bel0 hx w; rw [decide_eq_false hlt] at this; exact this
      obtain ⟨z, hz⟩ : ∃ z, z = x - pp := ⟨_, rfl⟩
      have hge : pp ≤ x := by omega
      have les : ∀ x, x < RN → pp ≤ x → ∀ w, Calls Tryd.prog 89 #[.agg (nl x).toArray, .agg (nl pp).toArray] w fun e w' => e = .returned (.agg (nl (x - pp)).toArray) ∧ Below w.heap.size w w' := fun x hx h w => less_nat x pp hx pp_lt h w
      have lesz : ∀ w, Calls Tryd.prog 89 #[.agg (nl x).toArray, .agg (nl pp).toArray] w fun e w' => e = .returned (.agg (nl z).toArray) ∧ Below w.heap.size w w' := fun w => by rw [hz]; exact les x hx hge w
      have hd : x / pp = z / pp + 1 := by
        have : x = z + pp := by omega
        rw [this, Nat.add_div_right _ (show 0 < pp by decide)]
      have HZ : Hid (z < RN ∧ z % pp = a % pp ∧ z / pp ≤ gk - 1) := by
        refine ⟨by omega, ?_, ?_⟩
        · rw [← HX.out, show x = z + pp by omega, Nat.add_mod_right]
        · have := HK.out; rw [hd] at this; exact Nat.le_sub_of_add_le this
      have HM : Hid (gk - 1 < gk) := by
        have h1 : 1 ≤ x / pp := by rw [hd]; exact Nat.le_add_left 1 _
        have h2 : 1 ≤ gk := Nat.le_trans h1 HK.out
        show gk - 1 < gk
        omega
      clear hz hd les
      go_wp2_with fail
      refine wp_region_held_drew (S := (fun w' => SS w [(w.heap.size, nl x, 48)] (w.heap.size + 1) 4 w')) (by kernel_rfl) ?_ (fun hHeld => ?_)
      · exact HS1.out.drew
      refine take1 (i := 0) (v := _) 3 rfl rfl (by kernel_rfl) (by kernel_rfl) (by kernel_rfl) (fun _ _ _ h => h) (yieldsIf_load_mid (by rfl) _ _ rfl _ _ rfl _ _ (fun w h => h.range (i := 0) rfl) Tryd.underlying48 rfl (r4 x)) hHeld ?_
      simp only [Act.put, List.setIfInBounds_toArray, List.set_cons_zero, List.set_cons_succ]
      refine wpAnyH_ready (rs := [1]) (by kernel_rfl) (by simp) ?_
      refine AllReadyH.cons rfl (fun K hK => ?_) AllReadyH.nil
      go_simp
      go_at_call 83
      refine (rp_any _).mono ?_
      rintro e wA ⟨rfl, hbA⟩
      refine hK.out _ _ ?_ (fun hHeld => ?_)
      · exact hHeld.call hbA
      clear hK K
      try simp only [Act.put, List.setIfInBounds_toArray, List.set_cons_zero, List.set_cons_succ]
      refine wpAnyH_ready (rs := [2]) (by kernel_rfl) (by simp) ?_
      refine AllReadyH.cons rfl (fun K hK => ?_) AllReadyH.nil
      go_simp
      go_at_call 82
      refine (bel hx _).mono ?_
      rintro e wB ⟨rfl, hbB⟩
      refine hK.out _ _ ?_ (fun hHeld => ?_)
      · exact hHeld.call hbB
      clear hK K
      try simp only [Act.put, List.setIfInBounds_toArray, List.set_cons_zero, List.set_cons_succ]
      refine take1 (i := 3) (v := ?_) 6 rfl rfl (by kernel_rfl) (by kernel_rfl) (by kernel_rfl) (fun _ _ _ h => h) (Or.inl ⟨by rfl, ?_⟩) hHeld ?_
      rotate_left 1
      · intro w hSw; go_simp <;> with_reducible rfl
      simp only [Act.put, List.setIfInBounds_toArray, List.set_cons_zero, List.set_cons_succ]
      refine wpAnyH_done (by kernel_rfl) ?_ _
      have HN2 : Hid (wB.heap[w.heap.size]? = some (.cells (nl x).toArray 48 (0, 0))) := hHeld.holds 0 _ _ _ rfl
      have HS2 : Hid (SS w [] (w.heap.size + 1) 4 wB) := hHeld.nothing
      clear hHeld
      go_wp2_with fail
      refine wp_region_held_drew (S := (fun w' => SS w [] (w.heap.size + 1) 4 w')) (by kernel_rfl) ?_ (fun hHeld => ?_)
      · exact HS2.out.drew
      refine wpAnyH_ready (rs := [0, 1]) (by kernel_rfl) (by simp) ?_
      refine AllReadyH.cons rfl (fun K hK => ?_) (AllReadyH.cons rfl (fun K hK => ?_) AllReadyH.nil)
      · rw [if_pos (by rfl)]
        refine wp_load_mid _ _ rfl _ _ rfl (nl x) _ (range_of_row (cs := (nl x).toArray) (w := wB.drew) HN2.out) Tryd.underlying48 rfl (r4 x) ?_
        refine hK.out _ _ hHeld (fun hHeld => ?_)
        clear hK K
        try simp only [Act.put, List.setIfInBounds_toArray, List.set_cons_zero, List.set_cons_succ]
        refine wpAnyH_ready (rs := [1]) (by kernel_rfl) (by simp) ?_
        refine AllReadyH.cons rfl (fun K hK => ?_) AllReadyH.nil
        go_simp
        go_at_call 83
        refine (rp_any _).mono ?_
        rintro e wP ⟨rfl, hbP⟩
        refine hK.out _ _ (hHeld.call hbP) (fun hHeld => ?_)
        clear hK K
        try simp only [Act.put, List.setIfInBounds_toArray, List.set_cons_zero, List.set_cons_succ]
        have hnP := keep' (w := wB.drew) hbP HN2.out
        refine wpAnyH_ready (rs := [2]) (by kernel_rfl) (by simp) ?_
        refine AllReadyH.cons rfl (fun K hK => ?_) AllReadyH.nil
        go_simp
        go_at_call 89
        refine (lesz _).mono ?_
        rintro e wQ ⟨rfl, hbQ⟩
        refine hK.out _ _ (hHeld.call hbQ) (fun hHeld => ?_)
        clear hK K
        try simp only [Act.put, List.setIfInBounds_toArray, List.set_cons_zero, List.set_cons_succ]
        have hnQ := keep' hbQ hnP
        refine wpAnyH_ready (rs := [3]) (by kernel_rfl) (by simp) ?_
        refine AllReadyH.cons rfl (fun K hK => ?_) AllReadyH.nil
        rw [if_pos (by rfl)]
        refine wp_store_mid _ _ _ rfl _ _ (nl z).toArray rfl rfl (there_of_row hnQ 0 4 (by simp)) (r4 z) (four_one z) ?_
        refine hK.out _ _ (hHeld.put (by omega) (fun b hb => by simp at hb) _) (fun hHeld => ?_)
        clear hK K
        try simp only [Act.put, List.setIfInBounds_toArray, List.set_cons_zero, List.set_cons_succ]
        refine wpAnyH_done (by kernel_rfl) ?_ _
        have hnZ := set_row4 (y0 := .int .u64 (lw z 0)) (y1 := .int .u64 (lw z 1)) (y2 := .int .u64 (lw z 2)) (y3 := .int .u64 (lw z 3)) hnQ
        have HZ2 := hnZ
        have HS3 := hHeld
        clear hHeld hnZ hnQ
        go_wp2
        go_roundg (gk - 1)
        case measure => exact HM.out
        case rel => exact ⟨z, HZ.out.1, HZ.out.2.1, HZ.out.2.2, HZ2, HS3⟩
      · go_simp
        go_at_call 83
        refine (rp_any _).mono ?_
        rintro e wP ⟨rfl, hbP⟩
        refine hK.out _ _ (hHeld.call hbP) (fun hHeld => ?_)
        clear hK K
        try simp only [Act.put, List.setIfInBounds_toArray, List.set_cons_zero, List.set_cons_succ]
        have hnP := keep' (w := wB.drew) hbP HN2.out
        refine wpAnyH_ready (rs := [0]) (by kernel_rfl) (by simp) ?_
        refine AllReadyH.cons rfl (fun K hK => ?_) AllReadyH.nil
        rw [if_pos (by rfl)]
        refine wp_load_mid _ _ rfl _ _ rfl (nl x) _ (range_of_row (cs := (nl x).toArray) (w := wP) hnP) Tryd.underlying48 rfl (r4 x) ?_
        refine hK.out _ _ hHeld (fun hHeld => ?_)
        clear hK K
        try simp only [Act.put, List.setIfInBounds_toArray, List.set_cons_zero, List.set_cons_succ]
        refine wpAnyH_ready (rs := [2]) (by kernel_rfl) (by simp) ?_
        refine AllReadyH.cons rfl (fun K hK => ?_) AllReadyH.nil
        go_simp
        go_at_call 89
        refine (lesz _).mono ?_
        rintro e wQ ⟨rfl, hbQ⟩
        refine hK.out _ _ (hHeld.call hbQ) (fun hHeld => ?_)
        clear hK K
        try simp only [Act.put, List.setIfInBounds_toArray, List.set_cons_zero, List.set_cons_succ]
        have hnQ := keep' hbQ hnP
        refine wpAnyH_ready (rs := [3]) (by kernel_rfl) (by simp) ?_
        refine AllReadyH.cons rfl (fun K hK => ?_) AllReadyH.nil
        rw [if_pos (by rfl)]
        refine wp_store_mid _ _ _ rfl _ _ (nl z).toArray rfl rfl (there_of_row hnQ 0 4 (by simp)) (r4 z) (four_one z) ?_
        refine hK.out _ _ (hHeld.put (by omega) (fun b hb => by simp at hb) _) (fun hHeld => ?_)
        clear hK K
        try simp only [Act.put, List.setIfInBounds_toArray, List.set_cons_zero, List.set_cons_succ]
        refine wpAnyH_done (by kernel_rfl) ?_ _
        have hnZ := set_row4 (y0 := .int .u64 (lw z 0)) (y1 := .int .u64 (lw z 1)) (y2 := .int .u64 (lw z 2)) (y3 := .int .u64 (lw z 3)) hnQ
        have HZ2 := hnZ
        have HS3 := hHeld
        clear hHeld hnZ hnQ
        go_wp2
        go_roundg (gk - 1)
        case measure => exact HM.out
        case rel => exact ⟨z, HZ.out.1, HZ.out.2.1, HZ.out.2.2, HZ2, HS3⟩
end Go.Proofs.YtnmgpkpdjpjbgaaDoor
