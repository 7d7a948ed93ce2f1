/- The reference's Below. -/
import Derived.Test.YtddgdaggdgeclaaDoorWirP
namespace Go.Proofs.YtddgdaggdgeclaaDoor
open Go Go.RowKit
set_option linter.unusedSimpArgs false
set_option linter.unusedVariables false

theorem ltb_at : ∀ (xs ys : List Int) (k : Nat), xs.length = ys.length → (∀ j, j < k → gi xs j = gi ys j) → k < xs.length → gi xs k ≠ gi ys k → ltb xs ys = decide (gi xs k < gi ys k)
  | [], _, k, _, _, h, _ => by simp at h
  | x :: xs, [], k, h, _, _, _ => by simp at h
  | x :: xs, y :: ys, 0, _, _, _, hne => by
    have : x ≠ y := hne
    simp only [ltb, if_neg this]; rfl
  | x :: xs, y :: ys, k + 1, hl, hj, hk, hne => by
    have h0 : x = y := hj 0 (by omega)
    simp only [ltb, if_pos h0]
    exact ltb_at xs ys k (by simpa using hl) (fun j h => hj (j + 1) (by omega)) (by simpa using hk) hne
theorem ltb_same : ∀ (xs ys : List Int), xs.length = ys.length → (∀ j, j < xs.length → gi xs j = gi ys j) → ltb xs ys = false
  | [], [], _, _ => rfl
  | [], _ :: _, h, _ => by simp at h
  | _ :: _, [], h, _ => by simp at h
  | x :: xs, y :: ys, hl, hj => by
    have h0 : x = y := hj 0 (by simp)
    simp only [ltb, if_pos h0]
    exact ltb_same xs ys (by simpa using hl) (fun j h => hj (j + 1) (by simp; omega))
theorem info_a32 : (Tryd.prog.info? 24).map (·.size) = some 32 := by kernel_rfl
set_option maxHeartbeats 1000000 in
theorem below_any (xs ys : List Int) (w : World) (h1 : xs.length = 32) (h2 : ys.length = 32) (hb : Byt xs) (hb' : Byt ys) :
    Calls Tryd.prog 22 #[.agg (bv xs).toArray, .agg (bv ys).toArray] w fun e w' => e = .returned (.bool (ltb xs ys)) ∧ Below w.heap.size w w' := by
  have s1 : (bv xs).toArray.size = 32 := by simp [bv, h1]
  have s2 : (bv ys).toArray.size = 32 := by simp [bv, h2]
  obtain ⟨A, hA⟩ : ∃ A, (bv xs).toArray = A := ⟨_, rfl⟩
  obtain ⟨B, hB⟩ : ∃ B, (bv ys).toArray = B := ⟨_, rfl⟩
  have cA : Hid (∀ j, j < 32 → A[j]? = some (.int .u8 (gi xs j))) := fun j hj => by rw [← hA, List.getElem?_toArray]; exact bv_get xs (by omega)
  have cB : Hid (∀ j, j < 32 → B[j]? = some (.int .u8 (gi ys j))) := fun j hj => by rw [← hB, List.getElem?_toArray]; exact bv_get ys (by omega)
  rw [hA] at s1 ⊢
  rw [hB] at s2 ⊢
  have HB : Hid (Byt xs) := hb
  have HB' : Hid (Byt ys) := hb'
  clear hA hB hb hb'
  go_enter Tryd.func22, Tryd.ntmps22
  go_wp2
  obtain ⟨W, hW⟩ : ∃ W, (w.alloc (Obj.cells A 24)).alloc (Obj.cells B 24) = W := ⟨_, rfl⟩
  have HZ : Hid (Below w.heap.size w W) := by rw [← hW]; exact ((Below.refl _ w).alloc (Nat.le_refl _) _).alloc (by simp) _
  have CA : Hid (∀ j, j < 32 → W.cell? ⟨w.heap.size, j, none⟩ = some (.int .u8 (gi xs j))) := fun j hj => by
    rw [← hW, (World.grownBy_alloc (w.alloc (Obj.cells A 24)) _ none).cell (a := ⟨w.heap.size, j, none⟩) (v := .int .u8 (gi xs j)) ?_ (by simp)]
    rw [cell_alloc]; exact cA.out j hj
  have CB : Hid (∀ j, j < 32 → W.cell? ⟨w.heap.size + 1, j, none⟩ = some (.int .u8 (gi ys j))) := fun j hj => by
    have hz : (w.alloc (Obj.cells A 24)).heap.size = w.heap.size + 1 := by simp
    rw [← hW, ← hz, cell_alloc]; exact cB.out j hj
  rw [hW]
  clear hW cA cB
  obtain ⟨h, hh⟩ : ∃ h, w.heap.size = h := ⟨_, rfl⟩
  rw [hh] at CA CB ⊢
  have HH : Hid (w.heap.size = h) := hh
  clear hh
  go_loopw [6] (fun i wr => ∃ k q : Nat, k ≤ 32 ∧ i = .int .i64 (k : Int) ∧ wr = W.drewN q ∧ ∀ j, j < k → gi xs j = gi ys j) (fun i _ => 32 - (intOf i).toNat)
  case atStart => exact ⟨0, 0, by omega, rfl, rfl, fun j hj => by omega⟩
  case round =>
    obtain ⟨k, q, hk, rfl, rfl, hall⟩ := hrel
    have HA : Hid _ := hall
    clear hall
    by_cases hlt : k < 32
    · have c1 : ∀ n, (W.drewN n).cell? ⟨h, k, none⟩ = some (.int .u8 (gi xs k)) := fun n => CA.out k hlt
      have c2 : ∀ n, (W.drewN n).cell? ⟨h + 1, k, none⟩ = some (.int .u8 (gi ys k)) := fun n => CB.out k hlt
      have c1' := CA.out k hlt
      have c2' := CB.out k hlt
      have gk : (k : Int) < 32 := by omega
      have gk0 : (0 : Int) ≤ (k : Int) := by omega
      by_cases he : gi xs k = gi ys k
      · have HE : Hid _ := he
        rw [← he] at c2 c2'
        clear he
        go_wp2
        go_quiet (fail)
        go_wp2
        refine ⟨⟨k + 1, q + nq, hlt, by go_num, by simp, fun j hj => ?_⟩, by simp [intOf]; omega⟩
        by_cases e : j = k
        · subst e; exact HE.out
        · exact HA.out j (by omega)
      · have E : Hid _ := ltb_at xs ys k (by rw [h1, h2]) HA.out (by omega) he
        obtain ⟨x, hx⟩ : ∃ x, gi xs k = x := ⟨_, rfl⟩
        obtain ⟨y, hy⟩ : ∃ y, gi ys k = y := ⟨_, rfl⟩
        rw [hx] at c1 c1' he E
        rw [hy] at c2 c2' he E
        clear hx hy
        go_wp2
        go_quiet (fail)
        go_wp2
        go_quiet (fail)
        go_wp2
        go_ret
        exact ⟨by rw [E.out]; rfl, by simpa using below_drewN HZ.out _⟩
    · have E : Hid _ := ltb_same xs ys (by rw [h1, h2]) (fun j hj => HA.out j (by omega))
      go_wp2
      go_ret
      exact ⟨by rw [E.out]; rfl, below_drewN HZ.out q⟩
end Go.Proofs.YtddgdaggdgeclaaDoor
