/- Devices. -/
import Derived.Test.YtddgdaggdgeclaaDoorWirO
import Derived.Test.YtddgdaggdgeclaaDoorWirJ
import Derived.Deep.MidRow
namespace Go.Proofs.YtddgdaggdgeclaaDoor
open Go Go.RowKit
set_option linter.unusedSimpArgs false
set_option linter.unusedVariables false

/-- A slice that holds these rows of 32 bytes. -/
def DD (w : World) (v : Value) (ds : List (List Int)) : Prop :=
  ∃ ad cap, v = .slice ad ds.length cap ∧ (∀ i, i < ds.length → (mi ds i).length = 32 ∧ Byt (mi ds i)) ∧ (ds = [] ∨ ∃ b o, ad = some ⟨b, o, none⟩ ∧ b < w.heap.size ∧ ∀ i, i < ds.length → ∀ j, j < 32 → w.cell? ⟨b, o + (i * 32 + j), none⟩ = some (.int .u8 (gi (mi ds i) j)))
def devB (ds : List (List Int)) : Bool := decide (ds.length ≤ 8) && (List.range 8).all fun i => !decide (i + 1 < ds.length) || ltb (mi ds i) (mi ds (i + 1))
theorem devB_yes {ds : List (List Int)} (h : ds.length ≤ 8) (h' : ∀ i, i + 1 < ds.length → ltb (mi ds i) (mi ds (i + 1)) = true) : devB ds = true := by
  unfold devB
  rw [decide_eq_true h, Bool.true_and, List.all_eq_true]
  intro i _
  by_cases e : i + 1 < ds.length
  · rw [h' i e, Bool.or_true]
  · rw [decide_eq_false e]; rfl
theorem devB_long {ds : List (List Int)} (h : 8 < ds.length) : devB ds = false := by
  unfold devB; rw [decide_eq_false (by omega)]; rfl
theorem devB_no {ds : List (List Int)} {i : Nat} (h : i + 1 < ds.length) (h' : ltb (mi ds i) (mi ds (i + 1)) = false) : devB ds = false := by
  by_cases hl : 8 < ds.length
  · exact devB_long hl
  · unfold devB
    rw [Bool.and_eq_false_iff]
    refine .inr (List.all_eq_false.2 ⟨i, List.mem_range.2 (by omega), ?_⟩)
    rw [h', decide_eq_true h]; simp
theorem DD.row {w : World} {b o n : Nat} {ds : List (List Int)} (hm : ∀ i, i < ds.length → ∀ j, j < 32 → w.cell? ⟨b, o + (i * 32 + j), none⟩ = some (.int .u8 (gi (mi ds i) j))) (hb : b < w.heap.size) (hl : ∀ i, i < ds.length → (mi ds i).length = 32 ∧ Byt (mi ds i)) {i : Nat} (hi : i < ds.length) :
    Sl w (.slice (some ⟨b, o + i * 32, none⟩) 32 32) (mi ds i) := by
  refine ⟨_, 32, by rw [(hl i hi).1], by rw [(hl i hi).1]; omega, .inr ⟨b, o + i * 32, rfl, hb, fun j hj => ?_⟩⟩
  rw [(hl i hi).1] at hj
  rw [Nat.add_assoc]; exact hm i hi j hj
set_option maxHeartbeats 1000000 in
theorem devices_any (ds : List (List Int)) (v : Value) (w : World) (hs : DD w v ds) (hn : ds.length ≤ 140737488355328) :
    Calls Tryd.prog 10 #[v] w fun e w' => e = .returned (.bool (devB ds)) ∧ Below w.heap.size w w' := by
  obtain ⟨ad, cap, rfl, hl, hx⟩ := hs
  have HX : Hid _ := hx
  have HL : Hid _ := hl
  clear hx hl
  by_cases h8 : 8 < ds.length
  · have E : Hid (devB ds = false) := devB_long h8
    have g : (8 : Int) < (ds.length : Int) := by omega
    go_enter Tryd.func10, Tryd.ntmps10
    go_wp2
    go_ret
    exact ⟨by rw [E.out]; rfl, Below.refl _ _⟩
  have g : ¬ (8 : Int) < (ds.length : Int) := by omega
  go_enter Tryd.func10, Tryd.ntmps10
  go_wp2
  go_loopw [3] (fun i wr => ∃ k : Nat, (k + 1 ≤ ds.length ∨ k = 0) ∧ i = .int .i64 ((k + 1 : Nat) : Int) ∧ Below w.heap.size w wr ∧ ∀ j, j + 1 ≤ k → ltb (mi ds j) (mi ds (j + 1)) = true) (fun i _ => 9 - (intOf i).toNat)
  case atStart => exact ⟨0, .inr rfl, rfl, Below.refl _ _, fun j hj => by omega⟩
  case round =>
    obtain ⟨k, hk, rfl, hbw, hall⟩ := hrel
    have HW : Hid (Below w.heap.size w wr) := hbw
    clear hbw
    have HA : Hid _ := hall
    clear hall
    by_cases hlt : k + 1 < ds.length
    · rcases HX.out with rfl | ⟨b, o, rfl, hlb, hm⟩
      · simp at hlt
      · have R1 : Hid (Sl wr (.slice (some ⟨b, o + k * 32, none⟩) 32 32) (mi ds k)) := (DD.row (n := 0) hm hlb HL.out (show k < ds.length by omega)).below HW.out (Nat.le_refl _)
        have R2 : Hid (Sl wr (.slice (some ⟨b, o + (k + 1) * 32, none⟩) 32 32) (mi ds (k + 1))) := (DD.row (n := 0) hm hlb HL.out hlt).below HW.out (Nat.le_refl _)
        have gk : ((k + 1 : Nat) : Int) < (ds.length : Int) := by omega
        have L1 := HL.out k (by omega)
        have L2 := HL.out (k + 1) hlt
        have HC : Hid _ := cmp_ltb (mi ds k) (mi ds (k + 1)) (by rw [L1.1, L2.1]) L1.2 L2.2
        clear hm L1 L2
        cases hlt2 : ltb (mi ds k) (mi ds (k + 1)) with
        | false =>
          have E : Hid (devB ds = false) := devB_no hlt hlt2
          have gc : (0 : Int) ≤ cmpI (mi ds k) (mi ds (k + 1)) := HC.out.2 hlt2
          clear hlt2
          go_wp2
          go_quiet ((go_at_call 20; exact Calls.quiet_of_same (compare_any (mi ds k) (mi ds (k + 1)) _ _ _ (R1.out.below (below_drewN (Below.refl _ _) _) (Nat.le_refl _)) (R2.out.below (below_drewN (Below.refl _ _) _) (Nat.le_refl _)))))
          have HD : Hid (Below w.heap.size w (wr.drewN nq)) := below_drewN HW.out nq
          go_wp2
          go_ret
          exact ⟨by rw [E.out]; rfl, HD.out⟩
        | true =>
          have gc : ¬ (0 : Int) ≤ cmpI (mi ds k) (mi ds (k + 1)) := fun h => by rw [HC.out.1 h] at hlt2; cases hlt2
          have HT : Hid _ := hlt2
          clear hlt2
          go_wp2
          go_quiet ((go_at_call 20; exact Calls.quiet_of_same (compare_any (mi ds k) (mi ds (k + 1)) _ _ _ (R1.out.below (below_drewN (Below.refl _ _) _) (Nat.le_refl _)) (R2.out.below (below_drewN (Below.refl _ _) _) (Nat.le_refl _)))))
          have HD : Hid (Below w.heap.size w (wr.drewN nq)) := below_drewN HW.out nq
          go_wp2
          refine ⟨⟨k + 1, .inl hlt, by go_num, HD.out, fun j hj => ?_⟩, by simp [intOf]; omega⟩
          by_cases e : j = k
          · subst e; exact HT.out
          · exact HA.out j (by omega)
    · have E : Hid (devB ds = true) := devB_yes (by omega) (fun i hi => HA.out i (by omega))
      have gk : ¬ ((k + 1 : Nat) : Int) < (ds.length : Int) := by omega
      go_wp2
      go_ret
      exact ⟨by rw [E.out]; rfl, HW.out⟩
end Go.Proofs.YtddgdaggdgeclaaDoor
