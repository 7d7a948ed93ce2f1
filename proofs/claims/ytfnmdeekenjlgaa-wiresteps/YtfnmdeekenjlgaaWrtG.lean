/- slices.ContainsFunc over readUnsigned's function: is there one that hasn't 32 bytes. -/
import Derived.Test.YtfnmdeekenjlgaaWrtF
namespace Go.Proofs.Ytfnmdeekenjlgaa
open Go Go.RowKit
set_option linter.unusedSimpArgs false
set_option linter.unusedVariables false

def not32 (xss : List (List Int)) : Bool := xss.any (fun x => !((x.length : Int) == 32))
theorem not32_no {xss : List (List Int)} (h : ∀ i, i < xss.length → (mi xss i).length = 32) : not32 xss = false := by
  unfold not32
  rw [List.any_eq_false]
  intro x hx
  obtain ⟨i, hi, rfl⟩ := List.mem_iff_getElem.1 hx
  have := h i hi
  simp only [mi, List.getD_eq_getElem?_getD, List.getElem?_eq_getElem hi, Option.getD_some] at this
  simp [this]
theorem not32_yes {xss : List (List Int)} {i : Nat} (hi : i < xss.length) (h : (mi xss i).length ≠ 32) : not32 xss = true := by
  unfold not32
  rw [List.any_eq_true]
  refine ⟨xss[i], List.getElem_mem _, ?_⟩
  simp only [mi, List.getD_eq_getElem?_getD, List.getElem?_eq_getElem hi, Option.getD_some] at h
  simp
  omega
theorem un32_any (xs : List Int) (v : Value) (w : World) (hs : Sl w v xs) (hl : xs.length ≤ 140737488355328) :
    Calls Try.prog 72 #[v] w fun e w' => e = .returned (.bool (!((xs.length : Int) == 32))) ∧ w' = w := by
  obtain ⟨ad, cap, rfl, -, -⟩ := hs
  go_enter Try.func72, Try.ntmps72
  go_wp2
  go_ret
  exact ⟨rfl, rfl⟩
set_option maxHeartbeats 1000000 in
theorem index_any (xss : List (List Int)) (v : Value) (w : World) (h1 : LL w v xss) (hn : xss.length ≤ 140737488355328) (hL : ∀ i, (mi xss i).length ≤ 140737488355328) :
    Calls Try.prog 75 #[v, .func (.func 72) #[] #[]] w fun e w' => (∃ z : Int, e = .returned (.int .i64 z) ∧ -1 ≤ z ∧ z ≤ 140737488355328 ∧ not32 xss = decide (0 ≤ z)) ∧ w' = w := by
  obtain ⟨ad, cap, rfl, -, hx⟩ := h1
  have HX : Hid _ := hx
  have HL : Hid (∀ i, (mi xss i).length ≤ 140737488355328) := hL
  clear hx hL
  go_enter Try.func75, Try.ntmps75
  go_wp2
  go_loopw [8] (fun i wr => ∃ k : Nat, k ≤ xss.length ∧ i = .int .i64 (k : Int) ∧ wr = w ∧ Hid (∀ j, j < k → (mi xss j).length = 32)) (fun i _ => xss.length - (intOf i).toNat)
  case atStart => exact ⟨0, Nat.zero_le _, rfl, rfl, fun j hj => absurd hj (by omega)⟩
  case round =>
    obtain ⟨k, hk, rfl, rfl, HA⟩ := hrel
    by_cases hlt : k < xss.length
    · rcases HX.out with ⟨rfl, _⟩ | ⟨b, o, rfl, hlb, hm⟩
      · simp at hlt
      · obtain ⟨u, hc0, hu⟩ := hm k hlt
        have HU : Hid (Sl wr u (mi xss k)) := hu
        have gk : (k : Int) < (xss.length : Int) := by omega
        clear hm hu
        go_wp2_with fail
        refine (un32_any (mi xss k) u wr HU.out (HL.out k)).mono ?_
        rintro e w' ⟨rfl, rfl⟩
        by_cases h32 : (mi xss k).length = 32
        · rw [h32]
          have H3 : Hid ((mi xss k).length = 32) := h32
          clear h32
          go_wp2
          refine ⟨⟨k + 1, hlt, by go_num, by simp, fun j hj => ?_⟩, by simp [intOf]; omega⟩
          by_cases e : j = k
          · subst e; exact H3.out
          · exact HA.out j (by omega)
        · have e1 : (!(((mi xss k).length : Int) == 32)) = true := by simp; omega
          have H3 : Hid (not32 xss = true) := not32_yes hlt h32
          rw [e1]
          clear e1 h32
          go_wp2
          go_ret
          exact ⟨⟨(k : Int), rfl, by omega, by omega, by rw [H3.out]; simp⟩, rfl⟩
    · have H3 : Hid (not32 xss = false) := not32_no (fun i hi => HA.out i (by omega))
      go_wp2
      go_ret
      exact ⟨⟨-1, rfl, by omega, by omega, by rw [H3.out]; rfl⟩, rfl⟩
set_option maxHeartbeats 1000000 in
theorem contains_any (xss : List (List Int)) (v : Value) (w : World) (h1 : LL w v xss) (hn : xss.length ≤ 140737488355328) (hL : ∀ i, (mi xss i).length ≤ 140737488355328) :
    Calls Try.prog 71 #[v, .func (.func 72) #[] #[]] w fun e w' => e = .returned (.bool (not32 xss)) ∧ w' = w := by
  have H : Hid (Calls Try.prog 75 #[v, .func (.func 72) #[] #[]] w fun e w' => (∃ z : Int, e = .returned (.int .i64 z) ∧ -1 ≤ z ∧ z ≤ 140737488355328 ∧ not32 xss = decide (0 ≤ z)) ∧ w' = w) := index_any xss v w h1 hn hL
  clear h1 hL
  go_enter Try.func71, Try.ntmps71
  go_wp2_with fail
  refine H.out.mono ?_
  rintro e w' ⟨⟨z, rfl, h1, h2, h3⟩, rfl⟩
  have H3 : Hid (not32 xss = decide (0 ≤ z)) := h3
  clear h3
  go_wp2
  go_ret
  exact ⟨by rw [H3.out]; rfl, rfl⟩
end Go.Proofs.Ytfnmdeekenjlgaa
