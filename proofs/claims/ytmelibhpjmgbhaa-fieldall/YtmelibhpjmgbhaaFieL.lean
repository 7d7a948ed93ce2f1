/- The law's awake; what the laws lean on: the four calls in the laws' own spelling. -/
import Derived.Test.YtmelibhpjmgbhaaFieK
namespace Go.Proofs.Ytmelibhpjmgbhaa
open Go Go.RowKit Go.Lib
set_option linter.unusedSimpArgs false
set_option linter.unusedVariables false
theorem addL (a b : Nat) (ha : a < RN) (hb : b < RN) (w : World) : Calls Try.prog 13 #[.agg (bl a).toArray, .agg (bl b).toArray] w fun e w' => e = .returned (.agg (bl ((a + b) % pp)).toArray) ∧ Below w.heap.size w w' := Add_any a b ha hb w
theorem mulL (a b : Nat) (ha : a < RN) (hb : b < RN) (w : World) : Calls Try.prog 17 #[.agg (bl a).toArray, .agg (bl b).toArray] w fun e w' => e = .returned (.agg (bl ((a * b) % pp)).toArray) ∧ Below w.heap.size w w' := Mul_any a b ha hb w
theorem canL (a : Nat) (ha : a < RN) (w : World) : Calls Try.prog 11 #[.agg (bl a).toArray] w fun e w' => e = .returned (.bool (decide (a < pp))) ∧ Below w.heap.size w w' := Canonical_any a ha w
theorem lit0 : (#[.int .u8 0, .int .u8 0, .int .u8 0, .int .u8 0, .int .u8 0, .int .u8 0, .int .u8 0, .int .u8 0, .int .u8 0, .int .u8 0, .int .u8 0, .int .u8 0, .int .u8 0, .int .u8 0, .int .u8 0, .int .u8 0, .int .u8 0, .int .u8 0, .int .u8 0, .int .u8 0, .int .u8 0, .int .u8 0, .int .u8 0, .int .u8 0, .int .u8 0, .int .u8 0, .int .u8 0, .int .u8 0, .int .u8 0, .int .u8 0, .int .u8 0, .int .u8 0] : Array Value) = (bl 0).toArray := by kernel_rfl
theorem lit1 : (#[.int .u8 1, .int .u8 0, .int .u8 0, .int .u8 0, .int .u8 0, .int .u8 0, .int .u8 0, .int .u8 0, .int .u8 0, .int .u8 0, .int .u8 0, .int .u8 0, .int .u8 0, .int .u8 0, .int .u8 0, .int .u8 0, .int .u8 0, .int .u8 0, .int .u8 0, .int .u8 0, .int .u8 0, .int .u8 0, .int .u8 0, .int .u8 0, .int .u8 0, .int .u8 0, .int .u8 0, .int .u8 0, .int .u8 0, .int .u8 0, .int .u8 0, .int .u8 0] : Array Value) = (bl 1).toArray := by kernel_rfl
theorem lit2 : (#[.int .u8 2, .int .u8 0, .int .u8 0, .int .u8 0, .int .u8 0, .int .u8 0, .int .u8 0, .int .u8 0, .int .u8 0, .int .u8 0, .int .u8 0, .int .u8 0, .int .u8 0, .int .u8 0, .int .u8 0, .int .u8 0, .int .u8 0, .int .u8 0, .int .u8 0, .int .u8 0, .int .u8 0, .int .u8 0, .int .u8 0, .int .u8 0, .int .u8 0, .int .u8 0, .int .u8 0, .int .u8 0, .int .u8 0, .int .u8 0, .int .u8 0, .int .u8 0] : Array Value) = (bl 2).toArray := by kernel_rfl
theorem lit3 : (#[.int .u8 3, .int .u8 0, .int .u8 0, .int .u8 0, .int .u8 0, .int .u8 0, .int .u8 0, .int .u8 0, .int .u8 0, .int .u8 0, .int .u8 0, .int .u8 0, .int .u8 0, .int .u8 0, .int .u8 0, .int .u8 0, .int .u8 0, .int .u8 0, .int .u8 0, .int .u8 0, .int .u8 0, .int .u8 0, .int .u8 0, .int .u8 0, .int .u8 0, .int .u8 0, .int .u8 0, .int .u8 0, .int .u8 0, .int .u8 0, .int .u8 0, .int .u8 0] : Array Value) = (bl 3).toArray := by kernel_rfl
theorem lit6 : (#[.int .u8 6, .int .u8 0, .int .u8 0, .int .u8 0, .int .u8 0, .int .u8 0, .int .u8 0, .int .u8 0, .int .u8 0, .int .u8 0, .int .u8 0, .int .u8 0, .int .u8 0, .int .u8 0, .int .u8 0, .int .u8 0, .int .u8 0, .int .u8 0, .int .u8 0, .int .u8 0, .int .u8 0, .int .u8 0, .int .u8 0, .int .u8 0, .int .u8 0, .int .u8 0, .int .u8 0, .int .u8 0, .int .u8 0, .int .u8 0, .int .u8 0, .int .u8 0] : Array Value) = (bl 6).toArray := by kernel_rfl
/-- Equality, decided. -/
theorem eq_yes (m n : Nat) (hm : m < RN) (hn : n < RN) (h : m = n) (w : World) : (Op.equalIn 10000 22 (.agg (bl m).toArray) (.agg (bl n).toArray)).run Try.prog w = .ok true w := by
  rw [eq_row m n hm hn, decide_eq_true h]
theorem eq_no (m n : Nat) (hm : m < RN) (hn : n < RN) (h : ¬ m = n) (w : World) : (Op.equalIn 10000 22 (.agg (bl m).toArray) (.agg (bl n).toArray)).run Try.prog w = .ok false w := by
  rw [eq_row m n hm hn, decide_eq_false h]
set_option maxRecDepth 100000 in
set_option maxHeartbeats 1000000 in
theorem awake_any (w : World) : Calls Try.prog 8 #[] w fun e w' => e = .returned (.bool true) ∧ Below w.heap.size w w' := by
  have m23 : ∀ w, Calls Try.prog 17 #[.agg (bl 2).toArray, .agg (bl 3).toArray] w fun e w' => e = .returned (.agg (bl 6).toArray) ∧ Below w.heap.size w w' := fun w => mulL 2 3 (by decide) (by decide) w
  have c1 : ∀ w, Calls Try.prog 11 #[.agg (bl 1).toArray] w fun e w' => e = .returned (.bool true) ∧ Below w.heap.size w w' := fun w => canL 1 (by decide) w
  have e6 := eq_yes 6 6 (by decide) (by decide) rfl
  rw [← lit2, ← lit3] at m23
  rw [← lit1] at c1
  have e6' : ∀ w, (Op.equalIn 10000 22 (.agg (bl 6).toArray) (.agg #[.int .u8 6, .int .u8 0, .int .u8 0, .int .u8 0, .int .u8 0, .int .u8 0, .int .u8 0, .int .u8 0, .int .u8 0, .int .u8 0, .int .u8 0, .int .u8 0, .int .u8 0, .int .u8 0, .int .u8 0, .int .u8 0, .int .u8 0, .int .u8 0, .int .u8 0, .int .u8 0, .int .u8 0, .int .u8 0, .int .u8 0, .int .u8 0, .int .u8 0, .int .u8 0, .int .u8 0, .int .u8 0, .int .u8 0, .int .u8 0, .int .u8 0, .int .u8 0])).run Try.prog w = .ok true w := fun w => by rw [lit6]; exact e6 w
  clear e6
  go_enter Try.func8, Try.ntmps8
  go_wp2_with fail
  refine (m23 _).mono ?_
  rintro e w1 ⟨rfl, hb1⟩
  go_wp2_with fail
  refine (c1 _).mono ?_
  rintro e w2 ⟨rfl, hb2⟩
  have HB : Hid (Below w.heap.size w w2) := chain hb1 hb2
  clear hb1 hb2
  go_wp2
  go_ret
  exact ⟨rfl, HB.out⟩
end Go.Proofs.Ytmelibhpjmgbhaa
