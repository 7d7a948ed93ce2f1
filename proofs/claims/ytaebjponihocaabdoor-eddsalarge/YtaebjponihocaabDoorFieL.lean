/- The law's awake; what the laws lean on: the four calls in the laws' own spelling. -/
import Derived.Test.YtaebjponihocaabDoorFieK
namespace Go.Proofs.YtaebjponihocaabDoor
open Go Go.RowKit Go.Lib
set_option linter.unusedSimpArgs false
set_option linter.unusedVariables false
theorem addL (a b : Nat) (ha : a < RN) (hb : b < RN) (w : World) : Calls Tryd.prog 59 #[.agg (bl a).toArray, .agg (bl b).toArray] w fun e w' => e = .returned (.agg (bl ((a + b) % pp)).toArray) ∧ Below w.heap.size w w' := Add_any a b ha hb w
theorem mulL (a b : Nat) (ha : a < RN) (hb : b < RN) (w : World) : Calls Tryd.prog 46 #[.agg (bl a).toArray, .agg (bl b).toArray] w fun e w' => e = .returned (.agg (bl ((a * b) % pp)).toArray) ∧ Below w.heap.size w w' := Mul_any a b ha hb w
theorem canL (a : Nat) (ha : a < RN) (w : World) : Calls Tryd.prog 54 #[.agg (bl a).toArray] w fun e w' => e = .returned (.bool (decide (a < pp))) ∧ Below w.heap.size w w' := Canonical_any a ha w
theorem lit0 : (#[.int .u8 0, .int .u8 0, .int .u8 0, .int .u8 0, .int .u8 0, .int .u8 0, .int .u8 0, .int .u8 0, .int .u8 0, .int .u8 0, .int .u8 0, .int .u8 0, .int .u8 0, .int .u8 0, .int .u8 0, .int .u8 0, .int .u8 0, .int .u8 0, .int .u8 0, .int .u8 0, .int .u8 0, .int .u8 0, .int .u8 0, .int .u8 0, .int .u8 0, .int .u8 0, .int .u8 0, .int .u8 0, .int .u8 0, .int .u8 0, .int .u8 0, .int .u8 0] : Array Value) = (bl 0).toArray := by kernel_rfl
theorem lit1 : (#[.int .u8 1, .int .u8 0, .int .u8 0, .int .u8 0, .int .u8 0, .int .u8 0, .int .u8 0, .int .u8 0, .int .u8 0, .int .u8 0, .int .u8 0, .int .u8 0, .int .u8 0, .int .u8 0, .int .u8 0, .int .u8 0, .int .u8 0, .int .u8 0, .int .u8 0, .int .u8 0, .int .u8 0, .int .u8 0, .int .u8 0, .int .u8 0, .int .u8 0, .int .u8 0, .int .u8 0, .int .u8 0, .int .u8 0, .int .u8 0, .int .u8 0, .int .u8 0] : Array Value) = (bl 1).toArray := by kernel_rfl
theorem lit2 : (#[.int .u8 2, .int .u8 0, .int .u8 0, .int .u8 0, .int .u8 0, .int .u8 0, .int .u8 0, .int .u8 0, .int .u8 0, .int .u8 0, .int .u8 0, .int .u8 0, .int .u8 0, .int .u8 0, .int .u8 0, .int .u8 0, .int .u8 0, .int .u8 0, .int .u8 0, .int .u8 0, .int .u8 0, .int .u8 0, .int .u8 0, .int .u8 0, .int .u8 0, .int .u8 0, .int .u8 0, .int .u8 0, .int .u8 0, .int .u8 0, .int .u8 0, .int .u8 0] : Array Value) = (bl 2).toArray := by kernel_rfl
theorem lit3 : (#[.int .u8 3, .int .u8 0, .int .u8 0, .int .u8 0, .int .u8 0, .int .u8 0, .int .u8 0, .int .u8 0, .int .u8 0, .int .u8 0, .int .u8 0, .int .u8 0, .int .u8 0, .int .u8 0, .int .u8 0, .int .u8 0, .int .u8 0, .int .u8 0, .int .u8 0, .int .u8 0, .int .u8 0, .int .u8 0, .int .u8 0, .int .u8 0, .int .u8 0, .int .u8 0, .int .u8 0, .int .u8 0, .int .u8 0, .int .u8 0, .int .u8 0, .int .u8 0] : Array Value) = (bl 3).toArray := by kernel_rfl
theorem lit6 : (#[.int .u8 6, .int .u8 0, .int .u8 0, .int .u8 0, .int .u8 0, .int .u8 0, .int .u8 0, .int .u8 0, .int .u8 0, .int .u8 0, .int .u8 0, .int .u8 0, .int .u8 0, .int .u8 0, .int .u8 0, .int .u8 0, .int .u8 0, .int .u8 0, .int .u8 0, .int .u8 0, .int .u8 0, .int .u8 0, .int .u8 0, .int .u8 0, .int .u8 0, .int .u8 0, .int .u8 0, .int .u8 0, .int .u8 0, .int .u8 0, .int .u8 0, .int .u8 0] : Array Value) = (bl 6).toArray := by kernel_rfl
/-- Equality, decided. -/
theorem eq_yes (m n : Nat) (hm : m < RN) (hn : n < RN) (h : m = n) (w : World) : (Op.equalIn 10000 22 (.agg (bl m).toArray) (.agg (bl n).toArray)).run Tryd.prog w = .ok true w := by
  rw [eq_row m n hm hn, decide_eq_true h]
theorem eq_no (m n : Nat) (hm : m < RN) (hn : n < RN) (h : ¬ m = n) (w : World) : (Op.equalIn 10000 22 (.agg (bl m).toArray) (.agg (bl n).toArray)).run Tryd.prog w = .ok false w := by
  rw [eq_row m n hm hn, decide_eq_false h]
end Go.Proofs.YtaebjponihocaabDoor
