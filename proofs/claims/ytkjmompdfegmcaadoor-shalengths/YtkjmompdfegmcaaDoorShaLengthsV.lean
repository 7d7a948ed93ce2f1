/- The walk of ShaLengths, of what comes in. -/
import Derived.Test.YtkjmompdfegmcaaDoorShaLengthsW
import Derived.Test.YtkjmompdfegmcaaDoorShaS
namespace Go.Proofs.YtkjmompdfegmcaaDoor
open Go Go.ChangeShapes Go.WideShapes Go.ChangeAt Go.RowKit
theorem shaLengths_of (x0 x1 : Int) (w0 : (Lit.int .u8 x0).wf = true) (w1 : (Lit.int .u8 x1).wf = true) (w : World) (hT : Tabs w K256 H256) (hT5 : Q5.Tabs w) :
    Calls Tryd.prog 4 #[.int .u8 x0, .int .u8 x1] w fun e w' => e = .returned (.bool true) ∧ Below w.heap.size w w' := by
  have h1 : (0 : Int) ≤ x1 ∧ x1 ≤ 255 := by
    simp only [Lit.wf, Bool.and_eq_true, decide_eq_true_eq] at w1
    exact w1
  rw [byte_of x0 w0, show x1 = ((x1.toNat : Nat) : Int) by omega]
  exact shaLengths_walk _ _ (by omega) w hT hT5
end Go.Proofs.YtkjmompdfegmcaaDoor
