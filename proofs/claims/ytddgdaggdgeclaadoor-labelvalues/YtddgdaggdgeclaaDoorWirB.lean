/- Numbers of bytes: numberOf, ReadNum, the reference's ReadNum. -/
import Derived.Test.YtddgdaggdgeclaaDoorWirA
namespace Go.Proofs.YtddgdaggdgeclaaDoor
open Go Go.RowKit
set_option linter.unusedSimpArgs false
set_option linter.unusedVariables false

def nm (xs : List Int) : Int := xs.foldl (fun a x => bits .or .u64 (IntKind.u64.wrap (a * 256)) x) 0
theorem nm_snoc (xs : List Int) (k : Nat) (h : k < xs.length) : nm (xs.take (k + 1)) = bits .or .u64 (IntKind.u64.wrap (nm (xs.take k) * 256)) (gi xs k) := by
  unfold nm
  rw [List.take_succ_eq_append_getElem h, List.foldl_append]
  rw [gi_get h]; rfl
theorem ret_int {k : IntKind} {a b : Int} (h : a = b) : Ending.returned (.int k a) = .returned (.int k b) := by rw [h]
end Go.Proofs.YtddgdaggdgeclaaDoor
