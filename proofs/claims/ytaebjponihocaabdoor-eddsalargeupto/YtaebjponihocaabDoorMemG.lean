/- The program's own: a body, and the contract of a function with a Go body. -/
import Derived.Test.YtaebjponihocaabDoorMemE
namespace Go.Proofs.YtaebjponihocaabDoor
open Go Go.RowKit
set_option linter.unusedSimpArgs false
set_option linter.unusedVariables false
def bodyOf (fn : Func) : Code := fn.body.getD .skip
theorem mixed : Tryd.prog.follows .mixedOrders = true := by kernel_rfl
/-- The contract of a function with a Go body that looks at no memory. -/
theorem gBody_ok {X : Cx} (hX : X.Ok Tryd.prog) {f : FuncId} {fn : Func} {g : List Value → Option (List Prop × Value)} (hf : Tryd.prog.funcs[f]? = some fn) (hname : (fn.name == "runtime.NumGoroutine") = false) (hb : fn.body = some (bodyOf fn))
    (h : ∀ args ps v, args.all flat = true → g args = some (ps, v) → (∀ p ∈ ps, p) → (flat v = true ∨ v = undef) ∧ ∀ w, Calls Tryd.prog f args.toArray w fun e w' => e = .returned v ∧ Below w.heap.size w w') : (X.pure f g).Ok Tryd.prog :=
  Cx.pure_ok hX fun args ps v ha hg hp => ⟨(h args ps v ha hg hp).1, fun w => call_enter hf hname hb (((h args ps v ha hg hp).2 w).mono (by rintro e w' ⟨rfl, hb⟩; exact ⟨_, rfl, rfl, hb⟩))⟩
end Go.Proofs.YtaebjponihocaabDoor
