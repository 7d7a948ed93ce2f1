/- Where a slice that came in lies. -/
import Derived.Test.YtmlialabdijcoaaWirV
namespace Go.Proofs.Ytmlialabdijcoaa
open Go Go.ChangeShapes Go.WideShapes Go.ChangeAt Go.RowKit
set_option linter.unusedVariables false
set_option maxRecDepth 100000

theorem own_lt {W : World} {base : Nat} {a : Option Addr} {l c : Nat} (hv : Value.okWide Try.prog W .any base 32 (.slice a l c)) : ∀ b, (Value.slice a l c).ownBlock = some b → b < W.heap.size := by
  intro b hb
  cases a with
  | none => simp [Value.ownBlock] at hb
  | some x =>
    simp [Value.ownBlock] at hb; subst hb
    exact (okWide_addr Try.underlying32 hv).2
end Go.Proofs.Ytmlialabdijcoaa
