/- The scalar reference: MulAdd, Reduce, Canonical. -/
import Derived.Test.YtmaehekekkfpmaaDoorScpB
set_option linter.unusedSimpArgs false
set_option linter.unusedVariables false
namespace Go.Proofs.YtmaehekekkfpmaaDoor.Sc
open Go Go.RowKit
open Go Go.RowKit
def fin (o c:Nat):Nat:=(num (nv o)+num (nv (bsum (bl c) % LN))) % LN
end Go.Proofs.YtmaehekekkfpmaaDoor.Sc
