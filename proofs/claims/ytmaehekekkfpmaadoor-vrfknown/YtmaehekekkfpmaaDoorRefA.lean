/- The reference's own small functions: 'rotr32', 'k256', and a message with what is laid behind it: 'padded'. -/
import Derived.Test.YtmaehekekkfpmaaDoorShaG
import Derived.Deep.CutRange
import Derived.Lib.SlBytesConst
import Derived.Deep.AppendLies
import Derived.Laws.AppendOwnNone
set_option linter.unusedSimpArgs false
set_option linter.unusedVariables false
namespace Go.Proofs.YtmaehekekkfpmaaDoor.Sh
open Go Go.RowKit
attribute [local go_sem] u_xor u_and u_or u_add u_shl u_shr
def Src (w:World) (ad:Option Addr) (n cap:Nat) (m:Nat→BitVec 8):Prop :=
 (n=0∧cap=0) ∨ ∃ b off,ad=some ⟨b,off,none⟩∧b<w.heap.size ∧ ∀ i,i<n→w.cell? ⟨b,off+i,none⟩=some (B (m i))
end Go.Proofs.YtmaehekekkfpmaaDoor.Sh
