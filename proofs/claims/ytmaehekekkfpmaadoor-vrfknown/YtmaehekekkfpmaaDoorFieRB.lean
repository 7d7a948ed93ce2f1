/- The reference's fold. -/
import Derived.Test.YtmaehekekkfpmaaDoorFieS
import Derived.Deep.LoopGhost
import Derived.Test.YtmaehekekkfpmaaDoorFieT
set_option linter.unusedSimpArgs false
set_option linter.unusedVariables false
namespace Go.Proofs.YtmaehekekkfpmaaDoor
open Go Go.RowKit Go.Lib
set_option maxRecDepth 100000
def fX (T:Nat):Nat:=if T % RN+38*(T/RN)<RN then T % RN+38*(T/RN) else T % RN+38*(T/RN) - RN+38
end Go.Proofs.YtmaehekekkfpmaaDoor
/- The reference's Least. -/
namespace Go.Proofs.YtmaehekekkfpmaaDoor
open Go Go.RowKit Go.Lib
set_option maxRecDepth 100000
theorem SS.only {w0:World} {r n q:Nat} {w:World} (h:SS w0 [] r n w) (L:List Value) (t:TypeId) (hq:w.heap[q]? = some (.cells L.toArray t (0,0))):SS w0 [(q,L,t)] r n w:=h.add L t hq
end Go.Proofs.YtmaehekekkfpmaaDoor
/- Rows of words: one word changed. Plain mathematics, and the reference's row of eight words in memory. -/
namespace Go.Proofs.YtmaehekekkfpmaaDoor
open Go Go.RowKit Go.Lib
set_option maxRecDepth 100000
abbrev BB:Nat:=18446744073709551616
end Go.Proofs.YtmaehekekkfpmaaDoor
/- The reference's Times. -/
namespace Go.Proofs.YtmaehekekkfpmaaDoor
open Go Go.RowKit Go.Lib
set_option maxRecDepth 100000
def tFold (n:Nat):Nat:=n % RN+38*(n/RN)
end Go.Proofs.YtmaehekekkfpmaaDoor
/- The reference's Power. -/
namespace Go.Proofs.YtmaehekekkfpmaaDoor
open Go Go.RowKit Go.Lib
set_option maxRecDepth 100000
def pX (a b:Nat):Nat→Nat
 | 0=>1
 | j+1=>if b/2 ^ (255 - j) % 2=1 then fX (tFold (fX (tFold (pX a b j*pX a b j))*a)) else fX (tFold (pX a b j*pX a b j))
end Go.Proofs.YtmaehekekkfpmaaDoor
/- The reference's Root, Sqrt. -/
namespace Go.Proofs.YtmaehekekkfpmaaDoor
open Go Go.RowKit Go.Lib
set_option maxRecDepth 100000
theorem lt1 {a r:Nat} {x:List Value × TypeId} (h:a<r) : ∀ b ∈ [(a,x)],b.1<r:=by
 intro b hb
 simp only [List.mem_cons,List.not_mem_nil,or_false] at hb
 rcases hb with rfl
 exact h
end Go.Proofs.YtmaehekekkfpmaaDoor
