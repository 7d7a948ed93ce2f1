/- Regions that draw their order, with guards. -/
import Derived.Test.YtefaohokmhdplaaDoorChgA
import Derived.Test.YtefaohokmhdplaaDoorRgnU
import Derived.Deep.MidRow
namespace Go.Proofs.YtefaohokmhdplaaDoor.RU
open Go Go.RowKit
section
variable {P : Program} {ops : Array Oper} {Q : Exit → Act → World → Prop} {a0 : Act} {cs : List Nat} {f : Nat → Value} {K : Nat → Nat} {Ω : Nat → (Nat → Value) → World → Prop}
theorem wanted_not {o og : Oper} {a : Act} {g d : Nat} {b : Bool} (h : o.guard = some (g, b)) (hg : ops[g]? = some og) (hd : og.dst = some d) (he : a.eval (.tmp d) ≠ .bool b) : Region.wanted o (yielded ops a.tmps) = false := by
  unfold Region.wanted; rw [h]
  simp only
  cases hy : yielded ops a.tmps g with
  | none => rfl
  | some x =>
    have : x ≠ b := by
      intro e; subst e
      apply he
      unfold yielded at hy
      rw [hg] at hy
      simp only [Option.bind_some, hd] at hy
      simp only [Act.eval, Array.getD_eq_getD_getElem?]
      cases hx : a.tmps[d]? with
      | none => rw [hx] at hy; simp at hy
      | some v =>
        rw [hx] at hy
        cases v <;> simp at hy
        subst hy; rfl
    cases x <;> cases b <;> first | rfl | exact absurd rfl this
theorem ObT.skip {i : Nat} {o og : Oper} {g d : Nat} {b : Bool} (hat : at' cs i = none) (ho : ops[i]? = some o) (hgd : o.guard = some (g, b)) (hog : ops[g]? = some og) (hd : og.dst = some d) (hp : predB ops i g d = true) (hv : ∀ U, val cs f U g ≠ .bool b) (hf : f i = undef) : ObT P ops Q a0 cs f K Ω i := by
  refine ObT.silent hat (fun a w k U h1 h2 h3 hk => ?_)
  have hw : Region.wanted o (yielded ops a.tmps) = false := wanted_not hgd hog hd (by rw [h3 g d hp]; exact hv U)
  unfold wpOp
  simp only [ho, hw]
  refine ⟨?_, h1⟩
  rw [hf]; rfl
end
end Go.Proofs.YtefaohokmhdplaaDoor.RU
namespace Go.Proofs.YtefaohokmhdplaaDoor
open Go Go.RowKit
set_option linter.unusedSimpArgs false
set_option linter.unusedVariables false
/-- Memory only grows. -/
def gΩ (w0 : World) : Nat → (Nat → Value) → World → Prop := fun _ _ W => Below w0.heap.size w0 W
theorem range_below {w w' : World} {b o : Nat} {cs : List Value} (h : w.rangeAt b o cs) (hb : Below w.heap.size w w') (hlt : b < w.heap.size) : w'.rangeAt b o cs := fun j v hj => (hb.cell (p := ⟨b, o + j, none⟩) hlt).trans (h j v hj)
end Go.Proofs.YtefaohokmhdplaaDoor
