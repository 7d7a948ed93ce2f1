/- What comes in as a slice of bools. -/
import Derived.Test.YtmlialabdijcoaaWirV
import Derived.Test.YtmlialabdijcoaaDiskFuseW
import Derived.Deep.Grids
namespace Go.Proofs.Ytmlialabdijcoaa
open Go Go.ChangeShapes Go.WideShapes Go.ChangeAt Go.RowKit
set_option linter.unusedVariables false
set_option maxRecDepth 100000

theorem open_bl {H : Type} {enc : TypeId × Value → H} {W : World} {base : Nat} {a : Option Addr} {l c : Nat} {d : DataW H} {p : List MemPlace} (hv : Value.okWide Try.prog W .any base 46 (.slice a l c))
    (h : DataW.Trod enc Try.prog W 0 (fun _ => true) true 46 (.slice a l c) d p) :
    ∃ f, Bl W (.slice a l c) l f ∧ ((d = .nil ∧ l = 0) ∨ ∃ es sp, d = .slice es sp ∧ es.length + sp.length = c ∧ l ≤ c) := by
  obtain ⟨fuel, hf⟩ := h
  rcases Go.Deep.open_bools Try.underlying46 Try.underlying4 (by kernel_rfl) hf with ⟨hcs, hx⟩ | ⟨x, l', c', B, hcs, _, hl, hm, hx, hcell⟩
  · simp [Value.cells] at hcs
    obtain ⟨rfl, rfl, rfl⟩ := hcs
    exact ⟨fun _ => false, ⟨none, 0, rfl, .inl rfl⟩, .inl ⟨congrArg Prod.fst hx, rfl⟩⟩
  · simp [Value.cells] at hcs
    obtain ⟨rfl, rfl, rfl⟩ := hcs
    obtain ⟨hs, hb⟩ := okWide_addr Try.underlying46 hv
    obtain ⟨b, o, sp⟩ := x
    obtain rfl : sp = none := hs
    refine ⟨B, ⟨_, c, rfl, .inr ⟨b, o, rfl, hb, fun i hi => ?_⟩⟩, .inr ⟨_, _, congrArg Prod.fst hx, ?_, hl⟩⟩
    · have := hcell i (by omega)
      rw [addr_add0] at this; exact this
    · simp; omega
end Go.Proofs.Ytmlialabdijcoaa
