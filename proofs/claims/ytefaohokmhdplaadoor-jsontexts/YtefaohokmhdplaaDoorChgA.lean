/- What changes and what stays. -/
import Derived.Test.YtefaohokmhdplaaDoorWirA
import Derived.Deep.MidRow
namespace Go.Proofs.YtefaohokmhdplaaDoor
open Go Go.RowKit
set_option linter.unusedSimpArgs false
set_option linter.unusedVariables false

/-- Only blocks of F, and new ones, have changed. -/
structure Chg (F : Nat → Prop) (w w' : World) : Prop where
  os : w'.os = w.os
  tape : w'.tape = w.tape
  output : w'.output = w.output
  size : w.heap.size ≤ w'.heap.size
  other : ∀ b, b < w.heap.size → ¬ F b → w'.heap[b]? = w.heap[b]?
theorem Chg.refl (F : Nat → Prop) (w : World) : Chg F w w := ⟨rfl, rfl, rfl, Nat.le_refl _, fun _ _ _ => rfl⟩
theorem Chg.trans {F : Nat → Prop} {x y z : World} (h : Chg F x y) (k : Chg F y z) : Chg F x z :=
  ⟨k.os.trans h.os, k.tape.trans h.tape, k.output.trans h.output, Nat.le_trans h.size k.size, fun b hb hf => (k.other b (Nat.lt_of_lt_of_le hb h.size) hf).trans (h.other b hb hf)⟩
theorem Chg.trans' {F G : Nat → Prop} {x y z : World} (h : Chg F x y) (k : Chg G y z) (hG : ∀ b, G b → F b ∨ x.heap.size ≤ b) : Chg F x z :=
  ⟨k.os.trans h.os, k.tape.trans h.tape, k.output.trans h.output, Nat.le_trans h.size k.size, fun b hb hf => (k.other b (Nat.lt_of_lt_of_le hb h.size) (fun hg => (hG b hg).elim hf (by omega))).trans (h.other b hb hf)⟩
theorem Chg.mono {F G : Nat → Prop} {x y : World} (h : Chg F x y) (k : ∀ b, F b → G b) : Chg G x y := ⟨h.os, h.tape, h.output, h.size, fun b hb hf => h.other b hb (fun q => hf (k b q))⟩
theorem Chg.ofBelow {F : Nat → Prop} {x y : World} (h : Below x.heap.size x y) : Chg F x y := ⟨h.os, h.tape, h.output, h.size, fun b hb _ => h.block b hb⟩
theorem Chg.below {F : Nat → Prop} {x y : World} {B : Nat} (h : Chg F x y) (hB : B ≤ x.heap.size) (hF : ∀ b, F b → B ≤ b) : Below B x y := ⟨h.os, h.tape, h.output, h.size, fun b hb => h.other b (by omega) (fun q => by have := hF b q; omega)⟩
theorem Chg.alloc {F : Nat → Prop} {x y : World} (h : Chg F x y) (o : Obj) : Chg F x (y.alloc o) := h.trans (Chg.ofBelow ((Below.refl _ y).alloc (Nat.le_refl _) o))
theorem heap_setCell_same {w : World} {g j : Nat} {cs : Array Value} {t : TypeId} (h : w.heap[g]? = some (.cells cs t (0, 0))) (v : Value) : (w.setCell ⟨g, j, none⟩ v).heap[g]? = some (.cells (cs.setIfInBounds j v) t (0, 0)) := by
  have hlt : g < w.heap.size := (Array.getElem?_eq_some_iff.1 h).1
  have := Array.getElem?_eq_some_iff.1 h
  simp [World.setCell, Array.getElem?_modify, h]
theorem Chg.setCell {F : Nat → Prop} {x y : World} (h : Chg F x y) {g j : Nat} {v : Value} (hg : F g) : Chg F x (y.setCell ⟨g, j, none⟩ v) :=
  h.trans ⟨rfl, rfl, rfl, by simp [World.setCell], fun b hb hf => Below.heap_setCell _ _ _ _ (fun e => hf (by subst e; exact hg))⟩
end Go.Proofs.YtefaohokmhdplaaDoor
