/- utf8.AppendRune onto a row of the call's own. -/
import Derived.Test.YtefaohokmhdplaaDoorJsG
import Derived.Shelf.Utf8.AppendRunePlain
import Derived.Shelf.Lay
import Derived.Ground.NamesProg
namespace Go.Proofs.YtefaohokmhdplaaDoor
open Go Go.RowKit Go.Shelf
set_option linter.unusedSimpArgs false
set_option linter.unusedVariables false
set_option maxRecDepth 100000

shelf_lay Lays.n242 Nm 242 at Tryd as apr

theorem bv_rune (r : Int) : bv (Lib.encodeRuneZ r) = Lib.runeCells r := rfl
theorem rune_any (B : Nat) (v : Value) (xs : List Int) (r : Int) (hr0 : 0 ≤ r) (hr1 : r ≤ 1114111) (w : World) (h : Ow B w v xs) (hl : xs.length ≤ 1000000) (hB : B ≤ w.heap.size) :
    Calls Tryd.prog 75 #[v, .int .i32 r] w fun e w' => ∃ v', e = .returned v' ∧ Ow B w' v' (xs ++ Lib.encodeRuneZ r) ∧ Below B w w' := by
  refine (Any.utf8_AppendRune_plain apr (by kernel_rfl) B v xs.length (bv xs) r (by omega) (by omega) w h (by omega) hB).mono ?_
  rintro e w' ⟨v', rfl, h1, o, h2⟩
  refine ⟨v', rfl, ?_, ?_⟩
  · unfold Ow
    rw [List.length_append, bv_append, bv_rune, show (Lib.encodeRuneZ r).length = (Lib.runeCells r).length by rw [← bv_rune, bv_length]]
    exact h1
  · have h3 : Below B w (w.alloc o) := (Below.refl _ _).alloc hB _
    exact h3.grown h2 (Nat.le_trans hB h3.size) (fun b e => h.blk b e)
end Go.Proofs.YtefaohokmhdplaaDoor
