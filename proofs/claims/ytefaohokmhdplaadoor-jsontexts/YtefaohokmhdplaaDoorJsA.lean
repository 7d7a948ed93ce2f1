/- Package json: the parser, its small calls. -/
import Derived.Test.YtefaohokmhdplaaDoorChgA
import Derived.Test.YtefaohokmhdplaaDoorJsO
import Derived.Deep.QuietTactic
import Derived.BigQuiet
namespace Go.Proofs.YtefaohokmhdplaaDoor
open Go Go.RowKit
set_option linter.unusedSimpArgs false
set_option linter.unusedVariables false
set_option maxRecDepth 100000

/-- The parser's three cells. -/
def PB (w : World) (g : Nat) (s : ByteArray) (i d : Nat) : Prop := w.heap[g]? = some (.cells #[.string s, .int .i64 (i : Int), .int .i64 (d : Int)] 64 (0, 0))
theorem below_drewN {B0 : Nat} {a w : World} (h : Below B0 a w) (n : Nat) : Below B0 a (w.drewN n) := by
  induction n with
  | zero => exact h
  | succ n ih => exact ih.drew
variable {w : World} {g : Nat} {s : ByteArray} {i d : Nat}
theorem PB.cell (h : PB w g s i d) (j : Nat) : w.cell? ⟨g, j, none⟩ = (#[.string s, .int .i64 (i : Int), .int .i64 (d : Int)] : Array Value)[j]? := by
  have e : w.heap[g]? = _ := h
  simp only [World.cell?, e, Option.isSome_none, Bool.false_eq_true, if_false]
theorem PB.cells (h : PB w g s i d) : w.cell? ⟨g, 0, none⟩ = some (.string s) ∧ w.cell? ⟨g, 1, none⟩ = some (.int .i64 (i : Int)) ∧ w.cell? ⟨g, 2, none⟩ = some (.int .i64 (d : Int)) := ⟨h.cell 0, h.cell 1, h.cell 2⟩
theorem PB.froz (h : PB w g s i d) (j : Nat) : w.frozen? ⟨g, j, none⟩ = false := by
  have e : w.heap[g]? = _ := h
  simp [World.frozen?, e]
theorem PB.lt (h : PB w g s i d) : g < w.heap.size := (Array.getElem?_eq_some_iff.1 h).1
theorem PB.keep {w' : World} (h : PB w g s i d) (k : w'.heap[g]? = w.heap[g]?) : PB w' g s i d := k.trans h
theorem PB.set1 (h : PB w g s i d) (v : Nat) : PB (w.setCell ⟨g, 1, none⟩ (.int .i64 (v : Int))) g s v d := heap_setCell_same h _
theorem PB.set2 (h : PB w g s i d) (v : Nat) : PB (w.setCell ⟨g, 2, none⟩ (.int .i64 (v : Int))) g s i v := heap_setCell_same h _
theorem PB.drew (h : PB w g s i d) (n : Nat) : PB (w.drewN n) g s i d := h
theorem Chg.drew {F : Nat → Prop} {x y : World} (h : Chg F x y) (n : Nat) : Chg F x (y.drewN n) := h.trans (Chg.ofBelow (below_drewN (Below.refl _ _) n))
/-- The byte at a place that is one. -/
theorem idx_gb {s : ByteArray} {i : Nat} (h : i < s.size) : ((s[i]'h).toNat : Int) = gb s i := (gb_in h).symm
/-- Only the parser, and new blocks, have changed. -/
def Cg (g : Nat) (w w' : World) : Prop := Chg (fun b => b = g) w w'
set_option maxHeartbeats 1000000 in
theorem next_any (h : PB w g s i d) (hi : i ≤ s.size) (hs : s.size ≤ 8192) :
    Calls Tryd.prog 67 #[.pointer (some ⟨g, 0, none⟩)] w fun e w' => e = .returned (.int .u8 (gb s i)) ∧ ∃ n, w' = w.drewN n := by
  obtain ⟨h0, h1, h2⟩ := h.cells
  clear h
  by_cases he : i = s.size
  · have hg : gb s i = 0 := gb_out (by omega)
    have HG : Hid (gb s i = 0) := hg
    subst he
    clear hg
    go_enter Tryd.func67, Tryd.ntmps67
    go_wp2
    go_quiet (fail)
    go_wp2
    go_ret
    exact ⟨by rw [HG.out]; rfl, _, rfl⟩
  · have hlt : i < s.size := by omega
    have hne : ¬ (i : Int) = (s.size : Int) := by omega
    have HG : Hid _ := idx_gb hlt
    go_enter Tryd.func67, Tryd.ntmps67
    go_wp2
    go_quiet (fail)
    go_wp2
    go_quiet (fail)
    go_wp2
    go_ret
    exact ⟨by rw [← HG.out]; rfl, _, by rw [World.drewN_drewN]⟩
theorem wrap_in {n : Int} (h0 : 0 ≤ n) (h1 : n ≤ 9223372036854775807) : wrap64 n = n := by unfold wrap64; omega
set_option maxHeartbeats 1000000 in
theorem take_no (h : PB w g s i d) (hi : i ≤ s.size) (hs : s.size ≤ 8192) {c : Int} (hc : gb s i ≠ c) :
    Calls Tryd.prog 66 #[.pointer (some ⟨g, 0, none⟩), .int .u8 c] w fun e w' => e = .returned (.bool false) ∧ ∃ n, w' = w.drewN n := by
  have H : Hid (PB w g s i d) := h
  clear h
  have hn : ¬ ((gb s i == c) = true) := by simpa using hc
  go_enter Tryd.func66, Tryd.ntmps66
  go_wp2_with (go_at_call 67; refine (next_any H.out hi hs).mono ?_; rintro e w1 ⟨rfl, n, rfl⟩)
  go_ret
  exact ⟨rfl, _, rfl⟩
set_option maxHeartbeats 1000000 in
theorem take_yes (h : PB w g s i d) (hi : i ≤ s.size) (hs : s.size ≤ 8192) {c : Int} (hc : gb s i = c) (h0 : c ≠ 0) :
    Calls Tryd.prog 66 #[.pointer (some ⟨g, 0, none⟩), .int .u8 c] w fun e w' => e = .returned (.bool true) ∧ PB w' g s (i + 1) d ∧ Cg g w w' := by
  have H : Hid (PB w g s i d) := h
  have HS : Hid (s.size ≤ 8192) := hs
  obtain ⟨q0, q1, q2⟩ := h.cells
  have f1 := h.froz 1
  have hlt := gb_lt (s := s) (i := i) (by rw [hc]; exact h0)
  clear h h0
  subst hc
  go_enter Tryd.func66, Tryd.ntmps66
  go_wp2_with (go_at_call 67; refine (next_any H.out hi HS.out).mono ?_; rintro e w1 ⟨rfl, n, rfl⟩)
  go_ret
  exact ⟨rfl, (H.out.drew n).set1 _, ((Chg.refl _ _).drew n).setCell rfl⟩
end Go.Proofs.YtefaohokmhdplaaDoor
