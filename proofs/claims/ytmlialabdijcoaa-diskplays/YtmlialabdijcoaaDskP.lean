/- The reference's disk: its five cells; lost, New and the small calls. -/
import Derived.Test.YtmlialabdijcoaaDskL
namespace Go.Proofs.Ytmlialabdijcoaa
open Go Go.RowKit
set_option linter.unusedSimpArgs false
set_option linter.unusedVariables false
set_option maxRecDepth 100000

def five (sv wv : Value) (fu : Bool) (fz : Int) (dn : Bool) : Array Value := #[sv, wv, .bool fu, .int .i64 fz, .bool dn]
def QB (w : World) (g : Nat) (sv wv : Value) (fu : Bool) (fz : Int) (dn : Bool) : Prop := w.heap[g]? = some (.cells (five sv wv fu fz dn) 56 (0, 0))
section
variable {w : World} {g : Nat} {sv wv : Value} {fu dn : Bool} {fz : Int}
theorem QB.cell (h : QB w g sv wv fu fz dn) (j : Nat) : w.cell? ⟨g, j, none⟩ = (five sv wv fu fz dn)[j]? := by
  unfold World.cell?; rw [h]; rfl
theorem QB.froz (h : QB w g sv wv fu fz dn) (j : Nat) : w.frozen? ⟨g, j, none⟩ = false := by
  unfold World.frozen?; rw [h]; simp
theorem QB.keep {w' : World} (h : QB w g sv wv fu fz dn) (k : w'.heap[g]? = w.heap[g]?) : QB w' g sv wv fu fz dn := k.trans h
theorem QB.cells (h : QB w g sv wv fu fz dn) : w.cell? ⟨g, 0, none⟩ = some sv ∧ w.cell? ⟨g, 1, none⟩ = some wv ∧ w.cell? ⟨g, 2, none⟩ = some (.bool fu) ∧ w.cell? ⟨g, 3, none⟩ = some (.int .i64 fz) ∧ w.cell? ⟨g, 4, none⟩ = some (.bool dn) :=
  ⟨h.cell 0, h.cell 1, h.cell 2, h.cell 3, h.cell 4⟩
theorem QB.set1 (h : QB w g sv wv fu fz dn) (v : Value) : QB (w.setCell ⟨g, 1, none⟩ v) g sv v fu fz dn := heap_setCell_same h v
theorem QB.set2 (h : QB w g sv wv fu fz dn) (v : Bool) : QB (w.setCell ⟨g, 2, none⟩ (.bool v)) g sv wv v fz dn := heap_setCell_same h _
theorem QB.set3 (h : QB w g sv wv fu fz dn) (v : Int) : QB (w.setCell ⟨g, 3, none⟩ (.int .i64 v)) g sv wv fu v dn := heap_setCell_same h _
theorem QB.set4 (h : QB w g sv wv fu fz dn) (v : Bool) : QB (w.setCell ⟨g, 4, none⟩ (.bool v)) g sv wv fu fz v := heap_setCell_same h _
theorem QB.lt (h : QB w g sv wv fu fz dn) : g < w.heap.size := (Array.getElem?_eq_some_iff.1 h).1
end
/-- The fuse, as the reference has it. -/
def fzQ (f : Option Nat) (fz : Int) : Prop := match f with
  | none => fz = -1
  | some k => fz = (k : Int) ∧ k ≤ 9223372036854775807
/-- The reference's disk lies at g, in blocks of F. -/
structure QX (F : Nat → Prop) (w : World) (g : Nat) (s : Dk) (gs : Nat) (wv : Value) (fz : Int) : Prop where
  db : QB w g (.slice (some ⟨gs, 0, none⟩) s.n s.n) wv s.fu fz s.dn
  fz : fzQ s.fz fz
  sb : SB w gs s.n s.st
  wb : WB 61 w wv s.n s.wt
  ggs : g ≠ gs
  wg : wv.ownBlock ≠ some g
  wgs : wv.ownBlock ≠ some gs
  Fg : F g
  Fgs : F gs
  Fw : ∀ b, wv.ownBlock = some b → F b
  Flt : ∀ b, F b → b < w.heap.size
  n1 : 1 ≤ s.n
  n2 : s.n ≤ 65536
def QD (F : Nat → Prop) (w : World) (g : Nat) (s : Dk) : Prop := ∃ gs wv fz, QX F w g s gs wv fz
theorem QX.keep {F : Nat → Prop} {w w' : World} {g : Nat} {s : Dk} {gs : Nat} {wv : Value} {fz : Int} (h : QX F w g s gs wv fz) (hs : w.heap.size ≤ w'.heap.size) (k : ∀ b, F b → w'.heap[b]? = w.heap[b]?) : QX F w' g s gs wv fz :=
  ⟨h.db.keep (k g h.Fg), h.fz, h.sb.keep (k gs h.Fgs), h.wb.keep (fun b hb => k b (h.Fw b hb)), h.ggs, h.wg, h.wgs, h.Fg, h.Fgs, h.Fw, fun b hb => Nat.lt_of_lt_of_le (h.Flt b hb) hs, h.n1, h.n2⟩
theorem QD.keep {F : Nat → Prop} {w w' : World} {g : Nat} {s : Dk} (h : QD F w g s) (hs : w.heap.size ≤ w'.heap.size) (k : ∀ b, F b → w'.heap[b]? = w.heap[b]?) : QD F w' g s := by
  obtain ⟨gs, wv, fz, h⟩ := h
  exact ⟨gs, wv, fz, h.keep hs k⟩
theorem QD.chg {F G : Nat → Prop} {w w' : World} {g : Nat} {s : Dk} (h : QD F w g s) (c : Chg G w w') (d : ∀ b, F b → ¬ G b) : QD F w' g s := by
  obtain ⟨gs, wv, fz, h⟩ := h
  exact ⟨gs, wv, fz, h.keep c.size (fun b hb => c.other b (h.Flt b hb) (d b hb))⟩
theorem QD.below {F : Nat → Prop} {w w' : World} {g : Nat} {s : Dk} (h : QD F w g s) (hb : Below w.heap.size w w') : QD F w' g s := by
  obtain ⟨gs, wv, fz, h⟩ := h
  exact ⟨gs, wv, fz, h.keep hb.size (fun b hb' => hb.block b (h.Flt b hb'))⟩
def QAft (F : Nat → Prop) (w w' : World) (g : Nat) (s : Dk) : Prop := ∃ F', QD F' w' g s ∧ Chg F w w' ∧ ∀ b, F' b → F b ∨ w.heap.size ≤ b
variable {F : Nat → Prop} {w : World} {g : Nat} {s : Dk} {gs : Nat} {wv : Value} {fz : Int}
set_option maxHeartbeats 1000000 in
theorem lost_QX (h : QX F w g s gs wv fz) :
    Calls Try.prog 31 #[.pointer (some ⟨g, 0, none⟩)] w fun e w' => e = .returned (.bool s.lost) ∧ (∃ fz', QX F w' g s.burn gs wv fz') ∧ Chg (fun b => b = g) w w' ∧ w'.heap.size = w.heap.size := by
  have H : Hid (QX F w g s gs wv fz) := h
  obtain ⟨-, -, -, h3, h4⟩ := h.db.cells
  have f3 := h.db.froz 3
  have f4 := h.db.froz 4
  have hf := h.fz
  clear h
  obtain ⟨n, st, wt, fu, dn, f⟩ := s
  cases dn with
  | true =>
    simp only at h4
    clear hf
    go_enter Try.func31, Try.ntmps31
    go_wp2
    go_ret
    exact ⟨by simp [Dk.lost], ⟨fz, H.out⟩, Chg.refl _ _, rfl⟩
  | false =>
    simp only at h4
    match f with
    | none =>
      have hf' : fz = -1 := hf
      subst hf'
      clear hf
      go_enter Try.func31, Try.ntmps31
      go_wp2
      go_ret
      exact ⟨rfl, ⟨-1, H.out⟩, Chg.refl _ _, rfl⟩
    | some 0 =>
      obtain ⟨rfl, -⟩ := hf
      go_enter Try.func31, Try.ntmps31
      go_wp2
      go_ret
      have h := H.out
      have hne : ∀ c, c ≠ g → (w.setCell ⟨g, 4, none⟩ (.bool true)).heap[c]? = w.heap[c]? := fun c hc => Below.heap_setCell _ _ _ _ hc
      have hs : (w.setCell ⟨g, 4, none⟩ (.bool true)).heap.size = w.heap.size := by simp [World.setCell]
      refine ⟨rfl, ⟨_, ⟨h.db.set4 true, h.fz, h.sb.keep (hne gs (Ne.symm h.ggs)), h.wb.keep (fun c hc => hne c (fun e => h.wg (by rw [hc, e]))), h.ggs, h.wg, h.wgs, h.Fg, h.Fgs, h.Fw, fun c hc => by rw [hs]; exact h.Flt c hc, h.n1, h.n2⟩⟩, (Chg.refl _ _).setCell rfl, hs⟩
    | some (k + 1) =>
      obtain ⟨rfl, hk⟩ := hf
      have hn : ¬ (((k + 1 : Nat) : Int) = 0) := by omega
      have hp : ((k + 1 : Nat) : Int) > 0 := by omega
      go_enter Try.func31, Try.ntmps31
      go_wp2
      go_ret
      have h := H.out
      have hw : wrap64 ((k : Int) + 1 - 1) = (k : Int) := by unfold wrap64; omega
      have hne : ∀ c, c ≠ g → (w.setCell ⟨g, 3, none⟩ (.int .i64 (k : Int))).heap[c]? = w.heap[c]? := fun c hc => Below.heap_setCell _ _ _ _ hc
      have hs : (w.setCell ⟨g, 3, none⟩ (.int .i64 (k : Int))).heap.size = w.heap.size := by simp [World.setCell]
      refine ⟨by simp [Dk.lost], ⟨(k : Int), ?_⟩, (Chg.refl _ _).setCell rfl, by simp [World.setCell]⟩
      try rw [hw]
      exact ⟨h.db.set3 (k : Int), ⟨rfl, by omega⟩, h.sb.keep (hne gs (Ne.symm h.ggs)), h.wb.keep (fun c hc => hne c (fun e => h.wg (by rw [hc, e]))), h.ggs, h.wg, h.wgs, h.Fg, h.Fgs, h.Fw, fun c hc => by rw [hs]; exact h.Flt c hc, h.n1, h.n2⟩
theorem rnew_bad (w : World) (i : Int) (h : ¬ (1 ≤ i ∧ i ≤ 65536)) : Calls Try.prog 10 #[.int .i64 i] w fun e w' => e = .returned (.tuple #[.pointer none, .int .i64 1]) ∧ w' = w := by
  by_cases h1 : i < 1
  · go_enter Try.func10, Try.ntmps10
    go_wp2
    go_ret2
    exact ⟨rfl, rfl⟩
  · have h2 : i > 65536 := by omega
    go_enter Try.func10, Try.ntmps10
    go_wp2
    go_ret2
    exact ⟨rfl, rfl⟩
def QNewP (w w' : World) (g n : Nat) : Prop := ∃ F, QD F w' g (dk0 n) ∧ Below w.heap.size w w' ∧ ∀ b, F b → w.heap.size ≤ b
set_option maxHeartbeats 1000000 in
theorem rnew_any (w : World) (n : Nat) (h1 : 1 ≤ n) (h2 : n ≤ 65536) : Calls Try.prog 10 #[.int .i64 (n : Int)] w fun e w' => ∃ g, e = .returned (.tuple #[.pointer (some ⟨g, 0, none⟩), .int .i64 0]) ∧ QNewP w w' g n := by
  have g1 : ¬ ((n : Int) < 1) := by omega
  have g2 : ¬ ((n : Int) > 65536) := by omega
  go_enter Try.func10, Try.ntmps10
  go_wp2_with (refine make_sec w rfl _ _ rfl _ _ _ _ n rfl rfl rfl rfl h2 ?_; intro w1 k1 k2; have K1 : Hid (SB w1 w.heap.size n (fun _ => z64)) := k1; have K2 : Hid (Below w.heap.size w w1) := k2; clear k1 k2)
  go_ret2
  have hb : Below w1.heap.size w1 (w1.alloc (.cells (five (.slice (some ⟨w.heap.size, 0, none⟩) n n) (.slice none 0 0) false (-1) false) 56)) := (Below.refl _ _).alloc (Nat.le_refl _) _
  have hlt := K1.out.lt
  refine ⟨w1.heap.size, rfl, fun b => b = w.heap.size ∨ b = w1.heap.size, ⟨w.heap.size, .slice none 0 0, -1, ⟨?_, rfl, K1.out.keep (hb.block _ hlt), ⟨World.ownsRow_nil _ _ _ _, fun p hp => by cases hp⟩, by omega, by simp [Value.ownBlock], by simp [Value.ownBlock], .inr rfl, .inl rfl, fun b hb => by simp [Value.ownBlock] at hb, fun b hb' => ?_, h1, h2⟩⟩, K2.out.trans (hb.mono (Nat.le_of_lt hlt)), fun b hb' => by omega⟩
  · show (w1.heap.push _)[w1.heap.size]? = _
    simp [five, dk0]
  · have h3 : (w1.alloc (.cells (five (.slice (some ⟨w.heap.size, 0, none⟩) n n) (.slice none 0 0) false (-1) false) 56)).heap.size = w1.heap.size + 1 := by simp
    show b < (w1.alloc (.cells (five (.slice (some ⟨w.heap.size, 0, none⟩) n n) (.slice none 0 0) false (-1) false) 56)).heap.size
    rw [h3]
    rcases hb' with rfl | rfl <;> omega
theorem rwaiting_any (h : QD F w g s) : Calls Try.prog 26 #[.pointer (some ⟨g, 0, none⟩)] w fun e w' => e = .returned (.int .i64 (s.wt.length : Int)) ∧ w' = w := by
  obtain ⟨gs, wv, fz, h⟩ := h
  obtain ⟨h0, h1, h2, h3, h4⟩ := h.db.cells
  obtain ⟨ad, cap, rfl, -⟩ := h.wb.shape
  clear h
  go_enter Try.func26, Try.ntmps26
  go_wp2
  go_ret
  exact ⟨rfl, rfl⟩
theorem rdown_any (h : QD F w g s) : Calls Try.prog 28 #[.pointer (some ⟨g, 0, none⟩)] w fun e w' => e = .returned (.bool s.dn) ∧ w' = w := by
  obtain ⟨gs, wv, fz, h⟩ := h
  obtain ⟨h0, h1, h2, h3, h4⟩ := h.db.cells
  clear h
  go_enter Try.func28, Try.ntmps28
  go_wp2
  go_ret
  exact ⟨rfl, rfl⟩
theorem rsetFull_any (h : QD F w g s) (b : Bool) : Calls Try.prog 20 #[.pointer (some ⟨g, 0, none⟩), .bool b] w fun e w' => e = .returned (.tuple #[]) ∧ QAft F w w' g { s with fu := b } := by
  obtain ⟨gs, wv, fz, h⟩ := h
  obtain ⟨h0, h1, h2, h3, h4⟩ := h.db.cells
  have f2 := h.db.froz 2
  have H : Hid (QX F w g s gs wv fz) := h
  clear h
  go_enter Try.func20, Try.ntmps20
  go_wp2
  go_end0
  have hne : ∀ c, c ≠ g → (w.setCell ⟨g, 2, none⟩ (.bool b)).heap[c]? = w.heap[c]? := fun c hc => Below.heap_setCell _ _ _ _ hc
  have hs : (w.setCell ⟨g, 2, none⟩ (.bool b)).heap.size = w.heap.size := by simp [World.setCell]
  have h := H.out
  exact ⟨rfl, F, ⟨gs, wv, fz, ⟨h.db.set2 b, h.fz, h.sb.keep (hne gs (Ne.symm h.ggs)), h.wb.keep (fun c hc => hne c (fun e => h.wg (by rw [hc, e]))), h.ggs, h.wg, h.wgs, h.Fg, h.Fgs, h.Fw, fun c hc => by rw [hs]; exact h.Flt c hc, h.n1, h.n2⟩⟩, (Chg.refl _ _).setCell h.Fg, fun c hc => .inl hc⟩
theorem rsetFuse_any (h : QD F w g s) (n : Int) (hn : n ≤ 9223372036854775807) : Calls Try.prog 22 #[.pointer (some ⟨g, 0, none⟩), .int .i64 n] w fun e w' => e = .returned (.tuple #[]) ∧ QAft F w w' g { s with fz := fuseOf n } := by
  obtain ⟨gs, wv, fz, h⟩ := h
  obtain ⟨h0, h1, h2, h3, h4⟩ := h.db.cells
  have f3 := h.db.froz 3
  have H : Hid (QX F w g s gs wv fz) := h
  clear h
  obtain ⟨m, hm⟩ : ∃ m : Int, m = if -1 ≤ n then n else -1 := ⟨_, rfl⟩
  have fin : ∀ W, W = w.setCell ⟨g, 3, none⟩ (.int .i64 m) → QAft F w W g { s with fz := fuseOf n } := by
    rintro W rfl
    have hne : ∀ c, c ≠ g → (w.setCell ⟨g, 3, none⟩ (.int .i64 m)).heap[c]? = w.heap[c]? := fun c hc => Below.heap_setCell _ _ _ _ hc
    have hs : (w.setCell ⟨g, 3, none⟩ (.int .i64 m)).heap.size = w.heap.size := by simp [World.setCell]
    have h := H.out
    refine ⟨F, ⟨gs, wv, m, ⟨h.db.set3 m, ?_, h.sb.keep (hne gs (Ne.symm h.ggs)), h.wb.keep (fun c hc => hne c (fun e => h.wg (by rw [hc, e]))), h.ggs, h.wg, h.wgs, h.Fg, h.Fgs, h.Fw, fun c hc => by rw [hs]; exact h.Flt c hc, h.n1, h.n2⟩⟩, (Chg.refl _ _).setCell h.Fg, fun c hc => .inl hc⟩
    show fzQ (fuseOf n) m
    unfold fuseOf
    split
    · rename_i hp
      exact ⟨by rw [hm, if_pos (by omega)]; omega, by omega⟩
    · rename_i hp
      show m = -1
      rw [hm]; split <;> omega
  by_cases hq : -1 ≤ n
  · rw [if_pos hq] at hm
    subst hm
    go_enter Try.func22, Try.ntmps22
    go_wp2
    go_end0
    exact ⟨rfl, fin _ rfl⟩
  · rw [if_neg hq] at hm
    subst hm
    go_enter Try.func22, Try.ntmps22
    go_wp2
    go_end0
    exact ⟨rfl, fin _ rfl⟩
end Go.Proofs.Ytmlialabdijcoaa
