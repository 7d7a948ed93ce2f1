/- What changes and what stays. -/
import Derived.Test.YtefaohokmhdplaaDoorWirA
import Derived.Deep.MidRow
import Derived.Laws.BytesArg
import Derived.Lib.RuneBytes
import Derived.Laws.RangeAny
namespace Go.Proofs.YtefaohokmhdplaaDoor
open Go Go.RowKit
set_option linter.unusedSimpArgs false
set_option linter.unusedVariables false

/-- Only blocks of F, and new ones, have changed. -/
structure Chg (F : Nat → Prop) (w w' : World) : Prop where
  os : w'.os = w.os
  tape : w'.tape = w.tape
  output : w'.output = w.output
  size : w.heap.size ≤ w'.heap.size
  other : ∀ b, b < w.heap.size → ¬ F b → w'.heap[b]? = w.heap[b]?
theorem Chg.refl (F : Nat → Prop) (w : World) : Chg F w w := ⟨rfl, rfl, rfl, Nat.le_refl _, fun _ _ _ => rfl⟩
theorem Chg.trans {F : Nat → Prop} {x y z : World} (h : Chg F x y) (k : Chg F y z) : Chg F x z :=
  ⟨k.os.trans h.os, k.tape.trans h.tape, k.output.trans h.output, Nat.le_trans h.size k.size, fun b hb hf => (k.other b (Nat.lt_of_lt_of_le hb h.size) hf).trans (h.other b hb hf)⟩
theorem Chg.trans' {F G : Nat → Prop} {x y z : World} (h : Chg F x y) (k : Chg G y z) (hG : ∀ b, G b → F b ∨ x.heap.size ≤ b) : Chg F x z :=
  ⟨k.os.trans h.os, k.tape.trans h.tape, k.output.trans h.output, Nat.le_trans h.size k.size, fun b hb hf => (k.other b (Nat.lt_of_lt_of_le hb h.size) (fun hg => (hG b hg).elim hf (by omega))).trans (h.other b hb hf)⟩
theorem Chg.mono {F G : Nat → Prop} {x y : World} (h : Chg F x y) (k : ∀ b, F b → G b) : Chg G x y := ⟨h.os, h.tape, h.output, h.size, fun b hb hf => h.other b hb (fun q => hf (k b q))⟩
theorem Chg.ofBelow {F : Nat → Prop} {x y : World} (h : Below x.heap.size x y) : Chg F x y := ⟨h.os, h.tape, h.output, h.size, fun b hb _ => h.block b hb⟩
theorem Chg.below {F : Nat → Prop} {x y : World} {B : Nat} (h : Chg F x y) (hB : B ≤ x.heap.size) (hF : ∀ b, F b → B ≤ b) : Below B x y := ⟨h.os, h.tape, h.output, h.size, fun b hb => h.other b (by omega) (fun q => by have := hF b q; omega)⟩
theorem Chg.alloc {F : Nat → Prop} {x y : World} (h : Chg F x y) (o : Obj) : Chg F x (y.alloc o) := h.trans (Chg.ofBelow ((Below.refl _ y).alloc (Nat.le_refl _) o))
theorem heap_setCell_same {w : World} {g j : Nat} {cs : Array Value} {t : TypeId} (h : w.heap[g]? = some (.cells cs t (0, 0))) (v : Value) : (w.setCell ⟨g, j, none⟩ v).heap[g]? = some (.cells (cs.setIfInBounds j v) t (0, 0)) := by
  have hlt : g < w.heap.size := (Array.getElem?_eq_some_iff.1 h).1
  have := Array.getElem?_eq_some_iff.1 h
  simp [World.setCell, Array.getElem?_modify, h]
theorem Chg.setCell {F : Nat → Prop} {x y : World} (h : Chg F x y) {g j : Nat} {v : Value} (hg : F g) : Chg F x (y.setCell ⟨g, j, none⟩ v) :=
  h.trans ⟨rfl, rfl, rfl, by simp [World.setCell], fun b hb hf => Below.heap_setCell _ _ _ _ (fun e => hf (by subst e; exact hg))⟩
end Go.Proofs.YtefaohokmhdplaaDoor
/- JSON texts as plain mathematics: a text byte by byte. -/
namespace Go.Proofs.YtefaohokmhdplaaDoor
open Go
set_option linter.unusedSimpArgs false
set_option linter.unusedVariables false

/-- The byte at a place; 0 at the end. -/
def gb (s : ByteArray) (i : Nat) : Int := if h : i < s.size then ((s[i]'h).toNat : Int) else 0
theorem gb_in {s : ByteArray} {i : Nat} (h : i < s.size) : gb s i = ((s[i]'h).toNat : Int) := by unfold gb; rw [dif_pos h]
theorem gb_out {s : ByteArray} {i : Nat} (h : s.size ≤ i) : gb s i = 0 := by unfold gb; rw [dif_neg (by omega)]
theorem gb_lo (s : ByteArray) (i : Nat) : 0 ≤ gb s i := by unfold gb; split <;> omega
theorem gb_hi (s : ByteArray) (i : Nat) : gb s i ≤ 255 := by
  unfold gb; split
  · have := (s[i]).toNat_lt; omega
  · omega
theorem gb_lt {s : ByteArray} {i : Nat} (h : gb s i ≠ 0) : i < s.size := by
  rcases Nat.lt_or_ge i s.size with h' | h'
  · exact h'
  · exact absurd (gb_out h') h
/-- What comes is gone past as long as it is so. -/
def runp (p : Int → Bool) (s : ByteArray) : Nat → Nat → Nat
  | 0, i => i
  | f + 1, i => if p (gb s i) then runp p s f (i + 1) else i
def rn (p : Int → Bool) (s : ByteArray) (i : Nat) : Nat := runp p s (s.size - i) i
theorem rn_stop {p : Int → Bool} {s : ByteArray} {i : Nat} (h : p (gb s i) = false) : rn p s i = i := by
  unfold rn; cases s.size - i with
  | zero => rfl
  | succ f => simp only [runp, h]; rfl
theorem rn_step {p : Int → Bool} {s : ByteArray} {i : Nat} (h : p (gb s i) = true) (hi : i < s.size) : rn p s i = rn p s (i + 1) := by
  unfold rn; rw [show s.size - i = (s.size - (i + 1)) + 1 by omega]; simp only [runp, h, if_true]
theorem runp_ge (p : Int → Bool) (s : ByteArray) : ∀ f i, i ≤ runp p s f i
  | 0, i => Nat.le_refl _
  | f + 1, i => by
    simp only [runp]; split
    · have := runp_ge p s f (i + 1); omega
    · exact Nat.le_refl _
theorem rn_ge (p : Int → Bool) (s : ByteArray) (i : Nat) : i ≤ rn p s i := runp_ge p s _ i
theorem runp_le (p : Int → Bool) (s : ByteArray) : ∀ f i, runp p s f i ≤ i + f
  | 0, i => Nat.le_refl _
  | f + 1, i => by
    simp only [runp]; split
    · have := runp_le p s f (i + 1); omega
    · omega
theorem rn_le (p : Int → Bool) (s : ByteArray) {i : Nat} (h : i ≤ s.size) : rn p s i ≤ s.size := by have := runp_le p s (s.size - i) i; unfold rn; omega
theorem runp_end (p : Int → Bool) (hp : p 0 = false) (s : ByteArray) : ∀ f i, s.size ≤ i + f → p (gb s (runp p s f i)) = false
  | 0, i, h => by rw [runp, gb_out (by omega), hp]
  | f + 1, i, h => by
    simp only [runp]
    cases h1 : p (gb s i) with
    | true => simp only [if_true]; exact runp_end p hp s f (i + 1) (by omega)
    | false => simp only [Bool.false_eq_true, if_false, h1]
theorem rn_end (p : Int → Bool) (hp : p 0 = false) (s : ByteArray) (i : Nat) : p (gb s (rn p s i)) = false := runp_end p hp s _ i (by omega)
def isBl (c : Int) : Bool := decide (c = 32 ∨ c = 9 ∨ c = 10 ∨ c = 13)
def isDg (c : Int) : Bool := decide (48 ≤ c ∧ c ≤ 57)
theorem isBl_lt {s : ByteArray} {i : Nat} (h : isBl (gb s i) = true) : i < s.size := gb_lt (fun e => by rw [e] at h; exact absurd h (by decide))
theorem isDg_lt {s : ByteArray} {i : Nat} (h : isDg (gb s i) = true) : i < s.size := gb_lt (fun e => by rw [e] at h; exact absurd h (by decide))
/-- Blanks gone past; digits gone past. -/
def sk (s : ByteArray) (i : Nat) : Nat := rn isBl s i
def dgs (s : ByteArray) (i : Nat) : Nat := rn isDg s i
theorem sk_le {s : ByteArray} {i : Nat} (h : i ≤ s.size) : sk s i ≤ s.size := rn_le _ _ h
theorem sk_ge (s : ByteArray) (i : Nat) : i ≤ sk s i := rn_ge _ _ _
theorem dgs_le {s : ByteArray} {i : Nat} (h : i ≤ s.size) : dgs s i ≤ s.size := rn_le _ _ h
theorem dgs_ge (s : ByteArray) (i : Nat) : i ≤ dgs s i := rn_ge _ _ _
/-- A word. -/
def wd (s : ByteArray) : List Int → Nat → Nat × Bool
  | [], i => (i, true)
  | c :: cs, i => if gb s i = c then wd s cs (i + 1) else (i, false)
theorem wd_le (s : ByteArray) : ∀ (l : List Int) (i : Nat), (∀ c ∈ l, c ≠ 0) → i ≤ s.size → i ≤ (wd s l i).1 ∧ (wd s l i).1 ≤ s.size
  | [], i, _, h => ⟨Nat.le_refl _, h⟩
  | c :: cs, i, hl, h => by
    simp only [wd]; split
    · rename_i e
      have hc : c ≠ 0 := hl c (by simp)
      have hi := gb_lt (s := s) (i := i) (by rw [e]; exact hc)
      have := wd_le s cs (i + 1) (fun x hx => hl x (by simp [hx])) hi
      exact ⟨by omega, this.2⟩
    · exact ⟨Nat.le_refl _, h⟩
/-- A number: where it ends, or where it can't go on. -/
def nexp (s : ByteArray) (c : Nat) : Nat × Bool :=
  if gb s c = 101 ∨ gb s c = 69 then
    (if isDg (gb s (if gb s (c + 1) = 43 ∨ gb s (c + 1) = 45 then c + 2 else c + 1)) then (dgs s (if gb s (c + 1) = 43 ∨ gb s (c + 1) = 45 then c + 2 else c + 1), true) else (if gb s (c + 1) = 43 ∨ gb s (c + 1) = 45 then c + 2 else c + 1, false))
  else (c, true)
def nfra (s : ByteArray) (b : Nat) : Nat × Bool := if gb s b = 46 then (if isDg (gb s (b + 1)) then nexp s (dgs s (b + 1)) else (b + 1, false)) else nexp s b
def nint (s : ByteArray) (a : Nat) : Nat × Bool := if gb s a = 48 then nfra s (a + 1) else if isDg (gb s a) then nfra s (dgs s a) else (a, false)
def nmb (s : ByteArray) (i : Nat) : Nat × Bool := if gb s i = 45 then nint s (i + 1) else nint s i
theorem nexp_le {s : ByteArray} {c : Nat} (h : c ≤ s.size) : c ≤ (nexp s c).1 ∧ (nexp s c).1 ≤ s.size := by
  unfold nexp
  split
  · rename_i e
    have h1 : c < s.size := gb_lt (by omega)
    by_cases e2 : gb s (c + 1) = 43 ∨ gb s (c + 1) = 45
    · have h2 : c + 1 < s.size := gb_lt (by omega)
      simp only [if_pos e2]
      split
      · have := dgs_ge s (c + 2); have := dgs_le (s := s) (i := c + 2) h2
        exact ⟨by simp only; omega, this⟩
      · exact ⟨by simp, by simp; omega⟩
    · simp only [if_neg e2]
      split
      · have := dgs_ge s (c + 1); have := dgs_le (s := s) (i := c + 1) h1
        exact ⟨by simp only; omega, this⟩
      · exact ⟨by simp, by simp; omega⟩
  · exact ⟨Nat.le_refl _, h⟩
theorem nfra_le {s : ByteArray} {c : Nat} (h : c ≤ s.size) : c ≤ (nfra s c).1 ∧ (nfra s c).1 ≤ s.size := by
  unfold nfra
  split
  · have h1 : c < s.size := gb_lt (by omega)
    split
    · have a := dgs_ge s (c + 1); have b := nexp_le (dgs_le (s := s) (i := c + 1) h1)
      exact ⟨by omega, b.2⟩
    · exact ⟨by simp, by simp; omega⟩
  · exact nexp_le h
theorem nint_le {s : ByteArray} {c : Nat} (h : c ≤ s.size) : c ≤ (nint s c).1 ∧ (nint s c).1 ≤ s.size := by
  unfold nint
  split
  · have h1 : c < s.size := gb_lt (by omega)
    have b := nfra_le (s := s) (c := c + 1) h1
    exact ⟨by omega, b.2⟩
  · split
    · have a := dgs_ge s c; have b := nfra_le (dgs_le (s := s) (i := c) h)
      exact ⟨by omega, b.2⟩
    · exact ⟨Nat.le_refl _, h⟩
theorem nmb_le {s : ByteArray} {c : Nat} (h : c ≤ s.size) : c ≤ (nmb s c).1 ∧ (nmb s c).1 ≤ s.size := by
  unfold nmb
  split
  · have h1 : c < s.size := gb_lt (by omega)
    have b := nint_le (s := s) (c := c + 1) h1
    exact ⟨by omega, b.2⟩
  · exact nint_le h
/-- A hexadecimal digit's number, or -1. -/
def hxv (c : Int) : Int := if 48 ≤ c ∧ c ≤ 57 then c - 48 else if 97 ≤ c ∧ c ≤ 102 then c - 87 else if 65 ≤ c ∧ c ≤ 70 then c - 55 else -1
theorem hxv_hi (c : Int) : hxv c ≤ 15 := by unfold hxv; repeat' split
                                            all_goals omega
/-- The number of the four digits from a place on, or -1. -/
def u4d (s : ByteArray) (i : Nat) : Int := if hxv (gb s i) < 0 ∨ hxv (gb s (i + 1)) < 0 ∨ hxv (gb s (i + 2)) < 0 ∨ hxv (gb s (i + 3)) < 0 then -1 else ((hxv (gb s i) * 16 + hxv (gb s (i + 1))) * 16 + hxv (gb s (i + 2))) * 16 + hxv (gb s (i + 3))
theorem u4d_hi (s : ByteArray) (i : Nat) : -1 ≤ u4d s i ∧ u4d s i ≤ 65535 := by
  have := hxv_hi (gb s i); have := hxv_hi (gb s (i + 1)); have := hxv_hi (gb s (i + 2)); have := hxv_hi (gb s (i + 3))
  unfold u4d; split <;> omega
/-- The number of the \u at a place, or -1. -/
def u4 (s : ByteArray) (i : Nat) : Int := if i + 6 ≤ s.size ∧ gb s i = 92 ∧ gb s (i + 1) = 117 then u4d s (i + 2) else -1
theorem u4_hi (s : ByteArray) (i : Nat) : -1 ≤ u4 s i ∧ u4 s i ≤ 65535 := by
  have := u4d_hi s (i + 2)
  unfold u4; split <;> omega
theorem u4_in {s : ByteArray} {i : Nat} (h : 0 ≤ u4 s i) : i + 6 ≤ s.size := by
  unfold u4 at h; split at h
  · rename_i e; exact e.1
  · omega
/-- The rune of a \u at a place, or of two of them, and how many bytes it is written in. -/
def lng (s : ByteArray) (i : Nat) : Option (Int × Nat) :=
  if u4 s i < 0 ∨ (56320 ≤ u4 s i ∧ u4 s i < 57344) then none
  else if u4 s i < 55296 ∨ 57344 ≤ u4 s i then some (u4 s i, 6)
  else if u4 s (i + 6) < 56320 ∨ 57344 ≤ u4 s (i + 6) then none
  else some (65536 + (u4 s i - 55296) * 1024 + (u4 s (i + 6) - 56320), 12)
/-- The rune of the escape at a place. -/
def esc (s : ByteArray) (i : Nat) : Option (Int × Nat) :=
  if s.size < i + 2 then none
  else if gb s (i + 1) = 34 ∨ gb s (i + 1) = 92 ∨ gb s (i + 1) = 47 then some (gb s (i + 1), 2)
  else if gb s (i + 1) = 98 then some (8, 2) else if gb s (i + 1) = 102 then some (12, 2) else if gb s (i + 1) = 110 then some (10, 2)
  else if gb s (i + 1) = 114 then some (13, 2) else if gb s (i + 1) = 116 then some (9, 2)
  else if gb s (i + 1) = 117 then lng s i else none
theorem lng_in {s : ByteArray} {i n : Nat} {r : Int} (h : lng s i = some (r, n)) : i + n ≤ s.size ∧ 6 ≤ n ∧ 0 ≤ r ∧ r ≤ 1114111 ∧ (r < 55296 ∨ 57343 < r) := by
  have h1 := u4_hi s i; have h2 := u4_hi s (i + 6)
  unfold lng at h
  split at h
  · cases h
  · rename_i a
    split at h
    · rename_i b
      simp only [Option.some.injEq, Prod.mk.injEq] at h
      have := u4_in (s := s) (i := i) (by omega)
      omega
    · split at h
      · cases h
      · simp only [Option.some.injEq, Prod.mk.injEq] at h
        have := u4_in (s := s) (i := i + 6) (by omega)
        omega
theorem esc_in {s : ByteArray} {i n : Nat} {r : Int} (h : esc s i = some (r, n)) : i + n ≤ s.size ∧ 2 ≤ n ∧ 0 ≤ r ∧ r ≤ 1114111 ∧ (r < 55296 ∨ 57343 < r) := by
  have h1 := gb_hi s (i + 1); have h0 := gb_lo s (i + 1)
  unfold esc at h
  split at h
  · cases h
  · repeat' split at h
    all_goals first
      | (simp only [Option.some.injEq, Prod.mk.injEq] at h; omega)
      | (have := lng_in h; omega)
      | cases h
/-- How many bytes the rune at a place has; 0: it is no UTF-8. -/
def rl (s : ByteArray) (i : Nat) : Nat := if (Utf8.decode s i).1 = 65533 ∧ (Utf8.decode s i).2 = 1 then 0 else (Utf8.decode s i).2
/-- The bytes from a place to another. -/
def cutb (s : ByteArray) (i n : Nat) : List Int := (List.range n).map fun k => gb s (i + k)
theorem cutb_length (s : ByteArray) (i n : Nat) : (cutb s i n).length = n := by simp [cutb]
theorem cutb_add (s : ByteArray) (i n m : Nat) : cutb s i (n + m) = cutb s i n ++ cutb s (i + n) m := by
  unfold cutb
  rw [List.range_add, List.map_append, List.map_map]
  congr 1
  apply List.map_congr_left
  intro a _; simp [Nat.add_assoc]
/-- A string's text behind its quotation mark: what it says and where it ends, or where it can't go on. -/
def txf (s : ByteArray) : Nat → Nat → List Int → (List Int × Nat) × Bool
  | 0, i, a => ((a, i), false)
  | f + 1, i, a =>
    if s.size ≤ i then ((a, i), false)
    else if gb s i = 34 then ((a, i + 1), true)
    else if gb s i < 32 then ((a, i), false)
    else if gb s i = 92 then (match esc s i with
      | none => ((a, i), false)
      | some (r, n) => txf s f (i + n) (a ++ Lib.encodeRuneZ r))
    else if rl s i = 0 then ((a, i), false)
    else txf s f (i + rl s i) (a ++ cutb s i (rl s i))
def tx (s : ByteArray) (i : Nat) (a : List Int) : (List Int × Nat) × Bool := txf s (s.size + 1 - i) i a
end Go.Proofs.YtefaohokmhdplaaDoor
