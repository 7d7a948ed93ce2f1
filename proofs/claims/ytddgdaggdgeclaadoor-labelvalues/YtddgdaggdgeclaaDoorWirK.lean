/- Decode. -/
import Derived.Test.YtddgdaggdgeclaaDoorWirJ
namespace Go.Proofs.YtddgdaggdgeclaaDoor
open Go Go.RowKit
set_option linter.unusedSimpArgs false
set_option linter.unusedVariables false

/-- The member at the beginning, and what is behind it. -/
def mem1 (r : List Int) : List Int := (r.drop 4).take (cnt r)
def rest1 (r : List Int) : List Int := r.drop (4 + cnt r)
/-- Behind k members. -/
def dk (xs : List Int) : Nat → Option (List (List Int) × List Int)
  | 0 => some ([], xs.drop 4)
  | k + 1 => (dk xs k).bind fun p => if hasM p.2 = true then some (p.1 ++ [mem1 p.2], rest1 p.2) else none
theorem dk_yes {xs : List Int} {k : Nat} {l : List (List Int)} {r : List Int} (h : dk xs k = some (l, r)) (hm : hasM r = true) : dk xs (k + 1) = some (l ++ [mem1 r], rest1 r) := by
  simp only [dk, h, Option.bind_some, hm, if_true]
theorem dk_no {xs : List Int} {k : Nat} {l : List (List Int)} {r : List Int} (h : dk xs k = some (l, r)) (hm : hasM r = false) : ∀ j, dk xs (k + 1 + j) = none
  | 0 => by simp only [dk, h, Option.bind_some, hm]; rfl
  | j + 1 => by rw [← Nat.add_assoc]; simp only [dk, dk_no h hm j, Option.bind_none]
theorem dk_inv {xs : List Int} (hb : Byt xs) : ∀ {k : Nat} {l : List (List Int)} {r : List Int}, dk xs k = some (l, r) → l.length = k ∧ Byt r ∧ r.length ≤ xs.length ∧ (∀ m ∈ l, Byt m ∧ m.length ≤ xs.length)
  | 0, l, r, h => by
    simp only [dk, Option.some.injEq, Prod.mk.injEq] at h
    obtain ⟨rfl, rfl⟩ := h
    exact ⟨rfl, hb.drop 4, by rw [List.length_drop]; omega, fun m hm => by cases hm⟩
  | k + 1, l, r, h => by
    simp only [dk] at h
    cases hd : dk xs k with
    | none => rw [hd] at h; cases h
    | some p =>
      obtain ⟨l', r'⟩ := p
      rw [hd] at h
      obtain ⟨h1, h2, h3, h4⟩ := dk_inv hb hd
      simp only [Option.bind_some] at h
      split at h
      · simp only [Option.some.injEq, Prod.mk.injEq] at h
        obtain ⟨rfl, rfl⟩ := h
        refine ⟨by simp [h1], h2.drop _, by unfold rest1; rw [List.length_drop]; omega, fun m hm => ?_⟩
        rcases List.mem_append.1 hm with hm | hm
        · exact h4 m hm
        · simp at hm; subst hm
          exact ⟨(h2.drop 4).take _, by unfold mem1; rw [List.length_take, List.length_drop]; omega⟩
      · cases h
/-- What Decode answers. -/
def decP (xs : List Int) : Int × List (List Int) :=
  if 1048576 < xs.length then (6, []) else
  if xs.length < 4 ∨ 65536 < cnt xs then (2, []) else
  match dk xs (cnt xs) with
  | none => (2, [])
  | some (l, r) => if r.length = 0 then (0, l) else (2, [])
def decE (xs : List Int) : Int := (decP xs).1
def decL (xs : List Int) : List (List Int) := (decP xs).2
theorem dec_large {xs : List Int} (h : 1048576 < xs.length) : decE xs = 6 ∧ decL xs = [] := by unfold decE decL decP; rw [if_pos h]; exact ⟨rfl, rfl⟩
theorem dec_form {xs : List Int} (h : ¬ 1048576 < xs.length) (h' : xs.length < 4 ∨ 65536 < cnt xs) : decE xs = 2 ∧ decL xs = [] := by unfold decE decL decP; rw [if_neg h, if_pos h']; exact ⟨rfl, rfl⟩
theorem dec_none {xs : List Int} (h : ¬ 1048576 < xs.length) (h' : ¬ (xs.length < 4 ∨ 65536 < cnt xs)) (hd : dk xs (cnt xs) = none) : decE xs = 2 ∧ decL xs = [] := by
  unfold decE decL decP; rw [if_neg h, if_neg h', hd]; exact ⟨rfl, rfl⟩
theorem dec_rest {xs : List Int} {l : List (List Int)} {r : List Int} (h : ¬ 1048576 < xs.length) (h' : ¬ (xs.length < 4 ∨ 65536 < cnt xs)) (hd : dk xs (cnt xs) = some (l, r)) (hr : r.length ≠ 0) : decE xs = 2 ∧ decL xs = [] := by
  unfold decE decL decP; rw [if_neg h, if_neg h', hd]; simp [hr]
theorem dec_ok {xs : List Int} {l : List (List Int)} {r : List Int} (h : ¬ 1048576 < xs.length) (h' : ¬ (xs.length < 4 ∨ 65536 < cnt xs)) (hd : dk xs (cnt xs) = some (l, r)) (hr : r.length = 0) : decE xs = 0 ∧ decL xs = l := by
  unfold decE decL decP; rw [if_neg h, if_neg h', hd]; simp [hr]
end Go.Proofs.YtddgdaggdgeclaaDoor
