/- Package field: putWord, store. -/
import Derived.Test.YtaebjponihocaabDoorFieE
namespace Go.Proofs.YtaebjponihocaabDoor
open Go Go.RowKit Go.Lib
set_option linter.unusedSimpArgs false
set_option linter.unusedVariables false

theorem heap_setCells {w : World} {g : Nat} {cs cs' : Array Value} {t : TypeId} (hg : w.heap[g]? = some (.cells cs t (0, 0))) (o : Nat) (vs : List Value) (hn : o + vs.length ≤ cs.size)
    (h : ∀ i, cs'[i]? = if o ≤ i ∧ i < o + vs.length then vs[i - o]? else cs[i]?) : (w.setCells g o vs).heap[g]? = some (.cells cs' t (0, 0)) := by
  induction vs generalizing w cs o with
  | nil =>
    have : cs' = cs := Array.ext_getElem? (fun i => by
      have hne : ¬ (o ≤ i ∧ i < o + ([] : List Value).length) := by simp
      rw [h i, if_neg hne])
    rw [this]; exact hg
  | cons v r ih =>
    rw [World.setCells]
    refine ih (heap_setCell_same _ _ _ _ _ _ hg) (o + 1) (by simp at hn ⊢; omega) (fun i => ?_)
    rw [h i, Array.getElem?_setIfInBounds]
    simp only [List.length_cons] at hn ⊢
    by_cases h1 : i = o
    · subst h1
      rw [if_pos (by omega), if_neg (by omega), if_pos rfl, if_pos (by omega), Nat.sub_self]; rfl
    · by_cases h2 : o + 1 ≤ i ∧ i < o + 1 + r.length
      · rw [if_pos (by omega), if_pos h2, show i - o = (i - (o + 1)) + 1 by omega]; rfl
      · rw [if_neg (by omega), if_neg h2, if_neg (by omega)]
theorem below_setCells {B0 : Nat} {a : World} (b : Nat) (hB : B0 ≤ b) : ∀ (vs : List Value) (o : Nat) (w : World), Below B0 a w → Below B0 a (w.setCells b o vs)
  | [], _, _, h => h
  | v :: r, o, w, h => by
    rw [World.setCells]
    exact below_setCells b hB r (o + 1) _ (h.setCell hB v)
theorem heap_setCells_past (b c : Nat) (hc : c ≠ b) : ∀ (vs : List Value) (o : Nat) (w : World), (w.setCells b o vs).heap[c]? = w.heap[c]?
  | [], _, _ => rfl
  | v :: r, o, w => by
    rw [World.setCells, heap_setCells_past b c hc r (o + 1) _]
    simp [World.setCell, Array.getElem?_modify, Ne.symm hc]
theorem size_setCells (b : Nat) : ∀ (vs : List Value) (o : Nat) (w : World), (w.setCells b o vs).heap.size = w.heap.size
  | [], _, _ => rfl
  | v :: r, o, w => by rw [World.setCells, size_setCells b r (o + 1) _]; simp [World.setCell]
theorem there_of_row {w : World} {g : Nat} {cs : Array Value} {t : TypeId} (hg : w.heap[g]? = some (.cells cs t (0, 0))) (o n : Nat) (hn : o + n ≤ cs.size) : w.there g o n := fun j hj =>
  ⟨by rw [cell_of_row w g (o + j) cs t _ hg, Array.getElem?_eq_getElem (by omega)]; rfl, frozen_of_row _ _ _ _ _ hg⟩
theorem range_of_row {w : World} {g : Nat} {cs : Array Value} {t : TypeId} (hg : w.heap[g]? = some (.cells cs t (0, 0))) : w.rangeAt g 0 cs.toList := fun j v hv => by
  rw [Nat.zero_add, cell_of_row w g j cs t _ hg]
  simpa using hv

/-- The eight bytes of a word. -/
def b8 (x : Int) : List Value := [.int .u8 (x % 256), .int .u8 (x / 256 % 256), .int .u8 (x / 65536 % 256), .int .u8 (x / 16777216 % 256), .int .u8 (x / 4294967296 % 256), .int .u8 (x / 1099511627776 % 256), .int .u8 (x / 281474976710656 % 256), .int .u8 (x / 72057594037927936 % 256)]
set_option maxHeartbeats 1000000 in
theorem putWord_any (b off cap : Nat) (x : Int) (w : World) (ht : w.there b off 8) :
    Calls Tryd.prog 79 #[.slice (some ⟨b, off, none⟩) 8 cap, .int .u64 x] w fun e w' => e = .returned (.tuple #[]) ∧ w.setCells b off (b8 x) = w' := by
  obtain ⟨v0, h0⟩ := Option.isSome_iff_exists.1 (ht 0 (by omega)).1
  have f0 := (ht 0 (by omega)).2
  obtain ⟨v1, h1⟩ := Option.isSome_iff_exists.1 (ht 1 (by omega)).1
  have f1 := (ht 1 (by omega)).2
  obtain ⟨v2, h2⟩ := Option.isSome_iff_exists.1 (ht 2 (by omega)).1
  have f2 := (ht 2 (by omega)).2
  obtain ⟨v3, h3⟩ := Option.isSome_iff_exists.1 (ht 3 (by omega)).1
  have f3 := (ht 3 (by omega)).2
  obtain ⟨v4, h4⟩ := Option.isSome_iff_exists.1 (ht 4 (by omega)).1
  have f4 := (ht 4 (by omega)).2
  obtain ⟨v5, h5⟩ := Option.isSome_iff_exists.1 (ht 5 (by omega)).1
  have f5 := (ht 5 (by omega)).2
  obtain ⟨v6, h6⟩ := Option.isSome_iff_exists.1 (ht 6 (by omega)).1
  have f6 := (ht 6 (by omega)).2
  obtain ⟨v7, h7⟩ := Option.isSome_iff_exists.1 (ht 7 (by omega)).1
  have f7 := (ht 7 (by omega)).2
  clear ht
  simp only [Nat.add_zero] at h0 f0
  go_enter Tryd.func79, Tryd.ntmps79
  go_wp2
  try simp only [IntKind.wrap_u8']
  go_end0
  exact ⟨rfl, rfl⟩
theorem b8_get (n k j : Nat) (h : j < 8) : (b8 (lw n k))[j]? = some (.int .u8 (by8 n (8 * k + j))) := by
  have e := by8_word n k j h
  simp only [by8, e, lw]
  generalize n / 18446744073709551616 ^ k % 18446744073709551616 = x
  match j, h with
  | 0, _ => simp [b8]
  | 1, _ => simp [b8]
  | 2, _ => simp [b8]
  | 3, _ => simp [b8]
  | 4, _ => simp [b8]
  | 5, _ => simp [b8]
  | 6, _ => simp [b8]
  | 7, _ => simp [b8]

theorem by8_low (n m i : Nat) : by8 (n % 18446744073709551616 ^ m) i = if i < 8 * m then by8 n i else 0 := by
  have e : (18446744073709551616 : Nat) ^ m = 256 ^ (8 * m) := by rw [Nat.pow_mul]
  rw [e, by8, by8]
  split
  · rename_i h
    have e2 : (256 : Nat) ^ (8 * m) = 256 ^ i * (256 * 256 ^ (8 * m - i - 1)) := by
      rw [← Nat.pow_succ', ← Nat.pow_add]; congr 1; omega
    rw [e2, Nat.mod_mul_right_div_self, Nat.mod_mul_right_mod]
  · rename_i h
    have hlt : n % 256 ^ (8 * m) < 256 ^ i := Nat.lt_of_lt_of_le (Nat.mod_lt _ (Nat.pow_pos (by decide))) (Nat.pow_le_pow_right (by decide) (by omega))
    rw [Nat.div_eq_of_lt hlt]; rfl
theorem br_get' (n i : Nat) : (br n)[i]? = if i < 32 then some (.int .u8 (by8 n i)) else none := by
  split
  · rename_i h; exact br_get n i h
  · rename_i h; rw [Array.getElem?_eq_none (by rw [br_size]; omega)]
/-- Word k put into the bytes. -/
theorem put_row {w : World} {q n k : Nat} (hk : k < 4) (h : w.heap[q]? = some (.cells (br (n % 18446744073709551616 ^ k)) 22 (0, 0))) :
    (w.setCells q (8 * k) (b8 (lw n k))).heap[q]? = some (.cells (br (n % 18446744073709551616 ^ (k + 1))) 22 (0, 0)) := by
  have hl : (b8 (lw n k)).length = 8 := rfl
  refine heap_setCells h (8 * k) _ (by rw [br_size, hl]; omega) (fun i => ?_)
  rw [br_get', br_get', by8_low, by8_low, hl]
  by_cases h1 : 8 * k ≤ i ∧ i < 8 * k + 8
  · rw [if_pos h1, if_pos (by omega), if_pos (by omega), b8_get n k _ (by omega), show 8 * k + (i - 8 * k) = i by omega]
  · rw [if_neg h1]
    by_cases h2 : i < 32
    · rw [if_pos h2, if_pos h2]
      by_cases h3 : i < 8 * k
      · rw [if_pos h3, if_pos (by omega)]
      · rw [if_neg h3, if_neg (by omega)]
    · rw [if_neg h2, if_neg h2]
theorem zero_32 (w : World) : (zeroValue 22).run Tryd.prog w = .ok (.agg (br 0)) w := by kernel_rfl
end Go.Proofs.YtaebjponihocaabDoor
