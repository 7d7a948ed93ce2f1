/- JSON texts as plain mathematics: runes that stand for themselves. -/
import Derived.Test.YtefaohokmhdplaaDoorJsN
namespace Go.Proofs.YtefaohokmhdplaaDoor
open Go
set_option linter.unusedSimpArgs false
set_option linter.unusedVariables false

theorem get_gb (s : ByteArray) (i : Nat) : ((s.get! i).toNat : Int) = gb s i := by
  unfold gb
  split
  · rename_i h
    simp [ByteArray.get!, getElem!_pos, h]; rfl
  · rename_i h
    simp [ByteArray.get!, getElem!_neg, h, Array.get!Internal]
    rfl
/-- The rest of a text. -/
def rest (s : ByteArray) (i : Nat) : ByteArray := s.extract i s.size
theorem rest_size {s : ByteArray} {i : Nat} : (rest s i).size = s.size - i := by unfold rest; simp [ByteArray.size_extract]
theorem ext_get (s : ByteArray) (i k : Nat) (h : k < (s.extract i s.size).size) (h' : i + k < s.size) : (s.extract i s.size)[k]'h = s[i + k]'h' := (ByteArray.getElem_extract h).trans rfl
theorem gb_rest {s : ByteArray} {i : Nat} (h : i ≤ s.size) (k : Nat) : gb (rest s i) k = gb s (i + k) := by
  by_cases h1 : k < (rest s i).size
  · have h2 := h1
    rw [rest_size] at h2
    rw [gb_in h1, gb_in (by omega)]
    exact congrArg (fun b : UInt8 => (b.toNat : Int)) (ext_get s i k h1 (by omega))
  · have h2 := h1
    rw [rest_size] at h2
    rw [gb_out (by omega), gb_out (by omega)]
theorem dec_rest {s : ByteArray} {i : Nat} (h : i ≤ s.size) (k : Nat) : Utf8.decode (rest s i) k = Utf8.decode s (i + k) := by
  have hg : ∀ j, ((rest s i).get! (k + j)).toNat = (s.get! (i + k + j)).toNat := fun j => by
    have := get_gb (rest s i) (k + j)
    rw [gb_rest h, ← Nat.add_assoc, ← get_gb] at this
    exact Int.ofNat.inj this
  have hc : ∀ j, decide (k + j < (rest s i).size) = decide (i + k + j < s.size) := fun j => by
    rw [rest_size, decide_eq_decide]; omega
  simp only [Utf8.decode, hg, hc]
/-- A rune that stands for itself. -/
def plainR (s : ByteArray) (i : Nat) : Bool := !decide (((Utf8.decode s i).1 < 32) ∨ (Utf8.decode s i).1 = 34 ∨ (Utf8.decode s i).1 = 92 ∨ ((Utf8.decode s i).1 = 65533 ∧ ¬ (gb s i = 239 ∧ gb s (i + 1) = 191 ∧ gb s (i + 2) = 189)))
def plf (s : ByteArray) : Nat → Nat → Nat
  | 0, i => i
  | f + 1, i => if s.size ≤ i then i else if plainR s i then plf s f (i + (Utf8.decode s i).2) else i
theorem plf_more (s : ByteArray) : ∀ (f g i : Nat), s.size < f + i → s.size < g + i → plf s f i = plf s g i
  | 0, 0, i, h, k => rfl
  | 0, g + 1, i, h, k => by simp only [plf]; rw [if_pos (by omega)]
  | f + 1, 0, i, h, k => by simp only [plf]; rw [if_pos (by omega)]
  | f + 1, g + 1, i, h, k => by
    simp only [plf]
    split
    · rfl
    · split
      · have := dec_in s i (by omega)
        exact plf_more s f g _ (by omega) (by omega)
      · rfl
def pl (s : ByteArray) (i : Nat) : Nat := plf s (s.size + 1 - i) i
theorem pl_eq (s : ByteArray) (i : Nat) : pl s i = if s.size ≤ i then i else if plainR s i then pl s (i + (Utf8.decode s i).2) else i := by
  by_cases h : s.size ≤ i
  · rw [if_pos h]; unfold pl
    rcases Nat.eq_zero_or_pos (s.size + 1 - i) with e | e
    · rw [e]; rfl
    · rw [show s.size + 1 - i = (s.size - i) + 1 by omega]; simp only [plf]; rw [if_pos h]
  · rw [if_neg h]
    unfold pl
    rw [show s.size + 1 - i = (s.size - i) + 1 by omega]
    simp only [plf]
    rw [if_neg h]
    split
    · have := dec_in s i (by omega)
      exact plf_more s _ _ _ (by omega) (by omega)
    · rfl
theorem plf_in (s : ByteArray) : ∀ (f i : Nat), i ≤ s.size → i ≤ plf s f i ∧ plf s f i ≤ s.size
  | 0, i, h => ⟨Nat.le_refl _, h⟩
  | f + 1, i, h => by
    simp only [plf]
    split
    · exact ⟨Nat.le_refl _, h⟩
    · split
      · have := dec_in s i (by omega)
        have := plf_in s f (i + (Utf8.decode s i).2) (by omega)
        omega
      · exact ⟨Nat.le_refl _, h⟩
theorem pl_in {s : ByteArray} {i : Nat} (h : i ≤ s.size) : i ≤ pl s i ∧ pl s i ≤ s.size := plf_in s _ i h
theorem plainR_rest {s : ByteArray} {i : Nat} (h : i ≤ s.size) (k : Nat) : plainR (rest s i) k = plainR s (i + k) := by
  unfold plainR; rw [dec_rest h, gb_rest h, gb_rest h, gb_rest h]; rfl
theorem plf_rest {s : ByteArray} {i : Nat} (h : i ≤ s.size) : ∀ (f k : Nat), i + plf (rest s i) f k = plf s f (i + k)
  | 0, k => rfl
  | f + 1, k => by
    simp only [plf, rest_size, plainR_rest h, dec_rest h]
    by_cases e : s.size ≤ i + k
    · rw [if_pos (by omega), if_pos e]
    · rw [if_neg (by omega), if_neg e]
      split
      · rw [plf_rest h f, Nat.add_assoc]
      · rfl
theorem pl_rest {s : ByteArray} {i : Nat} (h : i ≤ s.size) : i + pl (rest s i) 0 = pl s i := by
  unfold pl
  rw [plf_rest h, rest_size, Nat.sub_zero, show s.size - i + 1 = s.size + 1 - i by omega]; rfl
/-- decode by bytes. -/
theorem dec_cases (s : ByteArray) (i : Nat) (h : i < s.size) :
    (gb s i < 128 ∧ Utf8.decode s i = ((gb s i).toNat, 1)) ∨ (128 ≤ gb s i ∧ 128 ≤ (Utf8.decode s i).1) := by
  by_cases ha : (s[i]'h).toNat < 128
  · left
    rw [decode_ascii s i h ha, gb_in h]
    exact ⟨by omega, by simp⟩
  · right
    have := (decode_high s i h (by omega)).1
    rw [gb_in h]
    exact ⟨by omega, this⟩
theorem dec_err (s : ByteArray) (i : Nat) (h : i < s.size) : ((Utf8.decode s i).1 = 65533 ∧ (Utf8.decode s i).2 ≠ 1) ↔ (gb s i = 239 ∧ gb s (i + 1) = 191 ∧ gb s (i + 2) = 189) := by
  have hs : ∀ j, gb s (i + j) ≠ 0 → i + j < s.size := fun j hj => gb_lt hj
  have h1 := hs 1; have h2 := hs 2
  obtain ⟨x0, e0⟩ : ∃ x, (s.get! i).toNat = x := ⟨_, rfl⟩
  obtain ⟨x1, e1⟩ : ∃ x, (s.get! (i + 1)).toNat = x := ⟨_, rfl⟩
  obtain ⟨x2, e2⟩ : ∃ x, (s.get! (i + 2)).toNat = x := ⟨_, rfl⟩
  obtain ⟨x3, e3⟩ : ∃ x, (s.get! (i + 3)).toNat = x := ⟨_, rfl⟩
  have b0 := (s.get! i).toNat_lt; have b1 := (s.get! (i + 1)).toNat_lt; have b2 := (s.get! (i + 2)).toNat_lt; have b3 := (s.get! (i + 3)).toNat_lt
  simp only [← get_gb, e0, e1, e2, e3] at h1 h2 b0 b1 b2 b3 ⊢
  simp only [Utf8.decode, Nat.add_zero, e0, e1, e2, e3]
  clear e0 e1 e2 e3 hs
  constructor
  · intro hh
    revert hh
    repeat' split
    all_goals simp_all [Utf8.runeError, Utf8.valid]
    all_goals omega
  · rintro ⟨e0, e1, e2⟩
    obtain rfl : x0 = 239 := by omega
    obtain rfl : x1 = 191 := by omega
    obtain rfl : x2 = 189 := by omega
    have l1 : i + 1 < s.size := h1 (by decide)
    have l2 : i + 2 < s.size := h2 (by decide)
    simp [l1, l2, Utf8.valid, Utf8.runeError]
/-- A rune that stands for itself, byte by byte. -/
theorem plain_iff (s : ByteArray) (i : Nat) (h : i < s.size) : plainR s i = true ↔ (32 ≤ gb s i ∧ gb s i ≠ 34 ∧ gb s i ≠ 92 ∧ rl s i ≠ 0) := by
  have h1 := dec_cases s i h
  have h2 := dec_err s i h
  have h3 := dec_in s i h
  have h4 := gb_lo s i
  unfold plainR rl
  rw [Bool.not_eq_true', decide_eq_false_iff_not, ← h2]
  rcases h1 with ⟨a, b⟩ | ⟨a, b⟩
  · rw [b]; simp only
    split <;> omega
  · split <;> omega
theorem plain_rl {s : ByteArray} {i : Nat} (h : i < s.size) (hp : plainR s i = true) : rl s i = (Utf8.decode s i).2 := by
  have := ((plain_iff s i h).1 hp).2.2.2
  unfold rl at this ⊢
  split at this
  · exact absurd rfl this
  · rename_i e; rw [if_neg e]
/-- A string's text goes on behind what stands for itself. -/
theorem tx_plf (s : ByteArray) : ∀ (f i : Nat) (a : List Int), i ≤ s.size → tx s i a = tx s (plf s f i) (a ++ cutb s i (plf s f i - i))
  | 0, i, a, h => by simp [plf, cutb]
  | f + 1, i, a, h => by
    simp only [plf]
    split
    · simp [cutb]
    · rename_i h1
      have h1' : i < s.size := by omega
      split
      · rename_i hp
        have h2 := (plain_iff s i h1').1 hp
        have h3 := plain_rl h1' hp
        have h4 := dec_in s i h1'
        have h5 := (plf_in s f (i + (Utf8.decode s i).2) (by omega)).1
        rw [tx_eq, if_neg h1, if_neg h2.2.1, if_neg (by omega), if_neg h2.2.2.1, if_neg h2.2.2.2, h3, tx_plf s f _ _ h4.2, List.append_assoc, ← cutb_add]
        rw [show (Utf8.decode s i).2 + (plf s f (i + (Utf8.decode s i).2) - (i + (Utf8.decode s i).2)) = plf s f (i + (Utf8.decode s i).2) - i by omega]
      · simp [cutb]
theorem tx_pl {s : ByteArray} {i : Nat} (a : List Int) (h : i ≤ s.size) : tx s i a = tx s (pl s i) (a ++ cutb s i (pl s i - i)) := tx_plf s _ i a h
theorem plf_end (s : ByteArray) : ∀ (f i : Nat), s.size < f + i → s.size ≤ plf s f i ∨ (plf s f i < s.size ∧ plainR s (plf s f i) = false)
  | 0, i, h => .inl (by simp [plf]; omega)
  | f + 1, i, h => by
    simp only [plf]
    split
    · rename_i e; exact .inl e
    · rename_i e
      split
      · have := dec_in s i (by omega)
        exact plf_end s f _ (by omega)
      · rename_i hp
        exact .inr ⟨by omega, by simpa using hp⟩
theorem pl_end (s : ByteArray) (i : Nat) : s.size ≤ pl s i ∨ (pl s i < s.size ∧ plainR s (pl s i) = false) := plf_end s _ i (by omega)
/-- Where no rune stands for itself: the end sign, a backslash, or what can't stand there. -/
theorem tx_stop {s : ByteArray} {j : Nat} (a : List Int) (h : s.size ≤ j ∨ (j < s.size ∧ plainR s j = false)) :
    tx s j a = if gb s j = 34 then ((a, j + 1), true) else if gb s j = 92 then (match esc s j with
      | none => ((a, j), false)
      | some (r, n) => tx s (j + n) (a ++ Lib.encodeRuneZ r)) else ((a, j), false) := by
  rw [tx_eq]
  rcases h with h | ⟨h, hp⟩
  · rw [if_pos h, gb_out h]; simp
  · have h2 := plain_iff s j h
    rw [hp] at h2
    have h3 : ¬ (32 ≤ gb s j ∧ gb s j ≠ 34 ∧ gb s j ≠ 92 ∧ rl s j ≠ 0) := fun k => by simpa using h2.2 k
    rw [if_neg (by omega)]
    by_cases e1 : gb s j = 34
    · rw [if_pos e1, if_pos e1]
    · rw [if_neg e1, if_neg e1]
      by_cases e2 : gb s j = 92
      · rw [if_neg (by omega), if_pos e2, if_pos e2]
        cases esc s j <;> rfl
      · rw [if_neg e2, if_neg e2]
        by_cases e3 : gb s j < 32
        · rw [if_pos e3]
        · rw [if_neg e3, if_pos (by omega)]
end Go.Proofs.YtefaohokmhdplaaDoor
