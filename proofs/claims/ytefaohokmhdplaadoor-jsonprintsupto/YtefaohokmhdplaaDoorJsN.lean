/- JSON texts as plain mathematics: values, and what a text is. -/
import Derived.Test.YtefaohokmhdplaaDoorChgA
namespace Go.Proofs.YtefaohokmhdplaaDoor
open Go
set_option linter.unusedSimpArgs false
set_option linter.unusedVariables false

/-- More rounds than there are bytes tell nothing new. -/
theorem txf_more (s : ByteArray) : ∀ (f g i : Nat) (a : List Int), s.size < f + i → s.size < g + i → txf s f i a = txf s g i a
  | 0, 0, i, a, h, k => rfl
  | 0, g + 1, i, a, h, k => by simp only [txf]; rw [if_pos (by omega)]
  | f + 1, 0, i, a, h, k => by simp only [txf]; rw [if_pos (by omega)]
  | f + 1, g + 1, i, a, h, k => by
    simp only [txf]
    split
    · rfl
    · split
      · rfl
      · split
        · rfl
        · split
          · cases he : esc s i with
            | none => rfl
            | some q =>
              obtain ⟨r, n⟩ := q
              have := esc_in he
              exact txf_more s f g _ _ (by omega) (by omega)
          · split
            · rfl
            · exact txf_more s f g _ _ (by omega) (by omega)
theorem tx_eq (s : ByteArray) (i : Nat) (a : List Int) : tx s i a =
    if s.size ≤ i then ((a, i), false)
    else if gb s i = 34 then ((a, i + 1), true)
    else if gb s i < 32 then ((a, i), false)
    else if gb s i = 92 then (match esc s i with
      | none => ((a, i), false)
      | some (r, n) => tx s (i + n) (a ++ Lib.encodeRuneZ r))
    else if rl s i = 0 then ((a, i), false)
    else tx s (i + rl s i) (a ++ cutb s i (rl s i)) := by
  by_cases h : s.size ≤ i
  · rw [if_pos h]; unfold tx
    rcases Nat.eq_zero_or_pos (s.size + 1 - i) with e | e
    · rw [e]; rfl
    · rw [show s.size + 1 - i = (s.size - i) + 1 by omega]; simp only [txf]; rw [if_pos h]
  · rw [if_neg h]
    unfold tx
    rw [show s.size + 1 - i = (s.size - i) + 1 by omega]
    simp only [txf]
    rw [if_neg h]
    split
    · rfl
    · split
      · rfl
      · split
        · cases he : esc s i with
          | none => rfl
          | some q =>
            obtain ⟨r, n⟩ := q
            have := esc_in he
            exact txf_more s _ _ _ _ (by omega) (by omega)
        · split
          · rfl
          · exact txf_more s _ _ _ _ (by omega) (by omega)
theorem txf_acc (s : ByteArray) : ∀ (f i : Nat) (a : List Int), txf s f i a = ((a ++ (txf s f i []).1.1, (txf s f i []).1.2), (txf s f i []).2)
  | 0, i, a => by simp [txf]
  | f + 1, i, a => by
    simp only [txf]
    split
    · simp
    · split
      · simp
      · split
        · simp
        · split
          · cases he : esc s i with
            | none => simp
            | some q =>
              obtain ⟨r, n⟩ := q
              simp only []
              rw [txf_acc s f _ (a ++ _), txf_acc s f _ ([] ++ _)]; simp
          · split
            · simp
            · rw [txf_acc s f _ (a ++ _), txf_acc s f _ ([] ++ _)]; simp
/-- decode's width. -/
theorem dec_in (s : ByteArray) (i : Nat) (h : i < s.size) : 1 ≤ (Utf8.decode s i).2 ∧ i + (Utf8.decode s i).2 ≤ s.size := by
  simp only [Utf8.decode]
  repeat' split
  all_goals simp_all [Utf8.runeError]
  all_goals omega
theorem rl_in {s : ByteArray} {i : Nat} (h : i < s.size) : i + rl s i ≤ s.size := by
  have := dec_in s i h
  unfold rl; split <;> omega
theorem txf_in (s : ByteArray) : ∀ (f i : Nat) (a : List Int), i ≤ s.size → i ≤ (txf s f i a).1.2 ∧ (txf s f i a).1.2 ≤ s.size
  | 0, i, a, h => ⟨Nat.le_refl _, h⟩
  | f + 1, i, a, h => by
    simp only [txf]
    split
    · exact ⟨Nat.le_refl _, h⟩
    · split
      · exact ⟨by simp, by simp; omega⟩
      · split
        · exact ⟨Nat.le_refl _, h⟩
        · split
          · cases he : esc s i with
            | none => exact ⟨Nat.le_refl _, h⟩
            | some q =>
              obtain ⟨r, n⟩ := q
              have := esc_in he
              have := txf_in s f (i + n) (a ++ Lib.encodeRuneZ r) (by omega)
              exact ⟨by simp only []; omega, this.2⟩
          · split
            · exact ⟨Nat.le_refl _, h⟩
            · have := rl_in (s := s) (i := i) (by omega)
              have := txf_in s f (i + rl s i) (a ++ cutb s i (rl s i)) (by omega)
              exact ⟨by omega, this.2⟩
theorem tx_in {s : ByteArray} {i : Nat} (a : List Int) (h : i ≤ s.size) : i ≤ (tx s i a).1.2 ∧ (tx s i a).1.2 ≤ s.size := txf_in s _ i a h
/-- The bytes as a text. -/
def sb (xs : List Int) : ByteArray := strOfNums xs
/-- A piece of a text. -/
def piece (s : ByteArray) (i j : Nat) : ByteArray := s.extract i j

/-- A value. -/
inductive JV
  | null
  | bool (b : Bool)
  | num (t : ByteArray)
  | txt (t : ByteArray)
  | lst (l : List JV)
  | obj (l : List (ByteArray × JV))

/-- What comes of reading. -/
inductive Out (α : Type)
  | ok (v : α) (i : Nat)
  | bad (i : Nat)
  | big (i : Nat)

/-- The parts of a list or an object, from the first one on (a part comes at i), till the end sign; f: rounds. -/
def parts {α : Type} (s : ByteArray) (en : Int) (E : List α → Nat → Out α) : Nat → List α → Nat → Out (List α)
  | 0, _, i => .bad i
  | f + 1, a, i => match E a i with
    | .bad j => .bad j
    | .big j => .big j
    | .ok v j =>
      if gb s (sk s j) = en then .ok (a ++ [v]) (sk s j + 1)
      else if gb s (sk s j) = 44 then parts s en E f (a ++ [v]) (sk s (sk s j + 1))
      else .bad (sk s j)
/-- A list or an object whose sign stands at i, d more of which may be open. -/
def open' {α : Type} (s : ByteArray) (en : Int) (E : List α → Nat → Out α) (i : Nat) : Out (List α) :=
  if gb s (sk s (i + 1)) = en then .ok [] (sk s (i + 1) + 1) else parts s en E (s.size + 1) [] (sk s (i + 1))
/-- A member, behind those ahead. -/
def membr (s : ByteArray) (V : Nat → Out JV) (a : List (ByteArray × JV)) (i : Nat) : Out (ByteArray × JV) :=
  if gb s i = 34 then
    (if (tx s (i + 1) []).2 = true then
      (if a.any (fun m => m.1.data.toList == (sb (tx s (i + 1) []).1.1).data.toList) then .bad i
       else if gb s (sk s (tx s (i + 1) []).1.2) = 58 then
        (match V (sk s (sk s (tx s (i + 1) []).1.2 + 1)) with
          | .ok v j => .ok (sb (tx s (i + 1) []).1.1, v) j
          | .bad j => .bad j
          | .big j => .big j)
       else .bad (sk s (tx s (i + 1) []).1.2))
     else .bad (tx s (i + 1) []).1.2)
  else .bad i
def outOf (p : Nat × Bool) (v : JV) : Out JV := if p.2 then .ok v p.1 else .bad p.1
def wrapL : Out (List JV) → Out JV
  | .ok l j => .ok (.lst l) j
  | .bad j => .bad j
  | .big j => .big j
def wrapO : Out (List (ByteArray × JV)) → Out JV
  | .ok l j => .ok (.obj l) j
  | .bad j => .bad j
  | .big j => .big j
/-- The value at a place; k more lists and objects may be open. -/
def val (s : ByteArray) : Nat → Nat → Out JV
  | k, i =>
    if gb s i = 123 then (match k with
      | 0 => .big i
      | k + 1 => wrapO (open' s 125 (membr s (val s k)) i))
    else if gb s i = 91 then (match k with
      | 0 => .big i
      | k + 1 => wrapL (open' s 93 (fun _ => val s k) i))
    else if gb s i = 34 then (if (tx s (i + 1) []).2 = true then .ok (.txt (sb (tx s (i + 1) []).1.1)) (tx s (i + 1) []).1.2 else .bad (tx s (i + 1) []).1.2)
    else if gb s i = 116 then outOf (wd s [116, 114, 117, 101] i) (.bool true)
    else if gb s i = 102 then outOf (wd s [102, 97, 108, 115, 101] i) (.bool false)
    else if gb s i = 110 then outOf (wd s [110, 117, 108, 108] i) .null
    else outOf (nmb s i) (.num (piece s i (nmb s i).1))
/-- The whole text: a value, or the place and whether it is too large. -/
inductive Res
  | val (v : JV)
  | err (at_ : Nat) (large : Bool)
def whole (s : ByteArray) : Res :=
  if 8192 < s.size then .err 0 true
  else match val s 16 (sk s 0) with
    | .ok v j => if sk s j < s.size then .err (sk s j) false else .val v
    | .bad j => .err j false
    | .big j => .err j true
/-- Bounds. -/
def Out.inn {α : Type} (s : ByteArray) (i : Nat) : Out α → Prop
  | .ok _ j => i ≤ j ∧ j ≤ s.size
  | .bad j => i ≤ j ∧ j ≤ s.size
  | .big j => i ≤ j ∧ j ≤ s.size
theorem parts_in {α : Type} {s : ByteArray} {en : Int} (hen : en ≠ 0) {E : List α → Nat → Out α} (hE : ∀ a i, i ≤ s.size → (E a i).inn s i) : ∀ (f : Nat) (a : List α) (i : Nat), i ≤ s.size → (parts s en E f a i).inn s i
  | 0, a, i, h => ⟨Nat.le_refl _, h⟩
  | f + 1, a, i, h => by
    have h1 := hE a i h
    simp only [parts]
    cases he : E a i with
    | bad j => rw [he] at h1; exact h1
    | big j => rw [he] at h1; exact h1
    | ok v j =>
      rw [he] at h1
      have h2 := sk_ge s j; have h3 := sk_le (s := s) (i := j) h1.2
      have h4 := h1.1
      simp only []
      split
      · rename_i e
        have := gb_lt (s := s) (i := sk s j) (by rw [e]; exact hen)
        exact ⟨by omega, by omega⟩
      · split
        · rename_i e
          have h5 := gb_lt (s := s) (i := sk s j) (by omega)
          have h6 := sk_ge s (sk s j + 1); have h7 := sk_le (s := s) (i := sk s j + 1) h5
          have h8 := parts_in hen hE f (a ++ [v]) _ h7
          revert h8
          cases parts s en E f (a ++ [v]) (sk s (sk s j + 1)) <;> intro h8 <;> exact ⟨by have := h8.1; omega, h8.2⟩
        · exact ⟨by omega, h3⟩
theorem open_in {α : Type} {s : ByteArray} {en : Int} (hen : en ≠ 0) {E : List α → Nat → Out α} (hE : ∀ a i, i ≤ s.size → (E a i).inn s i) {i : Nat} (h : i < s.size) : (open' s en E i).inn s i := by
  have h2 := sk_ge s (i + 1); have h3 := sk_le (s := s) (i := i + 1) h
  unfold open'
  split
  · rename_i e
    have := gb_lt (s := s) (i := sk s (i + 1)) (by rw [e]; exact hen)
    exact ⟨by omega, by omega⟩
  · have h8 := parts_in hen hE (s.size + 1) [] _ h3
    revert h8
    cases parts s en E (s.size + 1) [] (sk s (i + 1)) <;> intro h8 <;> exact ⟨by have := h8.1; omega, h8.2⟩
theorem membr_in {s : ByteArray} {V : Nat → Out JV} (hV : ∀ i, i ≤ s.size → (V i).inn s i) (a : List (ByteArray × JV)) (i : Nat) (h : i ≤ s.size) : (membr s V a i).inn s i := by
  unfold membr
  split
  · have h1 := gb_lt (s := s) (i := i) (by omega)
    have h2 := tx_in (s := s) (i := i + 1) [] h1
    split
    · split
      · exact ⟨Nat.le_refl _, h⟩
      · have h3 := sk_ge s (tx s (i + 1) []).1.2; have h4 := sk_le (s := s) h2.2
        split
        · rename_i e
          have h5 := gb_lt (s := s) (i := sk s (tx s (i + 1) []).1.2) (by omega)
          have h6 := sk_ge s (sk s (tx s (i + 1) []).1.2 + 1); have h7 := sk_le (s := s) (i := sk s (tx s (i + 1) []).1.2 + 1) h5
          have h8 := hV _ h7
          revert h8
          cases V (sk s (sk s (tx s (i + 1) []).1.2 + 1)) <;> intro h8 <;> exact ⟨by have := h8.1; omega, h8.2⟩
        · exact ⟨by omega, h4⟩
    · exact ⟨by omega, h2.2⟩
  · exact ⟨Nat.le_refl _, h⟩
theorem outOf_in {s : ByteArray} {p : Nat × Bool} {i : Nat} (v : JV) (h : i ≤ p.1 ∧ p.1 ≤ s.size) : (outOf p v).inn s i := by
  unfold outOf; split <;> exact h
theorem wrapL_in {s : ByteArray} {i : Nat} {o : Out (List JV)} (h : o.inn s i) : (wrapL o).inn s i := by cases o <;> exact h
theorem wrapO_in {s : ByteArray} {i : Nat} {o : Out (List (ByteArray × JV))} (h : o.inn s i) : (wrapO o).inn s i := by cases o <;> exact h
theorem val_in (s : ByteArray) : ∀ (k i : Nat), i ≤ s.size → (val s k i).inn s i := by
  intro k
  induction k with
  | zero =>
    intro i h
    unfold val
    split
    · exact ⟨Nat.le_refl _, h⟩
    split
    · exact ⟨Nat.le_refl _, h⟩
    split
    · have h1 := gb_lt (s := s) (i := i) (by omega)
      have h2 := tx_in (s := s) (i := i + 1) [] h1
      split <;> exact ⟨by omega, h2.2⟩
    split
    · exact outOf_in _ (wd_le s _ i (by decide) h)
    split
    · exact outOf_in _ (wd_le s _ i (by decide) h)
    split
    · exact outOf_in _ (wd_le s _ i (by decide) h)
    · exact outOf_in _ (nmb_le h)
  | succ k ih =>
    intro i h
    unfold val
    split
    · have h1 := gb_lt (s := s) (i := i) (by omega)
      exact wrapO_in (open_in (by decide) (fun a j hj => membr_in ih a j hj) h1)
    split
    · have h1 := gb_lt (s := s) (i := i) (by omega)
      exact wrapL_in (open_in (by decide) (fun a j hj => ih j hj) h1)
    split
    · have h1 := gb_lt (s := s) (i := i) (by omega)
      have h2 := tx_in (s := s) (i := i + 1) [] h1
      split <;> exact ⟨by omega, h2.2⟩
    split
    · exact outOf_in _ (wd_le s _ i (by decide) h)
    split
    · exact outOf_in _ (wd_le s _ i (by decide) h)
    split
    · exact outOf_in _ (wd_le s _ i (by decide) h)
    · exact outOf_in _ (nmb_le h)
end Go.Proofs.YtefaohokmhdplaaDoor
