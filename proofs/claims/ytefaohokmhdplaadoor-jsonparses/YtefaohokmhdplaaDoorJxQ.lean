/- What a text's value holds: no list longer than the text. -/
import Derived.Test.YtefaohokmhdplaaDoorJxP
namespace Go.Proofs.YtefaohokmhdplaaDoor
open Go Go.RowKit
set_option linter.unusedSimpArgs false
set_option linter.unusedVariables false

theorem parts_sm {α : Type} {Pr : α → Prop} {s : ByteArray} {en : Int} (hen : en ≠ 0) {E : List α → Nat → Out α} (hE : ∀ a i v j, i ≤ s.size → E a i = .ok v j → Pr v ∧ i ≤ j ∧ j ≤ s.size) :
    ∀ (f : Nat) (a : List α) (i : Nat) (l : List α) (m : Nat), i ≤ s.size → a.length ≤ i → (∀ v ∈ a, Pr v) → parts s en E f a i = .ok l m → l.length ≤ s.size ∧ ∀ v ∈ l, Pr v
  | 0, a, i, l, m, _, _, _, h => by simp [parts] at h
  | f + 1, a, i, l, m, hi, ha, hp, h => by
    simp only [parts] at h
    cases he : E a i with
    | bad j => rw [he] at h; simp at h
    | big j => rw [he] at h; simp at h
    | ok v j =>
      rw [he] at h
      obtain ⟨h1, h2, h3⟩ := hE a i v j hi he
      have h4 := sk_ge s j
      have hp' : ∀ u ∈ a ++ [v], Pr u := fun u hu => by
        rcases List.mem_append.1 hu with q | q
        · exact hp u q
        · rw [List.mem_singleton.1 q]; exact h1
      simp only [] at h
      split at h
      · rename_i e
        have h5 := gb_lt (s := s) (i := sk s j) (by rw [e]; exact hen)
        injection h with h6 h7
        subst h6
        exact ⟨by simp; omega, hp'⟩
      · split at h
        · rename_i e
          have h5 := gb_lt (s := s) (i := sk s j) (by omega)
          have h6 := sk_ge s (sk s j + 1); have h7 := sk_le (s := s) (i := sk s j + 1) h5
          exact parts_sm hen hE f (a ++ [v]) _ l m h7 (by simp; omega) hp' h
        · simp at h
theorem open_sm {α : Type} {Pr : α → Prop} {s : ByteArray} {en : Int} (hen : en ≠ 0) {E : List α → Nat → Out α} (hE : ∀ a i v j, i ≤ s.size → E a i = .ok v j → Pr v ∧ i ≤ j ∧ j ≤ s.size) {i m : Nat} {l : List α} (hi : i < s.size) (h : open' s en E i = .ok l m) : l.length ≤ s.size ∧ ∀ v ∈ l, Pr v := by
  unfold open' at h
  split at h
  · injection h with h1 h2; subst h1; exact ⟨Nat.zero_le _, fun v hv => by simp at hv⟩
  · exact parts_sm hen hE _ [] _ l m (sk_le (s := s) (i := i + 1) hi) (by simp) (fun v hv => by simp at hv) h
theorem outOf_sm {p : Nat × Bool} {v jv : JV} {m : Nat} (hv : Sm v) (h : outOf p v = .ok jv m) : Sm jv := by
  unfold outOf at h
  split at h
  · injection h with h1 h2; subst h1; exact hv
  · cases h
theorem val_sm {s : ByteArray} (hs : s.size ≤ 8192) : ∀ (k i m : Nat) (jv : JV), i ≤ s.size → val s k i = .ok jv m → Sm jv := by
  intro k
  induction k with
  | zero =>
    intro i m jv hi h
    unfold val at h
    split at h
    · cases h
    split at h
    · cases h
    split at h
    · split at h
      · injection h with h1 h2; subst h1; exact .txt _
      · cases h
    split at h
    · exact outOf_sm (.bool _) h
    split at h
    · exact outOf_sm (.bool _) h
    split at h
    · exact outOf_sm .null h
    · exact outOf_sm (.num _) h
  | succ k ih =>
    intro i m jv hi h
    have hV : ∀ j v n, j ≤ s.size → val s k j = .ok v n → Sm v ∧ j ≤ n ∧ n ≤ s.size := fun j v n hj hv => by
      have h1 := val_in s k j hj
      rw [hv] at h1
      exact ⟨ih j n v hj hv, h1.1, h1.2⟩
    unfold val at h
    split at h
    · rename_i e
      have hlt := gb_lt (s := s) (i := i) (by omega)
      cases ho : open' s 125 (membr s (val s k)) i with
      | bad j => simp only [ho, wrapO] at h; cases h
      | big j => simp only [ho, wrapO] at h; cases h
      | ok l j =>
        simp only [ho, wrapO] at h
        injection h with h1 h2
        subst h1
        obtain ⟨g1, g2⟩ := open_sm (Pr := fun p => Sm p.2) (by decide) (fun a i v j hi he => by
          have h5 := membr_in (fun i hi => val_in s k i hi) a i hi
          rw [he] at h5
          refine ⟨?_, h5.1, h5.2⟩
          unfold membr at he
          split at he
          · rename_i e34
            have hlt := gb_lt (s := s) (i := i) (by omega)
            split at he
            · split at he
              · cases he
              · split at he
                · rename_i e58
                  have h7 := gb_lt (s := s) (i := sk s (tx s (i + 1) []).1.2) (by omega)
                  have h6 := sk_le (s := s) (i := sk s (tx s (i + 1) []).1.2 + 1) h7
                  cases hv : val s k (sk s (sk s (tx s (i + 1) []).1.2 + 1)) with
                  | bad n => simp only [hv] at he; cases he
                  | big n => simp only [hv] at he; cases he
                  | ok u n =>
                    simp only [hv] at he
                    injection he with e1 e2
                    subst e1
                    exact (hV _ _ _ h6 hv).1
                · cases he
            · cases he
          · cases he) hlt ho
        exact .obj _ (by omega) g2
    split at h
    · rename_i e
      have hlt := gb_lt (s := s) (i := i) (by omega)
      cases ho : open' s 93 (fun _ => val s k) i with
      | bad j => simp only [ho, wrapL] at h; cases h
      | big j => simp only [ho, wrapL] at h; cases h
      | ok l j =>
        simp only [ho, wrapL] at h
        injection h with h1 h2
        subst h1
        obtain ⟨g1, g2⟩ := open_sm (Pr := Sm) (by decide) (fun a i v j hi he => hV i v j hi he) hlt ho
        exact .lst _ (by omega) g2
    split at h
    · split at h
      · injection h with h1 h2; subst h1; exact .txt _
      · cases h
    split at h
    · exact outOf_sm (.bool _) h
    split at h
    · exact outOf_sm (.bool _) h
    split at h
    · exact outOf_sm .null h
    · exact outOf_sm (.num _) h
theorem whole_sm {s : ByteArray} {jv : JV} (h : whole s = .val jv) : Sm jv := by
  unfold whole at h
  split at h
  · cases h
  · rename_i hs
    cases hv : val s 16 (sk s 0) with
    | bad j => simp only [hv] at h; cases h
    | big j => simp only [hv] at h; cases h
    | ok v j =>
      simp only [hv] at h
      split at h
      · cases h
      · injection h with h1
        subst h1
        exact val_sm (by omega) 16 _ j v (sk_le (s := s) (i := 0) (Nat.zero_le _)) hv
end Go.Proofs.YtefaohokmhdplaaDoor
