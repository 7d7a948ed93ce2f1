/- Numbers stand wherever they are put, as long as a sign stands behind them. -/
import Derived.Test.YtefaohokmhdplaaDoorJyT
namespace Go.Proofs.YtefaohokmhdplaaDoor
open Go Go.RowKit
set_option linter.unusedSimpArgs false
set_option linter.unusedVariables false

/-- What may stand behind a value. -/
def stp (c : Int) : Prop := c = 0 ∨ c = 44 ∨ c = 93 ∨ c = 125
/-- A stretch of s that ends at j stands in S, d further (or less far); a sign stands behind it. -/
structure Sh (s S : ByteArray) (i j p : Nat) : Prop where
  eq : ∀ a, i ≤ a → a < j → gb S (p + (a - i)) = gb s a ∧ p + (a - i) < S.size
  st : stp (gb S (p + (j - i)))
section
variable {s S : ByteArray} {i j p : Nat}
theorem Sh.same (h : Sh s S i j p) {a : Nat} (h1 : i ≤ a) (h2 : a ≤ j) : gb S (p + (a - i)) = gb s a ∨ (a = j ∧ stp (gb S (p + (a - i)))) := by
  rcases Nat.lt_or_ge a j with q | q
  · exact .inl (h.eq a h1 q).1
  · obtain rfl : a = j := by omega
    exact .inr ⟨rfl, h.st⟩
theorem stp_dg {c : Int} (h : stp c) : isDg c = false := by
  unfold stp at h; unfold isDg; exact decide_eq_false (by omega)
theorem Sh.dgs (h : Sh s S i j p) : ∀ (n a : Nat), j - a = n → i ≤ a → dgs s a ≤ j → dgs S (p + (a - i)) = p + (Go.Proofs.YtefaohokmhdplaaDoor.dgs s a - i) := by
  intro n
  induction n with
  | zero =>
    intro a hn h1 h2
    have h3 := dgs_ge s a
    have e : Go.Proofs.YtefaohokmhdplaaDoor.dgs s a = a := by omega
    obtain rfl : a = j := by omega
    rw [e]
    exact rn_stop (stp_dg h.st)
  | succ n ih =>
    intro a hn h1 h2
    cases hd : isDg (gb s a) with
    | true =>
      have hs := isDg_lt hd
      have e1 : Go.Proofs.YtefaohokmhdplaaDoor.dgs s a = Go.Proofs.YtefaohokmhdplaaDoor.dgs s (a + 1) := rn_step hd hs
      obtain ⟨g, hg⟩ := h.eq a h1 (by omega)
      have e2 : Go.Proofs.YtefaohokmhdplaaDoor.dgs S (p + (a - i)) = Go.Proofs.YtefaohokmhdplaaDoor.dgs S (p + (a - i) + 1) := rn_step (by rw [g]; exact hd) hg
      rw [e2, e1, show p + (a - i) + 1 = p + (a + 1 - i) by omega]
      exact ih (a + 1) (by omega) (by omega) (by rw [← e1]; exact h2)
    | false =>
      have e1 : Go.Proofs.YtefaohokmhdplaaDoor.dgs s a = a := rn_stop hd
      obtain ⟨g, hg⟩ := h.eq a h1 (by omega)
      rw [e1]
      exact rn_stop (by rw [g]; exact hd)
theorem dgs_gt {s : ByteArray} {a : Nat} (h : isDg (gb s a) = true) : a + 1 ≤ dgs s a := by
  have e : dgs s a = dgs s (a + 1) := rn_step h (isDg_lt h)
  rw [e]; exact dgs_ge s (a + 1)
theorem Sh.nexp (h : Sh s S i j p) {c : Nat} (h1 : i ≤ c) (h2 : c ≤ j) (hn : nexp s c = (j, true)) : nexp S (p + (c - i)) = (p + (j - i), true) := by
  unfold Go.Proofs.YtefaohokmhdplaaDoor.nexp at hn ⊢
  by_cases h3 : gb s c = 101 ∨ gb s c = 69
  · rw [if_pos h3] at hn
    obtain ⟨m, hm⟩ : ∃ m, (if gb s (c + 1) = 43 ∨ gb s (c + 1) = 45 then c + 2 else c + 1) = m := ⟨_, rfl⟩
    rw [hm] at hn
    cases hd : isDg (gb s m) with
    | false => rw [hd] at hn; simp at hn
    | true =>
      rw [hd] at hn
      simp only [if_true, Prod.mk.injEq, and_true] at hn
      have hg := dgs_gt hd
      have hmc : c + 1 ≤ m := by rw [← hm]; split <;> omega
      have e0 := (h.eq c h1 (by omega)).1
      have e1 := (h.eq (c + 1) (by omega) (by omega)).1
      have em := (h.eq m (by omega) (by omega)).1
      rw [e0, if_pos h3, show p + (c - i) + 1 = p + (c + 1 - i) by omega, e1]
      have hm' : (if gb s (c + 1) = 43 ∨ gb s (c + 1) = 45 then p + (c - i) + 2 else p + (c + 1 - i)) = p + (m - i) := by
        rw [← hm]; split <;> omega
      rw [hm', em, hd]
      simp only [if_true]
      rw [h.dgs _ m rfl (by omega) (by omega), hn]
  · rw [if_neg h3] at hn
    obtain rfl : c = j := by simpa using hn
    rcases h.same h1 (Nat.le_refl _) with q | ⟨-, q⟩
    · rw [if_neg (by rw [q]; exact h3)]
    · rw [if_neg (by unfold stp at q; omega)]
theorem Sh.nfra (h : Sh s S i j p) {c : Nat} (h1 : i ≤ c) (h2 : c ≤ j) (hjs : j ≤ s.size) (hn : nfra s c = (j, true)) : nfra S (p + (c - i)) = (p + (j - i), true) := by
  unfold Go.Proofs.YtefaohokmhdplaaDoor.nfra at hn ⊢
  by_cases h3 : gb s c = 46
  · rw [if_pos h3] at hn
    cases hd : isDg (gb s (c + 1)) with
    | false => rw [hd] at hn; simp at hn
    | true =>
      rw [hd] at hn
      simp only [if_true] at hn
      have hg := dgs_gt hd
      have hb := nexp_le (dgs_le (s := s) (i := c + 1) (Nat.le_of_lt (isDg_lt hd)))
      rw [hn] at hb
      simp only at hb
      have e0 := (h.eq c h1 (by omega)).1
      have e1 := (h.eq (c + 1) (by omega) (by omega)).1
      rw [e0, if_pos h3, show p + (c - i) + 1 = p + (c + 1 - i) by omega, e1, hd]
      simp only [if_true]
      rw [h.dgs _ (c + 1) rfl (by omega) (by omega)]
      exact h.nexp (by omega) (by omega) hn
  · rw [if_neg h3] at hn
    rw [if_neg (by
      rcases h.same h1 h2 with q | ⟨-, q⟩
      · rw [q]; exact h3
      · unfold stp at q; omega)]
    exact h.nexp h1 h2 hn
theorem Sh.nint (h : Sh s S i j p) {c : Nat} (h1 : i ≤ c) (h2 : c ≤ j) (hjs : j ≤ s.size) (hn : nint s c = (j, true)) : nint S (p + (c - i)) = (p + (j - i), true) := by
  unfold Go.Proofs.YtefaohokmhdplaaDoor.nint at hn ⊢
  by_cases h3 : gb s c = 48
  · rw [if_pos h3] at hn
    have hb := nfra_le (s := s) (c := c + 1) (gb_lt (s := s) (i := c) (by omega))
    rw [hn] at hb
    simp only at hb
    have e0 := (h.eq c h1 (by omega)).1
    rw [e0, if_pos h3, show p + (c - i) + 1 = p + (c + 1 - i) by omega]
    exact h.nfra (by omega) (by omega) hjs hn
  · rw [if_neg h3] at hn
    cases hd : isDg (gb s c) with
    | false => rw [hd] at hn; simp at hn
    | true =>
      rw [hd] at hn
      simp only [if_true] at hn
      have hg := dgs_gt hd
      have hb := nfra_le (dgs_le (s := s) (i := c) (Nat.le_of_lt (isDg_lt hd)))
      rw [hn] at hb
      simp only at hb
      have e0 := (h.eq c h1 (by omega)).1
      rw [e0, if_neg h3, hd]
      simp only [if_true]
      rw [h.dgs _ c rfl h1 (by omega)]
      exact h.nfra (by omega) (by omega) hjs hn
theorem Sh.nmb (h : Sh s S i j p) (hij : i ≤ j) (hjs : j ≤ s.size) (hn : nmb s i = (j, true)) : nmb S p = (p + (j - i), true) := by
  unfold Go.Proofs.YtefaohokmhdplaaDoor.nmb at hn ⊢
  by_cases h3 : gb s i = 45
  · rw [if_pos h3] at hn
    have hb := nint_le (s := s) (c := i + 1) (gb_lt (s := s) (i := i) (by omega))
    rw [hn] at hb
    simp only at hb
    have e0 := (h.eq i (Nat.le_refl _) (by omega)).1
    rw [Nat.sub_self, Nat.add_zero] at e0
    rw [e0, if_pos h3, show p + 1 = p + (i + 1 - i) by omega]
    exact h.nint (by omega) (by omega) hjs hn
  · rw [if_neg h3] at hn
    have hlt : i < j := by
      rcases Nat.lt_or_ge i j with q | q
      · exact q
      · exfalso
        obtain rfl : i = j := by omega
        unfold Go.Proofs.YtefaohokmhdplaaDoor.nint at hn
        split at hn
        · rename_i e
          have hb := nfra_le (s := s) (c := i + 1) (gb_lt (s := s) (i := i) (by omega))
          rw [hn] at hb
          simp only at hb; omega
        · split at hn
          · rename_i e
            have hb := nfra_le (dgs_le (s := s) (i := i) hjs)
            have := dgs_gt e
            rw [hn] at hb
            simp only at hb; omega
          · simp at hn
    have e0 := (h.eq i (Nat.le_refl _) hlt).1
    rw [Nat.sub_self, Nat.add_zero] at e0
    rw [e0, if_neg h3]
    have := h.nint (c := i) (Nat.le_refl _) hij hjs hn
    rwa [Nat.sub_self, Nat.add_zero] at this
end
/-- A number's text: it is one, and all of it. -/
def NU (t : ByteArray) : Prop := nmb t 0 = (t.size, true)
theorem gb_nb {t : ByteArray} {k : Nat} (h : k < t.size) : (nb t)[k]? = some (gb t k) := by
  have h2 : k < (nb t).length := by rw [nb_length]; exact h
  rw [List.getElem?_eq_getElem h2, ← gi_get h2, nb_get h, gbD h]
theorem nmb_put {t S : ByteArray} {p : Nat} (h : NU t) (ha : At S p (nb t)) (hs : stp (gb S (p + t.size))) : nmb S p = (p + t.size, true) := by
  have h1 : Sh t S 0 t.size p := ⟨fun a _ h2 => by
    have := ha a _ (gb_nb h2)
    rw [Nat.sub_zero]; exact this, by rw [Nat.sub_zero]; exact hs⟩
  exact h1.nmb (Nat.zero_le _) (Nat.le_refl _) h
theorem nu_piece {s : ByteArray} {i j : Nat} (hij : i ≤ j) (hjs : j ≤ s.size) (h : nmb s i = (j, true)) : NU (piece s i j) := by
  have hz : (piece s i j).size = j - i := by unfold piece; rw [ByteArray.size_extract]; omega
  have h1 : Sh s (piece s i j) i j 0 := ⟨fun a h1 h2 => by
    refine ⟨?_, by omega⟩
    have := gb_nb (t := piece s i j) (k := a - i) (by omega)
    unfold piece at this
    rw [nb_piece hjs] at this
    unfold cutb at this
    rw [List.getElem?_map, List.getElem?_range (by omega)] at this
    simp only [Option.map_some, Option.some.injEq] at this
    rw [Nat.zero_add]
    unfold piece
    rw [← this, show i + (a - i) = a by omega], by rw [Nat.zero_add, gb_out (by omega)]; exact .inl rfl⟩
  have := h1.nmb hij hjs h
  unfold NU
  rw [hz, this, Nat.zero_add]
/-- How a number begins. -/
theorem nmb_first {S : ByteArray} {p q : Nat} (h : nmb S p = (q, true)) : gb S p = 45 ∨ isDg (gb S p) = true := by
  unfold nmb at h
  by_cases h1 : gb S p = 45
  · exact .inl h1
  · rw [if_neg h1] at h
    unfold nint at h
    by_cases h2 : gb S p = 48
    · exact .inr (by rw [h2]; decide)
    · rw [if_neg h2] at h
      cases hd : isDg (gb S p) with
      | true => exact .inr rfl
      | false => rw [hd] at h; simp at h
end Go.Proofs.YtefaohokmhdplaaDoor
