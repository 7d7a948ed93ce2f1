/- What is parsed is well-made, and its text is not much longer. -/
import Derived.Test.YtefaohokmhdplaaDoorJzC
namespace Go.Proofs.YtefaohokmhdplaaDoor
open Go Go.RowKit
set_option linter.unusedSimpArgs false
set_option linter.unusedVariables false

section
variable {α : Type} {s : ByteArray} {en : Int} {E : List α → Nat → Out α}
def Wt (wt : α → Nat) (l : List α) : Nat := (l.map (fun x => wt x + 1)).sum
theorem Wt_push (wt : α → Nat) (l : List α) (x : α) : Wt wt (l ++ [x]) = Wt wt l + (wt x + 1) := by simp [Wt]
theorem parts_inv {I : List α → Prop} {wt : α → Nat} (hen : en ≠ 0) (hE : ∀ a i v j, I a → i ≤ s.size → E a i = .ok v j → I (a ++ [v]) ∧ wt v ≤ 24 * (j - i) ∧ i ≤ j ∧ j ≤ s.size) :
    ∀ (f : Nat) (a : List α) (i : Nat), I a → i ≤ s.size → ∀ l j, parts s en E f a i = .ok l j → I l ∧ Wt wt l ≤ Wt wt a + 24 * (j - i) ∧ i ≤ j ∧ j ≤ s.size
  | 0, a, i, ha, hi, l, j, h => by simp [parts] at h
  | f + 1, a, i, ha, hi, l, j, h => by
    simp only [parts] at h
    cases he : E a i with
    | bad q => rw [he] at h; cases h
    | big q => rw [he] at h; cases h
    | ok v q =>
      rw [he] at h
      simp only at h
      obtain ⟨h1, h2, h3, h4⟩ := hE a i v q ha hi he
      have h5 := sk_ge s q
      have h6 := sk_le h4
      have hp := Wt_push wt a v
      split at h
      · rename_i e
        cases h
        have := gb_lt (s := s) (i := sk s q) (by rw [e]; exact hen)
        exact ⟨h1, by omega, by omega, by omega⟩
      · split at h
        · rename_i e
          have h7 := gb_lt (s := s) (i := sk s q) (by omega)
          have h8 := sk_ge s (sk s q + 1)
          have h9 := sk_le (s := s) (i := sk s q + 1) h7
          obtain ⟨g1, g2, g3, g4⟩ := parts_inv hen hE f _ _ h1 h9 l j h
          exact ⟨g1, by omega, by omega, g4⟩
        · cases h
theorem open_inv {I : List α → Prop} {wt : α → Nat} (hen : en ≠ 0) (hE : ∀ a i v j, I a → i ≤ s.size → E a i = .ok v j → I (a ++ [v]) ∧ wt v ≤ 24 * (j - i) ∧ i ≤ j ∧ j ≤ s.size) (h0 : I []) {i : Nat} (hi : i < s.size) {l : List α} {j : Nat} (h : open' s en E i = .ok l j) : I l ∧ Wt wt l + 2 ≤ 24 * (j - i) := by
  have h2 := sk_ge s (i + 1)
  have h3 := sk_le (s := s) (i := i + 1) hi
  unfold open' at h
  split at h
  · cases h
    exact ⟨h0, by simp [Wt]; omega⟩
  · obtain ⟨g1, g2, g3, g4⟩ := parts_inv hen hE _ _ _ h0 h3 l j h
    refine ⟨g1, ?_⟩
    simp [Wt] at g2 ⊢; omega
theorem cm_wt (pt : α → List Int) (l : List α) : (cm (l.map pt)).length ≤ Wt (fun x => (pt x).length) l := by
  have h : ∀ r : List α, (ctl (r.map pt)).length = Wt (fun x => (pt x).length) r := fun r => by
    induction r with
    | nil => rfl
    | cons x r ih => simp [ctl, Wt] at ih ⊢; omega
  cases l with
  | nil => simp [cm, Wt]
  | cons x r => have := h r; simp [cm, Wt] at this ⊢; omega
end
theorem wd_true {s : ByteArray} : ∀ (l : List Int) (i j : Nat), wd s l i = (j, true) → j = i + l.length
  | [], i, j, h => by simp [wd] at h; simp [h]
  | c :: l, i, j, h => by
    simp only [wd] at h
    split at h
    · have := wd_true l _ _ h; simp; omega
    · simp at h
theorem txf_len (s : ByteArray) : ∀ (f i : Nat) (a : List Int), i ≤ s.size → (txf s f i a).1.1.length ≤ a.length + 4 * ((txf s f i a).1.2 - i)
  | 0, i, a, h => by simp [txf]
  | f + 1, i, a, h => by
    simp only [txf]
    split
    · simp
    · rename_i h1
      split
      · simp
      · split
        · simp
        · split
          · cases he : esc s i with
            | none => simp
            | some q =>
              obtain ⟨r, n⟩ := q
              have h2 := esc_in he
              have h3 := txf_len s f (i + n) (a ++ Lib.encodeRuneZ r) (by omega)
              have h4 := (Lib.encodeRuneZ_length r).2
              have h5 := (txf_in s f (i + n) (a ++ Lib.encodeRuneZ r) (by omega)).1
              rw [List.length_append] at h3
              simp only; omega
          · split
            · simp
            · rename_i h2
              have h6 := rl_in (s := s) (i := i) (by omega)
              have h3 := txf_len s f (i + rl s i) (a ++ cutb s i (rl s i)) h6
              have h5 := (txf_in s f (i + rl s i) (a ++ cutb s i (rl s i)) h6).1
              rw [List.length_append, cutb_length] at h3
              omega
theorem qt_len (t : ByteArray) : (qt t).length ≤ 6 * t.size + 2 := by
  have := qr_len t t.size 0 (by omega)
  unfold qt; simp; omega
theorem tx_ok {s : ByteArray} {i : Nat} (h : i < s.size) : UV (nb (sb (tx s (i + 1) []).1.1)) ∧ (qt (sb (tx s (i + 1) []).1.1)).length + 22 ≤ 24 * ((tx s (i + 1) []).1.2 - i) ∧ i + 1 ≤ (tx s (i + 1) []).1.2 ∧ (tx s (i + 1) []).1.2 ≤ s.size := by
  have h1 := tx_uv s (i + 1)
  have h2 := txf_len s (s.size + 1 - (i + 1)) (i + 1) [] h
  have h3 := tx_in (s := s) (i := i + 1) [] h
  have h4 := qt_len (sb (tx s (i + 1) []).1.1)
  rw [sb_size] at h4
  refine ⟨by rw [nb_sb (uv_byt h1)]; exact h1, ?_, h3⟩
  have h5 : (tx s (i + 1) []).1.1.length ≤ 4 * ((tx s (i + 1) []).1.2 - (i + 1)) := by simpa [tx] using h2
  omega
theorem Dk.nil : Dk [] := fun a1 m r1 h => by simp at h
theorem Dk.push {a : List (ByteArray × JV)} {m : ByteArray × JV} (h : Dk a) (hm : a.any (fun x => x.1.data.toList == m.1.data.toList) = false) : Dk (a ++ [m]) := by
  intro a1 m' r1 he
  rcases List.eq_nil_or_concat r1 with rfl | ⟨r2, z, rfl⟩
  · obtain ⟨rfl, e⟩ := List.append_inj' he rfl
    cases e; exact hm
  · rw [List.concat_eq_append, ← List.cons_append, ← List.append_assoc] at he
    obtain ⟨rfl, e⟩ := List.append_inj' he rfl
    exact h a1 m' r2 rfl
theorem membr_ok {s : ByteArray} {V : Nat → Out JV} {a : List (ByteArray × JV)} {i : Nat} {m : ByteArray × JV} {j : Nat} (h : membr s V a i = .ok m j) :
    gb s i = 34 ∧ (tx s (i + 1) []).2 = true ∧ a.any (fun x => x.1.data.toList == m.1.data.toList) = false ∧ m.1 = sb (tx s (i + 1) []).1.1 ∧ gb s (sk s (tx s (i + 1) []).1.2) = 58 ∧ V (sk s (sk s (tx s (i + 1) []).1.2 + 1)) = .ok m.2 j := by
  by_cases h34 : gb s i = 34
  · rw [membr_34 h34] at h
    split at h
    · rename_i h2
      split at h
      · cases h
      · rename_i h3
        split at h
        · rename_i h4
          cases hv : V (sk s (sk s (tx s (i + 1) []).1.2 + 1)) with
          | ok v q =>
            rw [hv] at h
            simp only [vx] at h
            cases h
            exact ⟨h34, h2, Bool.eq_false_iff.2 h3, rfl, h4, rfl⟩
          | bad q => rw [hv] at h; simp [vx] at h
          | big q => rw [hv] at h; simp [vx] at h
        · cases h
    · cases h
  · unfold membr at h; rw [if_neg h34] at h; cases h
theorem outOf_ok {p : Nat × Bool} {v jv : JV} {j : Nat} (h : outOf p v = .ok jv j) : p = (j, true) ∧ v = jv := by
  obtain ⟨q, b⟩ := p
  cases b with
  | true => simp [outOf] at h; exact ⟨by rw [h.2], h.1⟩
  | false => simp [outOf] at h
/-- What was parsed. -/
theorem val_ok (s : ByteArray) : ∀ (k i : Nat), i ≤ s.size → ∀ (jv : JV) (j : Nat), val s k i = .ok jv j → WM k jv ∧ (pj jv).length ≤ 24 * (j - i) := by
  have leaf : ∀ (k i : Nat), i ≤ s.size → gb s i ≠ 123 → gb s i ≠ 91 → ∀ (jv : JV) (j : Nat), val s k i = .ok jv j → WM k jv ∧ (pj jv).length ≤ 24 * (j - i) := by
    intro k i hi h1 h2 jv j h
    unfold val at h
    rw [if_neg h1, if_neg h2] at h
    split at h
    · rename_i e
      split at h
      · have ht := tx_ok (s := s) (i := i) (gb_lt (by omega))
        cases h
        exact ⟨.txt _ _ ht.1, by simp only [pj]; omega⟩
      · cases h
    · split at h
      · obtain ⟨e1, rfl⟩ := outOf_ok h
        have := wd_true _ _ _ e1
        simp at this
        exact ⟨.bool _ _, by simp [pj, bt]; omega⟩
      · split at h
        · obtain ⟨e1, rfl⟩ := outOf_ok h
          have := wd_true _ _ _ e1
          simp at this
          exact ⟨.bool _ _, by simp [pj, bt]; omega⟩
        · split at h
          · obtain ⟨e1, rfl⟩ := outOf_ok h
            have := wd_true _ _ _ e1
            simp at this
            exact ⟨.null _, by simp [pj]; omega⟩
          · obtain ⟨e1, rfl⟩ := outOf_ok h
            have hb := nmb_le (s := s) (c := i) hi
            rw [e1] at hb ⊢
            simp only at hb ⊢
            refine ⟨.num _ _ (nu_piece hb.1 hb.2 e1), ?_⟩
            simp only [pj]
            rw [nb_length]
            unfold piece; rw [ByteArray.size_extract]; omega
  intro k
  induction k with
  | zero =>
    intro i hi jv j h
    by_cases h1 : gb s i = 123
    · unfold val at h; rw [if_pos h1] at h; cases h
    by_cases h2 : gb s i = 91
    · unfold val at h; rw [if_neg h1, if_pos h2] at h; cases h
    exact leaf 0 i hi h1 h2 jv j h
  | succ k ih =>
    intro i hi jv j h
    by_cases h1 : gb s i = 123
    · have h : wrapO (open' s 125 (membr s (val s k)) i) = .ok jv j := by unfold val at h; rw [if_pos h1] at h; exact h
      cases ho : open' s 125 (membr s (val s k)) i with
      | bad q => rw [ho] at h; cases h
      | big q => rw [ho] at h; cases h
      | ok l q =>
        rw [ho] at h
        cases h
        obtain ⟨⟨g1, g2, g3⟩, g4⟩ := open_inv (I := fun a => (∀ m ∈ a, WM k m.2) ∧ (∀ m ∈ a, UV (nb m.1)) ∧ Dk a) (wt := fun m => (pm m).length) (by decide) (fun a i' m j' hI hi' he => by
          obtain ⟨q1, q2, q3, q4, q5, q6⟩ := membr_ok he
          have ht := tx_ok (s := s) (i := i') (gb_lt (by omega))
          rw [← q4] at ht
          have w1 := sk_ge s (tx s (i' + 1) []).1.2
          have w2 := gb_lt (s := s) (i := sk s (tx s (i' + 1) []).1.2) (by omega)
          have w3 := sk_ge s (sk s (tx s (i' + 1) []).1.2 + 1)
          have w4 := sk_le (s := s) (i := sk s (tx s (i' + 1) []).1.2 + 1) w2
          obtain ⟨v1, v2⟩ := ih _ w4 _ _ q6
          have v3 := val_in s k _ w4
          rw [q6] at v3
          obtain ⟨v4, v5⟩ := v3
          refine ⟨⟨fun x hx => ?_, fun x hx => ?_, hI.2.2.push q3⟩, ?_, by omega, v5⟩
          · rcases List.mem_append.1 hx with z | z
            · exact hI.1 x z
            · simp at z; rw [z]; exact v1
          · rcases List.mem_append.1 hx with z | z
            · exact hI.2.1 x z
            · simp at z; rw [z]; exact ht.1
          · unfold pm
            simp only [List.length_append, List.length_cons, List.length_nil]
            omega) ⟨by simp, by simp, Dk.nil⟩ (gb_lt (by omega)) ho
        refine ⟨.obj k l g1 g2 g3, ?_⟩
        have := cm_wt pm l
        simp only [pj, pjo_map, List.length_append, List.length_cons, List.length_nil]
        omega
    by_cases h2 : gb s i = 91
    · have h : wrapL (open' s 93 (fun _ => val s k) i) = .ok jv j := by unfold val at h; rw [if_neg h1, if_pos h2] at h; exact h
      cases ho : open' s 93 (fun _ => val s k) i with
      | bad q => rw [ho] at h; cases h
      | big q => rw [ho] at h; cases h
      | ok l q =>
        rw [ho] at h
        cases h
        obtain ⟨g1, g4⟩ := open_inv (E := fun (_ : List JV) => val s k) (I := fun a => ∀ x ∈ a, WM k x) (wt := fun x => (pj x).length) (by decide) (fun a i' v j' hI hi' he => by
          obtain ⟨v1, v2⟩ := ih _ hi' _ _ he
          have v3 := val_in s k _ hi'
          rw [he] at v3
          obtain ⟨v4, v5⟩ := v3
          refine ⟨fun x hx => ?_, v2, v4, v5⟩
          rcases List.mem_append.1 hx with z | z
          · exact hI x z
          · simp at z; rw [z]; exact v1) (by simp) (gb_lt (by omega)) ho
        refine ⟨.lst k l g1, ?_⟩
        have := cm_wt pj l
        simp only [pj, pjl_map, List.length_append, List.length_cons, List.length_nil]
        omega
    exact leaf (k + 1) i hi h1 h2 jv j h
theorem whole_ok {s : ByteArray} {jv : JV} (h : whole s = .val jv) : WM 16 jv ∧ (pj jv).length ≤ 200000 := by
  unfold whole at h
  split at h
  · cases h
  · rename_i hs
    have h0 := sk_le (s := s) (i := 0) (Nat.zero_le _)
    cases hv : val s 16 (sk s 0) with
    | bad q => rw [hv] at h; cases h
    | big q => rw [hv] at h; cases h
    | ok v q =>
      rw [hv] at h
      simp only at h
      obtain ⟨h1, h2⟩ := val_ok s 16 _ h0 _ _ hv
      have h3 := val_in s 16 _ h0
      rw [hv] at h3
      have h4 := h3.2
      split at h
      · cases h
      · cases h
        exact ⟨h1, by omega⟩
theorem whole_err {s : ByteArray} {j : Nat} {l : Bool} (h : whole s = .err j l) : j ≤ s.size := by
  unfold whole at h
  split at h
  · cases h; exact Nat.zero_le _
  · have h0 := sk_le (s := s) (i := 0) (Nat.zero_le _)
    have h3 := val_in s 16 _ h0
    cases hv : val s 16 (sk s 0) with
    | bad q => rw [hv] at h h3; cases h; exact h3.2
    | big q => rw [hv] at h h3; cases h; exact h3.2
    | ok v q =>
      rw [hv] at h h3
      simp only at h
      split at h
      · cases h; exact sk_le h3.2
      · cases h
/-- A value in memory has its text. -/
theorem vj_pt {A : Nat → Prop} {w : World} {v : Value} {j : JV} (h : VJ A w v j) : PT A w v (pj j) := by
  induction h with
  | null => exact .null
  | bool b => exact .bool b
  | num t => exact .num t
  | txt t => exact .txt t
  | lst v vs l h hl hv ih =>
    simp only [pj, pjl_map]
    refine .lst v vs (l.map pj) h (by simpa using hl) (fun i x t hx ht => ?_)
    rw [List.getElem?_map] at ht
    obtain ⟨j, hj, rfl⟩ := Option.map_eq_some_iff.1 ht
    exact ih i x j hx hj
  | obj v ms l h hl hk hv ih =>
    have e : List.zipWith (fun (m : ByteArray × Value) (t : List Int) => qt m.1 ++ ([58] ++ t)) ms (l.map (fun m => pj m.2)) = l.map pm := by
      apply List.ext_getElem?
      intro i
      rw [List.getElem?_zipWith, List.getElem?_map, List.getElem?_map]
      rcases Nat.lt_or_ge i l.length with q | q
      · have a1 := List.getElem?_eq_getElem q
        have a2 := List.getElem?_eq_getElem (l := ms) (i := i) (by omega)
        rw [a1, a2]
        simp only [Option.map_some]
        rw [hk i _ _ a2 a1]; rfl
      · rw [List.getElem?_eq_none q]
        cases ms[i]? <;> rfl
    simp only [pj, pjo_map]
    rw [← e]
    refine .obj v ms (l.map (fun m => pj m.2)) h (by simpa using hl) (fun i x t hx ht => ?_)
    rw [List.getElem?_map] at ht
    obtain ⟨j, hj, rfl⟩ := Option.map_eq_some_iff.1 ht
    exact ih i x j hx hj
end Go.Proofs.YtefaohokmhdplaaDoor
