/- The law for JSON: a value is the tree of the same text. -/
import Derived.Test.YtefaohokmhdplaaDoorJxO
namespace Go.Proofs.YtefaohokmhdplaaDoor
open Go Go.RowKit
set_option linter.unusedSimpArgs false
set_option linter.unusedVariables false
set_option maxRecDepth 100000

/-- A value none of whose lists and objects is longer than a text. -/
inductive Sm : JV → Prop
  | null : Sm .null
  | bool (b : Bool) : Sm (.bool b)
  | num (t : ByteArray) : Sm (.num t)
  | txt (t : ByteArray) : Sm (.txt t)
  | lst (l : List JV) (h : l.length ≤ 8192) (hl : ∀ j ∈ l, Sm j) : Sm (.lst l)
  | obj (l : List (ByteArray × JV)) (h : l.length ≤ 8192) (hl : ∀ j ∈ l, Sm j.2) : Sm (.obj l)
theorem VJ.ifc {A : Nat → Prop} {w : World} {v : Value} {j : JV} (h : VJ A w v j) : ∃ t p, v = .iface t p := by cases h <;> exact ⟨_, _, rfl⟩
theorem is_any {A A' : Nat → Prop} {w : World} {v : Value} {jv : JV} (hv : VJ A w v jv) : ∀ {x : Tv}, TJ A' w x jv → Sm jv → ∀ W, Below w.heap.size w W → Calls Tryd.prog 12 #[v, x.val] W fun e w' => IsP W e w' := by
  induction hv with
  | null =>
    intro x hx _ W _
    cases hx with
    | null x hk => exact is_null hk
  | bool b =>
    intro x hx _ W _
    cases hx with
    | bool x hk => exact is_bool hk
  | num t =>
    intro x hx _ W _
    cases hx with
    | num x hk => exact is_num hk
  | txt t =>
    intro x hx _ W _
    cases hx with
    | txt x hk => exact is_txt hk
  | lst v vs l h hl hv ih =>
    intro x hx hs W hB
    cases hx with
    | lst x hk xs l h' hl' hv' =>
      cases hs with
      | lst l g1 g2 =>
        have e1 : RV (fun _ => True) W 1 v vs := h.keep (fun b hb hlt => ⟨trivial, hB.block b hlt⟩) hB.size
        have e2 : RV (fun _ => True) W 5 x.ps.v (tcs xs) := h'.keep (fun b hb hlt => ⟨trivial, hB.block b hlt⟩) hB.size
        refine is_lst hk e1 e2 (by omega) (by omega) (fun y hy => ?_) (fun i y z hy hz W' hb' => ?_)
        · obtain ⟨i, hi, rfl⟩ := List.getElem_of_mem hy
          exact (hv i _ (l[i]'(by omega)) (List.getElem?_eq_getElem hi) (List.getElem?_eq_getElem _)).ifc
        · have hi : i < l.length := by have := (List.getElem?_eq_some_iff.1 hy).1; omega
          exact ih i y l[i] hy (List.getElem?_eq_getElem hi) (hv' i z l[i] hz (List.getElem?_eq_getElem hi)) (g2 _ (List.getElem_mem hi)) W' (bl_tr hB hb')
  | obj v ms l h hl hkk hv ih =>
    intro x hx hs W hB
    cases hx with
    | obj x hk ks xs l hks h' hkl hl' hkt hv' =>
      cases hs with
      | obj l g1 g2 =>
        have e1 : RV (fun _ => True) W 2 v (mcs ms) := h.keep (fun b hb hlt => ⟨trivial, hB.block b hlt⟩) hB.size
        have e2 : RV (fun _ => True) W 5 x.ps.v (tcs xs) := h'.keep (fun b hb hlt => ⟨trivial, hB.block b hlt⟩) hB.size
        have e3 : RV (fun _ => True) W 1 x.ks.v (keyc ks) := hks.keep (fun b hb hlt => ⟨trivial, hB.block b hlt⟩) hB.size
        refine is_obj hk e1 e3 (by omega) (fun i m c hm hc => ?_) e2 (by omega) (by omega) (fun y hy => ?_) (fun i y z hy hz W' hb' => ?_)
        · have hi : i < l.length := by have := (List.getElem?_eq_some_iff.1 hm).1; omega
          exact (hkt i c l[i] hc (List.getElem?_eq_getElem hi)).trans (hkk i m l[i] hm (List.getElem?_eq_getElem hi)).symm
        · obtain ⟨i, hi, rfl⟩ := List.getElem_of_mem hy
          exact (hv i _ (l[i]'(by omega)) (List.getElem?_eq_getElem hi) (List.getElem?_eq_getElem _)).ifc
        · have hi : i < l.length := by have := (List.getElem?_eq_some_iff.1 hy).1; omega
          exact ih i y l[i] hy (List.getElem?_eq_getElem hi) (hv' i z l[i] hz (List.getElem?_eq_getElem hi)) (g2 _ (List.getElem_mem hi)) W' (bl_tr hB hb')
end Go.Proofs.YtefaohokmhdplaaDoor
/- What a text's value holds: no list longer than the text. -/
namespace Go.Proofs.YtefaohokmhdplaaDoor
open Go Go.RowKit
set_option linter.unusedSimpArgs false
set_option linter.unusedVariables false

theorem parts_sm {α : Type} {Pr : α → Prop} {s : ByteArray} {en : Int} (hen : en ≠ 0) {E : List α → Nat → Out α} (hE : ∀ a i v j, i ≤ s.size → E a i = .ok v j → Pr v ∧ i ≤ j ∧ j ≤ s.size) :
    ∀ (f : Nat) (a : List α) (i : Nat) (l : List α) (m : Nat), i ≤ s.size → a.length ≤ i → (∀ v ∈ a, Pr v) → parts s en E f a i = .ok l m → l.length ≤ s.size ∧ ∀ v ∈ l, Pr v
  | 0, a, i, l, m, _, _, _, h => by simp [parts] at h
  | f + 1, a, i, l, m, hi, ha, hp, h => by
    simp only [parts] at h
    cases he : E a i with
    | bad j => rw [he] at h; simp at h
    | big j => rw [he] at h; simp at h
    | ok v j =>
      rw [he] at h
      obtain ⟨h1, h2, h3⟩ := hE a i v j hi he
      have h4 := sk_ge s j
      have hp' : ∀ u ∈ a ++ [v], Pr u := fun u hu => by
        rcases List.mem_append.1 hu with q | q
        · exact hp u q
        · rw [List.mem_singleton.1 q]; exact h1
      simp only [] at h
      split at h
      · rename_i e
        have h5 := gb_lt (s := s) (i := sk s j) (by rw [e]; exact hen)
        injection h with h6 h7
        subst h6
        exact ⟨by simp; omega, hp'⟩
      · split at h
        · rename_i e
          have h5 := gb_lt (s := s) (i := sk s j) (by omega)
          have h6 := sk_ge s (sk s j + 1); have h7 := sk_le (s := s) (i := sk s j + 1) h5
          exact parts_sm hen hE f (a ++ [v]) _ l m h7 (by simp; omega) hp' h
        · simp at h
theorem open_sm {α : Type} {Pr : α → Prop} {s : ByteArray} {en : Int} (hen : en ≠ 0) {E : List α → Nat → Out α} (hE : ∀ a i v j, i ≤ s.size → E a i = .ok v j → Pr v ∧ i ≤ j ∧ j ≤ s.size) {i m : Nat} {l : List α} (hi : i < s.size) (h : open' s en E i = .ok l m) : l.length ≤ s.size ∧ ∀ v ∈ l, Pr v := by
  unfold open' at h
  split at h
  · injection h with h1 h2; subst h1; exact ⟨Nat.zero_le _, fun v hv => by simp at hv⟩
  · exact parts_sm hen hE _ [] _ l m (sk_le (s := s) (i := i + 1) hi) (by simp) (fun v hv => by simp at hv) h
theorem outOf_sm {p : Nat × Bool} {v jv : JV} {m : Nat} (hv : Sm v) (h : outOf p v = .ok jv m) : Sm jv := by
  unfold outOf at h
  split at h
  · injection h with h1 h2; subst h1; exact hv
  · cases h
theorem val_sm {s : ByteArray} (hs : s.size ≤ 8192) : ∀ (k i m : Nat) (jv : JV), i ≤ s.size → val s k i = .ok jv m → Sm jv := by
  intro k
  induction k with
  | zero =>
    intro i m jv hi h
    unfold val at h
    split at h
    · cases h
    split at h
    · cases h
    split at h
    · split at h
      · injection h with h1 h2; subst h1; exact .txt _
      · cases h
    split at h
    · exact outOf_sm (.bool _) h
    split at h
    · exact outOf_sm (.bool _) h
    split at h
    · exact outOf_sm .null h
    · exact outOf_sm (.num _) h
  | succ k ih =>
    intro i m jv hi h
    have hV : ∀ j v n, j ≤ s.size → val s k j = .ok v n → Sm v ∧ j ≤ n ∧ n ≤ s.size := fun j v n hj hv => by
      have h1 := val_in s k j hj
      rw [hv] at h1
      exact ⟨ih j n v hj hv, h1.1, h1.2⟩
    unfold val at h
    split at h
    · rename_i e
      have hlt := gb_lt (s := s) (i := i) (by omega)
      cases ho : open' s 125 (membr s (val s k)) i with
      | bad j => simp only [ho, wrapO] at h; cases h
      | big j => simp only [ho, wrapO] at h; cases h
      | ok l j =>
        simp only [ho, wrapO] at h
        injection h with h1 h2
        subst h1
        obtain ⟨g1, g2⟩ := open_sm (Pr := fun p => Sm p.2) (by decide) (fun a i v j hi he => by
          have h5 := membr_in (fun i hi => val_in s k i hi) a i hi
          rw [he] at h5
          refine ⟨?_, h5.1, h5.2⟩
          unfold membr at he
          split at he
          · rename_i e34
            have hlt := gb_lt (s := s) (i := i) (by omega)
            split at he
            · split at he
              · cases he
              · split at he
                · rename_i e58
                  have h7 := gb_lt (s := s) (i := sk s (tx s (i + 1) []).1.2) (by omega)
                  have h6 := sk_le (s := s) (i := sk s (tx s (i + 1) []).1.2 + 1) h7
                  cases hv : val s k (sk s (sk s (tx s (i + 1) []).1.2 + 1)) with
                  | bad n => simp only [hv] at he; cases he
                  | big n => simp only [hv] at he; cases he
                  | ok u n =>
                    simp only [hv] at he
                    injection he with e1 e2
                    subst e1
                    exact (hV _ _ _ h6 hv).1
                · cases he
            · cases he
          · cases he) hlt ho
        exact .obj _ (by omega) g2
    split at h
    · rename_i e
      have hlt := gb_lt (s := s) (i := i) (by omega)
      cases ho : open' s 93 (fun _ => val s k) i with
      | bad j => simp only [ho, wrapL] at h; cases h
      | big j => simp only [ho, wrapL] at h; cases h
      | ok l j =>
        simp only [ho, wrapL] at h
        injection h with h1 h2
        subst h1
        obtain ⟨g1, g2⟩ := open_sm (Pr := Sm) (by decide) (fun a i v j hi he => hV i v j hi he) hlt ho
        exact .lst _ (by omega) g2
    split at h
    · split at h
      · injection h with h1 h2; subst h1; exact .txt _
      · cases h
    split at h
    · exact outOf_sm (.bool _) h
    split at h
    · exact outOf_sm (.bool _) h
    split at h
    · exact outOf_sm .null h
    · exact outOf_sm (.num _) h
theorem whole_sm {s : ByteArray} {jv : JV} (h : whole s = .val jv) : Sm jv := by
  unfold whole at h
  split at h
  · cases h
  · rename_i hs
    cases hv : val s 16 (sk s 0) with
    | bad j => simp only [hv] at h; cases h
    | big j => simp only [hv] at h; cases h
    | ok v j =>
      simp only [hv] at h
      split at h
      · cases h
      · injection h with h1
        subst h1
        exact val_sm (by omega) 16 _ j v (sk_le (s := s) (i := 0) (Nat.zero_le _)) hv
end Go.Proofs.YtefaohokmhdplaaDoor
