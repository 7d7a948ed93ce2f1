/- awake. -/
import Derived.Test.YtfnmdeekenjlgaaWirF
namespace Go.Proofs.Ytfnmdeekenjlgaa
open Go Go.RowKit
set_option linter.unusedSimpArgs false
set_option linter.unusedVariables false

def aw : List (List Int) := [[97, 98], []]
theorem aw_ok : encE aw = 0 ∧ strOfNums (encB aw) = ⟨#[0, 0, 0, 2, 0, 0, 0, 2, 97, 98, 0, 0, 0, 0]⟩ := by
  have h : big aw = false := by decide
  obtain ⟨h1, h2⟩ := encE_ok h
  refine ⟨h1, ?_⟩
  rw [h2]
  have : encK aw aw.length = [0, 0, 0, 2, 0, 0, 0, 2, 97, 98, 0, 0, 0, 0] := by decide
  rw [this]; rfl
theorem aw_acct : acct ⟨#[97]⟩ = true := decide_eq_true ⟨by decide, by decide, fun i h => by
  have : i = 0 := by have h' : i < 1 := h; omega
  subst this; rfl⟩
theorem aw_lens : Lens aw := fun i hi => by
  have : i < 2 := hi
  rcases (show i = 0 ∨ i = 1 by omega) with rfl | rfl <;> decide
theorem conv_same (l c : Nat) (C : Array Value) (e : TypeId) (w : World) : (convert 34 34 (.slice (some ⟨w.heap.size, 0, none⟩) l c)).run Try.prog (w.alloc (.cells C e)) = .ok (.slice (some ⟨w.heap.size, 0, none⟩) l c) (w.alloc (.cells C e (C.size, C.size + 1))) := by
  have hsh : (w.alloc (.cells C e)).shape? w.heap.size = some (e, C.size) := by
    have : (w.alloc (.cells C e)).heap[w.heap.size]? = some (.cells C e) := by
      show (w.heap.push (.cells C e))[w.heap.size]? = _
      simp
    unfold World.shape?
    rw [this]
  have hfr : (w.alloc (.cells C e)).freeze ⟨w.heap.size, C.size, none⟩ 1 = w.alloc (.cells C e (C.size, C.size + 1)) := by
    have hm : ∀ (a : Array Obj) (x : Obj) (f : Obj → Obj), (a.push x).modify a.size f = a.push (f x) := by
      intro a x f
      apply Array.ext
      · simp
      · intro i h1 h2
        simp only [Array.getElem_modify, Array.getElem_push]
        by_cases h : a.size = i
        · subst h
          simp
        · have hi : i < a.size := by simp at h1; omega
          simp [h, hi]
    unfold World.freeze
    rw [if_neg (by decide)]
    show ({ w.alloc (.cells C e) with heap := (w.heap.push (.cells C e)).modify w.heap.size _ } : World) = _
    rw [hm]
    rfl
  simp [convert, run_underlying Try.underlying34, run_underlying Try.underlying5, markStringish, hsh, hfr]
theorem cell_alloc (w : World) (cs : Array Value) (t : TypeId) (f : Nat × Nat) (j : Nat) : (w.alloc (.cells cs t f)).cell? ⟨w.heap.size, j, none⟩ = cs[j]? := by
  have : (w.alloc (.cells cs t f)).heap[w.heap.size]? = some (.cells cs t f) := by show (w.heap.push _)[w.heap.size]? = _; simp
  unfold World.cell?; rw [this]; rfl
theorem aw_LL (w : World) (t t' : TypeId) (f : Nat × Nat) : LL ((w.alloc (.cells #[.int .u8 97, .int .u8 98] t f)).alloc (.cells #[.slice (some ⟨w.heap.size, 0, none⟩) 2 2, .slice none 0 0] t')) (.slice (some ⟨w.heap.size + 1, 0, none⟩) 2 2) aw := by
  have hz : (w.alloc (.cells #[.int .u8 97, .int .u8 98] t f)).heap.size = w.heap.size + 1 := by simp
  refine ⟨_, 2, rfl, Nat.le_refl _, .inr ⟨_, 0, rfl, by simp, fun i hi => ?_⟩⟩
  have hi' : i < 2 := hi
  have hc := cell_alloc (w.alloc (.cells #[.int .u8 97, .int .u8 98] t f)) #[.slice (some ⟨w.heap.size, 0, none⟩) 2 2, .slice none 0 0] t' (0, 0) i
  rw [hz] at hc
  rw [Nat.zero_add, hc]
  rcases (show i = 0 ∨ i = 1 by omega) with rfl | rfl
  · refine ⟨_, rfl, _, 2, rfl, Nat.le_refl _, .inr ⟨w.heap.size, 0, rfl, by simp; omega, fun j hj => ?_⟩⟩
    have hj' : j < 2 := hj
    rw [(World.grownBy_alloc (w.alloc (.cells #[.int .u8 97, .int .u8 98] t f)) _ none).cell (a := ⟨w.heap.size, 0 + j, none⟩) (v := .int .u8 (gi (mi aw 0) j)) ?_ (by simp)]
    rw [Nat.zero_add, cell_alloc]
    rcases (show j = 0 ∨ j = 1 by omega) with rfl | rfl <;> rfl
  · exact ⟨_, rfl, none, 0, rfl, Nat.le_refl _, .inl ⟨rfl, fun _ => rfl⟩⟩
set_option maxHeartbeats 1000000 in
theorem awake_any (w : World) : Calls Try.prog 5 #[] w fun e w' => e = .returned (.bool true) ∧ Below w.heap.size w w' := by
  have A1 : Hid (encE aw = 0 ∧ strOfNums (encB aw) = ⟨#[0, 0, 0, 2, 0, 0, 0, 2, 97, 98, 0, 0, 0, 0]⟩) := aw_ok
  have hcv := conv_same 2 2 #[.int .u8 97, .int .u8 98] 5 w
  go_enter Try.func5, Try.ntmps5
  go_wp2_with (first
    | (go_at_call 16; refine (encode_any aw _ _ (aw_LL w _ _ _) aw_lens (by decide)).mono ?_; rintro e w1 ⟨v1, rfl, h1, h2⟩; rw [A1.out.1]; have h3 := h1.sl.str; rw [A1.out.2] at h3; have H2 : Hid (Below w.heap.size w w1) := (((Below.refl _ w).alloc (Nat.le_refl _) _).alloc (by simp) _).trans (h2.mono (by simp; omega)); clear h1 h2)
    | (go_at_call 17; refine (account_any _ w1 (by decide)).mono ?_; rintro e w2 ⟨rfl, h4⟩; rw [aw_acct]; have H4 : Hid (Below w.heap.size w w2) := H2.out.trans (h4.mono H2.out.size); clear h4))
  go_ret
  exact ⟨rfl, H4.out⟩
end Go.Proofs.Ytfnmdeekenjlgaa
