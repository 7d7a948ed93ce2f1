/- Accounts: ofAccount, Account. -/
import Derived.Test.YtfnmdeekenjlgaaWirD
import Derived.Laws.RangeString
import Derived.Laws.RangeAny
namespace Go.Proofs.Ytfnmdeekenjlgaa
open Go Go.RowKit
set_option linter.unusedSimpArgs false
set_option linter.unusedVariables false

/-- A rune of an account. -/
def okc (c : Int) : Bool := decide ((97 ≤ c ∧ c ≤ 122) ∨ (48 ≤ c ∧ c ≤ 57) ∨ c = 46 ∨ c = 95 ∨ c = 45)
theorem okc_yes {c : Int} (h : (97 ≤ c ∧ c ≤ 122) ∨ (48 ≤ c ∧ c ≤ 57) ∨ c = 46 ∨ c = 95 ∨ c = 45) : okc c = true := decide_eq_true h
theorem okc_no {c : Int} (h : ¬ ((97 ≤ c ∧ c ≤ 122) ∨ (48 ≤ c ∧ c ≤ 57) ∨ c = 46 ∨ c = 95 ∨ c = 45)) : okc c = false := decide_eq_false h
theorem ret_bool {a b : Bool} (h : a = b) : Ending.returned (.bool a) = .returned (.bool b) := by rw [h]
set_option maxHeartbeats 1000000 in
theorem ofAccount_any (c : Int) (w : World) : Calls Try.prog 53 #[.int .i32 c] w fun e w' => e = .returned (.bool (okc c)) ∧ w' = w := by
  go_enter Try.func53, Try.ntmps53
  go_wp2
  all_goals go_ret
  all_goals
    refine ⟨ret_bool ?_, rfl⟩
    rw [Bool.eq_iff_iff]
    simp [okc]
    try omega
/-- An account. -/
def acct (s : ByteArray) : Bool := decide (1 ≤ s.size ∧ s.size ≤ 32 ∧ ∀ i, (h : i < s.size) → okc ((s[i]'h).toNat : Int) = true)
theorem okc_high {c : Int} (h : 128 ≤ c) : okc c = false := okc_no (by omega)
theorem okc_low {c : Int} (h : okc c = true) : c < 128 := by have := of_decide_eq_true h; omega
set_option maxHeartbeats 1000000 in
theorem account_any (s : ByteArray) (w : World) (hl : s.size ≤ 140737488355328) : Calls Try.prog 17 #[.string s] w fun e w' => e = .returned (.bool (acct s)) ∧ Below w.heap.size w w' := by
  by_cases h1 : s.size < 1
  · have E : Hid (acct s = false) := decide_eq_false (by omega)
    have h1' : (s.size : Int) < 1 := by omega
    go_enter Try.func17, Try.ntmps17
    go_wp2
    go_ret
    exact ⟨by rw [E.out]; rfl, Below.refl _ _⟩
  by_cases h2 : 32 < s.size
  · have E : Hid (acct s = false) := decide_eq_false (by omega)
    have h1' : ¬ (s.size : Int) < 1 := by omega
    have h2' : (32 : Int) < (s.size : Int) := by omega
    go_enter Try.func17, Try.ntmps17
    go_wp2
    go_ret
    exact ⟨by rw [E.out]; rfl, Below.refl _ _⟩
  · have h1' : ¬ (s.size : Int) < 1 := by omega
    have h2' : ¬ (32 : Int) < (s.size : Int) := by omega
    go_enter Try.func17, Try.ntmps17
    go_wp2
    go_loopw [] (fun w' => ∃ pos : Nat, pos ≤ s.size ∧ w' = w.iter s pos ∧ ∀ i, (h : i < s.size) → i < pos → okc ((s[i]'h).toNat : Int) = true) (fun w' => s.size - w'.iterPos w.heap.size)
    case atStart => exact ⟨0, Nat.zero_le _, rfl, fun i _ h => absurd h (Nat.not_lt_zero i)⟩
    case round =>
      obtain ⟨pos, hp, rfl, hall⟩ := hrel
      have HA : Hid _ := hall
      clear hall
      by_cases hlt : pos < s.size
      · by_cases ha : (s[pos]'hlt).toNat < 128
        · have hnx : ∀ ty, (Instr.next (.pointer (some ⟨w.heap.size, 0, none⟩)) true ty).run Try.prog (w.iter s pos) = _ := fun ty => run_next_ascii w s pos ty hlt ha
          cases ho : okc ((s[pos]'hlt).toNat : Int) with
          | true =>
            have HO : Hid _ := ho
            obtain ⟨c, hc⟩ : ∃ c : Int, ((s[pos]'hlt).toNat : Int) = c := ⟨_, rfl⟩
            rw [hc] at hnx ho
            clear hc
            go_wp2_with (go_at_call 53; refine (ofAccount_any _ _).mono ?_; rintro e w' ⟨rfl, rfl⟩; rw [ho])
            go_roundw
            case rel =>
              refine ⟨pos + 1, hlt, rfl, fun i hi h => ?_⟩
              by_cases e : i = pos
              · subst e; exact HO.out
              · exact HA.out i hi (by omega)
            case measure => simp; omega
          | false =>
            have E : Hid (acct s = false) := decide_eq_false (fun h => by rw [h.2.2 pos hlt] at ho; cases ho)
            obtain ⟨c, hc⟩ : ∃ c : Int, ((s[pos]'hlt).toNat : Int) = c := ⟨_, rfl⟩
            rw [hc] at hnx ho
            clear hc
            go_wp2_with (go_at_call 53; refine (ofAccount_any _ _).mono ?_; rintro e w' ⟨rfl, rfl⟩; rw [ho])
            go_ret
            exact ⟨by rw [E.out]; rfl, (Below.refl _ w).alloc (Nat.le_refl _) _⟩
        · have hnx : ∀ ty, (Instr.next (.pointer (some ⟨w.heap.size, 0, none⟩)) true ty).run Try.prog (w.iter s pos) = _ := fun ty => run_next_any w s pos ty hlt
          have hh := (decode_high s pos hlt (by omega)).1
          have ho : okc ((Utf8.decode s pos).1 : Int) = false := okc_high (by omega)
          have E : Hid (acct s = false) := decide_eq_false (fun h => by have := okc_low (h.2.2 pos hlt); omega)
          obtain ⟨c, hc⟩ : ∃ c : Int, ((Utf8.decode s pos).1 : Int) = c := ⟨_, rfl⟩
          rw [hc] at hnx ho
          clear hc hh
          go_wp2_with (go_at_call 53; refine (ofAccount_any _ _).mono ?_; rintro e w' ⟨rfl, rfl⟩; rw [ho])
          go_ret
          exact ⟨by rw [E.out]; rfl, (Below.refl _ w).alloc (Nat.le_refl _) _⟩
      · have hnx : ∀ ty, (Instr.next (.pointer (some ⟨w.heap.size, 0, none⟩)) true ty).run Try.prog (w.iter s pos) = _ := fun ty => run_next_end w s pos ty hlt
        have E : Hid (acct s = true) := decide_eq_true ⟨by omega, by omega, fun i hi => HA.out i hi (by omega)⟩
        go_wp2
        go_ret
        exact ⟨by rw [E.out]; rfl, (Below.refl _ w).alloc (Nat.le_refl _) _⟩
end Go.Proofs.Ytfnmdeekenjlgaa
/- awake. -/
namespace Go.Proofs.Ytfnmdeekenjlgaa
open Go Go.RowKit
set_option linter.unusedSimpArgs false
set_option linter.unusedVariables false

def aw : List (List Int) := [[97, 98], []]
theorem aw_ok : encE aw = 0 ∧ strOfNums (encB aw) = ⟨#[0, 0, 0, 2, 0, 0, 0, 2, 97, 98, 0, 0, 0, 0]⟩ := by
  have h : big aw = false := by decide
  obtain ⟨h1, h2⟩ := encE_ok h
  refine ⟨h1, ?_⟩
  rw [h2]
  have : encK aw aw.length = [0, 0, 0, 2, 0, 0, 0, 2, 97, 98, 0, 0, 0, 0] := by decide
  rw [this]; rfl
theorem aw_acct : acct ⟨#[97]⟩ = true := decide_eq_true ⟨by decide, by decide, fun i h => by
  have : i = 0 := by have h' : i < 1 := h; omega
  subst this; rfl⟩
theorem aw_lens : Lens aw := fun i hi => by
  have : i < 2 := hi
  rcases (show i = 0 ∨ i = 1 by omega) with rfl | rfl <;> decide
theorem conv_same (l c : Nat) (C : Array Value) (e : TypeId) (w : World) : (convert 34 34 (.slice (some ⟨w.heap.size, 0, none⟩) l c)).run Try.prog (w.alloc (.cells C e)) = .ok (.slice (some ⟨w.heap.size, 0, none⟩) l c) (w.alloc (.cells C e (C.size, C.size + 1))) := by
  have hsh : (w.alloc (.cells C e)).shape? w.heap.size = some (e, C.size) := by
    have : (w.alloc (.cells C e)).heap[w.heap.size]? = some (.cells C e) := by
      show (w.heap.push (.cells C e))[w.heap.size]? = _
      simp
    unfold World.shape?
    rw [this]
  have hfr : (w.alloc (.cells C e)).freeze ⟨w.heap.size, C.size, none⟩ 1 = w.alloc (.cells C e (C.size, C.size + 1)) := by
    have hm : ∀ (a : Array Obj) (x : Obj) (f : Obj → Obj), (a.push x).modify a.size f = a.push (f x) := by
      intro a x f
      apply Array.ext
      · simp
      · intro i h1 h2
        simp only [Array.getElem_modify, Array.getElem_push]
        by_cases h : a.size = i
        · subst h
          simp
        · have hi : i < a.size := by simp at h1; omega
          simp [h, hi]
    unfold World.freeze
    rw [if_neg (by decide)]
    show ({ w.alloc (.cells C e) with heap := (w.heap.push (.cells C e)).modify w.heap.size _ } : World) = _
    rw [hm]
    rfl
  simp [convert, run_underlying Try.underlying34, run_underlying Try.underlying5, markStringish, hsh, hfr]
theorem cell_alloc (w : World) (cs : Array Value) (t : TypeId) (f : Nat × Nat) (j : Nat) : (w.alloc (.cells cs t f)).cell? ⟨w.heap.size, j, none⟩ = cs[j]? := by
  have : (w.alloc (.cells cs t f)).heap[w.heap.size]? = some (.cells cs t f) := by show (w.heap.push _)[w.heap.size]? = _; simp
  unfold World.cell?; rw [this]; rfl
theorem aw_LL (w : World) (t t' : TypeId) (f : Nat × Nat) : LL ((w.alloc (.cells #[.int .u8 97, .int .u8 98] t f)).alloc (.cells #[.slice (some ⟨w.heap.size, 0, none⟩) 2 2, .slice none 0 0] t')) (.slice (some ⟨w.heap.size + 1, 0, none⟩) 2 2) aw := by
  have hz : (w.alloc (.cells #[.int .u8 97, .int .u8 98] t f)).heap.size = w.heap.size + 1 := by simp
  refine ⟨_, 2, rfl, Nat.le_refl _, .inr ⟨_, 0, rfl, by simp, fun i hi => ?_⟩⟩
  have hi' : i < 2 := hi
  have hc := cell_alloc (w.alloc (.cells #[.int .u8 97, .int .u8 98] t f)) #[.slice (some ⟨w.heap.size, 0, none⟩) 2 2, .slice none 0 0] t' (0, 0) i
  rw [hz] at hc
  rw [Nat.zero_add, hc]
  rcases (show i = 0 ∨ i = 1 by omega) with rfl | rfl
  · refine ⟨_, rfl, _, 2, rfl, Nat.le_refl _, .inr ⟨w.heap.size, 0, rfl, by simp; omega, fun j hj => ?_⟩⟩
    have hj' : j < 2 := hj
    rw [(World.grownBy_alloc (w.alloc (.cells #[.int .u8 97, .int .u8 98] t f)) _ none).cell (a := ⟨w.heap.size, 0 + j, none⟩) (v := .int .u8 (gi (mi aw 0) j)) ?_ (by simp)]
    rw [Nat.zero_add, cell_alloc]
    rcases (show j = 0 ∨ j = 1 by omega) with rfl | rfl <;> rfl
  · exact ⟨_, rfl, none, 0, rfl, Nat.le_refl _, .inl ⟨rfl, fun _ => rfl⟩⟩
set_option maxHeartbeats 1000000 in
theorem awake_any (w : World) : Calls Try.prog 5 #[] w fun e w' => e = .returned (.bool true) ∧ Below w.heap.size w w' := by
  have A1 : Hid (encE aw = 0 ∧ strOfNums (encB aw) = ⟨#[0, 0, 0, 2, 0, 0, 0, 2, 97, 98, 0, 0, 0, 0]⟩) := aw_ok
  have hcv := conv_same 2 2 #[.int .u8 97, .int .u8 98] 5 w
  go_enter Try.func5, Try.ntmps5
  go_wp2_with (first
    | (go_at_call 16; refine (encode_any aw _ _ (aw_LL w _ _ _) aw_lens (by decide)).mono ?_; rintro e w1 ⟨v1, rfl, h1, h2⟩; rw [A1.out.1]; have h3 := h1.sl.str; rw [A1.out.2] at h3; have H2 : Hid (Below w.heap.size w w1) := (((Below.refl _ w).alloc (Nat.le_refl _) _).alloc (by simp) _).trans (h2.mono (by simp; omega)); clear h1 h2)
    | (go_at_call 17; refine (account_any _ w1 (by decide)).mono ?_; rintro e w2 ⟨rfl, h4⟩; rw [aw_acct]; have H4 : Hid (Below w.heap.size w w2) := H2.out.trans (h4.mono H2.out.size); clear h4))
  go_ret
  exact ⟨rfl, H4.out⟩
end Go.Proofs.Ytfnmdeekenjlgaa
