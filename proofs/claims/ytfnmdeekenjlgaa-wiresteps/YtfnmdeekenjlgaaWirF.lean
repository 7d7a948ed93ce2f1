/- Accounts: ofAccount, Account. -/
import Derived.Test.YtfnmdeekenjlgaaWirE
import Derived.Laws.RangeString
import Derived.Laws.RangeAny
namespace Go.Proofs.Ytfnmdeekenjlgaa
open Go Go.RowKit
set_option linter.unusedSimpArgs false
set_option linter.unusedVariables false

/-- A rune of an account. -/
def okc (c : Int) : Bool := decide ((97 ≤ c ∧ c ≤ 122) ∨ (48 ≤ c ∧ c ≤ 57) ∨ c = 46 ∨ c = 95 ∨ c = 45)
theorem okc_yes {c : Int} (h : (97 ≤ c ∧ c ≤ 122) ∨ (48 ≤ c ∧ c ≤ 57) ∨ c = 46 ∨ c = 95 ∨ c = 45) : okc c = true := decide_eq_true h
theorem okc_no {c : Int} (h : ¬ ((97 ≤ c ∧ c ≤ 122) ∨ (48 ≤ c ∧ c ≤ 57) ∨ c = 46 ∨ c = 95 ∨ c = 45)) : okc c = false := decide_eq_false h
theorem ret_bool {a b : Bool} (h : a = b) : Ending.returned (.bool a) = .returned (.bool b) := by rw [h]
set_option maxHeartbeats 1000000 in
theorem ofAccount_any (c : Int) (w : World) : Calls Try.prog 53 #[.int .i32 c] w fun e w' => e = .returned (.bool (okc c)) ∧ w' = w := by
  go_enter Try.func53, Try.ntmps53
  go_wp2
  all_goals go_ret
  all_goals
    refine ⟨ret_bool ?_, rfl⟩
    rw [Bool.eq_iff_iff]
    simp [okc]
    try omega
/-- An account. -/
def acct (s : ByteArray) : Bool := decide (1 ≤ s.size ∧ s.size ≤ 32 ∧ ∀ i, (h : i < s.size) → okc ((s[i]'h).toNat : Int) = true)
theorem okc_high {c : Int} (h : 128 ≤ c) : okc c = false := okc_no (by omega)
theorem okc_low {c : Int} (h : okc c = true) : c < 128 := by have := of_decide_eq_true h; omega
set_option maxHeartbeats 1000000 in
theorem account_any (s : ByteArray) (w : World) (hl : s.size ≤ 140737488355328) : Calls Try.prog 17 #[.string s] w fun e w' => e = .returned (.bool (acct s)) ∧ Below w.heap.size w w' := by
  by_cases h1 : s.size < 1
  · have E : Hid (acct s = false) := decide_eq_false (by omega)
    have h1' : (s.size : Int) < 1 := by omega
    go_enter Try.func17, Try.ntmps17
    go_wp2
    go_ret
    exact ⟨by rw [E.out]; rfl, Below.refl _ _⟩
  by_cases h2 : 32 < s.size
  · have E : Hid (acct s = false) := decide_eq_false (by omega)
    have h1' : ¬ (s.size : Int) < 1 := by omega
    have h2' : (32 : Int) < (s.size : Int) := by omega
    go_enter Try.func17, Try.ntmps17
    go_wp2
    go_ret
    exact ⟨by rw [E.out]; rfl, Below.refl _ _⟩
  · have h1' : ¬ (s.size : Int) < 1 := by omega
    have h2' : ¬ (32 : Int) < (s.size : Int) := by omega
    go_enter Try.func17, Try.ntmps17
    go_wp2
    go_loopw [] (fun w' => ∃ pos : Nat, pos ≤ s.size ∧ w' = w.iter s pos ∧ ∀ i, (h : i < s.size) → i < pos → okc ((s[i]'h).toNat : Int) = true) (fun w' => s.size - w'.iterPos w.heap.size)
    case atStart => exact ⟨0, Nat.zero_le _, rfl, fun i _ h => absurd h (Nat.not_lt_zero i)⟩
    case round =>
      obtain ⟨pos, hp, rfl, hall⟩ := hrel
      have HA : Hid _ := hall
      clear hall
      by_cases hlt : pos < s.size
      · by_cases ha : (s[pos]'hlt).toNat < 128
        · have hnx : ∀ ty, (Instr.next (.pointer (some ⟨w.heap.size, 0, none⟩)) true ty).run Try.prog (w.iter s pos) = _ := fun ty => run_next_ascii w s pos ty hlt ha
          cases ho : okc ((s[pos]'hlt).toNat : Int) with
          | true =>
            have HO : Hid _ := ho
            obtain ⟨c, hc⟩ : ∃ c : Int, ((s[pos]'hlt).toNat : Int) = c := ⟨_, rfl⟩
            rw [hc] at hnx ho
            clear hc
            go_wp2_with (go_at_call 53; refine (ofAccount_any _ _).mono ?_; rintro e w' ⟨rfl, rfl⟩; rw [ho])
            go_roundw
            case rel =>
              refine ⟨pos + 1, hlt, rfl, fun i hi h => ?_⟩
              by_cases e : i = pos
              · subst e; exact HO.out
              · exact HA.out i hi (by omega)
            case measure => simp; omega
          | false =>
            have E : Hid (acct s = false) := decide_eq_false (fun h => by rw [h.2.2 pos hlt] at ho; cases ho)
            obtain ⟨c, hc⟩ : ∃ c : Int, ((s[pos]'hlt).toNat : Int) = c := ⟨_, rfl⟩
            rw [hc] at hnx ho
            clear hc
            go_wp2_with (go_at_call 53; refine (ofAccount_any _ _).mono ?_; rintro e w' ⟨rfl, rfl⟩; rw [ho])
            go_ret
            exact ⟨by rw [E.out]; rfl, (Below.refl _ w).alloc (Nat.le_refl _) _⟩
        · have hnx : ∀ ty, (Instr.next (.pointer (some ⟨w.heap.size, 0, none⟩)) true ty).run Try.prog (w.iter s pos) = _ := fun ty => run_next_any w s pos ty hlt
          have hh := (decode_high s pos hlt (by omega)).1
          have ho : okc ((Utf8.decode s pos).1 : Int) = false := okc_high (by omega)
          have E : Hid (acct s = false) := decide_eq_false (fun h => by have := okc_low (h.2.2 pos hlt); omega)
          obtain ⟨c, hc⟩ : ∃ c : Int, ((Utf8.decode s pos).1 : Int) = c := ⟨_, rfl⟩
          rw [hc] at hnx ho
          clear hc hh
          go_wp2_with (go_at_call 53; refine (ofAccount_any _ _).mono ?_; rintro e w' ⟨rfl, rfl⟩; rw [ho])
          go_ret
          exact ⟨by rw [E.out]; rfl, (Below.refl _ w).alloc (Nat.le_refl _) _⟩
      · have hnx : ∀ ty, (Instr.next (.pointer (some ⟨w.heap.size, 0, none⟩)) true ty).run Try.prog (w.iter s pos) = _ := fun ty => run_next_end w s pos ty hlt
        have E : Hid (acct s = true) := decide_eq_true ⟨by omega, by omega, fun i hi => HA.out i hi (by omega)⟩
        go_wp2
        go_ret
        exact ⟨by rw [E.out]; rfl, (Below.refl _ w).alloc (Nat.le_refl _) _⟩
end Go.Proofs.Ytfnmdeekenjlgaa
