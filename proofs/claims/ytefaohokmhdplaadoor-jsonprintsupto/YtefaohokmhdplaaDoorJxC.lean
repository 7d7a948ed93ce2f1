/- The reference for JSON: runes. -/
import Derived.Test.YtefaohokmhdplaaDoorJxA
namespace Go.Proofs.YtefaohokmhdplaaDoor
open Go Go.RowKit
set_option linter.unusedSimpArgs false
set_option linter.unusedVariables false
set_option maxRecDepth 100000

/-- The bytes behind the first one. -/
def ct (s : ByteArray) (i : Nat) : Nat → Nat → Int → Int
  | 0, _, v => v
  | f + 1, k, v => if gb s (i + k) / 64 = 2 then ct s i f (k + 1) (v * 64 + gb s (i + k) % 64) else -1
def rfin (n : Nat) (least v : Int) : Int := if v < least ∨ v > 1114111 ∨ (55296 ≤ v ∧ v < 57344) then 0 else (n : Int)
def rgo (s : ByteArray) (i n : Nat) (least v : Int) : Int := if s.size < i + n then 0 else rfin n least (ct s i (n - 1) 1 v)
theorem or64 (v q : Nat) (hv : v ≤ 131071) (hq : q < 64) : bits .or .i64 ((v : Int) * 64) (q : Int) = (v : Int) * 64 + (q : Int) := by
  have h : v * 64 ||| q = v * 64 + q := by
    have := Nat.two_pow_add_eq_or_of_lt (i := 6) (b := q) (by omega) v
    rw [Nat.mul_comm v 64]; exact this.symm
  show IntKind.i64.wrap ((BitVec.ofInt 64 ((v : Int) * 64) ||| BitVec.ofInt 64 (q : Int)).toNat : Int) = _
  rw [show ((v : Int) * 64) = ((v * 64 : Nat) : Int) by omega, BitVec.toNat_or, BitVec.ofInt_natCast, BitVec.ofInt_natCast, BitVec.toNat_ofNat, BitVec.toNat_ofNat, Nat.mod_eq_of_lt (by omega), Nat.mod_eq_of_lt (by omega), h, IntKind.wrap_i64]
  omega
theorem or64i {v : Int} (q : Nat) (h0 : 0 ≤ v) (hv : v ≤ 131071) : bits .or .i64 (v * 64) ((q : Int) % 64) = v * 64 + (q : Int) % 64 := by
  obtain ⟨n, rfl⟩ := Int.eq_ofNat_of_zero_le h0
  have := or64 n (q % 64) (by omega) (Nat.mod_lt _ (by decide))
  rw [show (((q % 64 : Nat)) : Int) = (q : Int) % 64 by omega] at this
  exact this
set_option maxHeartbeats 8000000 in
theorem rl_eq {s : ByteArray} {i : Nat} (h : i < s.size) : ((rl s i : Nat) : Int) = if gb s i < 128 then 1 else if gb s i / 32 = 6 then rgo s i 2 128 (gb s i % 32) else if gb s i / 16 = 14 then rgo s i 3 2048 (gb s i % 16) else if gb s i / 8 = 30 then rgo s i 4 65536 (gb s i % 8) else 0 := by
  have hs : ∀ j, gb s (i + j) ≠ 0 → i + j < s.size := fun j hj => gb_lt hj
  have h1 := hs 1; have h2 := hs 2; have h3 := hs 3
  obtain ⟨x0, e0⟩ : ∃ x, (s.get! i).toNat = x := ⟨_, rfl⟩
  obtain ⟨x1, e1⟩ : ∃ x, (s.get! (i + 1)).toNat = x := ⟨_, rfl⟩
  obtain ⟨x2, e2⟩ : ∃ x, (s.get! (i + 2)).toNat = x := ⟨_, rfl⟩
  obtain ⟨x3, e3⟩ : ∃ x, (s.get! (i + 3)).toNat = x := ⟨_, rfl⟩
  have b0 := (s.get! i).toNat_lt; have b1 := (s.get! (i + 1)).toNat_lt; have b2 := (s.get! (i + 2)).toNat_lt; have b3 := (s.get! (i + 3)).toNat_lt
  simp only [rgo, rfin, ct, Nat.add_one_sub_one, ← get_gb, e0, e1, e2, e3] at h1 h2 h3 b0 b1 b2 b3 ⊢
  simp only [rl, Utf8.decode, Nat.add_zero, e0, e1, e2, e3]
  clear e0 e1 e2 e3 hs
  by_cases c0 : x0 < 128
  · rw [if_pos c0]; simp only []; rw [if_neg (by omega), if_pos (by omega)]; rfl
  rw [if_neg c0, if_neg (by omega : ¬ (x0 : Int) < 128)]
  by_cases c2 : x0 / 32 = 6
  · rw [if_pos (by omega : (x0 : Int) / 32 = 6)]
    by_cases l1 : i + 1 < s.size <;> by_cases d1 : x1 / 64 = 2 <;> simp only [c2, l1, d1, beq_self_eq_true, decide_true, decide_false, Bool.and_self, Bool.and_true, Bool.and_false, Bool.true_and, Bool.false_and, if_true, beq_eq_false_iff_ne, ne_eq, not_false_eq_true, Bool.false_eq_true, if_false, Utf8.runeError] <;> (repeat' split) <;> simp_all [Utf8.runeError] <;> omega
  rw [if_neg (by omega : ¬ (x0 : Int) / 32 = 6)]
  by_cases c3 : x0 / 16 = 14
  · rw [if_pos (by omega : (x0 : Int) / 16 = 14)]
    by_cases l2 : i + 2 < s.size <;> by_cases d1 : x1 / 64 = 2 <;> by_cases d2 : x2 / 64 = 2 <;> simp only [c2, c3, l2, d1, d2, beq_self_eq_true, decide_true, decide_false, Bool.and_self, Bool.and_true, Bool.and_false, Bool.true_and, Bool.false_and, if_true, beq_eq_false_iff_ne, ne_eq, not_false_eq_true, Bool.false_eq_true, if_false, Utf8.runeError] <;> (repeat' split) <;> simp_all [Utf8.runeError, Utf8.valid] <;> omega
  rw [if_neg (by omega : ¬ (x0 : Int) / 16 = 14)]
  by_cases c4 : x0 / 8 = 30
  · rw [if_pos (by omega : (x0 : Int) / 8 = 30)]
    by_cases l3 : i + 3 < s.size <;> by_cases d1 : x1 / 64 = 2 <;> by_cases d2 : x2 / 64 = 2 <;> by_cases d3 : x3 / 64 = 2 <;> simp only [c2, c3, c4, l3, d1, d2, d3, beq_self_eq_true, decide_true, decide_false, Bool.and_self, Bool.and_true, Bool.and_false, Bool.true_and, Bool.false_and, if_true, beq_eq_false_iff_ne, ne_eq, not_false_eq_true, Bool.false_eq_true, if_false, Utf8.runeError] <;> (repeat' split) <;> simp_all [Utf8.runeError, Utf8.valid] <;> omega
  rw [if_neg (by omega : ¬ (x0 : Int) / 8 = 30)]
  simp [c2, c3, c4, Utf8.runeError]
set_option maxHeartbeats 8000000 in
theorem rRune_2 (s : ByteArray) (i : Nat) (hi : i < s.size) (hs : s.size ≤ 140737488355328) (w : World) (c : Nat) (hc : (s[i]'hi).toNat = c) (h0 : ¬ (c : Int) < 128) (h1 : (c : Int) / 32 = 6) : Calls Tryd.prog 58 #[.string s, .int .i64 (i : Int)] w fun e w' => e = .returned (.int .i64 (rgo s i 2 128 ((c : Int) % 32))) ∧ w' = w := by
  have hii : (i : Int) < (s.size : Int) := by omega
  have hbi : (i : Int) ≤ 140737488355328 := by omega
  have hb0 : (0 : Int) ≤ (i : Int) := by omega
  by_cases hl : s.size < i + 2
  · have HR : Hid (rgo s i 2 128 ((c : Int) % 32) = 0) := by show _ = _; unfold rgo; rw [if_pos hl]
    have hl' : (s.size : Int) < (i : Int) + 2 := by omega
    rw [HR.out]
    go_enter Tryd.func58, Tryd.ntmps58
    go_wp2
    go_ret
    exact ⟨rfl, rfl⟩
  have hl' : ¬ (s.size : Int) < (i : Int) + 2 := by omega
  obtain ⟨R, hR⟩ : ∃ R, rgo s i 2 128 ((c : Int) % 32) = R := ⟨_, rfl⟩
  have HR : Hid (rfin 2 128 (ct s i 1 1 ((c : Int) % 32)) = R) := by show _ = _; rw [← hR]; unfold rgo; rw [if_neg hl]
  rw [hR]
  obtain ⟨v0, hv0⟩ : ∃ v0, (c : Int) % 32 = v0 := ⟨_, rfl⟩
  have hvb : 0 ≤ v0 ∧ v0 ≤ 31 := by omega
  rw [hv0] at HR
  clear hR
  go_enter Tryd.func58, Tryd.ntmps58
  go_wp2
  go_loop [8, 9] (fun v8 v9 => ∃ (k : Nat) (v : Int), v9 = .int .i64 (k : Int) ∧ v8 = .int .i64 v ∧ 1 ≤ k ∧ k ≤ 2 ∧ 0 ≤ v ∧ Hid (((k = 1 ∧ v ≤ 31) ∨ (k = 2 ∧ v ≤ 2047) ∨ (k = 3 ∧ v ≤ 131071) ∨ (k = 4 ∧ v ≤ 8388607)) ∧ ct s i (2 - k) k v = ct s i 1 1 v0)) (fun _ v9 => 2 - (intOf v9).toNat)
  case atStart => exact ⟨1, v0, rfl, by first | rfl | rw [hv0], by omega, by omega, hvb.1, .inl ⟨rfl, hvb.2⟩, rfl⟩
  case round =>
    obtain ⟨k, v, rfl, rfl, hk1, hk2, hv, hh⟩ := hrel
    by_cases hkn : k < 2
    · have hki : i + k < s.size := by omega
      have HX : Hid _ := idx_gb hki
      obtain ⟨q, hq⟩ : ∃ q, (s[i + k]'hki).toNat = q := ⟨_, rfl⟩
      have HQ : Hid (gb s (i + k) = (q : Int)) := by show _ = _; rw [← hq]; exact HX.out.symm
      have hv9 : v ≤ 131071 := by have := hh.out.1; omega
      have hki' : (i : Int) + (k : Int) < (s.size : Int) := by omega
      have HC : Hid (ct s i (2 - k) k v = if (q : Int) / 64 = 2 then ct s i (2 - (k + 1)) (k + 1) (v * 64 + (q : Int) % 64) else -1) := by
        show _ = _
        rw [show 2 - k = (2 - (k + 1)) + 1 by omega]; simp only [ct, HQ.out]
      clear HX HQ
      by_cases h2 : (q : Int) / 64 = 2
      · have hor : bits .or .i64 (v * 64) ((q : Int) % 64) = v * 64 + (q : Int) % 64 := or64i q hv hv9
        have HN : Hid (((k + 1 = 1 ∧ v * 64 + (q : Int) % 64 ≤ 31) ∨ (k + 1 = 2 ∧ v * 64 + (q : Int) % 64 ≤ 2047) ∨ (k + 1 = 3 ∧ v * 64 + (q : Int) % 64 ≤ 131071) ∨ (k + 1 = 4 ∧ v * 64 + (q : Int) % 64 ≤ 8388607)) ∧ ct s i (2 - (k + 1)) (k + 1) (v * 64 + (q : Int) % 64) = ct s i 1 1 v0) := by
          obtain ⟨p, r⟩ := hh.out
          refine ⟨by omega, ?_⟩
          rw [← r, HC.out, if_pos h2]
        clear HC hh
        go_wp2
        exact ⟨⟨k + 1, v * 64 + (q : Int) % 64, by first | rfl | (congr 1; omega), by first | rfl | rw [hor], by omega, by omega, by omega, HN⟩, by simp [intOf]; omega⟩
      · have HRR : Hid (R = 0) := by
          show _ = _
          rw [← HR.out, ← hh.out.2, HC.out, if_neg h2]; rfl
        clear HC hh
        go_wp2
        go_ret
        exact ⟨by rw [HRR.out]; rfl, rfl⟩
    · have hkn' : ¬ (k : Int) < 2 := by omega
      have HV : Hid (rfin 2 128 v = R) := by
        show _ = _
        rw [← HR.out, ← hh.out.2, show 2 - k = 0 by omega]; rfl
      clear hh
      by_cases a1 : v < 128
      · have HRR : Hid (R = 0) := by show _ = _; rw [← HV.out]; unfold rfin; rw [if_pos (.inl a1)]
        go_wp2
        go_ret
        exact ⟨by rw [HRR.out]; rfl, rfl⟩
      by_cases a2 : 1114111 < v
      · have HRR : Hid (R = 0) := by show _ = _; rw [← HV.out]; unfold rfin; rw [if_pos (.inr (.inl a2))]
        go_wp2
        go_ret
        exact ⟨by rw [HRR.out]; rfl, rfl⟩
      by_cases a3 : 55296 ≤ v
      · by_cases a4 : v < 57344
        · have HRR : Hid (R = 0) := by show _ = _; rw [← HV.out]; unfold rfin; rw [if_pos (.inr (.inr ⟨a3, a4⟩))]
          go_wp2
          go_ret
          exact ⟨by rw [HRR.out]; rfl, rfl⟩
        · have HRR : Hid (R = 2) := by show _ = _; rw [← HV.out]; unfold rfin; rw [if_neg (by omega)]; rfl
          go_wp2
          go_ret
          exact ⟨by rw [HRR.out]; rfl, rfl⟩
      · have HRR : Hid (R = 2) := by show _ = _; rw [← HV.out]; unfold rfin; rw [if_neg (by omega)]; rfl
        go_wp2
        go_ret
        exact ⟨by rw [HRR.out]; rfl, rfl⟩
set_option maxHeartbeats 8000000 in
theorem rRune_3 (s : ByteArray) (i : Nat) (hi : i < s.size) (hs : s.size ≤ 140737488355328) (w : World) (c : Nat) (hc : (s[i]'hi).toNat = c) (h0 : ¬ (c : Int) < 128) (h1 : ¬ (c : Int) / 32 = 6) (h2 : (c : Int) / 16 = 14) : Calls Tryd.prog 58 #[.string s, .int .i64 (i : Int)] w fun e w' => e = .returned (.int .i64 (rgo s i 3 2048 ((c : Int) % 16))) ∧ w' = w := by
  have hii : (i : Int) < (s.size : Int) := by omega
  have hbi : (i : Int) ≤ 140737488355328 := by omega
  have hb0 : (0 : Int) ≤ (i : Int) := by omega
  by_cases hl : s.size < i + 3
  · have HR : Hid (rgo s i 3 2048 ((c : Int) % 16) = 0) := by show _ = _; unfold rgo; rw [if_pos hl]
    have hl' : (s.size : Int) < (i : Int) + 3 := by omega
    rw [HR.out]
    go_enter Tryd.func58, Tryd.ntmps58
    go_wp2
    go_ret
    exact ⟨rfl, rfl⟩
  have hl' : ¬ (s.size : Int) < (i : Int) + 3 := by omega
  obtain ⟨R, hR⟩ : ∃ R, rgo s i 3 2048 ((c : Int) % 16) = R := ⟨_, rfl⟩
  have HR : Hid (rfin 3 2048 (ct s i 2 1 ((c : Int) % 16)) = R) := by show _ = _; rw [← hR]; unfold rgo; rw [if_neg hl]
  rw [hR]
  obtain ⟨v0, hv0⟩ : ∃ v0, (c : Int) % 16 = v0 := ⟨_, rfl⟩
  have hvb : 0 ≤ v0 ∧ v0 ≤ 31 := by omega
  rw [hv0] at HR
  clear hR
  go_enter Tryd.func58, Tryd.ntmps58
  go_wp2
  go_loop [8, 9] (fun v8 v9 => ∃ (k : Nat) (v : Int), v9 = .int .i64 (k : Int) ∧ v8 = .int .i64 v ∧ 1 ≤ k ∧ k ≤ 3 ∧ 0 ≤ v ∧ Hid (((k = 1 ∧ v ≤ 31) ∨ (k = 2 ∧ v ≤ 2047) ∨ (k = 3 ∧ v ≤ 131071) ∨ (k = 4 ∧ v ≤ 8388607)) ∧ ct s i (3 - k) k v = ct s i 2 1 v0)) (fun _ v9 => 3 - (intOf v9).toNat)
  case atStart => exact ⟨1, v0, rfl, by first | rfl | rw [hv0], by omega, by omega, hvb.1, .inl ⟨rfl, hvb.2⟩, rfl⟩
  case round =>
    obtain ⟨k, v, rfl, rfl, hk1, hk2, hv, hh⟩ := hrel
    by_cases hkn : k < 3
    · have hki : i + k < s.size := by omega
      have HX : Hid _ := idx_gb hki
      obtain ⟨q, hq⟩ : ∃ q, (s[i + k]'hki).toNat = q := ⟨_, rfl⟩
      have HQ : Hid (gb s (i + k) = (q : Int)) := by show _ = _; rw [← hq]; exact HX.out.symm
      have hv9 : v ≤ 131071 := by have := hh.out.1; omega
      have hki' : (i : Int) + (k : Int) < (s.size : Int) := by omega
      have HC : Hid (ct s i (3 - k) k v = if (q : Int) / 64 = 2 then ct s i (3 - (k + 1)) (k + 1) (v * 64 + (q : Int) % 64) else -1) := by
        show _ = _
        rw [show 3 - k = (3 - (k + 1)) + 1 by omega]; simp only [ct, HQ.out]
      clear HX HQ
      by_cases h2 : (q : Int) / 64 = 2
      · have hor : bits .or .i64 (v * 64) ((q : Int) % 64) = v * 64 + (q : Int) % 64 := or64i q hv hv9
        have HN : Hid (((k + 1 = 1 ∧ v * 64 + (q : Int) % 64 ≤ 31) ∨ (k + 1 = 2 ∧ v * 64 + (q : Int) % 64 ≤ 2047) ∨ (k + 1 = 3 ∧ v * 64 + (q : Int) % 64 ≤ 131071) ∨ (k + 1 = 4 ∧ v * 64 + (q : Int) % 64 ≤ 8388607)) ∧ ct s i (3 - (k + 1)) (k + 1) (v * 64 + (q : Int) % 64) = ct s i 2 1 v0) := by
          obtain ⟨p, r⟩ := hh.out
          refine ⟨by omega, ?_⟩
          rw [← r, HC.out, if_pos h2]
        clear HC hh
        go_wp2
        exact ⟨⟨k + 1, v * 64 + (q : Int) % 64, by first | rfl | (congr 1; omega), by first | rfl | rw [hor], by omega, by omega, by omega, HN⟩, by simp [intOf]; omega⟩
      · have HRR : Hid (R = 0) := by
          show _ = _
          rw [← HR.out, ← hh.out.2, HC.out, if_neg h2]; rfl
        clear HC hh
        go_wp2
        go_ret
        exact ⟨by rw [HRR.out]; rfl, rfl⟩
    · have hkn' : ¬ (k : Int) < 3 := by omega
      have HV : Hid (rfin 3 2048 v = R) := by
        show _ = _
        rw [← HR.out, ← hh.out.2, show 3 - k = 0 by omega]; rfl
      clear hh
      by_cases a1 : v < 2048
      · have HRR : Hid (R = 0) := by show _ = _; rw [← HV.out]; unfold rfin; rw [if_pos (.inl a1)]
        go_wp2
        go_ret
        exact ⟨by rw [HRR.out]; rfl, rfl⟩
      by_cases a2 : 1114111 < v
      · have HRR : Hid (R = 0) := by show _ = _; rw [← HV.out]; unfold rfin; rw [if_pos (.inr (.inl a2))]
        go_wp2
        go_ret
        exact ⟨by rw [HRR.out]; rfl, rfl⟩
      by_cases a3 : 55296 ≤ v
      · by_cases a4 : v < 57344
        · have HRR : Hid (R = 0) := by show _ = _; rw [← HV.out]; unfold rfin; rw [if_pos (.inr (.inr ⟨a3, a4⟩))]
          go_wp2
          go_ret
          exact ⟨by rw [HRR.out]; rfl, rfl⟩
        · have HRR : Hid (R = 3) := by show _ = _; rw [← HV.out]; unfold rfin; rw [if_neg (by omega)]; rfl
          go_wp2
          go_ret
          exact ⟨by rw [HRR.out]; rfl, rfl⟩
      · have HRR : Hid (R = 3) := by show _ = _; rw [← HV.out]; unfold rfin; rw [if_neg (by omega)]; rfl
        go_wp2
        go_ret
        exact ⟨by rw [HRR.out]; rfl, rfl⟩
set_option maxHeartbeats 8000000 in
theorem rRune_4 (s : ByteArray) (i : Nat) (hi : i < s.size) (hs : s.size ≤ 140737488355328) (w : World) (c : Nat) (hc : (s[i]'hi).toNat = c) (h0 : ¬ (c : Int) < 128) (h1 : ¬ (c : Int) / 32 = 6) (h2 : ¬ (c : Int) / 16 = 14) (h3 : (c : Int) / 8 = 30) : Calls Tryd.prog 58 #[.string s, .int .i64 (i : Int)] w fun e w' => e = .returned (.int .i64 (rgo s i 4 65536 ((c : Int) % 8))) ∧ w' = w := by
  have hii : (i : Int) < (s.size : Int) := by omega
  have hbi : (i : Int) ≤ 140737488355328 := by omega
  have hb0 : (0 : Int) ≤ (i : Int) := by omega
  by_cases hl : s.size < i + 4
  · have HR : Hid (rgo s i 4 65536 ((c : Int) % 8) = 0) := by show _ = _; unfold rgo; rw [if_pos hl]
    have hl' : (s.size : Int) < (i : Int) + 4 := by omega
    rw [HR.out]
    go_enter Tryd.func58, Tryd.ntmps58
    go_wp2
    go_ret
    exact ⟨rfl, rfl⟩
  have hl' : ¬ (s.size : Int) < (i : Int) + 4 := by omega
  obtain ⟨R, hR⟩ : ∃ R, rgo s i 4 65536 ((c : Int) % 8) = R := ⟨_, rfl⟩
  have HR : Hid (rfin 4 65536 (ct s i 3 1 ((c : Int) % 8)) = R) := by show _ = _; rw [← hR]; unfold rgo; rw [if_neg hl]
  rw [hR]
  obtain ⟨v0, hv0⟩ : ∃ v0, (c : Int) % 8 = v0 := ⟨_, rfl⟩
  have hvb : 0 ≤ v0 ∧ v0 ≤ 31 := by omega
  rw [hv0] at HR
  clear hR
  go_enter Tryd.func58, Tryd.ntmps58
  go_wp2
  go_loop [8, 9] (fun v8 v9 => ∃ (k : Nat) (v : Int), v9 = .int .i64 (k : Int) ∧ v8 = .int .i64 v ∧ 1 ≤ k ∧ k ≤ 4 ∧ 0 ≤ v ∧ Hid (((k = 1 ∧ v ≤ 31) ∨ (k = 2 ∧ v ≤ 2047) ∨ (k = 3 ∧ v ≤ 131071) ∨ (k = 4 ∧ v ≤ 8388607)) ∧ ct s i (4 - k) k v = ct s i 3 1 v0)) (fun _ v9 => 4 - (intOf v9).toNat)
  case atStart => exact ⟨1, v0, rfl, by first | rfl | rw [hv0], by omega, by omega, hvb.1, .inl ⟨rfl, hvb.2⟩, rfl⟩
  case round =>
    obtain ⟨k, v, rfl, rfl, hk1, hk2, hv, hh⟩ := hrel
    by_cases hkn : k < 4
    · have hki : i + k < s.size := by omega
      have HX : Hid _ := idx_gb hki
      obtain ⟨q, hq⟩ : ∃ q, (s[i + k]'hki).toNat = q := ⟨_, rfl⟩
      have HQ : Hid (gb s (i + k) = (q : Int)) := by show _ = _; rw [← hq]; exact HX.out.symm
      have hv9 : v ≤ 131071 := by have := hh.out.1; omega
      have hki' : (i : Int) + (k : Int) < (s.size : Int) := by omega
      have HC : Hid (ct s i (4 - k) k v = if (q : Int) / 64 = 2 then ct s i (4 - (k + 1)) (k + 1) (v * 64 + (q : Int) % 64) else -1) := by
        show _ = _
        rw [show 4 - k = (4 - (k + 1)) + 1 by omega]; simp only [ct, HQ.out]
      clear HX HQ
      by_cases h2 : (q : Int) / 64 = 2
      · have hor : bits .or .i64 (v * 64) ((q : Int) % 64) = v * 64 + (q : Int) % 64 := or64i q hv hv9
        have HN : Hid (((k + 1 = 1 ∧ v * 64 + (q : Int) % 64 ≤ 31) ∨ (k + 1 = 2 ∧ v * 64 + (q : Int) % 64 ≤ 2047) ∨ (k + 1 = 3 ∧ v * 64 + (q : Int) % 64 ≤ 131071) ∨ (k + 1 = 4 ∧ v * 64 + (q : Int) % 64 ≤ 8388607)) ∧ ct s i (4 - (k + 1)) (k + 1) (v * 64 + (q : Int) % 64) = ct s i 3 1 v0) := by
          obtain ⟨p, r⟩ := hh.out
          refine ⟨by omega, ?_⟩
          rw [← r, HC.out, if_pos h2]
        clear HC hh
        go_wp2
        exact ⟨⟨k + 1, v * 64 + (q : Int) % 64, by first | rfl | (congr 1; omega), by first | rfl | rw [hor], by omega, by omega, by omega, HN⟩, by simp [intOf]; omega⟩
      · have HRR : Hid (R = 0) := by
          show _ = _
          rw [← HR.out, ← hh.out.2, HC.out, if_neg h2]; rfl
        clear HC hh
        go_wp2
        go_ret
        exact ⟨by rw [HRR.out]; rfl, rfl⟩
    · have hkn' : ¬ (k : Int) < 4 := by omega
      have HV : Hid (rfin 4 65536 v = R) := by
        show _ = _
        rw [← HR.out, ← hh.out.2, show 4 - k = 0 by omega]; rfl
      clear hh
      by_cases a1 : v < 65536
      · have HRR : Hid (R = 0) := by show _ = _; rw [← HV.out]; unfold rfin; rw [if_pos (.inl a1)]
        go_wp2
        go_ret
        exact ⟨by rw [HRR.out]; rfl, rfl⟩
      by_cases a2 : 1114111 < v
      · have HRR : Hid (R = 0) := by show _ = _; rw [← HV.out]; unfold rfin; rw [if_pos (.inr (.inl a2))]
        go_wp2
        go_ret
        exact ⟨by rw [HRR.out]; rfl, rfl⟩
      by_cases a3 : 55296 ≤ v
      · by_cases a4 : v < 57344
        · have HRR : Hid (R = 0) := by show _ = _; rw [← HV.out]; unfold rfin; rw [if_pos (.inr (.inr ⟨a3, a4⟩))]
          go_wp2
          go_ret
          exact ⟨by rw [HRR.out]; rfl, rfl⟩
        · have HRR : Hid (R = 4) := by show _ = _; rw [← HV.out]; unfold rfin; rw [if_neg (by omega)]; rfl
          go_wp2
          go_ret
          exact ⟨by rw [HRR.out]; rfl, rfl⟩
      · have HRR : Hid (R = 4) := by show _ = _; rw [← HV.out]; unfold rfin; rw [if_neg (by omega)]; rfl
        go_wp2
        go_ret
        exact ⟨by rw [HRR.out]; rfl, rfl⟩
theorem rRune_any {s : ByteArray} {i : Nat} (hi : i < s.size) (hs : s.size ≤ 140737488355328) (w : World) : Calls Tryd.prog 58 #[.string s, .int .i64 (i : Int)] w fun e w' => e = .returned (.int .i64 ((rl s i : Nat) : Int)) ∧ w' = w := by
  have hr := rl_eq hi
  obtain ⟨c, hc⟩ : ∃ c, (s[i]'hi).toNat = c := ⟨_, rfl⟩
  have hg : gb s i = (c : Int) := by rw [← hc]; exact gb_in hi
  rw [hg] at hr
  rw [hr]
  clear hr hg
  by_cases h0 : (c : Int) < 128
  · rw [if_pos h0]
    go_enter Tryd.func58, Tryd.ntmps58
    go_wp2
    go_ret
    exact ⟨rfl, rfl⟩
  rw [if_neg h0]
  by_cases h1 : (c : Int) / 32 = 6
  · rw [if_pos h1]; exact rRune_2 s i hi hs w c hc h0 h1
  rw [if_neg h1]
  by_cases h2 : (c : Int) / 16 = 14
  · rw [if_pos h2]; exact rRune_3 s i hi hs w c hc h0 h1 h2
  rw [if_neg h2]
  by_cases h3 : (c : Int) / 8 = 30
  · rw [if_pos h3]; exact rRune_4 s i hi hs w c hc h0 h1 h2 h3
  rw [if_neg h3]
  go_enter Tryd.func58, Tryd.ntmps58
  go_wp2
  go_ret
  exact ⟨rfl, rfl⟩
end Go.Proofs.YtefaohokmhdplaaDoor
