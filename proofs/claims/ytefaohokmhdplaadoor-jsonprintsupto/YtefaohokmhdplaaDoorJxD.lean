/- The reference for JSON: a rune's bytes; four digits. -/
import Derived.Test.YtefaohokmhdplaaDoorJxA
namespace Go.Proofs.YtefaohokmhdplaaDoor
open Go Go.RowKit
set_option linter.unusedSimpArgs false
set_option linter.unusedVariables false
set_option maxRecDepth 100000

theorem or_all : ∀ x : Fin 64, bits .or .i64 128 (x.val : Int) = 128 + (x.val : Int) ∧ bits .or .i64 192 (x.val : Int) = 192 + (x.val : Int) ∧ (x.val < 32 → bits .or .i64 224 (x.val : Int) = 224 + (x.val : Int)) ∧ (x.val < 16 → bits .or .i64 240 (x.val : Int) = 240 + (x.val : Int)) := by decide +kernel
theorem or_of {x : Int} (h0 : 0 ≤ x) (h1 : x < 64) : bits .or .i64 128 x = 128 + x ∧ bits .or .i64 192 x = 192 + x ∧ (x < 32 → bits .or .i64 224 x = 224 + x) ∧ (x < 16 → bits .or .i64 240 x = 240 + x) := by
  have := or_all ⟨x.toNat, by omega⟩
  rw [show ((⟨x.toNat, by omega⟩ : Fin 64).val : Int) = x by simp; omega] at this
  exact ⟨this.1, this.2.1, fun h => this.2.2.1 (by simp; omega), fun h => this.2.2.2 (by simp; omega)⟩
theorem and63 {x : Int} (h0 : 0 ≤ x) (h1 : x ≤ 1114111) : bits .and .i64 x 63 = x % 64 := by
  obtain ⟨n, rfl⟩ := Int.eq_ofNat_of_zero_le h0
  show IntKind.i64.wrap ((BitVec.ofInt 64 (n : Int) &&& BitVec.ofInt 64 63).toNat : Int) = _
  rw [BitVec.toNat_and, show (BitVec.ofInt 64 63).toNat = 2 ^ 6 - 1 from by decide, Nat.and_two_pow_sub_one_eq_mod, BitVec.ofInt_natCast, BitVec.toNat_ofNat, Nat.mod_eq_of_lt (by omega : n < 2 ^ 64), IntKind.wrap_i64]
  omega
theorem sl_lit (w : World) (xs : List Int) (t : TypeId) (hn : xs ≠ []) : Sl (w.alloc (.cells (bv xs).toArray t)) (.slice (some ⟨w.heap.size, 0, none⟩) xs.length xs.length) xs := by
  refine ⟨_, xs.length, rfl, Nat.le_refl _, .inr ⟨_, 0, rfl, by simp, fun i hi => ?_⟩⟩
  rw [Nat.zero_add, cell_alloc]
  simpa using bv_get xs hi
set_option maxHeartbeats 4000000 in
theorem rutf_any {v : Int} (h0 : 0 ≤ v) (h1 : v ≤ 1114111) (h2 : v < 55296 ∨ 57343 < v) (w : World) :
    Calls Tryd.prog 59 #[.int .i64 v] w fun e w' => e = .returned (.string (sb (Lib.encodeRuneZ v))) ∧ Below w.heap.size w w' := by
  by_cases c1 : v < 128
  · have HE : Hid (Lib.encodeRuneZ v = [v]) := Lib.encodeRuneZ_one h0 (by omega)
    have HB : Hid (Below w.heap.size w (w.alloc (.cells #[.int .u8 v] 5))) := (Below.refl _ _).alloc (Nat.le_refl _) _
    have hS : (convert 76 9 (.slice (some ⟨w.heap.size, 0, none⟩) 1 1)).run Tryd.prog (w.alloc (.cells #[.int .u8 v] 5)) = .ok (.string (strOfNums [v])) (w.alloc (.cells #[.int .u8 v] 5)) := (sl_lit w [v] 5 (by simp)).str
    rw [HE.out]
    go_enter Tryd.func59, Tryd.ntmps59
    go_wp2
    go_ret
    exact ⟨rfl, HB.out⟩
  by_cases c2 : v < 2048
  · have HE : Hid (Lib.encodeRuneZ v = [192 + v / 64, 128 + v % 64]) := Lib.encodeRuneZ_two (by omega) (by omega)
    have n1 := and63 (x := v) (by omega) (by omega)
    have o1 := (or_of (x := v / 64) (by omega) (by omega)).2.1
    have o2 := (or_of (x := v % 64) (by omega) (by omega)).1
    have w1 : IntKind.u8.wrap (192 + v / 64) = 192 + v / 64 := by rw [IntKind.wrap_u8]; omega
    have w2 : IntKind.u8.wrap (128 + v % 64) = 128 + v % 64 := by rw [IntKind.wrap_u8]; omega
    have HB : Hid (Below w.heap.size w (w.alloc (.cells #[.int .u8 (192 + v / 64), .int .u8 (128 + v % 64)] 5))) := (Below.refl _ _).alloc (Nat.le_refl _) _
    have hS : (convert 76 9 (.slice (some ⟨w.heap.size, 0, none⟩) 2 2)).run Tryd.prog (w.alloc (.cells #[.int .u8 (192 + v / 64), .int .u8 (128 + v % 64)] 5)) = .ok (.string (strOfNums [192 + v / 64, 128 + v % 64])) (w.alloc (.cells #[.int .u8 (192 + v / 64), .int .u8 (128 + v % 64)] 5)) := (sl_lit w [192 + v / 64, 128 + v % 64] 5 (by simp)).str
    rw [HE.out]
    go_enter Tryd.func59, Tryd.ntmps59
    go_wp2
    go_ret
    exact ⟨rfl, HB.out⟩
  by_cases c3 : v < 65536
  · have HE : Hid (Lib.encodeRuneZ v = [224 + v / 4096, 128 + v / 64 % 64, 128 + v % 64]) := Lib.encodeRuneZ_three (by omega)
    have n1 := and63 (x := v) (by omega) (by omega)
    have n2 := and63 (x := v / 64) (by omega) (by omega)
    have o1 := (or_of (x := v / 4096) (by omega) (by omega)).2.2.1 (by omega)
    have o2 := (or_of (x := v / 64 % 64) (by omega) (by omega)).1
    have o3 := (or_of (x := v % 64) (by omega) (by omega)).1
    have w1 : IntKind.u8.wrap (224 + v / 4096) = 224 + v / 4096 := by rw [IntKind.wrap_u8]; omega
    have w2 : IntKind.u8.wrap (128 + v / 64 % 64) = 128 + v / 64 % 64 := by rw [IntKind.wrap_u8]; omega
    have w3 : IntKind.u8.wrap (128 + v % 64) = 128 + v % 64 := by rw [IntKind.wrap_u8]; omega
    have HB : Hid (Below w.heap.size w (w.alloc (.cells #[.int .u8 (224 + v / 4096), .int .u8 (128 + v / 64 % 64), .int .u8 (128 + v % 64)] 5))) := (Below.refl _ _).alloc (Nat.le_refl _) _
    have hS : (convert 76 9 (.slice (some ⟨w.heap.size, 0, none⟩) 3 3)).run Tryd.prog (w.alloc (.cells #[.int .u8 (224 + v / 4096), .int .u8 (128 + v / 64 % 64), .int .u8 (128 + v % 64)] 5)) = .ok (.string (strOfNums [224 + v / 4096, 128 + v / 64 % 64, 128 + v % 64])) (w.alloc (.cells #[.int .u8 (224 + v / 4096), .int .u8 (128 + v / 64 % 64), .int .u8 (128 + v % 64)] 5)) := (sl_lit w [224 + v / 4096, 128 + v / 64 % 64, 128 + v % 64] 5 (by simp)).str
    rw [HE.out]
    go_enter Tryd.func59, Tryd.ntmps59
    go_wp2
    go_ret
    exact ⟨rfl, HB.out⟩
  · have HE : Hid (Lib.encodeRuneZ v = [240 + v / 262144, 128 + v / 4096 % 64, 128 + v / 64 % 64, 128 + v % 64]) := Lib.encodeRuneZ_four (by omega) (by omega)
    have n1 := and63 (x := v) (by omega) (by omega)
    have n2 := and63 (x := v / 64) (by omega) (by omega)
    have n3 := and63 (x := v / 4096) (by omega) (by omega)
    have o0 := (or_of (x := v / 262144) (by omega) (by omega)).2.2.2 (by omega)
    have o1 := (or_of (x := v / 4096 % 64) (by omega) (by omega)).1
    have o2 := (or_of (x := v / 64 % 64) (by omega) (by omega)).1
    have o3 := (or_of (x := v % 64) (by omega) (by omega)).1
    have w0 : IntKind.u8.wrap (240 + v / 262144) = 240 + v / 262144 := by rw [IntKind.wrap_u8]; omega
    have w1 : IntKind.u8.wrap (128 + v / 4096 % 64) = 128 + v / 4096 % 64 := by rw [IntKind.wrap_u8]; omega
    have w2 : IntKind.u8.wrap (128 + v / 64 % 64) = 128 + v / 64 % 64 := by rw [IntKind.wrap_u8]; omega
    have w3 : IntKind.u8.wrap (128 + v % 64) = 128 + v % 64 := by rw [IntKind.wrap_u8]; omega
    have HB : Hid (Below w.heap.size w (w.alloc (.cells #[.int .u8 (240 + v / 262144), .int .u8 (128 + v / 4096 % 64), .int .u8 (128 + v / 64 % 64), .int .u8 (128 + v % 64)] 5))) := (Below.refl _ _).alloc (Nat.le_refl _) _
    have hS : (convert 76 9 (.slice (some ⟨w.heap.size, 0, none⟩) 4 4)).run Tryd.prog (w.alloc (.cells #[.int .u8 (240 + v / 262144), .int .u8 (128 + v / 4096 % 64), .int .u8 (128 + v / 64 % 64), .int .u8 (128 + v % 64)] 5)) = .ok (.string (strOfNums [240 + v / 262144, 128 + v / 4096 % 64, 128 + v / 64 % 64, 128 + v % 64])) (w.alloc (.cells #[.int .u8 (240 + v / 262144), .int .u8 (128 + v / 4096 % 64), .int .u8 (128 + v / 64 % 64), .int .u8 (128 + v % 64)] 5)) := (sl_lit w [240 + v / 262144, 128 + v / 4096 % 64, 128 + v / 64 % 64, 128 + v % 64] 5 (by simp)).str
    rw [HE.out]
    go_enter Tryd.func59, Tryd.ntmps59
    go_wp2
    go_ret
    exact ⟨rfl, HB.out⟩
theorem ha_at (t : ByteArray) (k : Nat) : ha t 4 k 0 = u4d t k := by
  unfold u4d
  simp only [ha, Nat.add_assoc, Nat.reduceAdd]
  repeat' split
  all_goals omega
theorem hx_cases (c : Int) (h0 : 0 ≤ c) (h1 : c ≤ 255) : (isDg c = true ∧ 48 ≤ c ∧ c ≤ 57 ∧ hxv c = c - 48) ∨ (isDg c = false ∧ ((97 ≤ c ∧ c ≤ 102 ∧ hxv c = c - 87) ∨ (¬ (97 ≤ c ∧ c ≤ 102) ∧ 65 ≤ c ∧ c ≤ 70 ∧ hxv c = c - 55) ∨ (¬ (97 ≤ c ∧ c ≤ 102) ∧ ¬ (65 ≤ c ∧ c ≤ 70) ∧ hxv c = -1))) := by
  unfold hxv
  by_cases a : 48 ≤ c ∧ c ≤ 57
  · left; exact ⟨isDg_yes a, a.1, a.2, by rw [if_pos a]⟩
  · right
    refine ⟨isDg_no a, ?_⟩
    rw [if_neg a]
    by_cases b : 97 ≤ c ∧ c ≤ 102
    · left; exact ⟨b.1, b.2, by rw [if_pos b]⟩
    · right
      rw [if_neg b]
      by_cases d : 65 ≤ c ∧ c ≤ 70
      · left; exact ⟨b, d.1, d.2, by rw [if_pos d]⟩
      · right; exact ⟨b, d, by rw [if_neg d]⟩
set_option maxHeartbeats 8000000 in
theorem rfour_any {s : ByteArray} {i : Nat} (hi : i ≤ s.size) (hs : s.size ≤ 8192) (w : World) :
    Calls Tryd.prog 76 #[.string s, .int .i64 (i : Int)] w fun e w' => e = .returned (.int .i64 (u4 s i)) ∧ w' = w := by
  have hb9 : (i : Int) ≤ 8192 := by omega
  have hb8 : (0 : Int) ≤ (i : Int) := by omega
  have hs9 : (s.size : Int) ≤ 8192 := by omega
  by_cases h6 : s.size < i + 6
  · have h6' : (s.size : Int) - 6 < (i : Int) := by omega
    have HU : Hid (u4 s i = -1) := by show _ = _; unfold u4; rw [if_neg (by omega)]
    rw [HU.out]
    go_enter Tryd.func76, Tryd.ntmps76
    go_wp2
    go_ret
    exact ⟨rfl, rfl⟩
  have h6' : ¬ (s.size : Int) - 6 < (i : Int) := by omega
  have hlt0 : i < s.size := by omega
  have hlt1 : i + 1 < s.size := by omega
  have hl0 : (i : Int) < (s.size : Int) := by omega
  have hl1 : (i : Int) + 1 < (s.size : Int) := by omega
  have X0 := idx_gb hlt0
  have X1 := idx_gb hlt1
  obtain ⟨a, ha0⟩ : ∃ a, (s[i]'hlt0).toNat = a := ⟨_, rfl⟩
  obtain ⟨b, hb0⟩ : ∃ b, (s[i + 1]'hlt1).toNat = b := ⟨_, rfl⟩
  rw [ha0] at X0
  rw [hb0] at X1
  by_cases h92 : (a : Int) = 92
  · by_cases h117 : (b : Int) = 117
    · have HU : Hid (u4 s i = ha s 4 (i + 2) 0) := by show _ = _; unfold u4; rw [if_pos ⟨by omega, by rw [← X0]; exact h92, by rw [← X1]; exact h117⟩, ha_at]
      rw [HU.out]
      obtain rfl : a = 92 := by omega
      obtain rfl : b = 117 := by omega
      clear X0 X1 HU h92 h117
      go_enter Tryd.func76, Tryd.ntmps76
      go_wp2
      go_loop [5, 6] (fun v5 v6 => ∃ (k : Nat) (v : Int), v6 = .int .i64 (k : Int) ∧ v5 = .int .i64 v ∧ 2 ≤ k ∧ k ≤ 6 ∧ 0 ≤ v ∧ Hid (((k = 2 ∧ v < 1) ∨ (k = 3 ∧ v < 16) ∨ (k = 4 ∧ v < 256) ∨ (k = 5 ∧ v < 4096) ∨ (k = 6 ∧ v < 65536)) ∧ ha s (6 - k) (i + k) v = ha s 4 (i + 2) 0)) (fun _ v6 => 6 - (intOf v6).toNat)
      case atStart => exact ⟨2, 0, rfl, rfl, by omega, by omega, by omega, .inl ⟨rfl, by omega⟩, rfl⟩
      case round =>
        obtain ⟨k, v, rfl, rfl, hk1, hk2, hv, hh⟩ := hrel
        by_cases hkn : k < 6
        · have hki : i + k < s.size := by omega
          have HX : Hid _ := idx_gb hki
          have c0 := gb_lo s (i + k); have c1 := gb_hi s (i + k)
          obtain ⟨q, hq⟩ : ∃ q, (s[i + k]'hki).toNat = q := ⟨_, rfl⟩
          have HQ : Hid (gb s (i + k) = (q : Int)) := by show _ = _; rw [← hq]; exact HX.out.symm
          have hki' : (i : Int) + (k : Int) < (s.size : Int) := by omega
          have hv9 : v < 4096 := by have := hh.out.1; omega
          have HC : Hid (ha s (6 - k) (i + k) v = if hxv (q : Int) < 0 then -1 else ha s (6 - (k + 1)) (i + (k + 1)) (v * 16 + hxv (q : Int))) := by
            show _ = _
            rw [show 6 - k = (6 - (k + 1)) + 1 by omega]; simp only [ha, HQ.out]; rfl
          rw [HQ.out] at c0 c1
          clear HX HQ
          rcases hx_cases (q : Int) c0 c1 with ⟨d0, d1, d2, d3⟩ | ⟨d0, ⟨d1, d2, d3⟩ | ⟨d4, d1, d2, d3⟩ | ⟨d4, d5, d3⟩⟩
          · have HN : Hid (((k + 1 = 2 ∧ v * 16 + ((q : Int) - 48) < 1) ∨ (k + 1 = 3 ∧ v * 16 + ((q : Int) - 48) < 16) ∨ (k + 1 = 4 ∧ v * 16 + ((q : Int) - 48) < 256) ∨ (k + 1 = 5 ∧ v * 16 + ((q : Int) - 48) < 4096) ∨ (k + 1 = 6 ∧ v * 16 + ((q : Int) - 48) < 65536)) ∧ ha s (6 - (k + 1)) (i + (k + 1)) (v * 16 + ((q : Int) - 48)) = ha s 4 (i + 2) 0) := by
              obtain ⟨p, r⟩ := hh.out
              refine ⟨by omega, ?_⟩
              rw [← r, HC.out, d3, if_neg (by omega)]
            have HD : Hid (isDg (q : Int) = true) := d0
            clear HC hh d3 d0
            go_wp2_with (go_at_call 77; refine (rdigit_any _ _).mono ?_; rintro _ _ ⟨rfl, rfl⟩; rw [HD.out])
            exact ⟨⟨k + 1, v * 16 + ((q : Int) - 48), by first | rfl | (congr 1; omega), by first | rfl | (congr 1; omega), by omega, by omega, by omega, HN⟩, by simp [intOf]; omega⟩
          · have HN : Hid (((k + 1 = 2 ∧ v * 16 + ((q : Int) - 97) + 10 < 1) ∨ (k + 1 = 3 ∧ v * 16 + ((q : Int) - 97) + 10 < 16) ∨ (k + 1 = 4 ∧ v * 16 + ((q : Int) - 97) + 10 < 256) ∨ (k + 1 = 5 ∧ v * 16 + ((q : Int) - 97) + 10 < 4096) ∨ (k + 1 = 6 ∧ v * 16 + ((q : Int) - 97) + 10 < 65536)) ∧ ha s (6 - (k + 1)) (i + (k + 1)) (v * 16 + ((q : Int) - 97) + 10) = ha s 4 (i + 2) 0) := by
              obtain ⟨p, r⟩ := hh.out
              refine ⟨by omega, ?_⟩
              rw [← r, HC.out, d3, if_neg (by omega), show v * 16 + ((q : Int) - 97) + 10 = v * 16 + ((q : Int) - 87) by omega]
            have HD : Hid (isDg (q : Int) = false) := d0
            clear HC hh d3 d0
            go_wp2_with (go_at_call 77; refine (rdigit_any _ _).mono ?_; rintro _ _ ⟨rfl, rfl⟩; rw [HD.out])
            exact ⟨⟨k + 1, v * 16 + ((q : Int) - 97) + 10, by first | rfl | (congr 1; omega), by first | rfl | (congr 1; omega), by omega, by omega, by omega, HN⟩, by simp [intOf]; omega⟩
          · have HN : Hid (((k + 1 = 2 ∧ v * 16 + ((q : Int) - 65) + 10 < 1) ∨ (k + 1 = 3 ∧ v * 16 + ((q : Int) - 65) + 10 < 16) ∨ (k + 1 = 4 ∧ v * 16 + ((q : Int) - 65) + 10 < 256) ∨ (k + 1 = 5 ∧ v * 16 + ((q : Int) - 65) + 10 < 4096) ∨ (k + 1 = 6 ∧ v * 16 + ((q : Int) - 65) + 10 < 65536)) ∧ ha s (6 - (k + 1)) (i + (k + 1)) (v * 16 + ((q : Int) - 65) + 10) = ha s 4 (i + 2) 0) := by
              obtain ⟨p, r⟩ := hh.out
              refine ⟨by omega, ?_⟩
              rw [← r, HC.out, d3, if_neg (by omega), show v * 16 + ((q : Int) - 65) + 10 = v * 16 + ((q : Int) - 55) by omega]
            have HD : Hid (isDg (q : Int) = false) := d0
            have d6 : ¬ 97 ≤ (q : Int) := by omega
            clear HC hh d3 d0
            go_wp2_with (go_at_call 77; refine (rdigit_any _ _).mono ?_; rintro _ _ ⟨rfl, rfl⟩; rw [HD.out])
            exact ⟨⟨k + 1, v * 16 + ((q : Int) - 65) + 10, by first | rfl | (congr 1; omega), by first | rfl | (congr 1; omega), by omega, by omega, by omega, HN⟩, by simp [intOf]; omega⟩
          · have HR : Hid (ha s 4 (i + 2) 0 = -1) := by
              show _ = _
              rw [← hh.out.2, HC.out, d3, if_pos (by decide)]
            have HD : Hid (isDg (q : Int) = false) := d0
            clear HC hh d3 d0
            have d6 : (q : Int) < 65 ∨ (70 < (q : Int) ∧ (q : Int) < 97) ∨ 102 < (q : Int) := by omega
            clear d4 d5
            rcases d6 with d6 | ⟨d6, d7⟩ | d6
            all_goals (
              go_wp2_with (go_at_call 77; refine (rdigit_any _ _).mono ?_; rintro _ _ ⟨rfl, rfl⟩; rw [HD.out])
              go_ret
              exact ⟨by rw [HR.out]; rfl, rfl⟩)
        · have hkn' : ¬ (k : Int) < 6 := by omega
          have HR : Hid (v = ha s 4 (i + 2) 0) := by
            show _ = _
            rw [← hh.out.2, show 6 - k = 0 by omega]; rfl
          clear hh
          go_wp2
          go_ret
          exact ⟨by rw [← HR.out]; rfl, rfl⟩
    · have HU : Hid (u4 s i = -1) := by show _ = _; unfold u4; rw [if_neg (fun h => h117 (X1.trans h.2.2))]
      obtain rfl : a = 92 := by omega
      rw [HU.out]
      go_enter Tryd.func76, Tryd.ntmps76
      go_wp2
      go_ret
      exact ⟨rfl, rfl⟩
  · have HU : Hid (u4 s i = -1) := by show _ = _; unfold u4; rw [if_neg (fun h => h92 (X0.trans h.2.1))]
    rw [HU.out]
    go_enter Tryd.func76, Tryd.ntmps76
    go_wp2
    go_ret
    exact ⟨rfl, rfl⟩
end Go.Proofs.YtefaohokmhdplaaDoor
