/- Package field: 32 bytes and numbers: word, putWord, load, store. -/
import Derived.Test.YtdegfgncdphepaaDoorFieC
import Derived.Test.YtdegfgncdphepaaDoorFieN
import Derived.ProofKit
import Derived.OpenShut
import Derived.ChangeReads
import Derived.ChangeArms
import Derived.ChangeOld
import Derived.Below
namespace Go.Proofs.YtdegfgncdphepaaDoor
open Go Go.RowKit Go.Lib
set_option linter.unusedSimpArgs false
set_option linter.unusedVariables false

/-- Word k of n; byte i of n. -/
def lw (n k : Nat) : Int := ((n / 18446744073709551616 ^ k % 18446744073709551616 : Nat) : Int)
def by8 (n i : Nat) : Int := ((n / 256 ^ i % 256 : Nat) : Int)
theorem lw_word (n k : Nat) : Word (lw n k) := by unfold lw Word; omega
theorem by8_bound (n i : Nat) : 0 ≤ by8 n i ∧ by8 n i < 256 := by unfold by8; omega
/-- 2^256, as a natural number. -/
abbrev RN : Nat := 115792089237316195423570985008687907853269984665640564039457584007913129639936
def Num.of (n : Nat) : Num := ⟨lw n 0, lw n 1, lw n 2, lw n 3⟩
theorem Num.of_ok (n : Nat) : (Num.of n).ok := ⟨lw_word n 0, lw_word n 1, lw_word n 2, lw_word n 3⟩
theorem Num.of_val (n : Nat) (h : n < RN) : (Num.of n).val = (n : Int) := by
  simp only [Num.of, Num.val, lw]
  simp only [show (18446744073709551616 : Nat) ^ 0 = 1 from rfl, show (18446744073709551616 : Nat) ^ 1 = 18446744073709551616 from rfl, show (18446744073709551616 : Nat) ^ 2 = 340282366920938463463374607431768211456 from by decide, show (18446744073709551616 : Nat) ^ 3 = 6277101735386680763835789423207666416102355444464034512896 from by decide]
  simp only [RN] at h
  have e2 : n / 340282366920938463463374607431768211456 = n / 18446744073709551616 / 18446744073709551616 := by rw [Nat.div_div_eq_div_mul]
  have e3 : n / 6277101735386680763835789423207666416102355444464034512896 = n / 18446744073709551616 / 18446744073709551616 / 18446744073709551616 := by rw [Nat.div_div_eq_div_mul, Nat.div_div_eq_div_mul]
  rw [e2, e3, Nat.div_one]
  omega
theorem Num.to_of {s : Num} (h : s.ok) : ∃ n : Nat, n < RN ∧ (n : Int) = s.val ∧ s = Num.of n := by
  have hb := Num.bound h
  obtain ⟨n, hn⟩ := Int.eq_ofNat_of_zero_le hb.1
  have hlt : n < RN := by simp only [RR, RN] at *; omega
  exact ⟨n, hlt, hn.symm, Num.inj h (Num.of_ok n) (by rw [Num.of_val n hlt, hn])⟩
/-- A number's value. -/
def nv (n : Nat) : Value := .agg #[.int .u64 (lw n 0), .int .u64 (lw n 1), .int .u64 (lw n 2), .int .u64 (lw n 3)]
theorem nv_eq (n : Nat) : (Num.of n).v = nv n := rfl
theorem nv_inj {m n : Nat} (hm : m < RN) (hn : n < RN) (h : nv m = nv n) : m = n := by
  have e : Num.of m = Num.of n := by
    simp only [nv, Value.agg.injEq, Array.mk.injEq, List.cons.injEq, Value.int.injEq, true_and, and_true] at h
    obtain ⟨h0, h1, h2, h3⟩ := h
    simp only [Num.of, h0, h1, h2, h3]
  have := congrArg Num.val e
  rw [Num.of_val m hm, Num.of_val n hn] at this
  omega

theorem mod_cast_pp (a : Nat) : ((a % pp : Nat) : Int) = (a : Int) % PP := by simp only [pp, PP]; omega
theorem mul_nat (a b : Nat) (ha : a < RN) (hb : b < RN) (w : World) :
    Calls Tryd.prog 59 #[nv a, nv b] w fun e w' => ∃ s : Nat, s < RN ∧ e = .returned (nv s) ∧ s % pp = (a * b) % pp ∧ Below w.heap.size w w' := by
  refine (mul_any (Num.of a) (Num.of b) (Num.of_ok a) (Num.of_ok b) w).mono ?_
  rintro e w' ⟨s, rfl, hs, he, hbl⟩
  obtain ⟨n, hn, hv, rfl⟩ := Num.to_of hs
  refine ⟨n, hn, rfl, ?_, hbl⟩
  rw [Num.of_val a ha, Num.of_val b hb, ← hv, ← Int.natCast_mul, ← mod_cast_pp, ← mod_cast_pp] at he
  omega
theorem add_nat (a b : Nat) (ha : a < RN) (hb : b < RN) (w : World) :
    Calls Tryd.prog 83 #[nv a, nv b] w fun e w' => ∃ s : Nat, s < RN ∧ e = .returned (nv s) ∧ s % pp = (a + b) % pp ∧ Below w.heap.size w w' := by
  refine (add_any (Num.of a) (Num.of b) (Num.of_ok a) (Num.of_ok b) w).mono ?_
  rintro e w' ⟨s, rfl, hs, he, hbl⟩
  obtain ⟨n, hn, hv, rfl⟩ := Num.to_of hs
  refine ⟨n, hn, rfl, ?_, hbl⟩
  rw [Num.of_val a ha, Num.of_val b hb, ← hv, ← Int.natCast_add, ← mod_cast_pp, ← mod_cast_pp] at he
  omega
theorem sub_nat (a b : Nat) (ha : a < RN) (hb : b < RN) (w : World) :
    Calls Tryd.prog 82 #[nv a, nv b] w fun e w' => ∃ s : Nat, s < RN ∧ e = .returned (nv s) ∧ s % pp = (a + (pp - b % pp)) % pp ∧ Below w.heap.size w w' := by
  refine (sub_any (Num.of a) (Num.of b) (Num.of_ok a) (Num.of_ok b) w).mono ?_
  rintro e w' ⟨s, rfl, hs, he, hbl⟩
  obtain ⟨n, hn, hv, rfl⟩ := Num.to_of hs
  refine ⟨n, hn, rfl, ?_, hbl⟩
  rw [Num.of_val a ha, Num.of_val b hb, ← hv] at he
  simp only [PP, pp] at *
  omega
theorem settle_nat (a : Nat) (ha : a < RN) (w : World) :
    Calls Tryd.prog 72 #[nv a] w fun e w' => e = .returned (nv (a % pp)) ∧ Below w.heap.size w w' := by
  refine (settle_any (Num.of a) (Num.of_ok a) w).mono ?_
  rintro e w' ⟨s, rfl, hs, he, hbl⟩
  obtain ⟨n, hn, hv, rfl⟩ := Num.to_of hs
  rw [Num.of_val a ha, ← hv, ← mod_cast_pp] at he
  have : n = a % pp := by omega
  subst this
  exact ⟨rfl, hbl⟩

theorem or_add (x y k : Nat) (m : Int) (hm : m = ((2 ^ k : Nat) : Int)) (X Y : Int) (hX : X = (x : Int)) (hY : Y = (y : Int)) (hx : x < 2 ^ k) (hy : y * 2 ^ k < 18446744073709551616) (hx2 : x < 18446744073709551616) :
    bits .or .u64 X (Y * m) = X + Y * m := by
  subst hm; subst hX; subst hY
  rw [← Int.natCast_mul, bits_or_u64_nat x (y * 2 ^ k) hx2 hy, ← Int.natCast_add]
  congr 1
  rw [← Nat.shiftLeft_eq, Nat.or_comm, ← Nat.shiftLeft_add_eq_or_of_lt hx, Nat.add_comm]

set_option maxHeartbeats 1000000 in
theorem word_any (b off cap : Nat) (x0 x1 x2 x3 x4 x5 x6 x7 : Nat) (hx : x0 < 256 ∧ x1 < 256 ∧ x2 < 256 ∧ x3 < 256 ∧ x4 < 256 ∧ x5 < 256 ∧ x6 < 256 ∧ x7 < 256) (w : World)
    (h0 : w.cell? ⟨b, off, none⟩ = some (.int .u8 x0)) (h1 : w.cell? ⟨b, off + 1, none⟩ = some (.int .u8 x1)) (h2 : w.cell? ⟨b, off + 2, none⟩ = some (.int .u8 x2)) (h3 : w.cell? ⟨b, off + 3, none⟩ = some (.int .u8 x3))
    (h4 : w.cell? ⟨b, off + 4, none⟩ = some (.int .u8 x4)) (h5 : w.cell? ⟨b, off + 5, none⟩ = some (.int .u8 x5)) (h6 : w.cell? ⟨b, off + 6, none⟩ = some (.int .u8 x6)) (h7 : w.cell? ⟨b, off + 7, none⟩ = some (.int .u8 x7)) :
    Calls Tryd.prog 76 #[.slice (some ⟨b, off, none⟩) 8 cap] w fun e w' =>
      e = .returned (.int .u64 ((x0 + x1 * 256 + x2 * 65536 + x3 * 16777216 + x4 * 4294967296 + x5 * 1099511627776 + x6 * 281474976710656 + x7 * 72057594037927936 : Nat) : Int)) ∧ ∃ n, w' = w.drewN n := by
  obtain ⟨y0, hy0⟩ : ∃ y : Int, y = x0 := ⟨_, rfl⟩
  obtain ⟨y1, hy1⟩ : ∃ y : Int, y = x1 := ⟨_, rfl⟩
  obtain ⟨y2, hy2⟩ : ∃ y : Int, y = x2 := ⟨_, rfl⟩
  obtain ⟨y3, hy3⟩ : ∃ y : Int, y = x3 := ⟨_, rfl⟩
  obtain ⟨y4, hy4⟩ : ∃ y : Int, y = x4 := ⟨_, rfl⟩
  obtain ⟨y5, hy5⟩ : ∃ y : Int, y = x5 := ⟨_, rfl⟩
  obtain ⟨y6, hy6⟩ : ∃ y : Int, y = x6 := ⟨_, rfl⟩
  obtain ⟨y7, hy7⟩ : ∃ y : Int, y = x7 := ⟨_, rfl⟩
  have o1 := or_add x0 x1 8 256 (by decide) y0 y1 hy0 hy1 (by omega) (by omega) (by omega)
  have o2 := or_add (x0 + x1 * 256) x2 16 65536 (by decide) (y0 + y1 * 256) y2 (by omega) hy2 (by omega) (by omega) (by omega)
  have o3 := or_add (x0 + x1 * 256 + x2 * 65536) x3 24 16777216 (by decide) (y0 + y1 * 256 + y2 * 65536) y3 (by omega) hy3 (by omega) (by omega) (by omega)
  have o4 := or_add (x0 + x1 * 256 + x2 * 65536 + x3 * 16777216) x4 32 4294967296 (by decide) (y0 + y1 * 256 + y2 * 65536 + y3 * 16777216) y4 (by omega) hy4 (by omega) (by omega) (by omega)
  have o5 := or_add (x0 + x1 * 256 + x2 * 65536 + x3 * 16777216 + x4 * 4294967296) x5 40 1099511627776 (by decide) (y0 + y1 * 256 + y2 * 65536 + y3 * 16777216 + y4 * 4294967296) y5 (by omega) hy5 (by omega) (by omega) (by omega)
  have o6 := or_add (x0 + x1 * 256 + x2 * 65536 + x3 * 16777216 + x4 * 4294967296 + x5 * 1099511627776) x6 48 281474976710656 (by decide) (y0 + y1 * 256 + y2 * 65536 + y3 * 16777216 + y4 * 4294967296 + y5 * 1099511627776) y6 (by omega) hy6 (by omega) (by omega) (by omega)
  have o7 := or_add (x0 + x1 * 256 + x2 * 65536 + x3 * 16777216 + x4 * 4294967296 + x5 * 1099511627776 + x6 * 281474976710656) x7 56 72057594037927936 (by decide) (y0 + y1 * 256 + y2 * 65536 + y3 * 16777216 + y4 * 4294967296 + y5 * 1099511627776 + y6 * 281474976710656) y7 (by omega) hy7 (by omega) (by omega) (by omega)
  have v0 : IntKind.u64.wrap y0 = y0 := by rw [IntKind.wrap_u64]; omega
  have v1 : IntKind.u64.wrap y1 = y1 := by rw [IntKind.wrap_u64]; omega
  have v2 : IntKind.u64.wrap y2 = y2 := by rw [IntKind.wrap_u64]; omega
  have v3 : IntKind.u64.wrap y3 = y3 := by rw [IntKind.wrap_u64]; omega
  have v4 : IntKind.u64.wrap y4 = y4 := by rw [IntKind.wrap_u64]; omega
  have v5 : IntKind.u64.wrap y5 = y5 := by rw [IntKind.wrap_u64]; omega
  have v6 : IntKind.u64.wrap y6 = y6 := by rw [IntKind.wrap_u64]; omega
  have v7 : IntKind.u64.wrap y7 = y7 := by rw [IntKind.wrap_u64]; omega
  have s1 : IntKind.u64.wrap (y1 * 256) = y1 * 256 := by rw [IntKind.wrap_u64]; omega
  have s2 : IntKind.u64.wrap (y2 * 65536) = y2 * 65536 := by rw [IntKind.wrap_u64]; omega
  have s3 : IntKind.u64.wrap (y3 * 16777216) = y3 * 16777216 := by rw [IntKind.wrap_u64]; omega
  have s4 : IntKind.u64.wrap (y4 * 4294967296) = y4 * 4294967296 := by rw [IntKind.wrap_u64]; omega
  have s5 : IntKind.u64.wrap (y5 * 1099511627776) = y5 * 1099511627776 := by rw [IntKind.wrap_u64]; omega
  have s6 : IntKind.u64.wrap (y6 * 281474976710656) = y6 * 281474976710656 := by rw [IntKind.wrap_u64]; omega
  have s7 : IntKind.u64.wrap (y7 * 72057594037927936) = y7 * 72057594037927936 := by rw [IntKind.wrap_u64]; omega
  have HE : Hid (y0 + y1 * 256 + y2 * 65536 + y3 * 16777216 + y4 * 4294967296 + y5 * 1099511627776 + y6 * 281474976710656 + y7 * 72057594037927936 = ((x0 + x1 * 256 + x2 * 65536 + x3 * 16777216 + x4 * 4294967296 + x5 * 1099511627776 + x6 * 281474976710656 + x7 * 72057594037927936 : Nat) : Int)) := by show _ = _; omega
  rw [← HE.out]
  rw [← hy0] at h0; rw [← hy1] at h1; rw [← hy2] at h2; rw [← hy3] at h3; rw [← hy4] at h4; rw [← hy5] at h5; rw [← hy6] at h6; rw [← hy7] at h7
  clear hy0 hy1 hy2 hy3 hy4 hy5 hy6 hy7 HE hx
  go_enter Tryd.func76, Tryd.ntmps76
  go_wp2
  go_quiet (fail)
  go_wp2
  go_ret
  exact ⟨rfl, nq, rfl⟩

/-- 32 bytes of a number. -/
def bl (n : Nat) : List Value := (List.range 32).map fun i => Value.int .u8 (by8 n i)
def br (n : Nat) : Array Value := (bl n).toArray
theorem bl_length (n : Nat) : (bl n).length = 32 := by simp [bl]
def bv (n : Nat) : Value := .agg (br n)
theorem br_size (n : Nat) : (br n).size = 32 := by simp [br, bl]
theorem br_get (n i : Nat) (h : i < 32) : (br n)[i]? = some (.int .u8 (by8 n i)) := by simp [br, bl, h]
theorem br_one (n : Nat) : (br n).all (·.oneCell') = true := by
  rw [Array.all_eq_true]
  intro i hi
  rw [br_size] at hi
  have := br_get n i hi
  rw [Array.getElem?_eq_getElem (by rw [br_size]; exact hi)] at this
  rw [Option.some.inj this]; rfl
theorem bl_one (n : Nat) : ∀ v ∈ bl n, v.oneCell' = true := fun v hv => by
  obtain ⟨i, _, rfl⟩ := List.mem_map.1 hv
  rfl
theorem word_sum (x : Nat) (h : x < 18446744073709551616) : x = x % 256 + x / 256 % 256 * 256 + x / 65536 % 256 * 65536 + x / 16777216 % 256 * 16777216 + x / 4294967296 % 256 * 4294967296 + x / 1099511627776 % 256 * 1099511627776 + x / 281474976710656 % 256 * 281474976710656 + x / 72057594037927936 % 256 * 72057594037927936 := by
  have e1 : x / 65536 = x / 256 / 256 := by rw [Nat.div_div_eq_div_mul]
  have e2 : x / 16777216 = x / 256 / 256 / 256 := by rw [Nat.div_div_eq_div_mul, Nat.div_div_eq_div_mul]
  have e3 : x / 4294967296 = x / 256 / 256 / 256 / 256 := by rw [Nat.div_div_eq_div_mul, Nat.div_div_eq_div_mul, Nat.div_div_eq_div_mul]
  have e4 : x / 1099511627776 = x / 256 / 256 / 256 / 256 / 256 := by rw [Nat.div_div_eq_div_mul, Nat.div_div_eq_div_mul, Nat.div_div_eq_div_mul, Nat.div_div_eq_div_mul]
  have e5 : x / 281474976710656 = x / 256 / 256 / 256 / 256 / 256 / 256 := by rw [Nat.div_div_eq_div_mul, Nat.div_div_eq_div_mul, Nat.div_div_eq_div_mul, Nat.div_div_eq_div_mul, Nat.div_div_eq_div_mul]
  have e6 : x / 72057594037927936 = x / 256 / 256 / 256 / 256 / 256 / 256 / 256 := by rw [Nat.div_div_eq_div_mul, Nat.div_div_eq_div_mul, Nat.div_div_eq_div_mul, Nat.div_div_eq_div_mul, Nat.div_div_eq_div_mul, Nat.div_div_eq_div_mul]
  rw [e1, e2, e3, e4, e5, e6]
  omega
/-- Byte 8k + j of n is byte j of its word k. -/
theorem by8_word (n k j : Nat) (hj : j < 8) : n / 256 ^ (8 * k + j) % 256 = n / 18446744073709551616 ^ k % 18446744073709551616 / 256 ^ j % 256 := by
  have e : (256 : Nat) ^ (8 * k + j) = 18446744073709551616 ^ k * 256 ^ j := by rw [Nat.pow_add, Nat.pow_mul]
  rw [e, ← Nat.div_div_eq_div_mul]
  have e2 : (18446744073709551616 : Nat) = 256 ^ j * (256 * 256 ^ (7 - j)) := by
    rw [← Nat.pow_succ', ← Nat.pow_add, show j + (7 - j).succ = 8 by omega]
  generalize n / 18446744073709551616 ^ k = x
  rw [e2, Nat.mod_mul_right_div_self, Nat.mod_mul_right_mod]
theorem word_at (b o cap n k : Nat) (w : World) (hc : ∀ i, i < 32 → w.cell? ⟨b, i, none⟩ = some (.int .u8 (by8 n i))) (hk : k < 4) (ho : o = 8 * k) :
    Calls Tryd.prog 76 #[.slice (some ⟨b, o, none⟩) 8 cap] w fun e w' => e = .returned (.int .u64 (lw n k)) ∧ ∃ m, w' = w.drewN m := by
  subst ho
  have q : ∀ j, j < 8 → w.cell? ⟨b, 8 * k + j, none⟩ = some (.int .u8 ((n / 18446744073709551616 ^ k % 18446744073709551616 / 256 ^ j % 256 : Nat) : Int)) := fun j hj => by
    rw [hc _ (by omega), by8, by8_word n k j hj]
  refine (word_any b (8 * k) cap _ _ _ _ _ _ _ _ ⟨?_, ?_, ?_, ?_, ?_, ?_, ?_, ?_⟩ w (q 0 (by omega)) (q 1 (by omega)) (q 2 (by omega)) (q 3 (by omega)) (q 4 (by omega)) (q 5 (by omega)) (q 6 (by omega)) (q 7 (by omega))).mono ?_
  · exact Nat.mod_lt _ (by decide)
  · exact Nat.mod_lt _ (by decide)
  · exact Nat.mod_lt _ (by decide)
  · exact Nat.mod_lt _ (by decide)
  · exact Nat.mod_lt _ (by decide)
  · exact Nat.mod_lt _ (by decide)
  · exact Nat.mod_lt _ (by decide)
  · exact Nat.mod_lt _ (by decide)
  · rintro e w' ⟨rfl, m, rfl⟩
    refine ⟨?_, m, rfl⟩
    congr 2
    rw [lw]
    have := word_sum (n / 18446744073709551616 ^ k % 18446744073709551616) (Nat.mod_lt _ (by decide))
    simp only [show (256 : Nat) ^ 0 = 1 from rfl, show (256 : Nat) ^ 1 = 256 from rfl, show (256 : Nat) ^ 2 = 65536 from rfl, show (256 : Nat) ^ 3 = 16777216 from rfl, show (256 : Nat) ^ 4 = 4294967296 from rfl, show (256 : Nat) ^ 5 = 1099511627776 from rfl, show (256 : Nat) ^ 6 = 281474976710656 from rfl, show (256 : Nat) ^ 7 = 72057594037927936 from rfl, Nat.div_one]
    rw [← this]
theorem size_u8 : (Tryd.prog.info? 5).map (·.size) = some 1 := by kernel_rfl
theorem addr_add0 (g o j : Nat) : (⟨g, o, none⟩ : Addr).add j = ⟨g, o + j, none⟩ := Addr.add_mid g o j
theorem arr_desc {P : Program} {t e : TypeId} {n : Nat} (hu : P.underlying t = some (.array n e)) : P.arrayLen t = n ∧ P.elem t = e := by
  constructor
  · simp [Program.arrayLen, hu]
  · simp [Program.elem, hu]
theorem size_run {P : Program} {e : TypeId} {s : Nat} (hs : (P.info? e).map (·.size) = some s) (w : World) : (sizeOf e).run P w = .ok s w := by
  cases hq : P.info? e with
  | none => simp [hq] at hs
  | some i => simp [hq] at hs; simp [sizeOf, typeInfo, hq, hs]
theorem sliceAt_lh {P : Program} (w : World) (t e : TypeId) (n g o : Nat) (lo hi : Int) (l h : Nat) (hl : lo = l) (hh : hi = h) (hu : P.underlying t = some (.array n e)) (hs : (P.info? e).map (·.size) = some 1) (h1 : l ≤ h) (h2 : h ≤ n) (h3 : l < n) :
    (Instr.sliceAt t (.pointer (some ⟨g, o, none⟩)) (some (.int .i64 lo)) (some (.int .i64 hi)) none).run P w = .ok (.slice (some ⟨g, o + l, none⟩) (h - l) (n - l)) w := by
  subst hl; subst hh
  obtain ⟨e1, e2⟩ := arr_desc hu
  rw [run_sliceAt_array_lh w t _ (by rw [e1, e2]; exact hu) _ _ _ _ (by omega) (by omega) (by rw [e1]; omega), e2, size_run hs w, e1]
  simp [slicedAt, addr_add0]
  omega
theorem cell_drewN (w : World) (n : Nat) (a : Addr) : (w.drewN n).cell? a = w.cell? a := by
  induction n with
  | zero => rfl
  | succ n ih => exact ih
theorem below_drewN {B0 : Nat} {a w : World} (h : Below B0 a w) (n : Nat) : Below B0 a (w.drewN n) := by
  induction n with
  | zero => exact h
  | succ n ih => exact ih.drew
end Go.Proofs.YtdegfgncdphepaaDoor
/- 32 bytes that come in: opened, and shut again in whatever world. -/
namespace Go.Proofs.YtdegfgncdphepaaDoor
open Go Go.ChangeShapes Go.WideShapes Go.ChangeAt Go.RowKit
set_option maxRecDepth 100000
section
variable {H : Type} {enc : TypeId × Value → H}
theorem digits : ∀ (k : Nat) (f : Nat → Nat), (∀ i, i < k → f i < 256) → ∃ n, n < 256 ^ k ∧ ∀ i, i < k → n / 256 ^ i % 256 = f i
  | 0, _, _ => ⟨0, by decide, fun i hi => by omega⟩
  | k + 1, f, h => by
    obtain ⟨n, hn, hd⟩ := digits k f (fun i hi => h i (by omega))
    have hk := h k (by omega)
    refine ⟨n + f k * 256 ^ k, ?_, fun i hi => ?_⟩
    · have : f k * 256 ^ k ≤ 255 * 256 ^ k := Nat.mul_le_mul_right _ (by omega)
      rw [Nat.pow_succ]; omega
    · by_cases h1 : i < k
      · have e : (256 : Nat) ^ k = 256 ^ i * (256 * 256 ^ (k - i - 1)) := by
          rw [← Nat.pow_succ', ← Nat.pow_add]; congr 1; omega
        rw [e, show f k * (256 ^ i * (256 * 256 ^ (k - i - 1))) = 256 ^ i * (256 * (f k * 256 ^ (k - i - 1))) by rw [Nat.mul_left_comm, Nat.mul_left_comm (f k)], Nat.add_mul_div_left _ _ (Nat.pow_pos (by decide)), Nat.add_mul_mod_self_left]
        exact hd i h1
      · obtain rfl : i = k := by omega
        rw [Nat.add_mul_div_right _ _ (Nat.pow_pos (by decide)), Nat.div_eq_of_lt hn, Nat.zero_add]
        exact Nat.mod_eq_of_lt hk
theorem trod_u8_any (W W' : World) (b b' : Nat) (sp sp' : Nat → Bool) (hd hd' : Bool) (m : Nat) (x : List Value) :
    DataW.trod enc Tryd.prog W b sp hd m 5 x = DataW.trod enc Tryd.prog W' b' sp' hd' m 5 x := by
  cases m with
  | zero => rfl
  | succ m =>
    rw [DataW.trod_step, DataW.trod_step]
    unfold DataW.trodStep
    simp only [Tryd.underlying5]
    rcases x with _ | ⟨v, _ | ⟨u, r⟩⟩
    · rfl
    · cases v <;> rfl
    · cases v <;> rfl
theorem trod_32_any (W W' : World) (b b' : Nat) (sp sp' : Nat → Bool) (hd hd' : Bool) (m : Nat) (x : List Value) :
    DataW.trod enc Tryd.prog W b sp hd m 22 x = DataW.trod enc Tryd.prog W' b' sp' hd' m 22 x := by
  cases m with
  | zero => rfl
  | succ m =>
    rw [DataW.trod_step, DataW.trod_step]
    unfold DataW.trodStep
    simp only [Tryd.underlying22]
    congr 1
    congr 1
    congr 1
    funext i
    exact trod_u8_any W W' b b' sp sp' hd hd' m _
theorem open32 {W : World} {r : Reach} {b0 b : Nat} {sp : Nat → Bool} {held : Bool} {v : Value} {d : DataW H} {p : List MemPlace} (hok : Value.okWide Tryd.prog W r b0 22 v) (h : DataW.Trod enc Tryd.prog W b sp held 22 v d p) :
    ∃ n, n < RN ∧ v = bv n ∧ p = [] ∧ ∀ (W' : World) (b' : Nat) (sp' : Nat → Bool) (held' : Bool), DataW.Trod enc Tryd.prog W' b' sp' held' 22 v d [] := by
  simp only [Value.okWide, Tryd.underlying22] at hok
  obtain ⟨cs, rfl, hcs, _⟩ := hok
  obtain ⟨fuel, hf⟩ := h
  have h32 : Tryd.prog.cellsOf 22 = 32 := by kernel_rfl
  have h1 : Tryd.prog.cellsOf 5 = 1 := by kernel_rfl
  rw [h32] at hcs
  have hf2 := hf
  obtain ⟨xs, m, rfl, hx, hl, hlen, hall⟩ := DataW.trod_array Tryd.underlying22 hf
  rw [h1] at hall
  have key : ∀ i, i < 32 → ∃ z : Int, cs[i]? = some (.int .u8 z) ∧ xs[i]? = some (.lit (.int .u8 z), []) ∧ (Lit.int .u8 z).wf = true := fun i hi => by
    have hi' := hall i hi
    rw [List.getElem?_eq_getElem (by omega)] at hi'
    obtain ⟨z, hc, e, wz⟩ := DataW.trod_int Tryd.underlying5 hi'
    refine ⟨z, ?_, ?_, wz⟩
    · have := congrArg (·[0]?) hc
      simpa [List.getElem?_take, List.getElem?_drop, Value.cells] using this
    · rw [List.getElem?_eq_getElem (by omega), e]
  have hp : p = [] := by
    rw [Prod.mk.injEq] at hx
    rw [hx.2, List.flatMap_eq_nil_iff]
    intro y hy
    obtain ⟨i, hi, rfl⟩ := List.mem_iff_getElem.1 hy
    obtain ⟨z, _, e, _⟩ := key i (by omega)
    rw [List.getElem?_eq_getElem hi, Option.some.injEq] at e
    rw [e]
  subst hp
  -- the digits
  obtain ⟨n, hn, hd⟩ := digits 32 (fun i => match cs[i]? with | some (.int .u8 z) => z.toNat | _ => 0) (fun i hi => by
    obtain ⟨z, hc, _, wz⟩ := key i hi
    rw [hc]
    simp [Lit.wf, IntKind.min, IntKind.max, IntKind.signed, IntKind.bits] at wz
    simp only; omega)
  refine ⟨n, hn, ?_, rfl, fun W' b' sp' held' => ⟨m + 1, by rw [trod_32_any W' W b' b sp' sp held' held]; exact hf2⟩⟩
  unfold bv
  congr 1
  apply Array.ext_getElem?
  intro i
  by_cases hi : i < 32
  · obtain ⟨z, hc, _, wz⟩ := key i hi
    rw [hc, br_get n i hi]
    have := hd i hi
    rw [hc] at this
    simp [Lit.wf, IntKind.min, IntKind.max, IntKind.signed, IntKind.bits] at wz
    simp only at this
    congr 2
    unfold by8
    omega
  · rw [Array.getElem?_eq_none (by omega), Array.getElem?_eq_none (by rw [br_size]; omega)]
end
end Go.Proofs.YtdegfgncdphepaaDoor
