/- Package scalar: bytes: load, store. -/
import Derived.Test.YtdpepiempjoanaaScaB
namespace Go.Proofs.Ytdpepiempjoanaa
open Go Go.RowKit
set_option linter.unusedSimpArgs false
set_option linter.unusedVariables false
/-- m bytes of n. -/
def blm (m n : Nat) : List Value := (List.range m).map fun i => Value.int .u8 (by8 n i)
theorem bsum_range (n : Nat) : ∀ (m o : Nat), bsum ((List.range' o m).map fun i => Value.int .u8 (by8 n i)) = n / 256 ^ o % 256 ^ m
  | 0, o => by simp [bsum, Nat.mod_one]
  | m + 1, o => by
    rw [List.range'_succ, List.map_cons, bsum, bsum_range n m (o + 1)]
    simp only [by8, Int.toNat_natCast]
    rw [Nat.pow_succ 256 o, ← Nat.div_div_eq_div_mul, Nat.pow_succ 256 m, Nat.mul_comm (256 ^ m) 256, Nat.mod_mul]
theorem bsum_blm (m n : Nat) : bsum (blm m n) = n % 256 ^ m := by
  unfold blm; rw [List.range_eq_range', bsum_range, Nat.pow_zero, Nat.div_one]
theorem by8_mod (n m i : Nat) (h : i < m) : by8 (n % 256 ^ m) i = by8 n i := by
  unfold by8
  congr 1
  have : 256 ^ m = 256 ^ i * (256 * 256 ^ (m - i - 1)) := by rw [← Nat.pow_succ', ← Nat.pow_add]; congr 1; omega
  rw [this, Nat.mod_mul_right_div_self, Nat.mod_mul_right_mod]
theorem blm_mod (m n : Nat) : blm m (n % 256 ^ m) = blm m n := by
  unfold blm
  exact List.map_congr_left fun i hi => by rw [by8_mod n m i (by simpa using hi)]
theorem rn_pow : RN = 256 ^ 32 := by decide
theorem bnum_bv (n : Nat) : bnum (bv n) = n % RN := by rw [rn_pow]; exact bsum_blm 32 n
theorem bv_mod (n : Nat) : bv (n % RN) = bv n := by
  rw [rn_pow]; unfold bv; exact congrArg (fun l : List Value => Value.agg l.toArray) (blm_mod 32 n)
theorem isB_bv (n : Nat) : IsB (bv n) := by unfold IsB; rw [bnum_bv, bv_mod]
theorem bnum_lt {A : Value} (h : IsB A) : bnum A < RN := by
  have : bnum A = bnum A % RN := by
    have e := congrArg bnum h
    rw [bnum_bv] at e; exact e
  rw [this]; exact Nat.mod_lt _ (by decide)
theorem bnum_bv' {n : Nat} (h : n < RN) : bnum (bv n) = n := by rw [bnum_bv, Nat.mod_eq_of_lt h]
theorem flat_bv (n : Nat) : flat (bv n) = true := by
  show ((bl n).toArray.toList.all flat1) = true
  simp [bl, flat1]
/-- Byte 8k + j of n is byte j of its word k. -/
theorem by8_word (n k j : Nat) (hj : j < 8) : n / 256 ^ (8 * k + j) % 256 = n / 18446744073709551616 ^ k % 18446744073709551616 / 256 ^ j % 256 := by
  have e : (256 : Nat) ^ (8 * k + j) = 18446744073709551616 ^ k * 256 ^ j := by rw [Nat.pow_add, Nat.pow_mul]
  rw [e, ← Nat.div_div_eq_div_mul]
  have e2 : (18446744073709551616 : Nat) = 256 ^ j * (256 * 256 ^ (7 - j)) := by
    rw [← Nat.pow_succ', ← Nat.pow_add, show j + (7 - j).succ = 8 by omega]
  generalize n / 18446744073709551616 ^ k = x
  rw [e2, Nat.mod_mul_right_div_self, Nat.mod_mul_right_mod]
theorem or_add (x y k : Nat) (hx : x < 2 ^ k) (hy : y * 2 ^ k < 18446744073709551616) (hx2 : x < 18446744073709551616) :
    bits .or .u64 (x : Int) ((y * 2 ^ k : Nat) : Int) = ((x + y * 2 ^ k : Nat) : Int) := by
  rw [bits_or_u64_nat x (y * 2 ^ k) hx2 hy]
  congr 1
  rw [← Nat.shiftLeft_eq, Nat.or_comm, ← Nat.shiftLeft_add_eq_or_of_lt hx, Nat.add_comm]
/-- The word k of n's bytes, as it is put together. -/
def orf (n k : Nat) : Nat → Int
  | 0 => 0
  | j + 1 => bits .or .u64 (orf n k j) (IntKind.u64.wrap (IntKind.u64.wrap (by8 n (8 * k + j)) * 2 ^ (8 * j)))
theorem orf_eq (n k : Nat) : ∀ j, j ≤ 8 → orf n k j = ((n / 18446744073709551616 ^ k % 18446744073709551616 % 256 ^ j : Nat) : Int)
  | 0, _ => by simp [orf, Nat.mod_one]
  | j + 1, h => by
    have hb : by8 n (8 * k + j) = ((n / 18446744073709551616 ^ k % 18446744073709551616 / 256 ^ j % 256 : Nat) : Int) := by
      unfold by8; rw [by8_word n k j (by omega)]
    rw [orf, orf_eq n k j (by omega), hb]
    generalize n / 18446744073709551616 ^ k % 18446744073709551616 = x
    have e : (2 : Nat) ^ (8 * j) = 256 ^ j := by rw [Nat.pow_mul]
    have hlt : 256 ^ j * 256 ≤ 18446744073709551616 := by
      have : (256 : Nat) ^ j * 256 ≤ 256 ^ 8 := by rw [← Nat.pow_succ]; exact Nat.pow_le_pow_right (by omega) h
      simpa using this
    have hb2 : x / 256 ^ j % 256 < 256 := Nat.mod_lt _ (by omega)
    have hy : x / 256 ^ j % 256 * 2 ^ (8 * j) < 18446744073709551616 := by
      rw [e]
      calc x / 256 ^ j % 256 * 256 ^ j < 256 * 256 ^ j := Nat.mul_lt_mul_of_pos_right hb2 (Nat.pow_pos (by omega))
        _ ≤ 18446744073709551616 := by rw [Nat.mul_comm]; exact hlt
    have w1 : IntKind.u64.wrap ((x / 256 ^ j % 256 : Nat) : Int) = ((x / 256 ^ j % 256 : Nat) : Int) := by rw [IntKind.wrap_u64]; omega
    have w2 : IntKind.u64.wrap (((x / 256 ^ j % 256 : Nat) : Int) * 2 ^ (8 * j)) = ((x / 256 ^ j % 256 * 2 ^ (8 * j) : Nat) : Int) := by
      have : (((x / 256 ^ j % 256 : Nat) : Int) * 2 ^ (8 * j)) = ((x / 256 ^ j % 256 * 2 ^ (8 * j) : Nat) : Int) := by
        rw [Int.natCast_mul, Int.natCast_pow]; rfl
      rw [this, IntKind.wrap_u64]; omega
    have hm : x % 256 ^ j < 256 ^ j := Nat.mod_lt _ (Nat.pow_pos (by omega))
    rw [w1, w2, or_add _ _ _ (by rw [e]; exact hm) hy (by omega), e]
    congr 1
    rw [Nat.pow_succ, Nat.mod_mul, Nat.mul_comm (x / 256 ^ j % 256)]
theorem orf_lw (n k : Nat) : orf n k 8 = lw n k := by
  rw [orf_eq n k 8 (Nat.le_refl _)]
  unfold lw
  congr 1
  exact Nat.mod_mod _ _
theorem load_run1 (n : Nat) : sfun Try.prog X3 200 Try.f19 (bodyOf Try.f19) [bv n] = some ([], .agg #[.int .u64 (orf n 0 8), .int .u64 (orf n 1 8), .int .u64 (orf n 2 8), .int .u64 (orf n 3 8)]) := by kernel_rfl
def gLoad : List Value → Option (List Prop × Value)
  | [A] => some ([IsB A], nv (bnum A))
  | _ => none
theorem gLoad_ok {X : Cx} (hX : X.Ok Try.prog) : (X.pure 19 gLoad).Ok Try.prog := by
  refine gBody_ok hX Try.func19 (by kernel_rfl) (by kernel_rfl) ?_
  intro args ps v ha hg hp
  unfold gLoad at hg
  split at hg
  · rename_i A
    simp only [Option.some.injEq, Prod.mk.injEq] at hg
    obtain ⟨rfl, rfl⟩ := hg
    have hA := hp _ (List.mem_singleton.2 rfl)
    refine ⟨.inl rfl, fun w => ?_⟩
    have lA := bnum_lt hA
    rw [hA, bnum_bv' lA]
    generalize bnum A = a at *
    have h := sfun_calls X3_ok mixed Try.func19 (by kernel_rfl) (load_run1 a) (by simp) (by simp [flat_bv]) (.inl rfl) w
    rw [orf_lw, orf_lw, orf_lw, orf_lw] at h
    exact h
  · simp at hg
theorem store_run1 (n : Nat) : sfun Try.prog X3 200 Try.f24 (bodyOf Try.f24) [nv n] = some ([], .agg ((List.range 32).map fun i => .int .u8 (IntKind.u8.wrap (Int.fdiv (lw n (i / 8)) (2 ^ (8 * (i % 8)))))).toArray) := by kernel_rfl
theorem byte_of (n i : Nat) : IntKind.u8.wrap (Int.fdiv (lw n (i / 8)) (2 ^ (8 * (i % 8)))) = by8 n i := by
  have hb := by8_word n (i / 8) (i % 8) (Nat.mod_lt _ (by omega))
  rw [Nat.div_add_mod] at hb
  unfold by8 lw
  rw [hb]
  have e : (2 : Int) ^ (8 * (i % 8)) = ((256 ^ (i % 8) : Nat) : Int) := by
    rw [Int.natCast_pow, Int.pow_mul]; rfl
  rw [e, Int.fdiv_eq_ediv_of_nonneg _ (Int.natCast_nonneg _), ← Int.natCast_ediv, IntKind.wrap_u8]
  omega
def gStore : List Value → Option (List Prop × Value)
  | [A] => some ([IsN A], bv (num A))
  | _ => none
theorem gStore_ok {X : Cx} (hX : X.Ok Try.prog) : (X.pure 24 gStore).Ok Try.prog := by
  refine gBody_ok hX Try.func24 (by kernel_rfl) (by kernel_rfl) ?_
  intro args ps v ha hg hp
  unfold gStore at hg
  split at hg
  · rename_i A
    simp only [Option.some.injEq, Prod.mk.injEq] at hg
    obtain ⟨rfl, rfl⟩ := hg
    have hA := hp _ (List.mem_singleton.2 rfl)
    refine ⟨.inl (flat_bv _), fun w => ?_⟩
    have lA := num_lt hA
    rw [hA, num_nv' lA]
    generalize num A = a at *
    have h := sfun_calls X3_ok mixed Try.func24 (by kernel_rfl) (store_run1 a) (by simp) rfl (.inl (by simp [flat, flat2, flat1])) w
    have e : ((List.range 32).map fun i => Value.int .u8 (IntKind.u8.wrap (Int.fdiv (lw a (i / 8)) (2 ^ (8 * (i % 8)))))) = bl a := List.map_congr_left fun i _ => by rw [byte_of]
    rw [e] at h
    exact h
  · simp at hg
def X4 : Cx := (X3.pure 19 gLoad).pure 24 gStore
theorem X4_ok : X4.Ok Try.prog := gStore_ok (gLoad_ok X3_ok)
end Go.Proofs.Ytdpepiempjoanaa
