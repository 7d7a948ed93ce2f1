/- Numbers of four words and of 32 bytes, as values. -/
import Derived.Test.YtdpepiempjoanaaMemF
namespace Go.Proofs.Ytdpepiempjoanaa
open Go Go.RowKit
set_option linter.unusedSimpArgs false
set_option linter.unusedVariables false
/-- 2^256. -/
abbrev RN : Nat := 115792089237316195423570985008687907853269984665640564039457584007913129639936
/-- Word k of n; byte i of n. -/
def lw (n k : Nat) : Int := ((n / 18446744073709551616 ^ k % 18446744073709551616 : Nat) : Int)
def by8 (n i : Nat) : Int := ((n / 256 ^ i % 256 : Nat) : Int)
theorem lw_word (n k : Nat) : Word (lw n k) := by unfold lw Word; omega
theorem by8_bound (n i : Nat) : 0 ≤ by8 n i ∧ by8 n i < 256 := by unfold by8; omega
def nv (n : Nat) : Value := .agg #[.int .u64 (lw n 0), .int .u64 (lw n 1), .int .u64 (lw n 2), .int .u64 (lw n 3)]
/-- The number of four words. -/
def num : Value → Nat
  | .agg cs => match cs.toList with
    | [.int _ a, .int _ b, .int _ c, .int _ d] => (a + b * 18446744073709551616 + c * 340282366920938463463374607431768211456 + d * 6277101735386680763835789423207666416102355444464034512896).toNat
    | _ => 0
  | _ => 0
theorem lw0 (n : Nat) : lw n 0 = ((n % 18446744073709551616 : Nat) : Int) := by simp [lw]
theorem lw1 (n : Nat) : lw n 1 = ((n / 18446744073709551616 % 18446744073709551616 : Nat) : Int) := by simp [lw]
theorem lw2 (n : Nat) : lw n 2 = ((n / 340282366920938463463374607431768211456 % 18446744073709551616 : Nat) : Int) := by unfold lw; rw [show (18446744073709551616 : Nat) ^ 2 = 340282366920938463463374607431768211456 from by decide]
theorem lw3 (n : Nat) : lw n 3 = ((n / 6277101735386680763835789423207666416102355444464034512896 % 18446744073709551616 : Nat) : Int) := by unfold lw; rw [show (18446744073709551616 : Nat) ^ 3 = 6277101735386680763835789423207666416102355444464034512896 from by decide]
theorem words_sum (n : Nat) : lw n 0 + lw n 1 * 18446744073709551616 + lw n 2 * 340282366920938463463374607431768211456 + lw n 3 * 6277101735386680763835789423207666416102355444464034512896 = ((n % RN : Nat) : Int) := by
  rw [lw0, lw1, lw2, lw3]
  have e2 : n / 340282366920938463463374607431768211456 = n / 18446744073709551616 / 18446744073709551616 := by rw [Nat.div_div_eq_div_mul]
  have e3 : n / 6277101735386680763835789423207666416102355444464034512896 = n / 18446744073709551616 / 18446744073709551616 / 18446744073709551616 := by rw [Nat.div_div_eq_div_mul, Nat.div_div_eq_div_mul]
  rw [e2, e3]
  simp only [RN]
  omega
theorem nv_mk {s0 s1 s2 s3 : Int} (h0 : Word s0) (h1 : Word s1) (h2 : Word s2) (h3 : Word s3) {n : Nat} (h : s0 + s1 * 18446744073709551616 + s2 * 340282366920938463463374607431768211456 + s3 * 6277101735386680763835789423207666416102355444464034512896 = (n : Int)) :
    Value.agg #[.int .u64 s0, .int .u64 s1, .int .u64 s2, .int .u64 s3] = nv n := by
  obtain ⟨_, _⟩ := h0; obtain ⟨_, _⟩ := h1; obtain ⟨_, _⟩ := h2; obtain ⟨_, _⟩ := h3
  have e0 : s0 = lw n 0 := by rw [lw0]; omega
  have e1 : s1 = lw n 1 := by rw [lw1]; omega
  have e2 : s2 = lw n 2 := by rw [lw2]; omega
  have e3 : s3 = lw n 3 := by rw [lw3]; omega
  rw [nv, ← e0, ← e1, ← e2, ← e3]
theorem nv_mod (n : Nat) : nv (n % RN) = nv n := (nv_mk (lw_word n 0) (lw_word n 1) (lw_word n 2) (lw_word n 3) (words_sum n)).symm
theorem num_nv (n : Nat) : num (nv n) = n % RN := by
  show (lw n 0 + lw n 1 * 18446744073709551616 + lw n 2 * 340282366920938463463374607431768211456 + lw n 3 * 6277101735386680763835789423207666416102355444464034512896).toNat = _
  rw [words_sum]; rfl
theorem num_nv' {n : Nat} (h : n < RN) : num (nv n) = n := by rw [num_nv, Nat.mod_eq_of_lt h]
/-- A value that is a number. -/
def IsN (A : Value) : Prop := A = nv (num A)
theorem isN_nv (n : Nat) : IsN (nv n) := by unfold IsN; rw [num_nv, nv_mod]
theorem num_lt {A : Value} (h : IsN A) : num A < RN := by
  have : num A = num A % RN := by
    have e := congrArg num h
    rw [num_nv] at e; exact e
  rw [this]; exact Nat.mod_lt _ (by decide)
theorem flat_nv (n : Nat) : flat (nv n) = true := rfl
theorem flat2_nv (n : Nat) : flat2 (nv n) = true := rfl
/-- 32 bytes. -/
def bl (n : Nat) : List Value := (List.range 32).map fun i => Value.int .u8 (by8 n i)
def bv (n : Nat) : Value := .agg (bl n).toArray
def bsum : List Value → Nat
  | [] => 0
  | .int _ x :: l => x.toNat + 256 * bsum l
  | _ :: l => 256 * bsum l
def bnum : Value → Nat
  | .agg cs => bsum cs.toList
  | _ => 0
def IsB (A : Value) : Prop := A = bv (bnum A)
end Go.Proofs.Ytdpepiempjoanaa
