/- Plain mathematics of SHA-256: words, bytes, sigma functions, and the walk's own spellings of them. No dump is read here. -/
import Derived.WalkKit
import Derived.WalkSpells
namespace Go.Proofs.YtddgdaggdgeclaaDoor.Sh
open Go

/-- A 32-bit word as the walk writes it: an integer that simp does not open. -/
def u (x : BitVec 32) : Int := (x.toNat : Int)
/-- A byte likewise. -/
def ub (x : BitVec 8) : Int := (x.toNat : Int)
/-- A 64-bit word likewise. -/
def ul (x : BitVec 64) : Int := (x.toNat : Int)
abbrev U (x : BitVec 32) : Value := .int .u32 (u x)
abbrev B (x : BitVec 8) : Value := .int .u8 (ub x)
abbrev L (x : BitVec 64) : Value := .int .u64 (ul x)

theorem u_nonneg (x : BitVec 32) : 0 ≤ u x := by unfold u; omega
theorem u_lt (x : BitVec 32) : u x < 4294967296 := by unfold u; have := x.isLt; omega
theorem ub_nonneg (x : BitVec 8) : 0 ≤ ub x := by unfold ub; omega
theorem ub_lt (x : BitVec 8) : ub x < 256 := by unfold ub; have := x.isLt; omega
theorem ul_nonneg (x : BitVec 64) : 0 ≤ ul x := by unfold ul; omega
theorem ul_lt (x : BitVec 64) : ul x < 18446744073709551616 := by unfold ul; have := x.isLt; omega
theorem u_ofInt (x : BitVec 32) : BitVec.ofInt 32 (u x) = x := by
  apply BitVec.eq_of_toNat_eq; unfold u; rw [BitVec.ofInt_natCast, BitVec.toNat_ofNat]; exact Nat.mod_eq_of_lt x.isLt
theorem u_wrap (x : BitVec 32) : IntKind.u32.wrap (u x) = u x := by
  rw [IntKind.wrap_u32']; exact Int.emod_eq_of_lt (u_nonneg x) (u_lt x)
theorem u_xor (a b : BitVec 32) : bits .xor .u32 (u a) (u b) = u (a ^^^ b) := by
  show IntKind.u32.wrap ((BitVec.ofInt 32 (u a) ^^^ BitVec.ofInt 32 (u b)).toNat : Int) = _
  rw [u_ofInt, u_ofInt]; exact u_wrap _
theorem u_and (a b : BitVec 32) : bits .and .u32 (u a) (u b) = u (a &&& b) := by
  show IntKind.u32.wrap ((BitVec.ofInt 32 (u a) &&& BitVec.ofInt 32 (u b)).toNat : Int) = _
  rw [u_ofInt, u_ofInt]; exact u_wrap _
theorem u_or (a b : BitVec 32) : bits .or .u32 (u a) (u b) = u (a ||| b) := by
  show IntKind.u32.wrap ((BitVec.ofInt 32 (u a) ||| BitVec.ofInt 32 (u b)).toNat : Int) = _
  rw [u_ofInt, u_ofInt]; exact u_wrap _
theorem u_add (a b : BitVec 32) : IntKind.u32.wrap (u a + u b) = u (a + b) := by
  rw [IntKind.wrap_u32']; unfold u; rw [BitVec.toNat_add]; omega
theorem u_shl (a : BitVec 32) (n : Nat) : IntKind.u32.wrap (u a * 2 ^ n) = u (a <<< n) := by
  rw [IntKind.wrap_u32']; unfold u; rw [BitVec.toNat_shiftLeft, Nat.shiftLeft_eq, Int.natCast_emod, Int.natCast_mul, Int.natCast_pow]; rfl
theorem u_shr (a : BitVec 32) (n : Nat) : u a / 2 ^ n = u (a >>> n) := by
  unfold u; rw [BitVec.toNat_ushiftRight, Nat.shiftRight_eq_div_pow, Int.natCast_ediv, Int.natCast_pow]; rfl
theorem u_shr3 (a : BitVec 32) : u a / (8 : Int) = u (a >>> 3) := u_shr a 3
theorem u_shr10 (a : BitVec 32) : u a / (1024 : Int) = u (a >>> 10) := u_shr a 10
theorem u_shr24 (a : BitVec 32) : u a / (16777216 : Int) = u (a >>> 24) := u_shr a 24
theorem u_shr16 (a : BitVec 32) : u a / (65536 : Int) = u (a >>> 16) := u_shr a 16
theorem u_shr8 (a : BitVec 32) : u a / (256 : Int) = u (a >>> 8) := u_shr a 8
theorem u_shl24 (a : BitVec 32) : IntKind.u32.wrap (u a * (16777216 : Int)) = u (a <<< 24) := u_shl a 24
theorem u_shl16 (a : BitVec 32) : IntKind.u32.wrap (u a * (65536 : Int)) = u (a <<< 16) := u_shl a 16
theorem u_shl8 (a : BitVec 32) : IntKind.u32.wrap (u a * (256 : Int)) = u (a <<< 8) := u_shl a 8
/-- byte to word, word to byte -/
theorem u_of_b (x : BitVec 8) : IntKind.u32.wrap (ub x) = u (x.setWidth 32) := by
  have h := x.isLt
  rw [IntKind.wrap_u32']; unfold u ub; rw [BitVec.toNat_setWidth]; omega
theorem b_of_u (x : BitVec 32) : IntKind.u8.wrap (u x) = ub (x.setWidth 8) := by
  rw [IntKind.wrap_u8']; unfold u ub; rw [BitVec.toNat_setWidth]; omega
theorem ul_shr32 (x : BitVec 64) : ul x / (4294967296 : Int) = ul (x >>> 32) := by
  unfold ul; rw [BitVec.toNat_ushiftRight, Nat.shiftRight_eq_div_pow, Int.natCast_ediv]; rfl
theorem ul_shr8 (x : BitVec 64) : ul x / (256 : Int) = ul (x >>> 8) := by
  unfold ul; rw [BitVec.toNat_ushiftRight, Nat.shiftRight_eq_div_pow, Int.natCast_ediv]; rfl
theorem ul_shr16 (x : BitVec 64) : ul x / (65536 : Int) = ul (x >>> 16) := by
  unfold ul; rw [BitVec.toNat_ushiftRight, Nat.shiftRight_eq_div_pow, Int.natCast_ediv]; rfl
theorem ul_shr24 (x : BitVec 64) : ul x / (16777216 : Int) = ul (x >>> 24) := by
  unfold ul; rw [BitVec.toNat_ushiftRight, Nat.shiftRight_eq_div_pow, Int.natCast_ediv]; rfl
theorem ul_shr40 (x : BitVec 64) : ul x / (1099511627776 : Int) = ul (x >>> 40) := by
  unfold ul; rw [BitVec.toNat_ushiftRight, Nat.shiftRight_eq_div_pow, Int.natCast_ediv]; rfl
theorem ul_shr48 (x : BitVec 64) : ul x / (281474976710656 : Int) = ul (x >>> 48) := by
  unfold ul; rw [BitVec.toNat_ushiftRight, Nat.shiftRight_eq_div_pow, Int.natCast_ediv]; rfl
theorem ul_shr56 (x : BitVec 64) : ul x / (72057594037927936 : Int) = ul (x >>> 56) := by
  unfold ul; rw [BitVec.toNat_ushiftRight, Nat.shiftRight_eq_div_pow, Int.natCast_ediv]; rfl
theorem b_of_l (x : BitVec 64) : IntKind.u8.wrap (ul x) = ub (x.setWidth 8) := by
  rw [IntKind.wrap_u8']; unfold ub ul; rw [BitVec.toNat_setWidth]; omega
theorem u_of_l (x : BitVec 64) : IntKind.u32.wrap (ul x) = u (x.setWidth 32) := by
  rw [IntKind.wrap_u32']; unfold u ul; rw [BitVec.toNat_setWidth]; omega
/-- The four bytes of a word, the highest first. -/
def bytes4 (x : BitVec 32) : List Value := [B ((x >>> 24).setWidth 8), B ((x >>> 16).setWidth 8), B ((x >>> 8).setWidth 8), B (x.setWidth 8)]
/-- The eight bytes of a long word. -/
def bytes8 (x : BitVec 64) : List Value := bytes4 ((x >>> 32).setWidth 32) ++ bytes4 (x.setWidth 32)

def rotr (x : BitVec 32) (n : Nat) : BitVec 32 := (x <<< (32 - n)) ||| (x >>> n)
theorem neg_and : ∀ n : Fin 32, 1 ≤ n.val → bits BinOp.and IntKind.u64 (IntKind.u64.wrap (-(n.val : Int))) 31 = ((32 - n.val : Nat) : Int) := by decide +kernel
def up0 (x : BitVec 32) : BitVec 32 := rotr x 2 ^^^ rotr x 13 ^^^ rotr x 22
def up1 (x : BitVec 32) : BitVec 32 := rotr x 6 ^^^ rotr x 11 ^^^ rotr x 25
def lo0 (x : BitVec 32) : BitVec 32 := rotr x 7 ^^^ rotr x 18 ^^^ x >>> 3
def lo1 (x : BitVec 32) : BitVec 32 := rotr x 17 ^^^ rotr x 19 ^^^ x >>> 10
def word (b0 b1 b2 b3 : BitVec 8) : BitVec 32 := b0.setWidth 32 <<< 24 ||| b1.setWidth 32 <<< 16 ||| b2.setWidth 32 <<< 8 ||| b3.setWidth 32
end Go.Proofs.YtddgdaggdgeclaaDoor.Sh
