/- Plain mathematics of SHA-512: words of 64 bits, sigma functions, and the walk's own spellings of them. -/
import Derived.Test.YtkjmompdfegmcaaDoorShaA
namespace Go.Proofs.YtkjmompdfegmcaaDoor.Q5
open Go

/-- A 64-bit word as the walk writes it. -/
def u (x : BitVec 64) : Int := (x.toNat : Int)
abbrev U (x : BitVec 64) : Value := .int .u64 (u x)
theorem u_nonneg (x : BitVec 64) : 0 ≤ u x := by unfold u; omega
theorem u_lt (x : BitVec 64) : u x < 18446744073709551616 := by unfold u; have := x.isLt; omega
theorem u_ofInt (x : BitVec 64) : BitVec.ofInt 64 (u x) = x := by
  apply BitVec.eq_of_toNat_eq; unfold u; rw [BitVec.ofInt_natCast, BitVec.toNat_ofNat]; exact Nat.mod_eq_of_lt x.isLt
theorem u_wrap (x : BitVec 64) : IntKind.u64.wrap (u x) = u x := by
  rw [IntKind.wrap_u64]; exact Int.emod_eq_of_lt (u_nonneg x) (u_lt x)
theorem u_xor (a b : BitVec 64) : bits .xor .u64 (u a) (u b) = u (a ^^^ b) := by
  show IntKind.u64.wrap ((BitVec.ofInt 64 (u a) ^^^ BitVec.ofInt 64 (u b)).toNat : Int) = _
  rw [u_ofInt, u_ofInt]; exact u_wrap _
theorem u_and (a b : BitVec 64) : bits .and .u64 (u a) (u b) = u (a &&& b) := by
  show IntKind.u64.wrap ((BitVec.ofInt 64 (u a) &&& BitVec.ofInt 64 (u b)).toNat : Int) = _
  rw [u_ofInt, u_ofInt]; exact u_wrap _
theorem u_or (a b : BitVec 64) : bits .or .u64 (u a) (u b) = u (a ||| b) := by
  show IntKind.u64.wrap ((BitVec.ofInt 64 (u a) ||| BitVec.ofInt 64 (u b)).toNat : Int) = _
  rw [u_ofInt, u_ofInt]; exact u_wrap _
theorem u_add (a b : BitVec 64) : IntKind.u64.wrap (u a + u b) = u (a + b) := by
  rw [IntKind.wrap_u64]; unfold u; rw [BitVec.toNat_add]; omega
theorem u_shl (a : BitVec 64) (n : Nat) : IntKind.u64.wrap (u a * 2 ^ n) = u (a <<< n) := by
  rw [IntKind.wrap_u64]; unfold u; rw [BitVec.toNat_shiftLeft, Nat.shiftLeft_eq, Int.natCast_emod, Int.natCast_mul, Int.natCast_pow]; rfl
theorem u_shr (a : BitVec 64) (n : Nat) : u a / 2 ^ n = u (a >>> n) := by
  unfold u; rw [BitVec.toNat_ushiftRight, Nat.shiftRight_eq_div_pow, Int.natCast_ediv, Int.natCast_pow]; rfl
theorem u_shr7 (a : BitVec 64) : u a / (128 : Int) = u (a >>> 7) := u_shr a 7
theorem u_shr6 (a : BitVec 64) : u a / (64 : Int) = u (a >>> 6) := u_shr a 6
theorem u_shr56 (a : BitVec 64) : u a / (72057594037927936 : Int) = u (a >>> 56) := u_shr a 56
theorem u_shr48 (a : BitVec 64) : u a / (281474976710656 : Int) = u (a >>> 48) := u_shr a 48
theorem u_shr40 (a : BitVec 64) : u a / (1099511627776 : Int) = u (a >>> 40) := u_shr a 40
theorem u_shr32 (a : BitVec 64) : u a / (4294967296 : Int) = u (a >>> 32) := u_shr a 32
theorem u_shr24 (a : BitVec 64) : u a / (16777216 : Int) = u (a >>> 24) := u_shr a 24
theorem u_shr16 (a : BitVec 64) : u a / (65536 : Int) = u (a >>> 16) := u_shr a 16
theorem u_shr8 (a : BitVec 64) : u a / (256 : Int) = u (a >>> 8) := u_shr a 8
theorem u_shl32 (a : BitVec 64) : IntKind.u64.wrap (u a * (4294967296 : Int)) = u (a <<< 32) := u_shl a 32
theorem u_shl8 (a : BitVec 64) : IntKind.u64.wrap (u a * (256 : Int)) = u (a <<< 8) := u_shl a 8
/-- byte to word, word to byte, half words -/
theorem u_of_b (x : BitVec 8) : IntKind.u64.wrap (ub x) = u (x.setWidth 64) := by
  have h := x.isLt
  rw [IntKind.wrap_u64]; unfold u ub; rw [BitVec.toNat_setWidth]; omega
theorem u_of_w (x : BitVec 32) : IntKind.u64.wrap (Go.Proofs.YtkjmompdfegmcaaDoor.u x) = u (x.setWidth 64) := by
  have h := x.isLt
  rw [IntKind.wrap_u64]; unfold u Go.Proofs.YtkjmompdfegmcaaDoor.u; rw [BitVec.toNat_setWidth]; omega
theorem u_of_w' (x : BitVec 32) : Go.Proofs.YtkjmompdfegmcaaDoor.u x = u (x.setWidth 64) := by
  have h := x.isLt
  unfold u Go.Proofs.YtkjmompdfegmcaaDoor.u; rw [BitVec.toNat_setWidth]; omega
theorem b_of_u (x : BitVec 64) : IntKind.u8.wrap (u x) = ub (x.setWidth 8) := by
  rw [IntKind.wrap_u8']; unfold u ub; rw [BitVec.toNat_setWidth]; omega
def rotr (x : BitVec 64) (n : Nat) : BitVec 64 := (x <<< (64 - n)) ||| (x >>> n)
theorem neg_and : ∀ n : Fin 64, 1 ≤ n.val → bits BinOp.and IntKind.u64 (IntKind.u64.wrap (-(n.val : Int))) 63 = ((64 - n.val : Nat) : Int) := by decide +kernel
def up0 (x : BitVec 64) : BitVec 64 := rotr x 28 ^^^ rotr x 34 ^^^ rotr x 39
def up1 (x : BitVec 64) : BitVec 64 := rotr x 14 ^^^ rotr x 18 ^^^ rotr x 41
def lo0 (x : BitVec 64) : BitVec 64 := rotr x 1 ^^^ rotr x 8 ^^^ x >>> 7
def lo1 (x : BitVec 64) : BitVec 64 := rotr x 19 ^^^ rotr x 61 ^^^ x >>> 6
/-- Eight bytes as a word. -/
def word (b : Nat → BitVec 8) : BitVec 64 := (Go.Proofs.YtkjmompdfegmcaaDoor.word (b 0) (b 1) (b 2) (b 3)).setWidth 64 <<< 32 ||| (Go.Proofs.YtkjmompdfegmcaaDoor.word (b 4) (b 5) (b 6) (b 7)).setWidth 64
/-- The first i bytes as a word, byte by byte. -/
def wacc (b : Nat → BitVec 8) : Nat → BitVec 64
  | 0 => 0
  | i + 1 => wacc b i <<< 8 ||| (b i).setWidth 64
theorem or_add (a b : BitVec 64) (n : Nat) (ha : a.toNat * 2 ^ n < 2 ^ 64) (hb : b.toNat < 2 ^ n) : (a <<< n ||| b).toNat = a.toNat * 2 ^ n + b.toNat := by
  rw [BitVec.toNat_or, BitVec.toNat_shiftLeft, Nat.shiftLeft_eq, Nat.mod_eq_of_lt ha, ← Nat.shiftLeft_eq, ← Nat.shiftLeft_add_eq_or_of_lt hb]
theorem or_add32 (a b : BitVec 32) (n : Nat) (ha : a.toNat * 2 ^ n < 2 ^ 32) (hb : b.toNat < 2 ^ n) : (a <<< n ||| b).toNat = a.toNat * 2 ^ n + b.toNat := by
  rw [BitVec.toNat_or, BitVec.toNat_shiftLeft, Nat.shiftLeft_eq, Nat.mod_eq_of_lt ha, ← Nat.shiftLeft_eq, ← Nat.shiftLeft_add_eq_or_of_lt hb]
theorem word4_nat (b0 b1 b2 b3 : BitVec 8) : (Go.Proofs.YtkjmompdfegmcaaDoor.word b0 b1 b2 b3).toNat = b0.toNat * 16777216 + b1.toNat * 65536 + b2.toNat * 256 + b3.toNat := by
  have h0 := b0.isLt
  have h1 := b1.isLt
  have h2 := b2.isLt
  have h3 := b3.isLt
  have e : Go.Proofs.YtkjmompdfegmcaaDoor.word b0 b1 b2 b3 = b0.setWidth 32 <<< 24 ||| (b1.setWidth 32 <<< 16 ||| (b2.setWidth 32 <<< 8 ||| b3.setWidth 32)) := by
    unfold Go.Proofs.YtkjmompdfegmcaaDoor.word
    rw [BitVec.or_assoc, BitVec.or_assoc]
  have s : ∀ b : BitVec 8, (b.setWidth 32).toNat = b.toNat := fun b => by have := b.isLt; rw [BitVec.toNat_setWidth]; omega
  have e1 : (b2.setWidth 32 <<< 8 ||| b3.setWidth 32).toNat = b2.toNat * 256 + b3.toNat := by rw [or_add32 _ _ _ (by rw [s]; omega) (by rw [s]; omega), s, s]
  have e2 : (b1.setWidth 32 <<< 16 ||| (b2.setWidth 32 <<< 8 ||| b3.setWidth 32)).toNat = b1.toNat * 65536 + (b2.toNat * 256 + b3.toNat) := by rw [or_add32 _ _ _ (by rw [s]; omega) (by rw [e1]; omega), s, e1]
  rw [e, or_add32 _ _ _ (by rw [s]; omega) (by rw [e2]; omega), s, e2]; omega
theorem wacc_nat (b : Nat → BitVec 8) : ∀ i, i < 8 → (wacc b i).toNat < 256 ^ i ∧ (wacc b (i + 1)).toNat = (wacc b i).toNat * 256 + (b i).toNat
  | 0, _ => by
    have := (b 0).isLt
    have z : (wacc b 0).toNat = 0 := rfl
    refine ⟨by rw [z]; decide, ?_⟩
    rw [show wacc b (0 + 1) = wacc b 0 <<< 8 ||| (b 0).setWidth 64 from rfl, or_add _ _ _ (by rw [z]; decide) (by rw [BitVec.toNat_setWidth]; omega), BitVec.toNat_setWidth, z]; omega
  | i + 1, h => by
    obtain ⟨h1, h2⟩ := wacc_nat b i (by omega)
    have hb := (b i).isLt
    have hb' := (b (i + 1)).isLt
    have h3 : (wacc b (i + 1)).toNat < 256 ^ (i + 1) := by rw [h2, Nat.pow_succ]; omega
    refine ⟨h3, ?_⟩
    have h4 : (wacc b (i + 1)).toNat < 256 ^ 7 := Nat.lt_of_lt_of_le h3 (Nat.pow_le_pow_right (by omega) (by omega))
    rw [show wacc b (i + 1 + 1) = wacc b (i + 1) <<< 8 ||| (b (i + 1)).setWidth 64 from rfl, or_add _ _ _ (by omega) (by rw [BitVec.toNat_setWidth]; omega), BitVec.toNat_setWidth]; omega
theorem wacc_word (b : Nat → BitVec 8) : wacc b 8 = word b := by
  apply BitVec.eq_of_toNat_eq
  have g0 := (wacc_nat b 0 (by omega)).2
  have g1 := (wacc_nat b 1 (by omega)).2
  have g2 := (wacc_nat b 2 (by omega)).2
  have g3 := (wacc_nat b 3 (by omega)).2
  have g4 := (wacc_nat b 4 (by omega)).2
  have g5 := (wacc_nat b 5 (by omega)).2
  have g6 := (wacc_nat b 6 (by omega)).2
  have g7 := (wacc_nat b 7 (by omega)).2
  have z : (wacc b 0).toNat = 0 := rfl
  have h0 := (b 0).isLt
  have h1 := (b 1).isLt
  have h2 := (b 2).isLt
  have h3 := (b 3).isLt
  have h4 := (b 4).isLt
  have h5 := (b 5).isLt
  have h6 := (b 6).isLt
  have h7 := (b 7).isLt
  have s : ∀ x : BitVec 32, (x.setWidth 64).toNat = x.toNat := fun x => by have := x.isLt; rw [BitVec.toNat_setWidth]; omega
  rw [word, or_add _ _ _ (by rw [s, word4_nat]; omega) (by rw [s, word4_nat]; omega), s, s, word4_nat, word4_nat]
  rw [show wacc b 8 = wacc b (7 + 1) from rfl, g7, show wacc b 7 = wacc b (6 + 1) from rfl, g6, show wacc b 6 = wacc b (5 + 1) from rfl, g5, show wacc b 5 = wacc b (4 + 1) from rfl, g4, show wacc b 4 = wacc b (3 + 1) from rfl, g3, show wacc b 3 = wacc b (2 + 1) from rfl, g2, show wacc b 2 = wacc b (1 + 1) from rfl, g1, show wacc b 1 = wacc b (0 + 1) from rfl, g0, z]
  clear g0 g1 g2 g3 g4 g5 g6 g7 z s
  generalize (b 0).toNat = x0 at *
  generalize (b 1).toNat = x1 at *
  generalize (b 2).toNat = x2 at *
  generalize (b 3).toNat = x3 at *
  generalize (b 4).toNat = x4 at *
  generalize (b 5).toNat = x5 at *
  generalize (b 6).toNat = x6 at *
  generalize (b 7).toNat = x7 at *
  omega
end Go.Proofs.YtkjmompdfegmcaaDoor.Q5
