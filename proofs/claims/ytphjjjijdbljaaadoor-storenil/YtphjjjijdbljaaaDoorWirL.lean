/- The reference's number and Decode. -/
import Derived.Test.YtphjjjijdbljaaaDoorWirJ
import Derived.WalkKit
import Derived.WalkSpells
import Derived.Test.YtphjjjijdbljaaaDoorProg
import Derived.Test.YtphjjjijdbljaaaDoorChecked
import Derived.Outline
import Derived.BigQuiet
import Derived.Deep.QuietTactic
namespace Go.Proofs.YtphjjjijdbljaaaDoor
open Go Go.RowKit
set_option linter.unusedSimpArgs false
set_option linter.unusedVariables false

theorem or_i64 (m y : Nat) (k : Nat) (hy : y < 2 ^ k) (hm : m * 2 ^ k + y < 9223372036854775808) : bits .or .i64 ((m * 2 ^ k : Nat) : Int) (y : Int) = ((m * 2 ^ k + y : Nat) : Int) := by
  show IntKind.i64.wrap ((BitVec.ofInt 64 ((m * 2 ^ k : Nat) : Int) ||| BitVec.ofInt 64 (y : Int)).toNat : Int) = _
  rw [BitVec.ofInt_natCast, BitVec.ofInt_natCast, BitVec.toNat_or, BitVec.toNat_ofNat, BitVec.toNat_ofNat, Nat.mod_eq_of_lt (by omega), Nat.mod_eq_of_lt (by omega)]
  have e2 : m * 2 ^ k ||| y = m * 2 ^ k + y := by
    have := Nat.shiftLeft_add_eq_or_of_lt (i := k) (b := y) hy m
    rw [Nat.shiftLeft_eq] at this; exact this.symm
  rw [e2, wrap_small _ (by omega) (by omega)]
theorem or4 (z0 z1 z2 z3 : Int) (a0 : 0 ≤ z0) (a0' : z0 ≤ 255) (a1 : 0 ≤ z1) (a1' : z1 ≤ 255) (a2 : 0 ≤ z2) (a2' : z2 ≤ 255) (a3 : 0 ≤ z3) (a3' : z3 ≤ 255) :
    bits .or .i64 (bits .or .i64 (bits .or .i64 (z0 * 16777216) (z1 * 65536)) (z2 * 256)) z3 = z0 * 16777216 + z1 * 65536 + z2 * 256 + z3 := by
  obtain ⟨n0, rfl⟩ := Int.eq_ofNat_of_zero_le a0
  obtain ⟨n1, rfl⟩ := Int.eq_ofNat_of_zero_le a1
  obtain ⟨n2, rfl⟩ := Int.eq_ofNat_of_zero_le a2
  obtain ⟨n3, rfl⟩ := Int.eq_ofNat_of_zero_le a3
  have e1 := or_i64 n0 (n1 * 65536) 24 (by omega) (by omega)
  have e2 := or_i64 (n0 * 256 + n1) (n2 * 256) 16 (by omega) (by omega)
  have e3 := or_i64 (n0 * 65536 + n1 * 256 + n2) n3 8 (by omega) (by omega)
  have f1 : ((n0 : Int) * 16777216) = ((n0 * 2 ^ 24 : Nat) : Int) := by omega
  have f2 : ((n1 : Int) * 65536) = ((n1 * 65536 : Nat) : Int) := by omega
  have f3 : ((n2 : Int) * 256) = ((n2 * 256 : Nat) : Int) := by omega
  have g1 : n0 * 2 ^ 24 + n1 * 65536 = (n0 * 256 + n1) * 2 ^ 16 := by omega
  have g2 : (n0 * 256 + n1) * 2 ^ 16 + n2 * 256 = (n0 * 65536 + n1 * 256 + n2) * 2 ^ 8 := by
    show (n0 * 256 + n1) * 65536 + n2 * 256 = (n0 * 65536 + n1 * 256 + n2) * 256
    clear e1 e2 e3 f1 f2 f3 g1
    rw [Nat.add_mul, Nat.add_mul, Nat.add_mul, Nat.mul_assoc, Nat.mul_assoc, Nat.mul_assoc]
  rw [f1, f2, f3, e1, g1, e2, g2, e3]
  omega
theorem four_of (l : List Int) (h : 4 ≤ l.length) : l.take 4 = [gi l 0, gi l 1, gi l 2, gi l 3] := by
  match l, h with
  | a :: b :: c :: d :: l, _ => rfl
  | [], h => simp at h
  | [_], h => simp at h
  | [_, _], h => simp at h
  | [_, _, _], h => simp at h
theorem cnt_four {xs : List Int} (hb : Byt xs) (at' : Nat) (h : at' + 4 ≤ xs.length) : (cnt (xs.drop at') : Int) = gi xs at' * 16777216 + gi xs (at' + 1) * 65536 + gi xs (at' + 2) * 256 + gi xs (at' + 3) := by
  rw [← (cnt_nm (hb.drop at')).1, nm_plain _ ((hb.drop at').take 4) (by rw [List.length_take]; omega), four_of _ (by rw [List.length_drop]; omega), gi_drop, gi_drop, gi_drop, gi_drop]
  simp only [pv, List.length_cons, List.length_nil, Nat.add_zero]
  omega
/-- A piece of a slice. -/
theorem Sl.mid {w : World} {b o l cap : Nat} {xs : List Int} (h : Sl w (.slice (some ⟨b, o, none⟩) l cap) xs) (n m : Nat) (hn : n + m ≤ l) :
    Sl w (.slice (if cap = n then some ⟨b, o, none⟩ else some ⟨b, o + n, none⟩) m (cap - n)) ((xs.drop n).take m) := by
  have h2 := (h.cut n (by omega)).2
  obtain ⟨ad, cap', hv, hc, h⟩ := h
  simp only [Value.slice.injEq] at hv
  obtain ⟨rfl, rfl, rfl⟩ := hv
  by_cases e : cap = n
  · obtain rfl : m = 0 := by omega
    rw [if_pos e, List.take_zero]
    exact ⟨_, cap - n, rfl, by simp, .inl ⟨rfl, fun e => by cases e⟩⟩
  · rw [if_neg e] at h2 ⊢
    have := (h2.cut m (by omega)).1
    exact this
end Go.Proofs.YtphjjjijdbljaaaDoor
/- SameList. -/
namespace Go.Proofs.YtphjjjijdbljaaaDoor
open Go Go.RowKit
set_option linter.unusedSimpArgs false
set_option linter.unusedVariables false

theorem LL.drewN {w : World} {v : Value} {xss : List (List Int)} (h : LL w v xss) (n : Nat) : LL (w.drewN n) v xss := h.below (below_drewN (Below.refl _ _) n)
end Go.Proofs.YtphjjjijdbljaaaDoor
/- Plain mathematics of SHA-256: words, bytes, sigma functions, and the walk's own spellings of them. No dump is read here. -/
namespace Go.Proofs.YtphjjjijdbljaaaDoor.Sh
open Go

/-- A 32-bit word as the walk writes it: an integer that simp does not open. -/
def u (x : BitVec 32) : Int := (x.toNat : Int)
/-- A byte likewise. -/
def ub (x : BitVec 8) : Int := (x.toNat : Int)
/-- A 64-bit word likewise. -/
def ul (x : BitVec 64) : Int := (x.toNat : Int)
abbrev U (x : BitVec 32) : Value := .int .u32 (u x)
abbrev B (x : BitVec 8) : Value := .int .u8 (ub x)
abbrev L (x : BitVec 64) : Value := .int .u64 (ul x)

theorem u_nonneg (x : BitVec 32) : 0 ≤ u x := by unfold u; omega
theorem u_lt (x : BitVec 32) : u x < 4294967296 := by unfold u; have := x.isLt; omega
theorem ub_nonneg (x : BitVec 8) : 0 ≤ ub x := by unfold ub; omega
theorem ub_lt (x : BitVec 8) : ub x < 256 := by unfold ub; have := x.isLt; omega
theorem ul_nonneg (x : BitVec 64) : 0 ≤ ul x := by unfold ul; omega
theorem ul_lt (x : BitVec 64) : ul x < 18446744073709551616 := by unfold ul; have := x.isLt; omega
theorem u_ofInt (x : BitVec 32) : BitVec.ofInt 32 (u x) = x := by
  apply BitVec.eq_of_toNat_eq; unfold u; rw [BitVec.ofInt_natCast, BitVec.toNat_ofNat]; exact Nat.mod_eq_of_lt x.isLt
theorem u_wrap (x : BitVec 32) : IntKind.u32.wrap (u x) = u x := by
  rw [IntKind.wrap_u32']; exact Int.emod_eq_of_lt (u_nonneg x) (u_lt x)
theorem u_xor (a b : BitVec 32) : bits .xor .u32 (u a) (u b) = u (a ^^^ b) := by
  show IntKind.u32.wrap ((BitVec.ofInt 32 (u a) ^^^ BitVec.ofInt 32 (u b)).toNat : Int) = _
  rw [u_ofInt, u_ofInt]; exact u_wrap _
theorem u_and (a b : BitVec 32) : bits .and .u32 (u a) (u b) = u (a &&& b) := by
  show IntKind.u32.wrap ((BitVec.ofInt 32 (u a) &&& BitVec.ofInt 32 (u b)).toNat : Int) = _
  rw [u_ofInt, u_ofInt]; exact u_wrap _
theorem u_or (a b : BitVec 32) : bits .or .u32 (u a) (u b) = u (a ||| b) := by
  show IntKind.u32.wrap ((BitVec.ofInt 32 (u a) ||| BitVec.ofInt 32 (u b)).toNat : Int) = _
  rw [u_ofInt, u_ofInt]; exact u_wrap _
theorem u_add (a b : BitVec 32) : IntKind.u32.wrap (u a + u b) = u (a + b) := by
  rw [IntKind.wrap_u32']; unfold u; rw [BitVec.toNat_add]; omega
theorem u_shl (a : BitVec 32) (n : Nat) : IntKind.u32.wrap (u a * 2 ^ n) = u (a <<< n) := by
  rw [IntKind.wrap_u32']; unfold u; rw [BitVec.toNat_shiftLeft, Nat.shiftLeft_eq, Int.natCast_emod, Int.natCast_mul, Int.natCast_pow]; rfl
theorem u_shr (a : BitVec 32) (n : Nat) : u a / 2 ^ n = u (a >>> n) := by
  unfold u; rw [BitVec.toNat_ushiftRight, Nat.shiftRight_eq_div_pow, Int.natCast_ediv, Int.natCast_pow]; rfl
theorem u_shr3 (a : BitVec 32) : u a / (8 : Int) = u (a >>> 3) := u_shr a 3
theorem u_shr10 (a : BitVec 32) : u a / (1024 : Int) = u (a >>> 10) := u_shr a 10
theorem u_shr24 (a : BitVec 32) : u a / (16777216 : Int) = u (a >>> 24) := u_shr a 24
theorem u_shr16 (a : BitVec 32) : u a / (65536 : Int) = u (a >>> 16) := u_shr a 16
theorem u_shr8 (a : BitVec 32) : u a / (256 : Int) = u (a >>> 8) := u_shr a 8
theorem u_shl24 (a : BitVec 32) : IntKind.u32.wrap (u a * (16777216 : Int)) = u (a <<< 24) := u_shl a 24
theorem u_shl16 (a : BitVec 32) : IntKind.u32.wrap (u a * (65536 : Int)) = u (a <<< 16) := u_shl a 16
theorem u_shl8 (a : BitVec 32) : IntKind.u32.wrap (u a * (256 : Int)) = u (a <<< 8) := u_shl a 8
/-- byte to word, word to byte -/
theorem u_of_b (x : BitVec 8) : IntKind.u32.wrap (ub x) = u (x.setWidth 32) := by
  have h := x.isLt
  rw [IntKind.wrap_u32']; unfold u ub; rw [BitVec.toNat_setWidth]; omega
theorem b_of_u (x : BitVec 32) : IntKind.u8.wrap (u x) = ub (x.setWidth 8) := by
  rw [IntKind.wrap_u8']; unfold u ub; rw [BitVec.toNat_setWidth]; omega
theorem ul_shr32 (x : BitVec 64) : ul x / (4294967296 : Int) = ul (x >>> 32) := by
  unfold ul; rw [BitVec.toNat_ushiftRight, Nat.shiftRight_eq_div_pow, Int.natCast_ediv]; rfl
theorem ul_shr8 (x : BitVec 64) : ul x / (256 : Int) = ul (x >>> 8) := by
  unfold ul; rw [BitVec.toNat_ushiftRight, Nat.shiftRight_eq_div_pow, Int.natCast_ediv]; rfl
theorem ul_shr16 (x : BitVec 64) : ul x / (65536 : Int) = ul (x >>> 16) := by
  unfold ul; rw [BitVec.toNat_ushiftRight, Nat.shiftRight_eq_div_pow, Int.natCast_ediv]; rfl
theorem ul_shr24 (x : BitVec 64) : ul x / (16777216 : Int) = ul (x >>> 24) := by
  unfold ul; rw [BitVec.toNat_ushiftRight, Nat.shiftRight_eq_div_pow, Int.natCast_ediv]; rfl
theorem ul_shr40 (x : BitVec 64) : ul x / (1099511627776 : Int) = ul (x >>> 40) := by
  unfold ul; rw [BitVec.toNat_ushiftRight, Nat.shiftRight_eq_div_pow, Int.natCast_ediv]; rfl
theorem ul_shr48 (x : BitVec 64) : ul x / (281474976710656 : Int) = ul (x >>> 48) := by
  unfold ul; rw [BitVec.toNat_ushiftRight, Nat.shiftRight_eq_div_pow, Int.natCast_ediv]; rfl
theorem ul_shr56 (x : BitVec 64) : ul x / (72057594037927936 : Int) = ul (x >>> 56) := by
  unfold ul; rw [BitVec.toNat_ushiftRight, Nat.shiftRight_eq_div_pow, Int.natCast_ediv]; rfl
theorem b_of_l (x : BitVec 64) : IntKind.u8.wrap (ul x) = ub (x.setWidth 8) := by
  rw [IntKind.wrap_u8']; unfold ub ul; rw [BitVec.toNat_setWidth]; omega
theorem u_of_l (x : BitVec 64) : IntKind.u32.wrap (ul x) = u (x.setWidth 32) := by
  rw [IntKind.wrap_u32']; unfold u ul; rw [BitVec.toNat_setWidth]; omega
/-- The four bytes of a word, the highest first. -/
def bytes4 (x : BitVec 32) : List Value := [B ((x >>> 24).setWidth 8), B ((x >>> 16).setWidth 8), B ((x >>> 8).setWidth 8), B (x.setWidth 8)]
/-- The eight bytes of a long word. -/
def bytes8 (x : BitVec 64) : List Value := bytes4 ((x >>> 32).setWidth 32) ++ bytes4 (x.setWidth 32)

def rotr (x : BitVec 32) (n : Nat) : BitVec 32 := (x <<< (32 - n)) ||| (x >>> n)
theorem neg_and : ∀ n : Fin 32, 1 ≤ n.val → bits BinOp.and IntKind.u64 (IntKind.u64.wrap (-(n.val : Int))) 31 = ((32 - n.val : Nat) : Int) := by decide +kernel
def up0 (x : BitVec 32) : BitVec 32 := rotr x 2 ^^^ rotr x 13 ^^^ rotr x 22
def up1 (x : BitVec 32) : BitVec 32 := rotr x 6 ^^^ rotr x 11 ^^^ rotr x 25
def lo0 (x : BitVec 32) : BitVec 32 := rotr x 7 ^^^ rotr x 18 ^^^ x >>> 3
def lo1 (x : BitVec 32) : BitVec 32 := rotr x 17 ^^^ rotr x 19 ^^^ x >>> 10
def word (b0 b1 b2 b3 : BitVec 8) : BitVec 32 := b0.setWidth 32 <<< 24 ||| b1.setWidth 32 <<< 16 ||| b2.setWidth 32 <<< 8 ||| b3.setWidth 32
end Go.Proofs.YtphjjjijdbljaaaDoor.Sh
/- The small functions of package sha2 (SHA-256): rotations, sigmas, words and bytes, each by a contract of its own. -/
namespace Go.Proofs.YtphjjjijdbljaaaDoor.Sh
open Go Go.RowKit
attribute [local go_sem] u_xor u_and u_or u_add u_shl u_shr u_shr3 u_shr10 u_shr24 u_shr16 u_shr8 u_shl24 u_shl16 u_shl8 u_of_b b_of_u
set_option maxHeartbeats 400000 in
theorem rotl32 (x : BitVec 32) (k : Int) (s : Nat) (hk : bits BinOp.and IntKind.u64 (IntKind.u64.wrap k) 31 = (s : Int)) (hs : s ≤ 32) (w : World) :
    Calls Tryd.prog 97 #[U x, .int .i64 k] w fun e w' => e = .returned (U ((x <<< s) ||| (x >>> (32 - s)))) ∧ w' = w := by
  have hw : IntKind.u64.wrap (32 - (s : Int)) = ((32 - s : Nat) : Int) := by rw [IntKind.wrap_u64]; omega
  have m1 : min s 32 = s := by omega
  have m2 : min (32 - s) 32 = 32 - s := by omega
  go_enter Tryd.func97, Tryd.ntmps97
  go_wp2
  go_ret
  exact ⟨rfl, rfl⟩
set_option maxHeartbeats 400000 in
theorem rotr32 (x : BitVec 32) (k : Int) (h1 : 1 ≤ k) (h2 : k ≤ 31) (w : World) :
    Calls Tryd.prog 96 #[U x, .int .i64 k] w fun e w' => e = .returned (U (rotr x k.toNat)) ∧ w' = w := by
  obtain ⟨n, rfl⟩ := Int.eq_ofNat_of_zero_le (show 0 ≤ k by omega)
  have HN : Hid (bits BinOp.and IntKind.u64 (IntKind.u64.wrap (-(n : Int))) 31 = ((32 - n : Nat) : Int)) := neg_and ⟨n, by omega⟩ (by show 1 ≤ n; omega)
  have HE : Hid ((x <<< (32 - n)) ||| (x >>> (32 - (32 - n))) = rotr x n) := by unfold rotr; rw [show 32 - (32 - n) = n by omega]; rfl
  go_enter Tryd.func96, Tryd.ntmps96
  go_wp2_with fail
  refine (rotl32 x _ (32 - n) HN.out (by omega) _).mono ?_
  rintro e w' ⟨rfl, rfl⟩
  rw [HE.out]
  go_wp2
  go_ret
  exact ⟨rfl, rfl⟩
set_option maxHeartbeats 400000 in
theorem up0_any (x : BitVec 32) (w : World) : Calls Tryd.prog 91 #[U x] w fun e w' => e = .returned (U (up0 x)) ∧ w' = w := by
  go_enter Tryd.func91, Tryd.ntmps91
  go_wp2_with (go_at_call 96; refine (rotr32 x _ (by decide) (by decide) _).mono ?_; rintro e w' ⟨rfl, rfl⟩)
  go_ret
  exact ⟨rfl, rfl⟩
set_option maxHeartbeats 400000 in
theorem up1_any (x : BitVec 32) (w : World) : Calls Tryd.prog 90 #[U x] w fun e w' => e = .returned (U (up1 x)) ∧ w' = w := by
  go_enter Tryd.func90, Tryd.ntmps90
  go_wp2_with (go_at_call 96; refine (rotr32 x _ (by decide) (by decide) _).mono ?_; rintro e w' ⟨rfl, rfl⟩)
  go_ret
  exact ⟨rfl, rfl⟩
set_option maxHeartbeats 400000 in
theorem lo0_any (x : BitVec 32) (w : World) : Calls Tryd.prog 95 #[U x] w fun e w' => e = .returned (U (lo0 x)) ∧ w' = w := by
  go_enter Tryd.func95, Tryd.ntmps95
  go_wp2_with (go_at_call 96; refine (rotr32 x _ (by decide) (by decide) _).mono ?_; rintro e w' ⟨rfl, rfl⟩)
  go_ret
  exact ⟨rfl, rfl⟩
set_option maxHeartbeats 400000 in
theorem lo1_any (x : BitVec 32) (w : World) : Calls Tryd.prog 94 #[U x] w fun e w' => e = .returned (U (lo1 x)) ∧ w' = w := by
  go_enter Tryd.func94, Tryd.ntmps94
  go_wp2_with (go_at_call 96; refine (rotr32 x _ (by decide) (by decide) _).mono ?_; rintro e w' ⟨rfl, rfl⟩)
  go_ret
  exact ⟨rfl, rfl⟩
set_option maxHeartbeats 400000 in
theorem word32_any (b off cap : Nat) (b0 b1 b2 b3 : BitVec 8) (w : World) (h0 : w.cell? ⟨b, off, none⟩ = some (B b0)) (h1 : w.cell? ⟨b, off + 1, none⟩ = some (B b1)) (h2 : w.cell? ⟨b, off + 2, none⟩ = some (B b2)) (h3 : w.cell? ⟨b, off + 3, none⟩ = some (B b3)) :
    Calls Tryd.prog 93 #[.slice (some ⟨b, off, none⟩) 4 cap] w fun e w' => e = .returned (U (word b0 b1 b2 b3)) ∧ ∃ n, w' = w.drewN n := by
  go_enter Tryd.func93, Tryd.ntmps93
  go_wp2
  go_quiet (fail)
  go_wp2
  go_ret
  exact ⟨rfl, nq, rfl⟩
set_option maxHeartbeats 400000 in
theorem putWord32_walk (b off cap : Nat) (x : BitVec 32) (w : World) (v0 v1 v2 v3 : Value) (h0 : w.cell? ⟨b, off, none⟩ = some v0) (h1 : w.cell? ⟨b, off + 1, none⟩ = some v1) (h2 : w.cell? ⟨b, off + 2, none⟩ = some v2) (h3 : w.cell? ⟨b, off + 3, none⟩ = some v3)
    (f0 : w.frozen? ⟨b, off, none⟩ = false) (f1 : w.frozen? ⟨b, off + 1, none⟩ = false) (f2 : w.frozen? ⟨b, off + 2, none⟩ = false) (f3 : w.frozen? ⟨b, off + 3, none⟩ = false) :
    Calls Tryd.prog 92 #[.slice (some ⟨b, off, none⟩) 4 cap, U x] w fun e w' => e = .returned (.tuple #[]) ∧
      w' = (((w.setCell ⟨b, off, none⟩ (B ((x >>> 24).setWidth 8))).setCell ⟨b, off + 1, none⟩ (B ((x >>> 16).setWidth 8))).setCell ⟨b, off + 2, none⟩ (B ((x >>> 8).setWidth 8))).setCell ⟨b, off + 3, none⟩ (B (x.setWidth 8)) := by
  go_enter Tryd.func92, Tryd.ntmps92
  go_wp2
  go_end0
  exact ⟨rfl, rfl⟩
end Go.Proofs.YtphjjjijdbljaaaDoor.Sh
