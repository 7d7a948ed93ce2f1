/- Package scalar: plus, minus, scale, tail, order. -/
import Derived.Test.YtdpepiempjoanaaScaA
namespace Go.Proofs.Ytdpepiempjoanaa
open Go Go.RowKit
set_option linter.unusedSimpArgs false
set_option linter.unusedVariables false
def X0 : Cx := (Cx.none.pure 36 gAdd).pure 33 gSub
theorem bit0 : Bit 0 := ⟨by decide, by decide⟩
theorem word0 : Word 0 := ⟨by decide, by decide⟩
theorem X0_ok : X0.Ok Try.prog := gSub_ok (gAdd_ok Cx.none_ok)
namespace M64
theorem maskN (a : Nat) (ha : a < 18446744073709551616) : bits .and .u64 (a : Int) 4294967295 = ((a % 4294967296 : Nat) : Int) := by
  have h := bits_and_u64_nat a 4294967295 ha (by omega)
  have e : a &&& 4294967295 = a % 4294967296 := Nat.and_two_pow_sub_one_eq_mod a 32
  rw [e] at h
  exact h
theorem divN (a : Nat) : (a : Int) / 4294967296 = ((a / 4294967296 : Nat) : Int) := by omega
theorem mulN (a b : Nat) : (a : Int) * (b : Int) = ((a * b : Nat) : Int) := (Int.natCast_mul a b).symm
theorem addN (a b : Nat) : (a : Int) + (b : Int) = ((a + b : Nat) : Int) := (Int.natCast_add a b).symm
theorem wrapN (a : Nat) (ha : a < 18446744073709551616) : IntKind.u64.wrap (a : Int) = (a : Int) := by rw [IntKind.wrap_u64]; omega
theorem wrapM (a : Nat) : IntKind.u64.wrap (a : Int) = ((a % 18446744073709551616 : Nat) : Int) := by rw [IntKind.wrap_u64]; omega
end M64
set_option maxHeartbeats 1000000 in
theorem mul64_nat (x y : Nat) (hx : x < 18446744073709551616) (hy : y < 18446744073709551616) (w : World) :
    Calls Try.prog 39 #[.int .u64 x, .int .u64 y] w fun e w' => e = .returned (.tuple #[.int .u64 ((x * y / 18446744073709551616 : Nat) : Int), .int .u64 ((x * y % 18446744073709551616 : Nat) : Int)]) ∧ w' = w := by
  obtain ⟨bd, bt, bw, hhi⟩ := Lib.mul64_hi x y hx hy
  have ba := Lib.half_mul_le (a := x / 4294967296) (b := y / 4294967296) (by omega) (by omega)
  have bb := Lib.half_mul_le (a := x / 4294967296) (b := y % 4294967296) (by omega) (by omega)
  have bc := Lib.half_mul_le (a := x % 4294967296) (b := y / 4294967296) (by omega) (by omega)
  have ba' : x / 4294967296 * (y / 4294967296) < 18446744073709551616 := by omega
  have bb' : x / 4294967296 * (y % 4294967296) < 18446744073709551616 := by omega
  have bc' : x % 4294967296 * (y / 4294967296) < 18446744073709551616 := by omega
  have bh1 : x / 4294967296 * (y / 4294967296) + (x / 4294967296 * (y % 4294967296) + x % 4294967296 * (y % 4294967296) / 4294967296) / 4294967296 < 18446744073709551616 := by omega
  have bh : x / 4294967296 * (y / 4294967296) + (x / 4294967296 * (y % 4294967296) + x % 4294967296 * (y % 4294967296) / 4294967296) / 4294967296 + ((x / 4294967296 * (y % 4294967296) + x % 4294967296 * (y % 4294967296) / 4294967296) % 4294967296 + x % 4294967296 * (y / 4294967296)) / 4294967296 < 18446744073709551616 := by omega
  go_enter Try.func39, Try.ntmps39
  go_wp2
  simp only [M64.maskN x hx, M64.maskN y hy, M64.divN, M64.mulN, M64.addN, M64.wrapN _ bd, M64.wrapN _ bb', M64.wrapN _ bt, M64.maskN _ bt, M64.wrapN _ bc', M64.wrapN _ bw, M64.wrapN _ ba', M64.wrapN _ bh1, M64.wrapN _ bh, M64.wrapM (x * y)]
  rw [hhi]
  go_ret2
  exact ⟨rfl, rfl⟩
theorem gMul_ok {X : Cx} (hX : X.Ok Try.prog) : (X.pure 39 gMul).Ok Try.prog := by
  refine gBody_ok hX Try.func39 (by kernel_rfl) (by kernel_rfl) ?_
  intro args ps v ha hg hp
  unfold gMul at hg
  split at hg
  · rename_i x y
    simp only [Option.some.injEq, Prod.mk.injEq] at hg
    obtain ⟨rfl, rfl⟩ := hg
    obtain ⟨⟨x0, x1⟩, y0, y1⟩ := hp _ (List.mem_singleton.2 rfl)
    refine ⟨.inl rfl, fun w => ?_⟩
    obtain ⟨x, rfl⟩ := Int.eq_ofNat_of_zero_le x0
    obtain ⟨y, rfl⟩ := Int.eq_ofNat_of_zero_le y0
    refine (mul64_nat x y (by omega) (by omega) w).mono ?_
    rintro e w' ⟨rfl, rfl⟩
    exact ⟨rfl, Below.refl _ _⟩
  · simp at hg
def X1 : Cx := X0.pure 39 gMul
theorem X1_ok : X1.Ok Try.prog := gMul_ok X0_ok
theorem plus_run (a0 a1 a2 a3 b0 b1 b2 b3 : Int) : sfun Try.prog X1 60 Try.f28 (bodyOf Try.f28) [.agg #[.int .u64 a0, .int .u64 a1, .int .u64 a2, .int .u64 a3], .agg #[.int .u64 b0, .int .u64 b1, .int .u64 b2, .int .u64 b3]] = some ([Word a0 ∧ Word b0 ∧ Bit (0),
    Word a1 ∧ Word b1 ∧ Bit (((a0 + b0 + 0) / 18446744073709551616)),
    Word a2 ∧ Word b2 ∧ Bit (((a1 + b1 + ((a0 + b0 + 0) / 18446744073709551616)) / 18446744073709551616)),
    Word a3 ∧ Word b3 ∧ Bit (((a2 + b2 + ((a1 + b1 + ((a0 + b0 + 0) / 18446744073709551616)) / 18446744073709551616)) / 18446744073709551616))], .tuple #[.agg #[.int .u64 ((a0 + b0 + 0) % 18446744073709551616), .int .u64 ((a1 + b1 + ((a0 + b0 + 0) / 18446744073709551616)) % 18446744073709551616), .int .u64 ((a2 + b2 + ((a1 + b1 + ((a0 + b0 + 0) / 18446744073709551616)) / 18446744073709551616)) % 18446744073709551616), .int .u64 ((a3 + b3 + ((a2 + b2 + ((a1 + b1 + ((a0 + b0 + 0) / 18446744073709551616)) / 18446744073709551616)) / 18446744073709551616)) % 18446744073709551616)], .int .u64 ((a3 + b3 + ((a2 + b2 + ((a1 + b1 + ((a0 + b0 + 0) / 18446744073709551616)) / 18446744073709551616)) / 18446744073709551616)) / 18446744073709551616)]) := by kernel_rfl
def gPlus : List Value → Option (List Prop × Value)
  | [A, B] => some ([IsN A ∧ IsN B], .tuple #[nv ((num A + num B) % RN), .int .u64 (((num A + num B) / RN : Nat) : Int)])
  | _ => none
theorem plus_num (a0 a1 a2 a3 b0 b1 b2 b3 : Int) (x0 : Word a0) (x1 : Word a1) (x2 : Word a2) (x3 : Word a3) (y0 : Word b0) (y1 : Word b1) (y2 : Word b2) (y3 : Word b3) (a b : Nat)
    (ha : a0 + a1 * 18446744073709551616 + a2 * 340282366920938463463374607431768211456 + a3 * 6277101735386680763835789423207666416102355444464034512896 = (a : Int)) (hb : b0 + b1 * 18446744073709551616 + b2 * 340282366920938463463374607431768211456 + b3 * 6277101735386680763835789423207666416102355444464034512896 = (b : Int)) :
    (∀ p ∈ [Word a0 ∧ Word b0 ∧ Bit (0),
    Word a1 ∧ Word b1 ∧ Bit (((a0 + b0 + 0) / 18446744073709551616)),
    Word a2 ∧ Word b2 ∧ Bit (((a1 + b1 + ((a0 + b0 + 0) / 18446744073709551616)) / 18446744073709551616)),
    Word a3 ∧ Word b3 ∧ Bit (((a2 + b2 + ((a1 + b1 + ((a0 + b0 + 0) / 18446744073709551616)) / 18446744073709551616)) / 18446744073709551616))], p) ∧ Value.tuple #[.agg #[.int .u64 ((a0 + b0 + 0) % 18446744073709551616), .int .u64 ((a1 + b1 + ((a0 + b0 + 0) / 18446744073709551616)) % 18446744073709551616), .int .u64 ((a2 + b2 + ((a1 + b1 + ((a0 + b0 + 0) / 18446744073709551616)) / 18446744073709551616)) % 18446744073709551616), .int .u64 ((a3 + b3 + ((a2 + b2 + ((a1 + b1 + ((a0 + b0 + 0) / 18446744073709551616)) / 18446744073709551616)) / 18446744073709551616)) % 18446744073709551616)], .int .u64 ((a3 + b3 + ((a2 + b2 + ((a1 + b1 + ((a0 + b0 + 0) / 18446744073709551616)) / 18446744073709551616)) / 18446744073709551616)) / 18446744073709551616)] = .tuple #[nv ((a + b) % RN), .int .u64 (((a + b) / RN : Nat) : Int)] := by
  have hx := x0; have hx1 := x1; have hx2 := x2; have hx3 := x3; have hy := y0; have hy1 := y1; have hy2 := y2; have hy3 := y3
  unfold Word at hx hx1 hx2 hx3 hy hy1 hy2 hy3
  obtain ⟨c0, hc0⟩ : ∃ c, c = (a0 + b0 + 0) / 18446744073709551616 := ⟨_, rfl⟩
  rw [← hc0]
  obtain ⟨c1, hc1⟩ : ∃ c, c = (a1 + b1 + c0) / 18446744073709551616 := ⟨_, rfl⟩
  rw [← hc1]
  obtain ⟨c2, hc2⟩ : ∃ c, c = (a2 + b2 + c1) / 18446744073709551616 := ⟨_, rfl⟩
  rw [← hc2]
  obtain ⟨c3, hc3⟩ : ∃ c, c = (a3 + b3 + c2) / 18446744073709551616 := ⟨_, rfl⟩
  rw [← hc3]
  have k0 : Bit c0 := by unfold Bit; omega
  have k1 : Bit c1 := by unfold Bit at *; omega
  have k2 : Bit c2 := by unfold Bit at *; omega
  have k3 : Bit c3 := by unfold Bit at *; omega
  refine ⟨?_, ?_⟩
  · intro p hp
    simp only [List.mem_cons, List.not_mem_nil, or_false] at hp
    rcases hp with rfl | rfl | rfl | rfl
    · exact ⟨x0, y0, bit0⟩
    · exact ⟨x1, y1, k0⟩
    · exact ⟨x2, y2, k1⟩
    · exact ⟨x3, y3, k2⟩
  · unfold Bit at *
    have hs : (a0 + b0 + 0) % 18446744073709551616 + (a1 + b1 + c0) % 18446744073709551616 * 18446744073709551616 + (a2 + b2 + c1) % 18446744073709551616 * 340282366920938463463374607431768211456 + (a3 + b3 + c2) % 18446744073709551616 * 6277101735386680763835789423207666416102355444464034512896 + c3 * 115792089237316195423570985008687907853269984665640564039457584007913129639936 = (a : Int) + b := by omega
    rw [nv_mk (n := (a + b) % RN) (by unfold Word; omega) (by unfold Word; omega) (by unfold Word; omega) (by unfold Word; omega) (by simp only [RN]; omega)]
    have : c3 = (((a + b) / RN : Nat) : Int) := by simp only [RN]; omega
    rw [this]
theorem gPlus_ok {X : Cx} (hX : X.Ok Try.prog) : (X.pure 28 gPlus).Ok Try.prog := by
  refine gBody_ok hX Try.func28 (by kernel_rfl) (by kernel_rfl) ?_
  intro args ps v ha hg hp
  unfold gPlus at hg
  split at hg
  · rename_i A B
    simp only [Option.some.injEq, Prod.mk.injEq] at hg
    obtain ⟨rfl, rfl⟩ := hg
    obtain ⟨hA, hB⟩ := hp _ (List.mem_singleton.2 rfl)
    refine ⟨.inl rfl, fun w => ?_⟩
    have lA := num_lt hA
    have lB := num_lt hB
    rw [hA, hB, num_nv' lA, num_nv' lB]
    generalize num A = a at *
    generalize num B = b at *
    have k := plus_num (lw a 0) (lw a 1) (lw a 2) (lw a 3) (lw b 0) (lw b 1) (lw b 2) (lw b 3) (lw_word _ _) (lw_word _ _) (lw_word _ _) (lw_word _ _) (lw_word _ _) (lw_word _ _) (lw_word _ _) (lw_word _ _) a b (by rw [words_sum, Nat.mod_eq_of_lt lA]) (by rw [words_sum, Nat.mod_eq_of_lt lB])
    have h := sfun_calls X1_ok mixed Try.func28 (by kernel_rfl) (plus_run (lw a 0) (lw a 1) (lw a 2) (lw a 3) (lw b 0) (lw b 1) (lw b 2) (lw b 3)) k.1 rfl (.inl rfl) w
    rw [k.2] at h
    exact h
  · simp at hg
theorem minus_run (a0 a1 a2 a3 b0 b1 b2 b3 : Int) : sfun Try.prog X1 60 Try.f18 (bodyOf Try.f18) [.agg #[.int .u64 a0, .int .u64 a1, .int .u64 a2, .int .u64 a3], .agg #[.int .u64 b0, .int .u64 b1, .int .u64 b2, .int .u64 b3]] = some ([Word a0 ∧ Word b0 ∧ Bit (0),
    Word a1 ∧ Word b1 ∧ Bit ((bor a0 (b0 + 0))),
    Word a2 ∧ Word b2 ∧ Bit ((bor a1 (b1 + (bor a0 (b0 + 0))))),
    Word a3 ∧ Word b3 ∧ Bit ((bor a2 (b2 + (bor a1 (b1 + (bor a0 (b0 + 0)))))))], .tuple #[.agg #[.int .u64 ((a0 - b0 - 0) % 18446744073709551616), .int .u64 ((a1 - b1 - (bor a0 (b0 + 0))) % 18446744073709551616), .int .u64 ((a2 - b2 - (bor a1 (b1 + (bor a0 (b0 + 0))))) % 18446744073709551616), .int .u64 ((a3 - b3 - (bor a2 (b2 + (bor a1 (b1 + (bor a0 (b0 + 0))))))) % 18446744073709551616)], .int .u64 (bor a3 (b3 + (bor a2 (b2 + (bor a1 (b1 + (bor a0 (b0 + 0))))))))]) := by kernel_rfl
def gMinus : List Value → Option (List Prop × Value)
  | [A, B] => some ([IsN A ∧ IsN B], .tuple #[nv ((num A + RN - num B) % RN), .int .u64 (if num A < num B then 1 else 0)])
  | _ => none
theorem minus_num (a0 a1 a2 a3 b0 b1 b2 b3 : Int) (x0 : Word a0) (x1 : Word a1) (x2 : Word a2) (x3 : Word a3) (y0 : Word b0) (y1 : Word b1) (y2 : Word b2) (y3 : Word b3) (a b : Nat) (hla : a < RN) (hlb : b < RN)
    (ha : a0 + a1 * 18446744073709551616 + a2 * 340282366920938463463374607431768211456 + a3 * 6277101735386680763835789423207666416102355444464034512896 = (a : Int)) (hb : b0 + b1 * 18446744073709551616 + b2 * 340282366920938463463374607431768211456 + b3 * 6277101735386680763835789423207666416102355444464034512896 = (b : Int)) :
    (∀ p ∈ [Word a0 ∧ Word b0 ∧ Bit (0),
    Word a1 ∧ Word b1 ∧ Bit ((bor a0 (b0 + 0))),
    Word a2 ∧ Word b2 ∧ Bit ((bor a1 (b1 + (bor a0 (b0 + 0))))),
    Word a3 ∧ Word b3 ∧ Bit ((bor a2 (b2 + (bor a1 (b1 + (bor a0 (b0 + 0)))))))], p) ∧ Value.tuple #[.agg #[.int .u64 ((a0 - b0 - 0) % 18446744073709551616), .int .u64 ((a1 - b1 - (bor a0 (b0 + 0))) % 18446744073709551616), .int .u64 ((a2 - b2 - (bor a1 (b1 + (bor a0 (b0 + 0))))) % 18446744073709551616), .int .u64 ((a3 - b3 - (bor a2 (b2 + (bor a1 (b1 + (bor a0 (b0 + 0))))))) % 18446744073709551616)], .int .u64 (bor a3 (b3 + (bor a2 (b2 + (bor a1 (b1 + (bor a0 (b0 + 0))))))))] = .tuple #[nv ((a + RN - b) % RN), .int .u64 (if a < b then 1 else 0)] := by
  have hx := x0; have hx1 := x1; have hx2 := x2; have hx3 := x3; have hy := y0; have hy1 := y1; have hy2 := y2; have hy3 := y3
  unfold Word at hx hx1 hx2 hx3 hy hy1 hy2 hy3
  obtain ⟨c0, hc0⟩ : ∃ c, c = bor a0 (b0 + 0) := ⟨_, rfl⟩
  rw [← hc0]
  obtain ⟨c1, hc1⟩ : ∃ c, c = bor a1 (b1 + c0) := ⟨_, rfl⟩
  rw [← hc1]
  obtain ⟨c2, hc2⟩ : ∃ c, c = bor a2 (b2 + c1) := ⟨_, rfl⟩
  rw [← hc2]
  obtain ⟨c3, hc3⟩ : ∃ c, c = bor a3 (b3 + c2) := ⟨_, rfl⟩
  rw [← hc3]
  have k0 : Bit c0 := hc0 ▸ bor_bit _ _
  have k1 : Bit c1 := hc1 ▸ bor_bit _ _
  have k2 : Bit c2 := hc2 ▸ bor_bit _ _
  have k3 : Bit c3 := hc3 ▸ bor_bit _ _
  refine ⟨?_, ?_⟩
  · intro p hp
    simp only [List.mem_cons, List.not_mem_nil, or_false] at hp
    rcases hp with rfl | rfl | rfl | rfl
    · exact ⟨x0, y0, bit0⟩
    · exact ⟨x1, y1, k0⟩
    · exact ⟨x2, y2, k1⟩
    · exact ⟨x3, y3, k2⟩
  · unfold Bit at *
    have e0 : (a0 - b0 - 0) % 18446744073709551616 = a0 - b0 + c0 * 18446744073709551616 := by unfold bor at hc0; split at hc0 <;> omega
    have e1 : (a1 - b1 - c0) % 18446744073709551616 = a1 - b1 - c0 + c1 * 18446744073709551616 := by unfold bor at hc1; split at hc1 <;> omega
    have e2 : (a2 - b2 - c1) % 18446744073709551616 = a2 - b2 - c1 + c2 * 18446744073709551616 := by unfold bor at hc2; split at hc2 <;> omega
    have e3 : (a3 - b3 - c2) % 18446744073709551616 = a3 - b3 - c2 + c3 * 18446744073709551616 := by unfold bor at hc3; split at hc3 <;> omega
    have w0 : Word ((a0 - b0 - 0) % 18446744073709551616) := by unfold Word; omega
    have w1 : Word ((a1 - b1 - c0) % 18446744073709551616) := by unfold Word; omega
    have w2 : Word ((a2 - b2 - c1) % 18446744073709551616) := by unfold Word; omega
    have w3 : Word ((a3 - b3 - c2) % 18446744073709551616) := by unfold Word; omega
    have hs : (a0 - b0 - 0) % 18446744073709551616 + (a1 - b1 - c0) % 18446744073709551616 * 18446744073709551616 + (a2 - b2 - c1) % 18446744073709551616 * 340282366920938463463374607431768211456 + (a3 - b3 - c2) % 18446744073709551616 * 6277101735386680763835789423207666416102355444464034512896 = (a : Int) - b + c3 * 115792089237316195423570985008687907853269984665640564039457584007913129639936 := by omega
    clear hc0 hc1 hc2 hc3 e0 e1 e2 e3
    generalize (a0 - b0 - 0) % 18446744073709551616 = s0 at *
    generalize (a1 - b1 - c0) % 18446744073709551616 = s1 at *
    generalize (a2 - b2 - c1) % 18446744073709551616 = s2 at *
    generalize (a3 - b3 - c2) % 18446744073709551616 = s3 at *
    simp only [RN] at hla hlb
    have hsb : 0 ≤ s0 + s1 * 18446744073709551616 + s2 * 340282366920938463463374607431768211456 + s3 * 6277101735386680763835789423207666416102355444464034512896 ∧ s0 + s1 * 18446744073709551616 + s2 * 340282366920938463463374607431768211456 + s3 * 6277101735386680763835789423207666416102355444464034512896 < 115792089237316195423570985008687907853269984665640564039457584007913129639936 := by unfold Word at *; omega
    rw [nv_mk (n := (a + RN - b) % RN) w0 w1 w2 w3 (by simp only [RN]; omega)]
    have : c3 = (if a < b then 1 else 0) := by split <;> omega
    rw [this]
theorem gMinus_ok {X : Cx} (hX : X.Ok Try.prog) : (X.pure 18 gMinus).Ok Try.prog := by
  refine gBody_ok hX Try.func18 (by kernel_rfl) (by kernel_rfl) ?_
  intro args ps v ha hg hp
  unfold gMinus at hg
  split at hg
  · rename_i A B
    simp only [Option.some.injEq, Prod.mk.injEq] at hg
    obtain ⟨rfl, rfl⟩ := hg
    obtain ⟨hA, hB⟩ := hp _ (List.mem_singleton.2 rfl)
    refine ⟨.inl rfl, fun w => ?_⟩
    have lA := num_lt hA
    have lB := num_lt hB
    rw [hA, hB, num_nv' lA, num_nv' lB]
    generalize num A = a at *
    generalize num B = b at *
    have k := minus_num (lw a 0) (lw a 1) (lw a 2) (lw a 3) (lw b 0) (lw b 1) (lw b 2) (lw b 3) (lw_word _ _) (lw_word _ _) (lw_word _ _) (lw_word _ _) (lw_word _ _) (lw_word _ _) (lw_word _ _) (lw_word _ _) a b lA lB (by rw [words_sum, Nat.mod_eq_of_lt lA]) (by rw [words_sum, Nat.mod_eq_of_lt lB])
    have h := sfun_calls X1_ok mixed Try.func18 (by kernel_rfl) (minus_run (lw a 0) (lw a 1) (lw a 2) (lw a 3) (lw b 0) (lw b 1) (lw b 2) (lw b 3)) k.1 rfl (.inl rfl) w
    rw [k.2] at h
    exact h
  · simp at hg
theorem scale_run (n0 n1 n2 n3 x : Int) : sfun Try.prog X1 60 Try.f37 (bodyOf Try.f37) [.agg #[.int .u64 n0, .int .u64 n1, .int .u64 n2, .int .u64 n3], .int .u64 x] = some ([Word n0 ∧ Word x,
    Word (n0 * x % 18446744073709551616) ∧ Word 0 ∧ Bit 0,
    Word n1 ∧ Word x,
    Word (n1 * x % 18446744073709551616) ∧ Word (IntKind.u64.wrap ((n0 * x / 18446744073709551616) + ((n0 * x % 18446744073709551616) + 0 + 0) / 18446744073709551616)) ∧ Bit 0,
    Word n2 ∧ Word x,
    Word (n2 * x % 18446744073709551616) ∧ Word (IntKind.u64.wrap ((n1 * x / 18446744073709551616) + ((n1 * x % 18446744073709551616) + (IntKind.u64.wrap ((n0 * x / 18446744073709551616) + ((n0 * x % 18446744073709551616) + 0 + 0) / 18446744073709551616)) + 0) / 18446744073709551616)) ∧ Bit 0,
    Word n3 ∧ Word x,
    Word (n3 * x % 18446744073709551616) ∧ Word (IntKind.u64.wrap ((n2 * x / 18446744073709551616) + ((n2 * x % 18446744073709551616) + (IntKind.u64.wrap ((n1 * x / 18446744073709551616) + ((n1 * x % 18446744073709551616) + (IntKind.u64.wrap ((n0 * x / 18446744073709551616) + ((n0 * x % 18446744073709551616) + 0 + 0) / 18446744073709551616)) + 0) / 18446744073709551616)) + 0) / 18446744073709551616)) ∧ Bit 0], .tuple #[.agg #[.int .u64 (((n0 * x % 18446744073709551616) + 0 + 0) % 18446744073709551616), .int .u64 (((n1 * x % 18446744073709551616) + (IntKind.u64.wrap ((n0 * x / 18446744073709551616) + ((n0 * x % 18446744073709551616) + 0 + 0) / 18446744073709551616)) + 0) % 18446744073709551616), .int .u64 (((n2 * x % 18446744073709551616) + (IntKind.u64.wrap ((n1 * x / 18446744073709551616) + ((n1 * x % 18446744073709551616) + (IntKind.u64.wrap ((n0 * x / 18446744073709551616) + ((n0 * x % 18446744073709551616) + 0 + 0) / 18446744073709551616)) + 0) / 18446744073709551616)) + 0) % 18446744073709551616), .int .u64 (((n3 * x % 18446744073709551616) + (IntKind.u64.wrap ((n2 * x / 18446744073709551616) + ((n2 * x % 18446744073709551616) + (IntKind.u64.wrap ((n1 * x / 18446744073709551616) + ((n1 * x % 18446744073709551616) + (IntKind.u64.wrap ((n0 * x / 18446744073709551616) + ((n0 * x % 18446744073709551616) + 0 + 0) / 18446744073709551616)) + 0) / 18446744073709551616)) + 0) / 18446744073709551616)) + 0) % 18446744073709551616)], .int .u64 (IntKind.u64.wrap ((n3 * x / 18446744073709551616) + ((n3 * x % 18446744073709551616) + (IntKind.u64.wrap ((n2 * x / 18446744073709551616) + ((n2 * x % 18446744073709551616) + (IntKind.u64.wrap ((n1 * x / 18446744073709551616) + ((n1 * x % 18446744073709551616) + (IntKind.u64.wrap ((n0 * x / 18446744073709551616) + ((n0 * x % 18446744073709551616) + 0 + 0) / 18446744073709551616)) + 0) / 18446744073709551616)) + 0) / 18446744073709551616)) + 0) / 18446744073709551616))]) := by kernel_rfl
def gScale : List Value → Option (List Prop × Value)
  | [A, .int .u64 x] => some ([IsN A ∧ Word x], .tuple #[nv (num A * x.toNat % RN), .int .u64 ((num A * x.toNat / RN : Nat) : Int)])
  | _ => none
theorem scale_step (n x o : Int) (hn : Word n) (hx : Word x) (ho : Word o) : ∃ s k, (n * x % 18446744073709551616 + o + 0) % 18446744073709551616 = s ∧ IntKind.u64.wrap (n * x / 18446744073709551616 + (n * x % 18446744073709551616 + o + 0) / 18446744073709551616) = k ∧ Word s ∧ Word k ∧ s + k * 18446744073709551616 = n * x + o ∧ Word (n * x % 18446744073709551616) := by
  obtain ⟨n0, n1⟩ := hn
  obtain ⟨x0, x1⟩ := hx
  obtain ⟨o0, o1⟩ := ho
  have hp : n * x ≤ 18446744073709551615 * 18446744073709551615 := Int.mul_le_mul (by omega) (by omega) x0 (by omega)
  have hp0 : 0 ≤ n * x := Int.mul_nonneg n0 x0
  generalize n * x = y at *
  refine ⟨_, _, rfl, rfl, ?_, ?_, ?_, ?_⟩
  all_goals (try rw [IntKind.wrap_u64])
  all_goals (try unfold Word)
  all_goals omega
theorem scale_num (n0 n1 n2 n3 x : Int) (y0 : Word n0) (y1 : Word n1) (y2 : Word n2) (y3 : Word n3) (hx : Word x) (a : Nat)
    (ha : n0 + n1 * 18446744073709551616 + n2 * 340282366920938463463374607431768211456 + n3 * 6277101735386680763835789423207666416102355444464034512896 = (a : Int)) :
    (∀ p ∈ [Word n0 ∧ Word x,
    Word (n0 * x % 18446744073709551616) ∧ Word 0 ∧ Bit 0,
    Word n1 ∧ Word x,
    Word (n1 * x % 18446744073709551616) ∧ Word (IntKind.u64.wrap ((n0 * x / 18446744073709551616) + ((n0 * x % 18446744073709551616) + 0 + 0) / 18446744073709551616)) ∧ Bit 0,
    Word n2 ∧ Word x,
    Word (n2 * x % 18446744073709551616) ∧ Word (IntKind.u64.wrap ((n1 * x / 18446744073709551616) + ((n1 * x % 18446744073709551616) + (IntKind.u64.wrap ((n0 * x / 18446744073709551616) + ((n0 * x % 18446744073709551616) + 0 + 0) / 18446744073709551616)) + 0) / 18446744073709551616)) ∧ Bit 0,
    Word n3 ∧ Word x,
    Word (n3 * x % 18446744073709551616) ∧ Word (IntKind.u64.wrap ((n2 * x / 18446744073709551616) + ((n2 * x % 18446744073709551616) + (IntKind.u64.wrap ((n1 * x / 18446744073709551616) + ((n1 * x % 18446744073709551616) + (IntKind.u64.wrap ((n0 * x / 18446744073709551616) + ((n0 * x % 18446744073709551616) + 0 + 0) / 18446744073709551616)) + 0) / 18446744073709551616)) + 0) / 18446744073709551616)) ∧ Bit 0], p) ∧ Value.tuple #[.agg #[.int .u64 (((n0 * x % 18446744073709551616) + 0 + 0) % 18446744073709551616), .int .u64 (((n1 * x % 18446744073709551616) + (IntKind.u64.wrap ((n0 * x / 18446744073709551616) + ((n0 * x % 18446744073709551616) + 0 + 0) / 18446744073709551616)) + 0) % 18446744073709551616), .int .u64 (((n2 * x % 18446744073709551616) + (IntKind.u64.wrap ((n1 * x / 18446744073709551616) + ((n1 * x % 18446744073709551616) + (IntKind.u64.wrap ((n0 * x / 18446744073709551616) + ((n0 * x % 18446744073709551616) + 0 + 0) / 18446744073709551616)) + 0) / 18446744073709551616)) + 0) % 18446744073709551616), .int .u64 (((n3 * x % 18446744073709551616) + (IntKind.u64.wrap ((n2 * x / 18446744073709551616) + ((n2 * x % 18446744073709551616) + (IntKind.u64.wrap ((n1 * x / 18446744073709551616) + ((n1 * x % 18446744073709551616) + (IntKind.u64.wrap ((n0 * x / 18446744073709551616) + ((n0 * x % 18446744073709551616) + 0 + 0) / 18446744073709551616)) + 0) / 18446744073709551616)) + 0) / 18446744073709551616)) + 0) % 18446744073709551616)], .int .u64 (IntKind.u64.wrap ((n3 * x / 18446744073709551616) + ((n3 * x % 18446744073709551616) + (IntKind.u64.wrap ((n2 * x / 18446744073709551616) + ((n2 * x % 18446744073709551616) + (IntKind.u64.wrap ((n1 * x / 18446744073709551616) + ((n1 * x % 18446744073709551616) + (IntKind.u64.wrap ((n0 * x / 18446744073709551616) + ((n0 * x % 18446744073709551616) + 0 + 0) / 18446744073709551616)) + 0) / 18446744073709551616)) + 0) / 18446744073709551616)) + 0) / 18446744073709551616))] = .tuple #[nv (a * x.toNat % RN), .int .u64 ((a * x.toNat / RN : Nat) : Int)] := by
  obtain ⟨s0, k0, e0, f0, g0, h0, i0, j0⟩ := scale_step n0 x 0 y0 hx word0
  rw [e0, f0]
  obtain ⟨s1, k1, e1, f1, g1, h1, i1, j1⟩ := scale_step n1 x k0 y1 hx h0
  rw [e1, f1]
  obtain ⟨s2, k2, e2, f2, g2, h2, i2, j2⟩ := scale_step n2 x k1 y2 hx h1
  rw [e2, f2]
  obtain ⟨s3, k3, e3, f3, g3, h3, i3, j3⟩ := scale_step n3 x k2 y3 hx h2
  rw [e3, f3]
  refine ⟨?_, ?_⟩
  · intro p hp
    simp only [List.mem_cons, List.not_mem_nil, or_false] at hp
    rcases hp with rfl | rfl | rfl | rfl | rfl | rfl | rfl | rfl
    · exact ⟨y0, hx⟩
    · exact ⟨j0, word0, bit0⟩
    · exact ⟨y1, hx⟩
    · exact ⟨j1, h0, bit0⟩
    · exact ⟨y2, hx⟩
    · exact ⟨j2, h1, bit0⟩
    · exact ⟨y3, hx⟩
    · exact ⟨j3, h2, bit0⟩
  · obtain ⟨x, rfl⟩ := Int.eq_ofNat_of_zero_le hx.1
    have hv : s0 + s1 * 18446744073709551616 + s2 * 340282366920938463463374607431768211456 + s3 * 6277101735386680763835789423207666416102355444464034512896 + k3 * 115792089237316195423570985008687907853269984665640564039457584007913129639936 = ((a * x : Nat) : Int) := by
      rw [Int.natCast_mul, ← ha, Int.add_mul (n0 + _ + _), Int.add_mul (n0 + _), Int.add_mul n0, Int.mul_right_comm n1, Int.mul_right_comm n2, Int.mul_right_comm n3]
      omega
    rw [Int.toNat_natCast]
    generalize a * x = q at *
    unfold Word at *
    have hsb : 0 ≤ s0 + s1 * 18446744073709551616 + s2 * 340282366920938463463374607431768211456 + s3 * 6277101735386680763835789423207666416102355444464034512896 ∧ s0 + s1 * 18446744073709551616 + s2 * 340282366920938463463374607431768211456 + s3 * 6277101735386680763835789423207666416102355444464034512896 < 115792089237316195423570985008687907853269984665640564039457584007913129639936 := by omega
    rw [nv_mk (n := q % RN) g0 g1 g2 g3 (by simp only [RN]; omega)]
    have : k3 = ((q / RN : Nat) : Int) := by simp only [RN]; omega
    rw [this]
theorem gScale_ok {X : Cx} (hX : X.Ok Try.prog) : (X.pure 37 gScale).Ok Try.prog := by
  refine gBody_ok hX Try.func37 (by kernel_rfl) (by kernel_rfl) ?_
  intro args ps v ha hg hp
  unfold gScale at hg
  split at hg
  · rename_i A x
    simp only [Option.some.injEq, Prod.mk.injEq] at hg
    obtain ⟨rfl, rfl⟩ := hg
    obtain ⟨hA, hx⟩ := hp _ (List.mem_singleton.2 rfl)
    refine ⟨.inl rfl, fun w => ?_⟩
    have lA := num_lt hA
    rw [hA, num_nv' lA]
    generalize num A = a at *
    have k := scale_num (lw a 0) (lw a 1) (lw a 2) (lw a 3) x (lw_word _ _) (lw_word _ _) (lw_word _ _) (lw_word _ _) hx a (by rw [words_sum, Nat.mod_eq_of_lt lA])
    have h := sfun_calls X1_ok mixed Try.func37 (by kernel_rfl) (scale_run (lw a 0) (lw a 1) (lw a 2) (lw a 3) x) k.1 rfl (.inl rfl) w
    rw [k.2] at h
    exact h
  · simp at hg
/-- L - 2^252, and L. -/
abbrev TN : Nat := 27742317777372353535851937790883648493
abbrev LN : Nat := 7237005577332262213973186563042994240857116359379907606001950938285454250989
def gTail : List Value → Option (List Prop × Value)
  | [] => some ([], nv TN)
  | _ => none
def gOrder : List Value → Option (List Prop × Value)
  | [] => some ([], nv LN)
  | _ => none
theorem gTail_ok {X : Cx} (hX : X.Ok Try.prog) : (X.pure 34 gTail).Ok Try.prog := by
  refine gBody_ok hX Try.func34 (by kernel_rfl) (by kernel_rfl) ?_
  intro args ps v ha hg hp
  unfold gTail at hg
  split at hg
  · simp only [Option.some.injEq, Prod.mk.injEq] at hg
    obtain ⟨rfl, rfl⟩ := hg
    have hr : sfun Try.prog X1 60 Try.f34 (bodyOf Try.f34) [] = some ([], nv TN) := by kernel_rfl
    exact ⟨.inl rfl, sfun_calls X1_ok mixed Try.func34 (by kernel_rfl) hr (by simp) rfl (.inl rfl)⟩
  · simp at hg
def X2 : Cx := (((X1.pure 28 gPlus).pure 18 gMinus).pure 37 gScale).pure 34 gTail
theorem X2_ok : X2.Ok Try.prog := gTail_ok (gScale_ok (gMinus_ok (gPlus_ok X1_ok)))
theorem gOrder_ok {X : Cx} (hX : X.Ok Try.prog) : (X.pure 20 gOrder).Ok Try.prog := by
  refine gBody_ok hX Try.func20 (by kernel_rfl) (by kernel_rfl) ?_
  intro args ps v ha hg hp
  unfold gOrder at hg
  split at hg
  · simp only [Option.some.injEq, Prod.mk.injEq] at hg
    obtain ⟨rfl, rfl⟩ := hg
    have hr : sfun Try.prog X2 60 Try.f20 (bodyOf Try.f20) [] = some ([], nv LN) := by kernel_rfl
    exact ⟨.inl rfl, sfun_calls X2_ok mixed Try.func20 (by kernel_rfl) hr (by simp) rfl (.inl rfl)⟩
  · simp at hg
def X3 : Cx := X2.pure 20 gOrder
theorem X3_ok : X3.Ok Try.prog := gOrder_ok X2_ok
end Go.Proofs.Ytdpepiempjoanaa
