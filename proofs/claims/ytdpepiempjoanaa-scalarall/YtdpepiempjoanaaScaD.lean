/- Package scalar: restAfterDigit. -/
import Derived.Test.YtdpepiempjoanaaScaC
namespace Go.Proofs.Ytdpepiempjoanaa
open Go Go.RowKit
set_option linter.unusedSimpArgs false
set_option linter.unusedVariables false
/-- What is left of the rest, shifted by a digit. -/
def leftV (r : Nat) (d : Int) : Value := .agg #[.int .u64 (bits .or .u64 (IntKind.u64.wrap (lw r 0 * 2 ^ 32)) d), .int .u64 (bits .or .u64 (IntKind.u64.wrap (lw r 1 * 2 ^ 32)) (Int.fdiv (lw r 0) (2 ^ 32))), .int .u64 (bits .or .u64 (IntKind.u64.wrap (lw r 2 * 2 ^ 32)) (Int.fdiv (lw r 1) (2 ^ 32))), .int .u64 (bits .or .u64 (IntKind.u64.wrap (bits .and .u64 (lw r 3) 268435455 * 2 ^ 32)) (Int.fdiv (lw r 2) (2 ^ 32)))]
def overI (r : Nat) : Int := Int.fdiv (lw r 3) (2 ^ 28)
def worthV (r : Nat) : Value := nv (num (nv TN) * (overI r).toNat % RN)
def diffV (r : Nat) (d : Int) : Value := nv ((num (leftV r d) + RN - num (worthV r)) % RN)
def digObs (r : Nat) (d : Int) : List Prop := [IsN (nv TN) ∧ Word (overI r), IsN (leftV r d) ∧ IsN (worthV r)]
theorem dig_run1 (r : Nat) (d : Int) : sfun Try.prog (X4.tell [(57, true)]) 60 Try.f38 (bodyOf Try.f38) [nv r, .int .u64 d] =
    some (digObs r d ++ [((if num (leftV r d) < num (worthV r) then 1 else 0 : Int) == 1) = true, IsN (diffV r d) ∧ IsN (nv LN)], nv ((num (diffV r d) + num (nv LN)) % RN)) := by kernel_rfl
theorem dig_run0 (r : Nat) (d : Int) : sfun Try.prog (X4.tell [(57, false)]) 60 Try.f38 (bodyOf Try.f38) [nv r, .int .u64 d] =
    some (digObs r d ++ [((if num (leftV r d) < num (worthV r) then 1 else 0 : Int) == 1) = false], diffV r d) := by kernel_rfl
theorem shl_or (x y : Nat) (hx : x < 18446744073709551616) (hy : y < 4294967296) : bits .or .u64 (IntKind.u64.wrap ((x : Int) * 2 ^ 32)) (y : Int) = ((x % 4294967296 * 4294967296 + y : Nat) : Int) := by
  have e : IntKind.u64.wrap ((x : Int) * 2 ^ 32) = ((x % 4294967296 * 2 ^ 32 : Nat) : Int) := by rw [IntKind.wrap_u64]; omega
  rw [e, bits_or_u64_nat _ _ (by omega) (by omega)]
  congr 1
  rw [← Nat.shiftLeft_eq, ← Nat.shiftLeft_add_eq_or_of_lt (i := 32) (by omega), Nat.shiftLeft_eq]
theorem and28 (x : Nat) (hx : x < 18446744073709551616) : bits .and .u64 (x : Int) 268435455 = ((x % 268435456 : Nat) : Int) := by
  have h := bits_and_u64_nat x 268435455 hx (by omega)
  have e : x &&& 268435455 = x % 268435456 := Nat.and_two_pow_sub_one_eq_mod x 28
  rw [e] at h
  exact h
theorem fdiv_nat (x k : Nat) : Int.fdiv (x : Int) (2 ^ k) = ((x / 2 ^ k : Nat) : Int) := by
  have e : (2 : Int) ^ k = ((2 ^ k : Nat) : Int) := by rw [Int.natCast_pow]; rfl
  rw [e, Int.fdiv_eq_ediv_of_nonneg _ (Int.natCast_nonneg _), ← Int.natCast_ediv]
theorem leftV_eq (r d : Nat) (hr : r < RN) (hd : d < 4294967296) : leftV r d = nv (r % 1684996666696914987166688442938726917102321526408785780068975640576 * 4294967296 + d) := by
  have hs := words_sum r
  rw [Nat.mod_eq_of_lt hr] at hs
  have w0 := lw_word r 0; have w1 := lw_word r 1; have w2 := lw_word r 2; have w3 := lw_word r 3
  unfold leftV
  generalize lw r 0 = x0 at *
  generalize lw r 1 = x1 at *
  generalize lw r 2 = x2 at *
  generalize lw r 3 = x3 at *
  obtain ⟨a0, b0⟩ := w0; obtain ⟨a1, b1⟩ := w1; obtain ⟨a2, b2⟩ := w2; obtain ⟨a3, b3⟩ := w3
  obtain ⟨x0, rfl⟩ := Int.eq_ofNat_of_zero_le a0
  obtain ⟨x1, rfl⟩ := Int.eq_ofNat_of_zero_le a1
  obtain ⟨x2, rfl⟩ := Int.eq_ofNat_of_zero_le a2
  obtain ⟨x3, rfl⟩ := Int.eq_ofNat_of_zero_le a3
  rw [and28 x3 (by omega), fdiv_nat, fdiv_nat, fdiv_nat]
  simp only [show (2 : Nat) ^ 32 = 4294967296 from rfl]
  rw [shl_or x0 d (by omega) hd, shl_or x1 _ (by omega) (by omega), shl_or x2 _ (by omega) (by omega), shl_or (x3 % 268435456) _ (by omega) (by omega)]
  refine nv_mk ?_ ?_ ?_ ?_ ?_
  · unfold Word; omega
  · unfold Word; omega
  · unfold Word; omega
  · unfold Word; omega
  · have hr2 : r % 1684996666696914987166688442938726917102321526408785780068975640576 = x0 + x1 * 18446744073709551616 + x2 * 340282366920938463463374607431768211456 + x3 % 268435456 * 6277101735386680763835789423207666416102355444464034512896 := by omega
    rw [hr2]
    omega
theorem overI_eq (r : Nat) (hr : r < RN) : overI r = ((r / 1684996666696914987166688442938726917102321526408785780068975640576 : Nat) : Int) := by
  have hs := words_sum r
  rw [Nat.mod_eq_of_lt hr] at hs
  have w0 := lw_word r 0; have w1 := lw_word r 1; have w2 := lw_word r 2; have w3 := lw_word r 3
  unfold overI
  generalize lw r 0 = x0 at *
  generalize lw r 1 = x1 at *
  generalize lw r 2 = x2 at *
  generalize lw r 3 = x3 at *
  obtain ⟨a0, b0⟩ := w0; obtain ⟨a1, b1⟩ := w1; obtain ⟨a2, b2⟩ := w2; obtain ⟨a3, b3⟩ := w3
  obtain ⟨x3, rfl⟩ := Int.eq_ofNat_of_zero_le a3
  rw [fdiv_nat]
  simp only [show (2 : Nat) ^ 28 = 268435456 from rfl]
  omega
theorem lt_LN_RN {x : Nat} (h : x < LN) : x < RN := by simp only [LN, RN] at *; omega
/-- The number that comes of it. -/
theorem dig_num (r d : Nat) (hr : r < LN) (hd : d < 4294967296) :
    num (leftV r d) = r % 1684996666696914987166688442938726917102321526408785780068975640576 * 4294967296 + d ∧ num (worthV r) = TN * (r / 1684996666696914987166688442938726917102321526408785780068975640576) ∧ (∀ p ∈ digObs r d, p) ∧
    (num (leftV r d) < num (worthV r) → (num (leftV r d) + RN - num (worthV r)) % RN + LN - RN = (r * 4294967296 + d) % LN ∧ RN ≤ (num (leftV r d) + RN - num (worthV r)) % RN + LN) ∧
    (¬ num (leftV r d) < num (worthV r) → (num (leftV r d) + RN - num (worthV r)) % RN = (r * 4294967296 + d) % LN) := by
  have h1 := leftV_eq r d (lt_LN_RN hr) hd
  have h2 := overI_eq r (lt_LN_RN hr)
  have h3 : worthV r = nv (TN * (r / 1684996666696914987166688442938726917102321526408785780068975640576)) := by
    unfold worthV
    rw [h2, num_nv' (by decide), Int.toNat_natCast, nv_mod]
  have e1 : num (leftV r d) = r % 1684996666696914987166688442938726917102321526408785780068975640576 * 4294967296 + d := by rw [h1, num_nv' (by simp only [RN]; omega)]
  have e2 : num (worthV r) = TN * (r / 1684996666696914987166688442938726917102321526408785780068975640576) := by rw [h3, num_nv' (by simp only [RN, LN, TN] at *; omega)]
  refine ⟨e1, e2, ?_, ?_, ?_⟩
  · intro p hp
    simp only [digObs, List.mem_cons, List.not_mem_nil, or_false] at hp
    rcases hp with rfl | rfl
    · exact ⟨isN_nv _, by rw [h2]; simp only [LN] at hr; unfold Word; omega⟩
    · exact ⟨by rw [h1]; exact isN_nv _, isN_nv _⟩
  · rw [e1, e2]
    intro h
    simp only [LN, RN, TN] at *
    omega
  · rw [e1, e2]
    intro h
    simp only [LN, RN, TN] at *
    omega
theorem sub_once (D : Nat) (h : D < RN) (h2 : RN ≤ D + LN) : (D + LN) % RN = D + LN - RN := by
  simp only [LN, RN] at *
  omega
def gDig : List Value → Option (List Prop × Value)
  | [A, .int .u64 d] => some ([IsN A ∧ num A < LN ∧ 0 ≤ d ∧ d < 4294967296], nv ((num A * 4294967296 + d.toNat) % LN))
  | _ => none
theorem gDig_ok {X : Cx} (hX : X.Ok Try.prog) : (X.pure 38 gDig).Ok Try.prog := by
  refine gBody_ok hX Try.func38 (by kernel_rfl) (by kernel_rfl) ?_
  intro args ps v ha hg hp
  unfold gDig at hg
  split at hg
  · rename_i A d
    simp only [Option.some.injEq, Prod.mk.injEq] at hg
    obtain ⟨rfl, rfl⟩ := hg
    obtain ⟨hA, hl, d0, d1⟩ := hp _ (List.mem_singleton.2 rfl)
    refine ⟨.inl rfl, fun w => ?_⟩
    rw [hA, num_nv' (num_lt hA)]
    clear hp ha hA
    generalize num A = r at *
    obtain ⟨d, rfl⟩ := Int.eq_ofNat_of_zero_le d0
    rw [Int.toNat_natCast]
    obtain ⟨e1, e2, ho, k1, k0⟩ := dig_num r d hl (by omega)
    by_cases hlt : num (leftV r d) < num (worthV r)
    · obtain ⟨k1, k2⟩ := k1 hlt
      have h := sfun_calls (Cx.tell_ok X4_ok _) mixed Try.func38 (by kernel_rfl) (dig_run1 r d) (by
        intro p hp
        rcases List.mem_append.1 hp with hp | hp
        · exact ho p hp
        · simp only [List.mem_cons, List.not_mem_nil, or_false] at hp
          rcases hp with rfl | rfl
          · rw [if_pos hlt]; rfl
          · exact ⟨isN_nv _, isN_nv _⟩) rfl (.inl rfl) w
      have e : nv ((num (diffV r d) + num (nv LN)) % RN) = nv ((r * 4294967296 + d) % LN) := by
        rw [← k1]
        unfold diffV
        rw [num_nv, num_nv' (n := LN) (by decide), Nat.mod_mod]
        exact congrArg nv (sub_once _ (Nat.mod_lt _ (by decide)) k2)
      rw [e] at h
      exact h
    · have k0 := k0 hlt
      have h := sfun_calls (Cx.tell_ok X4_ok _) mixed Try.func38 (by kernel_rfl) (dig_run0 r d) (by
        intro p hp
        rcases List.mem_append.1 hp with hp | hp
        · exact ho p hp
        · simp only [List.mem_cons, List.not_mem_nil, or_false] at hp
          rcases hp with rfl
          rw [if_neg hlt]; rfl) rfl (.inl rfl) w
      unfold diffV at h
      rw [k0] at h
      exact h
  · simp at hg
def X5 : Cx := X4.pure 38 gDig
theorem X5_ok : X5.Ok Try.prog := gDig_ok X4_ok
end Go.Proofs.Ytdpepiempjoanaa
