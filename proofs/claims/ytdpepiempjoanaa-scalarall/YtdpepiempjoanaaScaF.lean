/- Package scalar: negative, Canonical, Add, Neg, MulAdd, Reduce. -/
import Derived.Test.YtdpepiempjoanaaScaE
namespace Go.Proofs.Ytdpepiempjoanaa
open Go Go.RowKit
set_option linter.unusedSimpArgs false
set_option linter.unusedVariables false
def na (n : Nat) : Array Value := #[.int .u64 (lw n 0), .int .u64 (lw n 1), .int .u64 (lw n 2), .int .u64 (lw n 3)]
def z4 : Array Value := #[.int .u64 0, .int .u64 0, .int .u64 0, .int .u64 0]
theorem eqB_zero (n : Nat) (h : n < RN) : eqB (na n) z4 4 = decide (n = 0) := by
  have hs := words_sum n
  rw [Nat.mod_eq_of_lt h] at hs
  have e : eqB (na n) z4 4 = ((lw n 0 == 0) && ((lw n 1 == 0) && ((lw n 2 == 0) && ((lw n 3 == 0) && true)))) := rfl
  rw [e]
  obtain ⟨a0, _⟩ := lw_word n 0; obtain ⟨a1, _⟩ := lw_word n 1; obtain ⟨a2, _⟩ := lw_word n 2; obtain ⟨a3, _⟩ := lw_word n 3
  generalize lw n 0 = x0 at *
  generalize lw n 1 = x1 at *
  generalize lw n 2 = x2 at *
  generalize lw n 3 = x3 at *
  rw [Bool.eq_iff_iff]
  simp only [Bool.and_eq_true, beq_iff_eq, decide_eq_true_eq, and_true]
  omega
theorem neg_run1 (n : Nat) : sfun Try.prog (X8.tell [(5, true)]) 60 Try.f30 (bodyOf Try.f30) [nv n] = some ([eqB (na n) z4 4 = true], nv n) := by kernel_rfl
theorem neg_run0 (n : Nat) : sfun Try.prog (X8.tell [(5, false)]) 60 Try.f30 (bodyOf Try.f30) [nv n] = some ([eqB (na n) z4 4 = false, IsN (nv LN) ∧ IsN (nv n)], nv ((num (nv LN) + RN - num (nv n)) % RN)) := by kernel_rfl
def gNegative : List Value → Option (List Prop × Value)
  | [A] => some ([IsN A ∧ num A < LN], nv ((LN - num A) % LN))
  | _ => none
theorem gNegative_ok {X : Cx} (hX : X.Ok Try.prog) : (X.pure 30 gNegative).Ok Try.prog := by
  refine gBody_ok hX Try.func30 (by kernel_rfl) (by kernel_rfl) ?_
  intro args ps v ha hg hp
  unfold gNegative at hg
  split at hg
  · rename_i A
    simp only [Option.some.injEq, Prod.mk.injEq] at hg
    obtain ⟨rfl, rfl⟩ := hg
    obtain ⟨hA, hl⟩ := hp _ (List.mem_singleton.2 rfl)
    refine ⟨.inl rfl, fun w => ?_⟩
    have lA := num_lt hA
    rw [hA, num_nv' lA]
    clear hp ha hA
    generalize num A = n at *
    have he := eqB_zero n lA
    by_cases hz : n = 0
    · have h := sfun_calls (Cx.tell_ok X8_ok _) mixed Try.func30 (by kernel_rfl) (neg_run1 n) (by
        intro p hp
        simp only [List.mem_cons, List.not_mem_nil, or_false] at hp
        rcases hp with rfl
        rw [he]; simp [hz]) rfl (.inl rfl) w
      have e : (LN - n) % LN = n := by rw [hz]; rfl
      rw [e]
      exact h
    · have h := sfun_calls (Cx.tell_ok X8_ok _) mixed Try.func30 (by kernel_rfl) (neg_run0 n) (by
        intro p hp
        simp only [List.mem_cons, List.not_mem_nil, or_false] at hp
        rcases hp with rfl | rfl
        · rw [he]; simp [hz]
        · exact ⟨isN_nv _, isN_nv _⟩) rfl (.inl rfl) w
      rw [num_nv' (n := LN) (by decide), num_nv' lA] at h
      have e : (LN + RN - n) % RN = (LN - n) % LN := by simp only [LN, RN] at *; omega
      rw [e] at h
      exact h
  · simp at hg
def X9 : Cx := X8.pure 30 gNegative
theorem X9_ok : X9.Ok Try.prog := gNegative_ok X8_ok
theorem can_run (n : Nat) : sfun Try.prog X9 60 Try.f8 (bodyOf Try.f8) [bv n] = some ([IsB (bv n), IsN (nv (bnum (bv n))) ∧ IsN (nv LN)], .bool ((if num (nv (bnum (bv n))) < num (nv LN) then 1 else 0 : Int) == 1)) := by kernel_rfl
theorem Canonical_any (n : Nat) (h : n < RN) (w : World) : Calls Try.prog 8 #[bv n] w fun e w' => e = .returned (.bool (decide (n < LN))) ∧ Below w.heap.size w w' := by
  have k := sfun_calls X9_ok mixed Try.func8 (by kernel_rfl) (can_run n) (by
    intro p hp
    simp only [List.mem_cons, List.not_mem_nil, or_false] at hp
    rcases hp with rfl | rfl
    · exact isB_bv _
    · exact ⟨isN_nv _, isN_nv _⟩) (by simp [flat_bv]) (.inl rfl) w
  rw [bnum_bv' h, num_nv' h, num_nv' (n := LN) (by decide)] at k
  have e : ((if n < LN then 1 else 0 : Int) == 1) = decide (n < LN) := by
    by_cases hl : n < LN
    · rw [if_pos hl, decide_eq_true hl]; rfl
    · rw [if_neg hl, decide_eq_false hl]; rfl
  rw [e] at k
  exact k
theorem c4_eq (c : Nat) (hc : c < 18446744073709551616) : Value.agg #[.int .u64 (c : Int), .int .u64 0, .int .u64 0, .int .u64 0] = nv c :=
  nv_mk (by unfold Word; omega) word0 word0 word0 (by omega)
theorem add_run (a b : Nat) : sfun Try.prog X9 60 Try.f12 (bodyOf Try.f12) [bv a, bv b] = some ([IsB (bv a), IsB (bv b), IsN (nv (bnum (bv a))) ∧ IsN (nv (bnum (bv b))), IsN (.agg #[.int .u64 (((num (nv (bnum (bv a))) + num (nv (bnum (bv b)))) / RN : Nat) : Int), .int .u64 0, .int .u64 0, .int .u64 0]) ∧ IsN (nv ((num (nv (bnum (bv a))) + num (nv (bnum (bv b)))) % RN)), IsN (nv ((num (.agg #[.int .u64 (((num (nv (bnum (bv a))) + num (nv (bnum (bv b)))) / RN : Nat) : Int), .int .u64 0, .int .u64 0, .int .u64 0]) * RN + num (nv ((num (nv (bnum (bv a))) + num (nv (bnum (bv b)))) % RN))) % LN))], bv (num (nv ((num (.agg #[.int .u64 (((num (nv (bnum (bv a))) + num (nv (bnum (bv b)))) / RN : Nat) : Int), .int .u64 0, .int .u64 0, .int .u64 0]) * RN + num (nv ((num (nv (bnum (bv a))) + num (nv (bnum (bv b)))) % RN))) % LN)))) := by kernel_rfl
theorem Add_any (a b : Nat) (ha : a < RN) (hb : b < RN) (w : World) : Calls Try.prog 12 #[bv a, bv b] w fun e w' => e = .returned (bv ((a + b) % LN)) ∧ Below w.heap.size w w' := by
  have run := add_run a b
  rw [bnum_bv' ha, bnum_bv' hb, num_nv' ha, num_nv' hb] at run
  have hc : (a + b) / RN < 18446744073709551616 := by simp only [RN] at *; omega
  rw [c4_eq _ hc, num_nv' (n := (a + b) / RN) (by simp only [RN] at *; omega), num_nv' (n := (a + b) % RN) (Nat.mod_lt _ (by decide))] at run
  rw [num_nv' (lt_LN_RN (Nat.mod_lt _ (by decide)))] at run
  have e : (a + b) / RN * RN + (a + b) % RN = a + b := by rw [Nat.mul_comm]; exact Nat.div_add_mod _ _
  rw [e] at run
  exact sfun_calls X9_ok mixed Try.func12 (by kernel_rfl) run (by
    intro p hp
    simp only [List.mem_cons, List.not_mem_nil, or_false] at hp
    rcases hp with rfl | rfl | rfl | rfl | rfl
    · exact isB_bv _
    · exact isB_bv _
    · exact ⟨isN_nv _, isN_nv _⟩
    · exact ⟨isN_nv _, isN_nv _⟩
    · exact isN_nv _) (by simp [flat_bv]) (.inl (flat_bv _)) w
theorem nega_run (a : Nat) : sfun Try.prog X9 60 Try.f14 (bodyOf Try.f14) [bv a] = some ([IsB (bv a), IsN (nv 0) ∧ IsN (nv (bnum (bv a))), IsN (nv ((num (nv 0) * RN + num (nv (bnum (bv a)))) % LN)) ∧ num (nv ((num (nv 0) * RN + num (nv (bnum (bv a)))) % LN)) < LN, IsN (nv ((LN - num (nv ((num (nv 0) * RN + num (nv (bnum (bv a)))) % LN))) % LN))], bv (num (nv ((LN - num (nv ((num (nv 0) * RN + num (nv (bnum (bv a)))) % LN))) % LN)))) := by kernel_rfl
theorem Neg_any (a : Nat) (ha : a < RN) (w : World) : Calls Try.prog 14 #[bv a] w fun e w' => e = .returned (bv ((LN - a % LN) % LN)) ∧ Below w.heap.size w w' := by
  have run := nega_run a
  have hlt : a % LN < LN := Nat.mod_lt _ (by decide)
  rw [bnum_bv' ha, num_nv' ha, num_nv' (n := 0) (by decide), Nat.zero_mul, Nat.zero_add, num_nv' (lt_LN_RN hlt)] at run
  rw [num_nv' (lt_LN_RN (Nat.mod_lt _ (by decide)))] at run
  exact sfun_calls X9_ok mixed Try.func14 (by kernel_rfl) run (by
    intro p hp
    simp only [List.mem_cons, List.not_mem_nil, or_false] at hp
    rcases hp with rfl | rfl | rfl | rfl
    · exact isB_bv _
    · exact ⟨isN_nv _, isN_nv _⟩
    · exact ⟨isN_nv _, hlt⟩
    · exact isN_nv _) (by simp [flat_bv]) (.inl (flat_bv _)) w
theorem mula_run (a b c : Nat) : sfun Try.prog X9 60 Try.f16 (bodyOf Try.f16) [bv a, bv b, bv c] = some ([IsB (bv a), IsB (bv b), IsB (bv c), IsN (nv (bnum (bv a))) ∧ IsN (nv (bnum (bv b))) ∧ IsN (nv (bnum (bv c))), IsN (nv ((num (nv (bnum (bv a))) * num (nv (bnum (bv b))) + num (nv (bnum (bv c)))) / RN)) ∧ IsN (nv ((num (nv (bnum (bv a))) * num (nv (bnum (bv b))) + num (nv (bnum (bv c)))) % RN)), IsN (nv ((num (nv ((num (nv (bnum (bv a))) * num (nv (bnum (bv b))) + num (nv (bnum (bv c)))) / RN)) * RN + num (nv ((num (nv (bnum (bv a))) * num (nv (bnum (bv b))) + num (nv (bnum (bv c)))) % RN))) % LN))], bv (num (nv ((num (nv ((num (nv (bnum (bv a))) * num (nv (bnum (bv b))) + num (nv (bnum (bv c)))) / RN)) * RN + num (nv ((num (nv (bnum (bv a))) * num (nv (bnum (bv b))) + num (nv (bnum (bv c)))) % RN))) % LN)))) := by kernel_rfl
theorem prod_lt (a b c : Nat) (ha : a < RN) (hb : b < RN) (hc : c < RN) : (a * b + c) / RN < RN := by
  have h : a * b ≤ (RN - 1) * (RN - 1) := Nat.mul_le_mul (by omega) (by omega)
  rw [Nat.div_lt_iff_lt_mul (by decide)]
  generalize a * b = q at *
  have h2 : (RN - 1) * (RN - 1) = RN * RN - 2 * RN + 1 := by decide
  have h3 : 2 * RN ≤ RN * RN := by decide
  have h4 : 0 < RN := by decide
  generalize RN * RN = z at *
  omega
theorem MulAdd_any (a b c : Nat) (ha : a < RN) (hb : b < RN) (hc : c < RN) (w : World) : Calls Try.prog 16 #[bv a, bv b, bv c] w fun e w' => e = .returned (bv ((a * b + c) % LN)) ∧ Below w.heap.size w w' := by
  have run := mula_run a b c
  rw [bnum_bv' ha, bnum_bv' hb, bnum_bv' hc, num_nv' ha, num_nv' hb, num_nv' hc] at run
  rw [num_nv' (prod_lt a b c ha hb hc), num_nv' (n := (a * b + c) % RN) (Nat.mod_lt _ (by decide))] at run
  rw [num_nv' (lt_LN_RN (Nat.mod_lt _ (by decide)))] at run
  have e : (a * b + c) / RN * RN + (a * b + c) % RN = a * b + c := by rw [Nat.mul_comm]; exact Nat.div_add_mod _ _
  rw [e] at run
  exact sfun_calls X9_ok mixed Try.func16 (by kernel_rfl) run (by
    intro p hp
    simp only [List.mem_cons, List.not_mem_nil, or_false] at hp
    rcases hp with rfl | rfl | rfl | rfl | rfl | rfl
    · exact isB_bv _
    · exact isB_bv _
    · exact isB_bv _
    · exact ⟨isN_nv _, isN_nv _, isN_nv _⟩
    · exact ⟨isN_nv _, isN_nv _⟩
    · exact isN_nv _) (by simp [flat_bv]) (.inl (flat_bv _)) w
/-- 64 bytes. -/
def bv64 (n : Nat) : Value := .agg (blm 64 n).toArray
def hiB (n : Nat) : Value := .agg ((List.range 32).map fun i => Value.int .u8 (by8 n (32 + i))).toArray
theorem hiB_eq (n : Nat) : hiB n = bv (n / RN) := by
  unfold hiB bv bl
  refine congrArg (fun l : List Value => Value.agg l.toArray) (List.map_congr_left fun i _ => ?_)
  congr 1
  unfold by8
  rw [rn_pow, Nat.div_div_eq_div_mul, ← Nat.pow_add]
theorem flat_bv64 (n : Nat) : flat (bv64 n) = true := by
  show ((blm 64 n).toArray.toList.all flat1) = true
  simp [blm, flat1]
theorem red_run (n : Nat) : sfun Try.prog X9 60 Try.f10 (bodyOf Try.f10) [bv64 n] = some ([IsB (hiB n), IsB (bv n), IsN (nv (bnum (hiB n))) ∧ IsN (nv (bnum (bv n))), IsN (nv ((num (nv (bnum (hiB n))) * RN + num (nv (bnum (bv n)))) % LN))], bv (num (nv ((num (nv (bnum (hiB n))) * RN + num (nv (bnum (bv n)))) % LN)))) := by kernel_rfl
theorem Reduce_any (n : Nat) (hn : n < RN * RN) (w : World) : Calls Try.prog 10 #[bv64 n] w fun e w' => e = .returned (bv (n % LN)) ∧ Below w.heap.size w w' := by
  have run := red_run n
  have hh : n / RN < RN := by rw [Nat.div_lt_iff_lt_mul (by decide)]; exact hn
  rw [hiB_eq, bnum_bv' hh, num_nv' hh, bnum_bv, num_nv' (n := n % RN) (Nat.mod_lt _ (by decide))] at run
  rw [num_nv' (lt_LN_RN (Nat.mod_lt _ (by decide)))] at run
  have e : n / RN * RN + n % RN = n := by rw [Nat.mul_comm]; exact Nat.div_add_mod _ _
  rw [e] at run
  exact sfun_calls X9_ok mixed Try.func10 (by kernel_rfl) run (by
    intro p hp
    simp only [List.mem_cons, List.not_mem_nil, or_false] at hp
    rcases hp with rfl | rfl | rfl | rfl
    · exact isB_bv _
    · exact isB_bv _
    · exact ⟨isN_nv _, isN_nv _⟩
    · exact isN_nv _) (by simp [flat_bv64]) (.inl (flat_bv _)) w
end Go.Proofs.Ytdpepiempjoanaa
