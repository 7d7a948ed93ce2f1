/- Package scalar's calls as contracts; the laws' awake; ScalarRing, ScalarCanonical, ScalarReduces. -/
import Derived.Test.YtdpepiempjoanaaScaF
namespace Go.Proofs.Ytdpepiempjoanaa
open Go Go.RowKit
set_option linter.unusedSimpArgs false
set_option linter.unusedVariables false
def CA (A : Value) : Bool := decide (bnum A < LN)
def AD (A B : Value) : Value := bv ((bnum A + bnum B) % LN)
def NG (A : Value) : Value := bv ((LN - bnum A % LN) % LN)
def MU (A B C : Value) : Value := bv ((bnum A * bnum B + bnum C) % LN)
def RD (A : Value) : Value := bv (bnum A % LN)
def IsB64 (A : Value) : Prop := A = bv64 (bnum A)
def gCanS : List Value → Option (List Prop × Value)
  | [A] => some ([IsB A], .bool (CA A))
  | _ => none
def gAddS : List Value → Option (List Prop × Value)
  | [A, B] => some ([IsB A ∧ IsB B], AD A B)
  | _ => none
def gNegS : List Value → Option (List Prop × Value)
  | [A] => some ([IsB A], NG A)
  | _ => none
def gMulS : List Value → Option (List Prop × Value)
  | [A, B, C] => some ([IsB A ∧ IsB B ∧ IsB C], MU A B C)
  | _ => none
def gRedS : List Value → Option (List Prop × Value)
  | [A] => some ([IsB64 A], RD A)
  | _ => none
theorem rn_pow2 : RN * RN = 256 ^ 64 := by decide
theorem bnum_bv64 (n : Nat) : bnum (bv64 n) = n % (RN * RN) := by
  have : RN * RN = 256 ^ 64 := by decide
  rw [this]; exact bsum_blm 64 n
theorem isB64_bv64 (n : Nat) : IsB64 (bv64 n) := by
  unfold IsB64
  rw [bnum_bv64]
  have : RN * RN = 256 ^ 64 := by decide
  rw [this]; unfold bv64; rw [blm_mod]
theorem bnum_lt64 {A : Value} (h : IsB64 A) : bnum A < RN * RN := by
  have : bnum A = bnum A % (RN * RN) := by
    have e := congrArg bnum h
    rw [bnum_bv64] at e; exact e
  rw [this]; exact Nat.mod_lt _ (by decide)
theorem gCanS_ok {X : Cx} (hX : X.Ok Try.prog) : (X.pure 8 gCanS).Ok Try.prog := by
  refine gBody_ok hX Try.func8 (by kernel_rfl) (by kernel_rfl) ?_
  intro args ps v ha hg hp
  unfold gCanS at hg
  split at hg
  · rename_i A
    simp only [Option.some.injEq, Prod.mk.injEq] at hg
    obtain ⟨rfl, rfl⟩ := hg
    obtain hA := hp _ (List.mem_singleton.2 rfl)
    refine ⟨.inl rfl, fun w => ?_⟩
    have lA := bnum_lt hA
    have h := Canonical_any (bnum A) lA w
    rw [← (show A = bv (bnum A) from hA)] at h
    exact h
  · simp at hg
theorem gAddS_ok {X : Cx} (hX : X.Ok Try.prog) : (X.pure 12 gAddS).Ok Try.prog := by
  refine gBody_ok hX Try.func12 (by kernel_rfl) (by kernel_rfl) ?_
  intro args ps v ha hg hp
  unfold gAddS at hg
  split at hg
  · rename_i A B
    simp only [Option.some.injEq, Prod.mk.injEq] at hg
    obtain ⟨rfl, rfl⟩ := hg
    obtain ⟨hA, hB⟩ := hp _ (List.mem_singleton.2 rfl)
    refine ⟨.inl (flat_bv _), fun w => ?_⟩
    have lA := bnum_lt hA
    have lB := bnum_lt hB
    have h := Add_any (bnum A) (bnum B) lA lB w
    rw [← (show A = bv (bnum A) from hA), ← (show B = bv (bnum B) from hB)] at h
    exact h
  · simp at hg
theorem gNegS_ok {X : Cx} (hX : X.Ok Try.prog) : (X.pure 14 gNegS).Ok Try.prog := by
  refine gBody_ok hX Try.func14 (by kernel_rfl) (by kernel_rfl) ?_
  intro args ps v ha hg hp
  unfold gNegS at hg
  split at hg
  · rename_i A
    simp only [Option.some.injEq, Prod.mk.injEq] at hg
    obtain ⟨rfl, rfl⟩ := hg
    obtain hA := hp _ (List.mem_singleton.2 rfl)
    refine ⟨.inl (flat_bv _), fun w => ?_⟩
    have lA := bnum_lt hA
    have h := Neg_any (bnum A) lA w
    rw [← (show A = bv (bnum A) from hA)] at h
    exact h
  · simp at hg
theorem gMulS_ok {X : Cx} (hX : X.Ok Try.prog) : (X.pure 16 gMulS).Ok Try.prog := by
  refine gBody_ok hX Try.func16 (by kernel_rfl) (by kernel_rfl) ?_
  intro args ps v ha hg hp
  unfold gMulS at hg
  split at hg
  · rename_i A B C
    simp only [Option.some.injEq, Prod.mk.injEq] at hg
    obtain ⟨rfl, rfl⟩ := hg
    obtain ⟨hA, hB, hC⟩ := hp _ (List.mem_singleton.2 rfl)
    refine ⟨.inl (flat_bv _), fun w => ?_⟩
    have lA := bnum_lt hA
    have lB := bnum_lt hB
    have lC := bnum_lt hC
    have h := MulAdd_any (bnum A) (bnum B) (bnum C) lA lB lC w
    rw [← (show A = bv (bnum A) from hA), ← (show B = bv (bnum B) from hB), ← (show C = bv (bnum C) from hC)] at h
    exact h
  · simp at hg
theorem gRedS_ok {X : Cx} (hX : X.Ok Try.prog) : (X.pure 10 gRedS).Ok Try.prog := by
  refine gBody_ok hX Try.func10 (by kernel_rfl) (by kernel_rfl) ?_
  intro args ps v ha hg hp
  unfold gRedS at hg
  split at hg
  · rename_i A
    simp only [Option.some.injEq, Prod.mk.injEq] at hg
    obtain ⟨rfl, rfl⟩ := hg
    obtain hA := hp _ (List.mem_singleton.2 rfl)
    refine ⟨.inl (flat_bv _), fun w => ?_⟩
    have lA := bnum_lt64 hA
    have h := Reduce_any (bnum A) lA w
    rw [← (show A = bv64 (bnum A) from hA)] at h
    exact h
  · simp at hg
def Y0 : Cx := ((((Cx.none.pure 8 gCanS).pure 12 gAddS).pure 14 gNegS).pure 16 gMulS).pure 10 gRedS
theorem Y0_ok : Y0.Ok Try.prog := gRedS_ok (gMulS_ok (gNegS_ok (gAddS_ok (gCanS_ok Cx.none_ok))))
def gTrue : List Value → Option (List Prop × Value)
  | [] => some ([], .bool true)
  | _ => none
theorem gTrue_ok {X : Cx} (hX : X.Ok Try.prog) : (X.pure 7 gTrue).Ok Try.prog := by
  refine gBody_ok hX Try.func7 (by kernel_rfl) (by kernel_rfl) ?_
  intro args ps v ha hg hp
  unfold gTrue at hg
  split at hg
  · simp only [Option.some.injEq, Prod.mk.injEq] at hg
    obtain ⟨rfl, rfl⟩ := hg
    have hr : sfun Try.prog Y0 60 Try.f7 (bodyOf Try.f7) [] = some ([IsB (bv 2) ∧ IsB (bv 3) ∧ IsB (bv 4), IsB (bv 1)], .bool true) := by kernel_rfl
    refine ⟨.inl rfl, sfun_calls Y0_ok mixed Try.func7 (by kernel_rfl) hr ?_ rfl (.inl rfl)⟩
    intro p hp
    simp only [List.mem_cons, List.not_mem_nil, or_false] at hp
    rcases hp with rfl | rfl
    · exact ⟨isB_bv _, isB_bv _, isB_bv _⟩
    · exact isB_bv _
  · simp at hg
def Y1 : Cx := Y0.pure 7 gTrue
theorem Y1_ok : Y1.Ok Try.prog := gTrue_ok Y0_ok
def eqV (A B : Value) : Bool := eqB A.cells B.cells 32
theorem intAt_bv (n i : Nat) (hi : i < 32) : intAt (bv n).cells i = by8 n i := by
  have e : (bv n).cells[i]? = some (.int .u8 (by8 n i)) := by simp [bv, Value.cells, bl, hi]
  unfold intAt; rw [e]
theorem low_eq {m n : Nat} : ∀ k, (∀ i, i < k → by8 m i = by8 n i) → m % 256 ^ k = n % 256 ^ k
  | 0, _ => by simp [Nat.mod_one]
  | k + 1, h => by
    have e := h k (by omega)
    have ih := low_eq k (fun i hi => h i (by omega))
    unfold by8 at e
    rw [Nat.mod_pow_succ, Nat.mod_pow_succ, ih]
    have : m / 256 ^ k % 256 = n / 256 ^ k % 256 := by omega
    rw [this]
theorem eqV_bv (m n : Nat) (hm : m < RN) (hn : n < RN) : eqV (bv m) (bv n) = decide (m = n) := by
  by_cases e : m = n
  · subst e; simp [eqV, eqB]
  · rw [decide_eq_false e, Bool.eq_false_iff]
    intro h
    unfold eqV eqB at h
    rw [List.all_eq_true] at h
    refine e ?_
    have := low_eq (m := m) (n := n) 32 (fun i hi => by
      have := h i (List.mem_range.2 hi)
      rw [intAt_bv m i hi, intAt_bv n i hi] at this
      simpa using this)
    rw [← rn_pow, Nat.mod_eq_of_lt hm, Nat.mod_eq_of_lt hn] at this
    exact this
theorem eqV_self (A : Value) : eqV A A = true := by simp [eqV, eqB]
theorem ltL (x : Nat) : x % LN < RN := lt_LN_RN (Nat.mod_lt _ (by decide))
theorem bnum_L (x : Nat) : bnum (bv (x % LN)) = x % LN := bnum_bv' (ltL x)
theorem isB_AD (A B : Value) : IsB (AD A B) := isB_bv _
theorem isB_NG (A : Value) : IsB (NG A) := isB_bv _
theorem isB_MU (A B C : Value) : IsB (MU A B C) := isB_bv _
theorem isB_RD (A : Value) : IsB (RD A) := isB_bv _
theorem ring_run (a b c : Nat) : sfun Try.prog (Y1.tell [(17, false), (29, false), (37, false), (49, true), (66, true)]) 80 Try.f4 (bodyOf Try.f4) [bv a, bv b, bv c] = some ([IsB (bv a) ∧ IsB (bv b),
    IsB (bv b) ∧ IsB (bv a),
    (!eqV (AD (bv a) (bv b)) (AD (bv b) (bv a))) = false,
    IsB (bv a) ∧ IsB (bv b),
    IsB (AD (bv a) (bv b)) ∧ IsB (bv c),
    IsB (bv b) ∧ IsB (bv c),
    IsB (bv a) ∧ IsB (AD (bv b) (bv c)),
    (!eqV (AD (AD (bv a) (bv b)) (bv c)) (AD (bv a) (AD (bv b) (bv c)))) = false,
    IsB (bv a),
    IsB (bv a) ∧ IsB (NG (bv a)),
    (!eqV (AD (bv a) (NG (bv a))) (bv 0)) = false,
    IsB (bv a) ∧ IsB (bv b) ∧ IsB (bv c),
    IsB (bv b) ∧ IsB (bv a) ∧ IsB (bv 0),
    IsB (MU (bv b) (bv a) (bv 0)) ∧ IsB (bv c),
    eqV (MU (bv a) (bv b) (bv c)) (AD (MU (bv b) (bv a) (bv 0)) (bv c)) = true,
    IsB (bv b) ∧ IsB (bv c),
    IsB (bv a) ∧ IsB (AD (bv b) (bv c)) ∧ IsB (bv 0),
    IsB (bv a) ∧ IsB (bv b) ∧ IsB (bv 0),
    IsB (bv a) ∧ IsB (bv c) ∧ IsB (bv 0),
    IsB (MU (bv a) (bv b) (bv 0)) ∧ IsB (MU (bv a) (bv c) (bv 0)),
    eqV (MU (bv a) (AD (bv b) (bv c)) (bv 0)) (AD (MU (bv a) (bv b) (bv 0)) (MU (bv a) (bv c) (bv 0))) = true], .bool true) := by kernel_rfl
theorem add_modL (a b : Nat) : (a % LN + b) % LN = (a + b) % LN := Nat.mod_add_mod _ _ _
theorem addL_mod (a b : Nat) : (a + b % LN) % LN = (a + b) % LN := Nat.add_mod_mod _ _ _
theorem neg_sum (a : Nat) : (a + (LN - a % LN) % LN) % LN = 0 := by
  have h : a % LN < LN := Nat.mod_lt _ (by decide)
  rw [addL_mod]
  have e : a + (LN - a % LN) = LN * (a / LN + 1) := by
    have := Nat.div_add_mod a LN
    rw [Nat.mul_add, Nat.mul_one]
    omega
  rw [e, Nat.mul_mod_right]
theorem AD_eq (a b : Nat) (ha : a < RN) (hb : b < RN) : AD (bv a) (bv b) = bv ((a + b) % LN) := by unfold AD; rw [bnum_bv' ha, bnum_bv' hb]
theorem NG_eq (a : Nat) (ha : a < RN) : NG (bv a) = bv ((LN - a % LN) % LN) := by unfold NG; rw [bnum_bv' ha]
theorem MU_eq (a b c : Nat) (ha : a < RN) (hb : b < RN) (hc : c < RN) : MU (bv a) (bv b) (bv c) = bv ((a * b + c) % LN) := by unfold MU; rw [bnum_bv' ha, bnum_bv' hb, bnum_bv' hc]
theorem ring_walk (a b c : Nat) (ha : a < RN) (hb : b < RN) (hc : c < RN) (w : World) : Calls Try.prog 4 #[bv a, bv b, bv c] w fun e w' => e = .returned (.bool true) ∧ Below w.heap.size w w' := by
  have h0 : (0 : Nat) < RN := by decide
  have run := ring_run a b c
  have e1 : AD (bv a) (bv b) = AD (bv b) (bv a) := by rw [AD_eq a b ha hb, AD_eq b a hb ha, Nat.add_comm]
  have e2 : AD (AD (bv a) (bv b)) (bv c) = AD (bv a) (AD (bv b) (bv c)) := by
    rw [AD_eq a b ha hb, AD_eq _ c (ltL _) hc, AD_eq b c hb hc, AD_eq a _ ha (ltL _), add_modL, addL_mod, Nat.add_assoc]
  have e3 : AD (bv a) (NG (bv a)) = bv 0 := by rw [NG_eq a ha, AD_eq a _ ha (ltL _), neg_sum]
  have e4 : MU (bv a) (bv b) (bv c) = AD (MU (bv b) (bv a) (bv 0)) (bv c) := by
    rw [MU_eq a b c ha hb hc, MU_eq b a 0 hb ha h0, AD_eq _ c (ltL _) hc, add_modL, Nat.add_zero, Nat.mul_comm]
  have e5 : MU (bv a) (AD (bv b) (bv c)) (bv 0) = AD (MU (bv a) (bv b) (bv 0)) (MU (bv a) (bv c) (bv 0)) := by
    rw [AD_eq b c hb hc, MU_eq a _ 0 ha (ltL _) h0, MU_eq a b 0 ha hb h0, MU_eq a c 0 ha hc h0, AD_eq _ _ (ltL _) (ltL _), add_modL, addL_mod, Nat.add_zero, Nat.add_zero, Nat.add_zero, Nat.mul_mod, Nat.mod_mod, ← Nat.mul_mod, Nat.mul_add]
  refine sfun_calls (Cx.tell_ok Y1_ok _) mixed Try.func4 (by kernel_rfl) run ?_ (by simp [flat_bv]) (.inl rfl) w
  intro p hp
  simp only [List.mem_cons, List.not_mem_nil, or_false] at hp
  rcases hp with rfl | rfl | rfl | rfl | rfl | rfl | rfl | rfl | rfl | rfl | rfl | rfl | rfl | rfl | rfl | rfl | rfl | rfl | rfl | rfl | rfl
  · exact ⟨isB_bv _, isB_bv _⟩
  · exact ⟨isB_bv _, isB_bv _⟩
  · rw [e1, eqV_self]; rfl
  · exact ⟨isB_bv _, isB_bv _⟩
  · exact ⟨isB_bv _, isB_bv _⟩
  · exact ⟨isB_bv _, isB_bv _⟩
  · exact ⟨isB_bv _, isB_bv _⟩
  · rw [e2, eqV_self]; rfl
  · exact isB_bv _
  · exact ⟨isB_bv _, isB_bv _⟩
  · rw [e3, eqV_self]; rfl
  · exact ⟨isB_bv _, isB_bv _, isB_bv _⟩
  · exact ⟨isB_bv _, isB_bv _, isB_bv _⟩
  · exact ⟨isB_bv _, isB_bv _⟩
  · rw [e4, eqV_self]
  · exact ⟨isB_bv _, isB_bv _⟩
  · exact ⟨isB_bv _, isB_bv _, isB_bv _⟩
  · exact ⟨isB_bv _, isB_bv _, isB_bv _⟩
  · exact ⟨isB_bv _, isB_bv _, isB_bv _⟩
  · exact ⟨isB_bv _, isB_bv _⟩
  · rw [e5, eqV_self]
theorem canon_run (a b : Nat) : sfun Try.prog (Y1.tell [(18, true), (22, true), (29, true), (35, true)]) 80 Try.f6 (bodyOf Try.f6) [bv a, bv b] = some ([IsB (bv a) ∧ IsB (bv 0),
    IsB (bv a) ∧ IsB (bv b),
    IsB (AD (bv a) (bv b)),
    (CA (AD (bv a) (bv b))) = true,
    IsB (bv a),
    IsB (NG (bv a)),
    (CA (NG (bv a))) = true,
    IsB (bv a) ∧ IsB (bv b) ∧ IsB (bv a),
    IsB (MU (bv a) (bv b) (bv a)),
    (CA (MU (bv a) (bv b) (bv a))) = true,
    IsB (bv a),
    ((CA (bv a)) == (eqV (AD (bv a) (bv 0)) (bv a))) = true], .bool true) := by kernel_rfl
theorem CA_bv (x : Nat) : CA (bv (x % LN)) = true := by unfold CA; rw [bnum_L]; exact decide_eq_true (Nat.mod_lt _ (by decide))
theorem canon_walk (a b : Nat) (ha : a < RN) (hb : b < RN) (w : World) : Calls Try.prog 6 #[bv a, bv b] w fun e w' => e = .returned (.bool true) ∧ Below w.heap.size w w' := by
  have run := canon_run a b
  have e : (CA (bv a) == eqV (AD (bv a) (bv 0)) (bv a)) = true := by
    rw [AD_eq a 0 ha (by decide), Nat.add_zero, eqV_bv _ _ (ltL _) ha]
    unfold CA
    rw [bnum_bv' ha]
    by_cases h : a < LN
    · rw [decide_eq_true h, Nat.mod_eq_of_lt h]; simp
    · rw [decide_eq_false h]
      have : ¬ a % LN = a := fun e => h (e ▸ Nat.mod_lt _ (by decide))
      rw [decide_eq_false this]; rfl
  refine sfun_calls (Cx.tell_ok Y1_ok _) mixed Try.func6 (by kernel_rfl) run ?_ (by simp [flat_bv]) (.inl rfl) w
  intro p hp
  simp only [List.mem_cons, List.not_mem_nil, or_false] at hp
  rcases hp with rfl | rfl | rfl | rfl | rfl | rfl | rfl | rfl | rfl | rfl | rfl | rfl
  · exact ⟨isB_bv _, isB_bv _⟩
  · exact ⟨isB_bv _, isB_bv _⟩
  · exact isB_bv _
  · exact CA_bv _
  · exact isB_bv _
  · exact isB_bv _
  · exact CA_bv _
  · exact ⟨isB_bv _, isB_bv _, isB_bv _⟩
  · exact isB_bv _
  · exact CA_bv _
  · exact isB_bv _
  · exact e
def cat (l h : Nat) : Value := .agg (blm 32 l ++ blm 32 h).toArray
theorem cat_eq (l h : Nat) (hl : l < RN) : cat l h = bv64 (l + h * RN) := by
  unfold cat bv64
  refine congrArg (fun x : List Value => Value.agg x.toArray) ?_
  unfold blm
  rw [show (64 : Nat) = 32 + 32 from rfl, List.range_add, List.map_append, List.map_map]
  congr 1
  · refine List.map_congr_left fun i hi => ?_
    have := by8_mod (l + h * RN) 32 i (by simpa using hi)
    rw [← this, ← rn_pow, Nat.add_mul_mod_self_right, Nat.mod_eq_of_lt hl]
  · refine List.map_congr_left fun i hi => ?_
    simp only [Function.comp]
    unfold by8
    rw [Nat.pow_add, ← Nat.div_div_eq_div_mul, ← rn_pow, Nat.add_mul_div_right _ _ (by decide), Nat.div_eq_of_lt hl, Nat.zero_add]
theorem reds_run (l h : Nat) : sfun Try.prog (Y1.tell [(33, true)]) 200 Try.f5 (bodyOf Try.f5) [bv l, bv h] = some ([IsB64 (cat l h),
    IsB64 (bv64 RN),
    IsB (bv h) ∧ IsB (RD (bv64 RN)) ∧ IsB (bv l),
    eqV (RD (cat l h)) (MU (bv h) (RD (bv64 RN)) (bv l)) = true], .bool true) := by kernel_rfl
theorem reds_walk (l h : Nat) (hl : l < RN) (hh : h < RN) (w : World) : Calls Try.prog 5 #[bv l, bv h] w fun e w' => e = .returned (.bool true) ∧ Below w.heap.size w w' := by
  have run := reds_run l h
  have hlt : l + h * RN < RN * RN := by
    have : h * RN ≤ (RN - 1) * RN := Nat.mul_le_mul_right _ (by omega)
    have e : (RN - 1) * RN + RN = RN * RN := by decide
    omega
  have e : RD (cat l h) = MU (bv h) (RD (bv64 RN)) (bv l) := by
    have e1 : RD (bv64 RN) = bv (RN % LN) := by unfold RD; rw [bnum_bv64, Nat.mod_eq_of_lt (show RN < RN * RN by decide)]
    rw [e1, MU_eq h _ l hh (ltL _) hl, cat_eq l h hl]
    unfold RD
    rw [bnum_bv64, Nat.mod_eq_of_lt hlt, Nat.add_comm l, ← add_modL (h * RN), ← add_modL (h * (RN % LN)), Nat.mul_mod h (RN % LN), Nat.mod_mod, ← Nat.mul_mod]
  refine sfun_calls (Cx.tell_ok Y1_ok _) mixed Try.func5 (by kernel_rfl) run ?_ (by simp [flat_bv]) (.inl rfl) w
  intro p hp
  simp only [List.mem_cons, List.not_mem_nil, or_false] at hp
  rcases hp with rfl | rfl | rfl | rfl
  · rw [cat_eq l h hl]; exact isB64_bv64 _
  · exact isB64_bv64 _
  · exact ⟨isB_bv _, isB_bv _, isB_bv _⟩
  · rw [e, eqV_self]
end Go.Proofs.Ytdpepiempjoanaa
