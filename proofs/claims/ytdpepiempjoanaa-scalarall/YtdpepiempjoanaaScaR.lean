/- The reference: order, bytesOf, less, below, plus. -/
import Derived.Test.YtdpepiempjoanaaScaG
namespace Go.Proofs.Ytdpepiempjoanaa
open Go Go.RowKit
set_option linter.unusedSimpArgs false
set_option linter.unusedVariables false
theorem rOrder_ok {X : Cx} (hX : X.Ok Try.prog) : (X.pure 23 gOrder).Ok Try.prog := by
  refine gBody_ok hX Try.func23 (by kernel_rfl) (by kernel_rfl) ?_
  intro args ps v ha hg hp
  unfold gOrder at hg
  split at hg
  · simp only [Option.some.injEq, Prod.mk.injEq] at hg
    obtain ⟨rfl, rfl⟩ := hg
    have hr : sfun Try.prog X0 60 Try.f23 (bodyOf Try.f23) [] = some ([], nv LN) := by kernel_rfl
    exact ⟨.inl rfl, sfun_calls X0_ok mixed Try.func23 (by kernel_rfl) hr (by simp) rfl (.inl rfl)⟩
  · simp at hg
theorem bytesOf_run (n : Nat) : sfun Try.prog X0 200 Try.f26 (bodyOf Try.f26) [nv n] = some ([], .agg ((List.range 32).map fun i => .int .u8 (IntKind.u8.wrap (Int.fdiv (lw n (i / 8)) (2 ^ (8 * (i % 8)))))).toArray) := by kernel_rfl
theorem rBytes_ok {X : Cx} (hX : X.Ok Try.prog) : (X.pure 26 gStore).Ok Try.prog := by
  refine gBody_ok hX Try.func26 (by kernel_rfl) (by kernel_rfl) ?_
  intro args ps v ha hg hp
  unfold gStore at hg
  split at hg
  · rename_i A
    simp only [Option.some.injEq, Prod.mk.injEq] at hg
    obtain ⟨rfl, rfl⟩ := hg
    have hA := hp _ (List.mem_singleton.2 rfl)
    refine ⟨.inl (flat_bv _), fun w => ?_⟩
    have lA := num_lt hA
    rw [hA, num_nv' lA]
    generalize num A = a at *
    have h := sfun_calls X0_ok mixed Try.func26 (by kernel_rfl) (bytesOf_run a) (by simp) rfl (.inl (by simp [flat, flat2, flat1])) w
    have e : ((List.range 32).map fun i => Value.int .u8 (IntKind.u8.wrap (Int.fdiv (lw a (i / 8)) (2 ^ (8 * (i % 8)))))) = bl a := List.map_congr_left fun i _ => by rw [byte_of]
    rw [e] at h
    exact h
  · simp at hg
theorem less_run (a0 a1 a2 a3 b0 b1 b2 b3 : Int) : sfun Try.prog X0 60 Try.f31 (bodyOf Try.f31) [.agg #[.int .u64 a0, .int .u64 a1, .int .u64 a2, .int .u64 a3], .agg #[.int .u64 b0, .int .u64 b1, .int .u64 b2, .int .u64 b3]] = some ([Word a0 ∧ Word b0 ∧ Bit (0),
    Word a1 ∧ Word b1 ∧ Bit ((bor a0 (b0 + 0))),
    Word a2 ∧ Word b2 ∧ Bit ((bor a1 (b1 + (bor a0 (b0 + 0))))),
    Word a3 ∧ Word b3 ∧ Bit ((bor a2 (b2 + (bor a1 (b1 + (bor a0 (b0 + 0)))))))], .agg #[.int .u64 ((a0 - b0 - 0) % 18446744073709551616), .int .u64 ((a1 - b1 - (bor a0 (b0 + 0))) % 18446744073709551616), .int .u64 ((a2 - b2 - (bor a1 (b1 + (bor a0 (b0 + 0))))) % 18446744073709551616), .int .u64 ((a3 - b3 - (bor a2 (b2 + (bor a1 (b1 + (bor a0 (b0 + 0))))))) % 18446744073709551616)]) := by kernel_rfl
def gLess : List Value → Option (List Prop × Value)
  | [A, B] => some ([IsN A ∧ IsN B], nv ((num A + RN - num B) % RN))
  | _ => none
theorem gLess_ok {X : Cx} (hX : X.Ok Try.prog) : (X.pure 31 gLess).Ok Try.prog := by
  refine gBody_ok hX Try.func31 (by kernel_rfl) (by kernel_rfl) ?_
  intro args ps v ha hg hp
  unfold gLess at hg
  split at hg
  · rename_i A B
    simp only [Option.some.injEq, Prod.mk.injEq] at hg
    obtain ⟨rfl, rfl⟩ := hg
    obtain ⟨hA, hB⟩ := hp _ (List.mem_singleton.2 rfl)
    refine ⟨.inl rfl, fun w => ?_⟩
    have lA := num_lt hA
    have lB := num_lt hB
    rw [hA, hB, num_nv' lA, num_nv' lB]
    clear hp ha hA hB
    generalize num A = a at *
    generalize num B = b at *
    have k := minus_num (lw a 0) (lw a 1) (lw a 2) (lw a 3) (lw b 0) (lw b 1) (lw b 2) (lw b 3) (lw_word _ _) (lw_word _ _) (lw_word _ _) (lw_word _ _) (lw_word _ _) (lw_word _ _) (lw_word _ _) (lw_word _ _) a b lA lB (by rw [words_sum, Nat.mod_eq_of_lt lA]) (by rw [words_sum, Nat.mod_eq_of_lt lB])
    have h := sfun_calls X0_ok mixed Try.func31 (by kernel_rfl) (less_run (lw a 0) (lw a 1) (lw a 2) (lw a 3) (lw b 0) (lw b 1) (lw b 2) (lw b 3)) k.1 rfl (.inl rfl) w
    have k2 := k.2
    simp only [Value.tuple.injEq, Array.mk.injEq, List.cons.injEq] at k2
    rw [k2.1] at h
    exact h
  · simp at hg
/-- Where a run ends. -/
def runS (P : Program) (X : Cx) (n : Nat) (c : Code) (s : Act × Mem) : Act × Mem :=
  match sexec P X n c [] s with
  | some (_, _, s') => s'
  | none => s
/-- The loop's body. -/
def bLB (fn : Func) : Code := cL (cL (cR (cL (cR (bodyOf fn)))))
def bs1 (P : Program) (fn : Func) (a b : Nat) : Act × Mem := runS P X0 20 (cL (bodyOf fn)) (sinit fn [nv a, nv b], [])
def bst (P : Program) (fn : Func) (a b : Nat) : Nat → Act × Mem
  | 0 => runS P X0 20 (cL (cL (cR (bodyOf fn)))) (bs1 P fn a b)
  | j + 1 => runS P (X0.tell [(16, false)]) 30 (bLB fn) (bst P fn a b j)
def bsR (P : Program) (fn : Func) (a b j : Nat) : Act × Mem := runS P (X0.tell [(16, true)]) 30 (bLB fn) (bst P fn a b j)
def bst4 (P : Program) (fn : Func) (a b : Nat) : Act × Mem := runS P X0 30 (bLB fn) (bst P fn a b 4)
def bstZ (P : Program) (fn : Func) (a b : Nat) : Act × Mem := runS P X0 30 (cR (cR (bodyOf fn))) (bst4 P fn a b)
def retQ (P : Program) (fn : Func) (m : Mem) (R : Value → Prop) : Exit → Act × Mem → Prop := fun e s => (e = .normal ∨ e = .ret) ∧ s.1.defers = [] ∧ ∃ v x, sres P fn s = some v ∧ (flat v = true ∨ v = undef) ∧ s.2 = m ++ x ∧ R v
theorem b_e1 (a b : Nat) : sexec Try.prog X0 20 (cL (bodyOf Try.f21)) [] (sinit Try.f21 [nv a, nv b], []) = some ([], .normal, bs1 Try.prog Try.f21 a b) := by kernel_rfl
theorem b_e2 (a b : Nat) : sexec Try.prog X0 20 (cL (cL (cR (bodyOf Try.f21)))) [] (bs1 Try.prog Try.f21 a b) = some ([], .normal, bst Try.prog Try.f21 a b 0) := by kernel_rfl
theorem b_f0 (a b : Nat) : sexec Try.prog (X0.tell [(16, false)]) 30 (bLB Try.f21) [] (bst Try.prog Try.f21 a b 0) = some ([(lw a 3 != lw b 3) = false], .normal, bst Try.prog Try.f21 a b 1) := by kernel_rfl
theorem b_t0 (a b : Nat) : sexec Try.prog (X0.tell [(16, true)]) 30 (bLB Try.f21) [] (bst Try.prog Try.f21 a b 0) = some ([(lw a 3 != lw b 3) = true], .ret, bsR Try.prog Try.f21 a b 0) := by kernel_rfl
theorem b_r0 (a b : Nat) : sres Try.prog Try.f21 (bsR Try.prog Try.f21 a b 0) = some (.bool (decide (lw a 3 < lw b 3))) ∧ (bsR Try.prog Try.f21 a b 0).1.defers = [] := ⟨by kernel_rfl, by kernel_rfl⟩
theorem b_f1 (a b : Nat) : sexec Try.prog (X0.tell [(16, false)]) 30 (bLB Try.f21) [] (bst Try.prog Try.f21 a b 1) = some ([(lw a 2 != lw b 2) = false], .normal, bst Try.prog Try.f21 a b 2) := by kernel_rfl
theorem b_t1 (a b : Nat) : sexec Try.prog (X0.tell [(16, true)]) 30 (bLB Try.f21) [] (bst Try.prog Try.f21 a b 1) = some ([(lw a 2 != lw b 2) = true], .ret, bsR Try.prog Try.f21 a b 1) := by kernel_rfl
theorem b_r1 (a b : Nat) : sres Try.prog Try.f21 (bsR Try.prog Try.f21 a b 1) = some (.bool (decide (lw a 2 < lw b 2))) ∧ (bsR Try.prog Try.f21 a b 1).1.defers = [] := ⟨by kernel_rfl, by kernel_rfl⟩
theorem b_f2 (a b : Nat) : sexec Try.prog (X0.tell [(16, false)]) 30 (bLB Try.f21) [] (bst Try.prog Try.f21 a b 2) = some ([(lw a 1 != lw b 1) = false], .normal, bst Try.prog Try.f21 a b 3) := by kernel_rfl
theorem b_t2 (a b : Nat) : sexec Try.prog (X0.tell [(16, true)]) 30 (bLB Try.f21) [] (bst Try.prog Try.f21 a b 2) = some ([(lw a 1 != lw b 1) = true], .ret, bsR Try.prog Try.f21 a b 2) := by kernel_rfl
theorem b_r2 (a b : Nat) : sres Try.prog Try.f21 (bsR Try.prog Try.f21 a b 2) = some (.bool (decide (lw a 1 < lw b 1))) ∧ (bsR Try.prog Try.f21 a b 2).1.defers = [] := ⟨by kernel_rfl, by kernel_rfl⟩
theorem b_f3 (a b : Nat) : sexec Try.prog (X0.tell [(16, false)]) 30 (bLB Try.f21) [] (bst Try.prog Try.f21 a b 3) = some ([(lw a 0 != lw b 0) = false], .normal, bst Try.prog Try.f21 a b 4) := by kernel_rfl
theorem b_t3 (a b : Nat) : sexec Try.prog (X0.tell [(16, true)]) 30 (bLB Try.f21) [] (bst Try.prog Try.f21 a b 3) = some ([(lw a 0 != lw b 0) = true], .ret, bsR Try.prog Try.f21 a b 3) := by kernel_rfl
theorem b_r3 (a b : Nat) : sres Try.prog Try.f21 (bsR Try.prog Try.f21 a b 3) = some (.bool (decide (lw a 0 < lw b 0))) ∧ (bsR Try.prog Try.f21 a b 3).1.defers = [] := ⟨by kernel_rfl, by kernel_rfl⟩
theorem b_x (a b : Nat) : sexec Try.prog X0 30 (bLB Try.f21) [] (bst Try.prog Try.f21 a b 4) = some ([], .exit 0, bst4 Try.prog Try.f21 a b) := by kernel_rfl
theorem b_z (a b : Nat) : sexec Try.prog X0 30 (cR (cR (bodyOf Try.f21))) [] (bst4 Try.prog Try.f21 a b) = some ([], .ret, bstZ Try.prog Try.f21 a b) := by kernel_rfl
theorem b_zr (a b : Nat) : sres Try.prog Try.f21 (bstZ Try.prog Try.f21 a b) = some (.bool false) ∧ (bstZ Try.prog Try.f21 a b).1.defers = [] := ⟨by kernel_rfl, by kernel_rfl⟩
theorem below_num (a b : Nat) (ha : a < RN) (hb : b < RN) : decide (a < b) = decide (lw a 3 < lw b 3 ∨ (lw a 3 = lw b 3 ∧ (lw a 2 < lw b 2 ∨ (lw a 2 = lw b 2 ∧ (lw a 1 < lw b 1 ∨ (lw a 1 = lw b 1 ∧ lw a 0 < lw b 0)))))) := by
  have hs := words_sum a
  have ht := words_sum b
  rw [Nat.mod_eq_of_lt ha] at hs
  rw [Nat.mod_eq_of_lt hb] at ht
  obtain ⟨p0, q0⟩ := lw_word a 0; obtain ⟨p1, q1⟩ := lw_word a 1; obtain ⟨p2, q2⟩ := lw_word a 2; obtain ⟨p3, q3⟩ := lw_word a 3
  obtain ⟨u0, v0⟩ := lw_word b 0; obtain ⟨u1, v1⟩ := lw_word b 1; obtain ⟨u2, v2⟩ := lw_word b 2; obtain ⟨u3, v3⟩ := lw_word b 3
  generalize lw a 0 = a0 at *; generalize lw a 1 = a1 at *; generalize lw a 2 = a2 at *; generalize lw a 3 = a3 at *
  generalize lw b 0 = b0 at *; generalize lw b 1 = b1 at *; generalize lw b 2 = b2 at *; generalize lw b 3 = b3 at *
  rw [decide_eq_decide]
  by_cases h3 : a3 = b3
  · by_cases h2 : a2 = b2
    · by_cases h1 : a1 = b1
      · subst h1; subst h2; subst h3; omega
      · subst h2; subst h3; omega
    · subst h3; omega
  · omega
theorem below_SW (a b : Nat) (ha : a < RN) (hb : b < RN) : SW Try.prog (bodyOf Try.f21) (sinit Try.f21 [nv a, nv b], []) (retQ Try.prog Try.f21 [] fun v => v = .bool (decide (a < b))) := by
  have hn := below_num a b ha hb
  refine SW.seqC (by kernel_rfl) (SW.run X0_ok mixed 20 (b_e1 a b) (by simp) ?_)
  show SW Try.prog (cR (bodyOf Try.f21)) (bs1 Try.prog Try.f21 a b) (retQ Try.prog Try.f21 [] fun v => v = .bool (decide (a < b)))
  refine SW.seqC (by kernel_rfl) (SW.seqC (by kernel_rfl) (SW.run X0_ok mixed 20 (b_e2 a b) (by simp) ?_))
  show SW Try.prog (cR (cL (cR (bodyOf Try.f21)))) (bst Try.prog Try.f21 a b 0) (thenS (fun s' => SW Try.prog (cR (cR (bodyOf Try.f21))) s' (retQ Try.prog Try.f21 [] fun v => v = .bool (decide (a < b)))) (retQ Try.prog Try.f21 [] fun v => v = .bool (decide (a < b))))
  refine SW.blockC (by kernel_rfl) ?_
  have hci : cI (cR (cL (cR (bodyOf Try.f21)))) = 0 := by kernel_rfl
  rw [hci]
  refine SW.loopC (by kernel_rfl) (fun n s => ∃ j, n + j = 4 ∧ s = bst Try.prog Try.f21 a b j ∧ ∀ i, 4 - j ≤ i → i < 4 → lw a i = lw b i) 4 ⟨0, rfl, rfl, fun i h1 h2 => by omega⟩ ?_
  rintro n s ⟨j, hj, rfl, heq⟩
  show SW Try.prog (bLB Try.f21) (bst Try.prog Try.f21 a b j) _
  have hjj : j = 0 ∨ j = 1 ∨ j = 2 ∨ j = 3 ∨ j = 4 := by omega
  rcases hjj with rfl | rfl | rfl | rfl | rfl
  · skip
    by_cases h : lw a 3 = lw b 3
    · refine SW.run (Cx.tell_ok X0_ok _) mixed 30 (b_f0 a b) (by simp [h]) ⟨n - 1, by omega, 1, by omega, rfl, fun i h1 h2 => ?_⟩
      rcases Nat.lt_or_ge i 4 with h3 | h3
      · obtain rfl : i = 3 := by omega
        exact h
      · exact heq i (by omega) h2
    · refine SW.run (Cx.tell_ok X0_ok _) mixed 30 (b_t0 a b) (by simp [h]) ⟨.inr rfl, (b_r0 a b).2, _, _, (b_r0 a b).1, .inl rfl, (List.nil_append _).symm, ?_⟩
      rw [hn]
      congr 1
      rw [decide_eq_decide]
      omega
  · have e3 := heq 3 (by omega) (by omega);
    by_cases h : lw a 2 = lw b 2
    · refine SW.run (Cx.tell_ok X0_ok _) mixed 30 (b_f1 a b) (by simp [h]) ⟨n - 1, by omega, 2, by omega, rfl, fun i h1 h2 => ?_⟩
      rcases Nat.lt_or_ge i 3 with h3 | h3
      · obtain rfl : i = 2 := by omega
        exact h
      · exact heq i (by omega) h2
    · refine SW.run (Cx.tell_ok X0_ok _) mixed 30 (b_t1 a b) (by simp [h]) ⟨.inr rfl, (b_r1 a b).2, _, _, (b_r1 a b).1, .inl rfl, (List.nil_append _).symm, ?_⟩
      rw [hn]
      congr 1
      rw [decide_eq_decide]
      omega
  · have e2 := heq 2 (by omega) (by omega); have e3 := heq 3 (by omega) (by omega);
    by_cases h : lw a 1 = lw b 1
    · refine SW.run (Cx.tell_ok X0_ok _) mixed 30 (b_f2 a b) (by simp [h]) ⟨n - 1, by omega, 3, by omega, rfl, fun i h1 h2 => ?_⟩
      rcases Nat.lt_or_ge i 2 with h3 | h3
      · obtain rfl : i = 1 := by omega
        exact h
      · exact heq i (by omega) h2
    · refine SW.run (Cx.tell_ok X0_ok _) mixed 30 (b_t2 a b) (by simp [h]) ⟨.inr rfl, (b_r2 a b).2, _, _, (b_r2 a b).1, .inl rfl, (List.nil_append _).symm, ?_⟩
      rw [hn]
      congr 1
      rw [decide_eq_decide]
      omega
  · have e1 := heq 1 (by omega) (by omega); have e2 := heq 2 (by omega) (by omega); have e3 := heq 3 (by omega) (by omega);
    by_cases h : lw a 0 = lw b 0
    · refine SW.run (Cx.tell_ok X0_ok _) mixed 30 (b_f3 a b) (by simp [h]) ⟨n - 1, by omega, 4, by omega, rfl, fun i h1 h2 => ?_⟩
      rcases Nat.lt_or_ge i 1 with h3 | h3
      · obtain rfl : i = 0 := by omega
        exact h
      · exact heq i (by omega) h2
    · refine SW.run (Cx.tell_ok X0_ok _) mixed 30 (b_t3 a b) (by simp [h]) ⟨.inr rfl, (b_r3 a b).2, _, _, (b_r3 a b).1, .inl rfl, (List.nil_append _).symm, ?_⟩
      rw [hn]
      congr 1
      rw [decide_eq_decide]
      omega
  · have e0 := heq 0 (by omega) (by omega); have e1 := heq 1 (by omega) (by omega); have e2 := heq 2 (by omega) (by omega); have e3 := heq 3 (by omega) (by omega)
    refine SW.run X0_ok mixed 30 (b_x a b) (by simp) ?_
    show SW Try.prog (cR (cR (bodyOf Try.f21))) (bst4 Try.prog Try.f21 a b) (retQ Try.prog Try.f21 [] fun v => v = .bool (decide (a < b)))
    refine SW.run X0_ok mixed 30 (b_z a b) (by simp) ⟨.inr rfl, (b_zr a b).2, _, _, (b_zr a b).1, .inl rfl, (List.nil_append _).symm, ?_⟩
    rw [hn]
    have : ¬ (lw a 3 < lw b 3 ∨ (lw a 3 = lw b 3 ∧ (lw a 2 < lw b 2 ∨ (lw a 2 = lw b 2 ∧ (lw a 1 < lw b 1 ∨ (lw a 1 = lw b 1 ∧ lw a 0 < lw b 0)))))) := by omega
    rw [decide_eq_false this]
def gBelow : List Value → Option (List Prop × Value)
  | [A, B] => some ([IsN A ∧ IsN B], .bool (decide (num A < num B)))
  | _ => none
theorem gBelow_ok {X : Cx} (hX : X.Ok Try.prog) : (X.pure 21 gBelow).Ok Try.prog := by
  refine gBody_ok hX Try.func21 (by kernel_rfl) (by kernel_rfl) ?_
  intro args ps v ha hg hp
  unfold gBelow at hg
  split at hg
  · rename_i A B
    simp only [Option.some.injEq, Prod.mk.injEq] at hg
    obtain ⟨rfl, rfl⟩ := hg
    obtain ⟨hA, hB⟩ := hp _ (List.mem_singleton.2 rfl)
    refine ⟨.inl rfl, fun w => ?_⟩
    have lA := num_lt hA
    have lB := num_lt hB
    rw [hA, hB, num_nv' lA, num_nv' lB]
    clear hp ha hA hB
    generalize num A = a at *
    generalize num B = b at *
    refine (calls_of_SW (R := fun v => v = .bool (decide (a < b))) Try.func21 (show _ = some (bodyOf Try.f21) from (by kernel_rfl)) (below_SW a b lA lB) (Rel.nil w) (trL_flat (args := [nv a, nv b]) rfl)).mono ?_
    rintro e w' ⟨v, rfl, rfl, hb⟩
    exact ⟨rfl, hb⟩
  · simp at hg
def Z0 : Cx := (((X0.pure 23 gOrder).pure 26 gStore).pure 31 gLess).pure 21 gBelow
theorem Z0_ok : Z0.Ok Try.prog := gBelow_ok (gLess_ok (rBytes_ok (rOrder_ok X0_ok)))
def sumV (a0 a1 a2 a3 b0 b1 b2 b3 : Int) : Value := (.agg #[.int .u64 ((a0 + b0 + 0) % 18446744073709551616), .int .u64 ((a1 + b1 + ((a0 + b0 + 0) / 18446744073709551616)) % 18446744073709551616), .int .u64 ((a2 + b2 + ((a1 + b1 + ((a0 + b0 + 0) / 18446744073709551616)) / 18446744073709551616)) % 18446744073709551616), .int .u64 ((a3 + b3 + ((a2 + b2 + ((a1 + b1 + ((a0 + b0 + 0) / 18446744073709551616)) / 18446744073709551616)) / 18446744073709551616)) % 18446744073709551616)])
def sumO (a0 a1 a2 a3 b0 b1 b2 b3 : Int) : List Prop := [Word a0 ∧ Word b0 ∧ Bit (0),
    Word a1 ∧ Word b1 ∧ Bit (((a0 + b0 + 0) / 18446744073709551616)),
    Word a2 ∧ Word b2 ∧ Bit (((a1 + b1 + ((a0 + b0 + 0) / 18446744073709551616)) / 18446744073709551616)),
    Word a3 ∧ Word b3 ∧ Bit (((a2 + b2 + ((a1 + b1 + ((a0 + b0 + 0) / 18446744073709551616)) / 18446744073709551616)) / 18446744073709551616))]
theorem rplus_run0 (a0 a1 a2 a3 b0 b1 b2 b3 : Int) : sfun Try.prog (Z0.tell [(28, false)]) 60 Try.f29 (bodyOf Try.f29) [.agg #[.int .u64 a0, .int .u64 a1, .int .u64 a2, .int .u64 a3], .agg #[.int .u64 b0, .int .u64 b1, .int .u64 b2, .int .u64 b3]] = some (sumO a0 a1 a2 a3 b0 b1 b2 b3 ++ [IsN (sumV a0 a1 a2 a3 b0 b1 b2 b3) ∧ IsN (nv LN), (!decide (num (sumV a0 a1 a2 a3 b0 b1 b2 b3) < num (nv LN))) = false], sumV a0 a1 a2 a3 b0 b1 b2 b3) := by kernel_rfl
theorem rplus_run1 (a0 a1 a2 a3 b0 b1 b2 b3 : Int) : sfun Try.prog (Z0.tell [(28, true)]) 60 Try.f29 (bodyOf Try.f29) [.agg #[.int .u64 a0, .int .u64 a1, .int .u64 a2, .int .u64 a3], .agg #[.int .u64 b0, .int .u64 b1, .int .u64 b2, .int .u64 b3]] = some (sumO a0 a1 a2 a3 b0 b1 b2 b3 ++ [IsN (sumV a0 a1 a2 a3 b0 b1 b2 b3) ∧ IsN (nv LN), (!decide (num (sumV a0 a1 a2 a3 b0 b1 b2 b3) < num (nv LN))) = true, IsN (sumV a0 a1 a2 a3 b0 b1 b2 b3) ∧ IsN (nv LN)], nv ((num (sumV a0 a1 a2 a3 b0 b1 b2 b3) + RN - num (nv LN)) % RN)) := by kernel_rfl
def okL (A : Value) : Prop := IsN A ∧ num A < LN
def gPl : List Value → Option (List Prop × Value)
  | [A, B] => some ([okL A ∧ okL B], nv ((num A + num B) % LN))
  | _ => none
theorem gPl_ok {X : Cx} (hX : X.Ok Try.prog) : (X.pure 29 gPl).Ok Try.prog := by
  refine gBody_ok hX Try.func29 (by kernel_rfl) (by kernel_rfl) ?_
  intro args ps v ha hg hp
  unfold gPl at hg
  split at hg
  · rename_i A B
    simp only [Option.some.injEq, Prod.mk.injEq] at hg
    obtain ⟨rfl, rfl⟩ := hg
    obtain ⟨⟨hA, cA⟩, hB, cB⟩ := hp _ (List.mem_singleton.2 rfl)
    refine ⟨.inl rfl, fun w => ?_⟩
    have lA := num_lt hA
    have lB := num_lt hB
    rw [hA, hB, num_nv' lA, num_nv' lB]
    clear hp ha hA hB
    generalize num A = a at *
    generalize num B = b at *
    have k := plus_num (lw a 0) (lw a 1) (lw a 2) (lw a 3) (lw b 0) (lw b 1) (lw b 2) (lw b 3) (lw_word _ _) (lw_word _ _) (lw_word _ _) (lw_word _ _) (lw_word _ _) (lw_word _ _) (lw_word _ _) (lw_word _ _) a b (by rw [words_sum, Nat.mod_eq_of_lt lA]) (by rw [words_sum, Nat.mod_eq_of_lt lB])
    have k1 : ∀ p ∈ sumO (lw a 0) (lw a 1) (lw a 2) (lw a 3) (lw b 0) (lw b 1) (lw b 2) (lw b 3), p := k.1
    have k2 := k.2
    simp only [Value.tuple.injEq, Array.mk.injEq, List.cons.injEq] at k2
    have k3 : sumV (lw a 0) (lw a 1) (lw a 2) (lw a 3) (lw b 0) (lw b 1) (lw b 2) (lw b 3) = nv ((a + b) % RN) := k2.1
    have hlt : a + b < RN := by simp only [LN, RN] at *; omega
    rw [Nat.mod_eq_of_lt hlt] at k3
    have hnum : num (sumV (lw a 0) (lw a 1) (lw a 2) (lw a 3) (lw b 0) (lw b 1) (lw b 2) (lw b 3)) = a + b := by rw [k3, num_nv' hlt]
    by_cases hc : a + b < LN
    · have h := sfun_calls (Cx.tell_ok Z0_ok _) mixed Try.func29 (by kernel_rfl) (rplus_run0 (lw a 0) (lw a 1) (lw a 2) (lw a 3) (lw b 0) (lw b 1) (lw b 2) (lw b 3)) (by
        intro p hp
        rcases List.mem_append.1 hp with hp | hp
        · exact k1 p hp
        · simp only [List.mem_cons, List.not_mem_nil, or_false] at hp
          rcases hp with rfl | rfl
          · exact ⟨by rw [k3]; exact isN_nv _, isN_nv _⟩
          · rw [hnum, num_nv' (n := LN) (by decide), decide_eq_true hc]; rfl) rfl (.inl (by rw [k3]; rfl)) w
      rw [k3] at h
      rw [Nat.mod_eq_of_lt hc]
      exact h
    · have h := sfun_calls (Cx.tell_ok Z0_ok _) mixed Try.func29 (by kernel_rfl) (rplus_run1 (lw a 0) (lw a 1) (lw a 2) (lw a 3) (lw b 0) (lw b 1) (lw b 2) (lw b 3)) (by
        intro p hp
        rcases List.mem_append.1 hp with hp | hp
        · exact k1 p hp
        · simp only [List.mem_cons, List.not_mem_nil, or_false] at hp
          rcases hp with rfl | rfl | rfl
          · exact ⟨by rw [k3]; exact isN_nv _, isN_nv _⟩
          · rw [hnum, num_nv' (n := LN) (by decide), decide_eq_false hc]; rfl
          · exact ⟨by rw [k3]; exact isN_nv _, isN_nv _⟩) rfl (.inl rfl) w
      rw [hnum, num_nv' (n := LN) (by decide)] at h
      have e : (a + b + RN - LN) % RN = (a + b) % LN := by simp only [LN, RN] at *; omega
      rw [e] at h
      exact h
  · simp at hg
def Z1 : Cx := Z0.pure 29 gPl
theorem Z1_ok : Z1.Ok Try.prog := gPl_ok Z0_ok
end Go.Proofs.Ytdpepiempjoanaa
