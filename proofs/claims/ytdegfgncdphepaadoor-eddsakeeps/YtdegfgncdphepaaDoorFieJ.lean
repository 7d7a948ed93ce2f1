/- Equality of 32 bytes and of numbers; what a law holds while it walks. -/
import Derived.Test.YtdegfgncdphepaaDoorFieI
import Derived.ChangeKeysEq
import Derived.Laws.StructEq
namespace Go.Proofs.YtdegfgncdphepaaDoor
open Go Go.RowKit Go.Lib
set_option maxRecDepth 100000
set_option linter.unusedSimpArgs false
set_option linter.unusedVariables false

theorem items (m n : Nat) (d : Nat) (w : World) : ∀ is : List Nat, (∀ i ∈ is, i < 32) →
    (Op.eqItems (d + 1) 5 (Tryd.prog.cellsOf 5) (br m) (br n) is).run Tryd.prog w = .ok (is.all fun i => decide (by8 m i = by8 n i)) w
  | [], _ => by simp [Op.eqItems]
  | i :: is, h => by
    have hi := h i (by simp)
    have hc : Tryd.prog.cellsOf 5 = 1 := by kernel_rfl
    have hp : Tryd.prog.plainKey 5 = true := by kernel_rfl
    have p1 := run_part_plain (P := Tryd.prog) w hp (xs := br m) (off := i) (br_get m i hi)
    have p2 := run_part_plain (P := Tryd.prog) w hp (xs := br n) (off := i) (br_get n i hi)
    have p3 := run_equalIn_int (P := Tryd.prog) w d 5 .u8 .u8 (by8 m i) (by8 n i) Tryd.underlying5
    have ih := items m n d w is (fun j hj => h j (by simp [hj]))
    rw [hc] at ih
    simp only [Op.eqItems, hc, Nat.mul_one, Sem.run_bind, p1, p2, p3, Result.andThen_ok, List.all_cons]
    by_cases e : by8 m i = by8 n i
    · simp [e, ih]
    · simp [e]
theorem low_eq {m n : Nat} : ∀ k, (∀ i, i < k → by8 m i = by8 n i) → m % 256 ^ k = n % 256 ^ k
  | 0, _ => by simp [Nat.mod_one]
  | k + 1, h => by
    have e := h k (by omega)
    have ih := low_eq k (fun i hi => h i (by omega))
    unfold by8 at e
    rw [Nat.mod_pow_succ, Nat.mod_pow_succ, ih]
    have : m / 256 ^ k % 256 = n / 256 ^ k % 256 := by omega
    rw [this]
theorem eq_row (m n : Nat) (hm : m < RN) (hn : n < RN) (w : World) : (Op.equalIn 10000 22 (.agg (bl m).toArray) (.agg (bl n).toArray)).run Tryd.prog w = .ok (decide (m = n)) w := by
  obtain ⟨i, hi⟩ : ∃ i, Tryd.prog.info? 5 = some i := by
    cases h : Tryd.prog.info? 5 with
    | none => have := size_u8; rw [h] at this; cases this
    | some i => exact ⟨i, rfl⟩
  have := run_equalIn_array (P := Tryd.prog) w 9999 (br m) (br n) Tryd.underlying22 hi
  rw [items m n 9998 w _ (fun i hi => List.mem_range.1 hi)] at this
  refine this.trans ?_
  congr 1
  by_cases e : m = n
  · subst e; simp
  · rw [decide_eq_false e]
    rw [Bool.eq_false_iff]
    intro h
    rw [List.all_eq_true] at h
    refine e ?_
    have := low_eq (m := m) (n := n) 32 (fun i hi => by simpa using h i (List.mem_range.2 hi))
    rw [Nat.mod_eq_of_lt (by exact hm), Nat.mod_eq_of_lt (by exact hn)] at this
    exact this
theorem eq_num (m n : Nat) (hm : m < RN) (hn : n < RN) (w : World) : (Op.equalIn 10000 88 (nv m) (nv n)).run Tryd.prog w = .ok (decide (m = n)) w := by
  have hS : Tryd.prog.underlying 88 = some (.struct (Tryd.prog.fieldsOf 88)) := by kernel_rfl
  have hp : Tryd.prog.stoodInHeld 88 = false := by kernel_rfl
  have u := Tryd.underlying48
  have key : (Op.equalIn 10000 88 (nv m) (nv n)).run Tryd.prog w = .ok (lw m 0 == lw n 0 && (lw m 1 == lw n 1 && (lw m 2 == lw n 2 && lw m 3 == lw n 3))) w := by
    unfold nv
    rw [show (10000 : Nat) = 9999 + 1 from rfl, run_equalIn_agg w 9999 88 _ _ hS hp]
    simp only [Program.fieldsOf, Tryd.underlying88]
    go_simp
    by_cases h0 : lw m 0 = lw n 0 <;> by_cases h1 : lw m 1 = lw n 1 <;> by_cases h2 : lw m 2 = lw n 2 <;> by_cases h3 : lw m 3 = lw n 3 <;> simp [h0, h1, h2, h3]
  rw [key]
  congr 1
  by_cases e : m = n
  · subst e; simp
  · rw [decide_eq_false e, Bool.eq_false_iff]
    intro h
    simp only [Bool.and_eq_true, beq_iff_eq] at h
    refine e (nv_inj hm hn ?_)
    simp only [nv, h.1, h.2.1, h.2.2.1, h.2.2.2]

/-- Since the beginning nothing of what was there has changed; blocks known whole. -/
structure HH (w0 : World) (bs : List (Nat × List Value × TypeId)) (w : World) : Prop where
  below : Below w0.heap.size w0 w
  holds : ∀ (i g : Nat) (L : List Value) (t : TypeId), bs[i]? = some (g, L, t) → w.heap[g]? = some (.cells L.toArray t (0, 0))
theorem HH.call {w0 : World} {bs : List (Nat × List Value × TypeId)} {w w' : World} (h : HH w0 bs w) (hb : Below w.heap.size w w') : HH w0 bs w' :=
  ⟨chain h.below hb, fun i g L t hm => keep' hb (h.holds i g L t hm)⟩
theorem HH.drew {w0 : World} {bs : List (Nat × List Value × TypeId)} {w : World} (h : HH w0 bs w) : HH w0 bs w.drew := ⟨h.below.drew, h.holds⟩
theorem HH.range {w0 : World} {bs : List (Nat × List Value × TypeId)} {w : World} (h : HH w0 bs w) {i g : Nat} {L : List Value} {t : TypeId} (hm : bs[i]? = some (g, L, t)) : w.rangeAt g 0 L := range_of_row (cs := L.toArray) (h.holds i g L t hm)
theorem HH.one (w : World) (L : List Value) (t : TypeId) : HH w [(w.heap.size, L, t)] (w.alloc (.cells L.toArray t)) := by
  refine ⟨(Below.refl _ _).alloc (Nat.le_refl _) _, ?_⟩
  intro i g L t hm
  match i, hm with
  | 0, hm => cases hm; exact heap_alloc_here _ _ _ rfl
theorem HH.more {w0 : World} {bs : List (Nat × List Value × TypeId)} {w : World} (h : HH w0 bs w) (L : List Value) (t : TypeId) : HH w0 (bs ++ [(w.heap.size, L, t)]) (w.alloc (.cells L.toArray t)) := by
  refine ⟨h.below.alloc h.below.size _, ?_⟩
  intro i g L' t' hm
  rw [List.getElem?_append] at hm
  split at hm
  · exact (heap_alloc_past _ _ _ (lt_of_heap (h.holds i g L' t' hm))).trans (h.holds i g L' t' hm)
  · rename_i hi
    rcases Nat.lt_or_ge (i - bs.length) 1 with hl | hl
    · rw [show i - bs.length = 0 by omega] at hm
      simp only [List.getElem?_cons_zero, Option.some.injEq, Prod.mk.injEq] at hm
      obtain ⟨rfl, rfl, rfl⟩ := hm
      exact heap_alloc_here _ _ _ rfl
    · rw [List.getElem?_eq_none (by simp; omega)] at hm
      cases hm
/-- An operation taken first; the slot that it writes is told. -/
theorem take1 {P : Program} {md : Region.Mode} {ops : Array Oper} {Q : Exit → Act → World → Prop} {S : World → Prop} {i : Nat} {oi : Oper} {v : Value} {fuel : Nat} {listed : Array Bool} {a : Act} {w : World} (d : Tmp) (hi : ops[i]? = some oi) (hd : oi.dst = some d)
    (hs : Region.noSelect ops = true) (hf : Region.free md ops listed i = true) (hr : (Region.ready md ops listed).contains i = true)
    (hQ : ∀ c a w, Q (.panic c) (a.put (some d) v) w → Q (.panic c) a w) (hy : YieldsIf P ops S oi v a) (hS : S w)
    (h : wpAnyH P md ops Q S fuel (listed.setIfInBounds i true) (a.put (some d) v) w) : wpAnyH P md ops Q S (fuel + 1) listed a w :=
  wpAnyH_take hi hs hf hr (by rw [hd]; exact hQ) hy hS (by rw [hd]; exact h)
end Go.Proofs.YtdegfgncdphepaaDoor
/- Package field: Canonical; the law's awake. -/
namespace Go.Proofs.YtdegfgncdphepaaDoor
open Go Go.RowKit Go.Lib
set_option linter.unusedSimpArgs false
set_option linter.unusedVariables false
theorem pp_lt : pp < RN := by decide
theorem mod_lt_RN (a : Nat) : a % pp < RN := Nat.lt_trans (Nat.mod_lt _ (by decide)) pp_lt
theorem mod_eq_self (a : Nat) : decide (a % pp = a) = decide (a < pp) := by
  by_cases h : a < pp
  · rw [decide_eq_true h, decide_eq_true (Nat.mod_eq_of_lt h)]
  · have := Nat.mod_lt a (show pp > 0 by decide)
    rw [decide_eq_false h, decide_eq_false (by omega)]
set_option maxRecDepth 100000 in
set_option maxHeartbeats 1000000 in
theorem Canonical_any (a : Nat) (ha : a < RN) (w : World) :
    Calls Tryd.prog 65 #[bv a] w fun e w' => e = .returned (.bool (decide (a < pp))) ∧ Below w.heap.size w w' := by
  have ld : ∀ n w, Calls Tryd.prog 58 #[Value.agg (bl n).toArray] w fun e w' => e = .returned (nv n) ∧ Below w.heap.size w w' := load_any
  have st : ∀ n, n < RN → ∀ w, Calls Tryd.prog 56 #[nv n] w fun e w' => e = .returned (.agg (bl (n % pp)).toArray) ∧ Below w.heap.size w w' := store_any
  have HS : Hid (HH w [(w.heap.size, bl a, 22)] (w.alloc (.cells (bl a).toArray 22))) := HH.one w _ _
  have hza : (bl a).toArray.size = 32 := br_size a
  have he := eq_row (a % pp) a (mod_lt_RN a) ha
  rw [mod_eq_self] at he
  simp only [bv, br]
  go_enter Tryd.func65, Tryd.ntmps65
  go_wp2
  obtain ⟨x0, hx0⟩ : ∃ x, x = w.alloc (.cells (bl a).toArray 22) := ⟨_, rfl⟩
  rw [← hx0] at HS ⊢
  clear hx0
  refine wp_region_held_drew (S := (fun w' => HH w [(w.heap.size, bl a, 22)] w')) (by kernel_rfl) ?_ (fun hHeld => ?_)
  · exact HS.out.drew
  refine take1 (i := 0) (v := _) 3 rfl rfl (by kernel_rfl) (by kernel_rfl) (by kernel_rfl) (fun _ _ _ h => h) (yieldsIf_load_mid (by rfl) _ _ rfl _ _ rfl _ _ (fun w h => h.range (i := 0) rfl) Tryd.underlying22 rfl (i32 a)) hHeld ?_
  simp only [Act.put, List.setIfInBounds_toArray, List.set_cons_zero, List.set_cons_succ]
  refine take1 (i := 3) (v := _) 6 rfl rfl (by kernel_rfl) (by kernel_rfl) (by kernel_rfl) (fun _ _ _ h => h) (yieldsIf_load_mid (by rfl) _ _ rfl _ _ rfl _ _ (fun w h => h.range (i := 0) rfl) Tryd.underlying22 rfl (i32 a)) hHeld ?_
  simp only [Act.put, List.setIfInBounds_toArray, List.set_cons_zero, List.set_cons_succ]
  refine wpAnyH_ready (rs := [1]) (by kernel_rfl) (by simp) ?_
  refine AllReadyH.cons rfl (fun K hK => ?_) AllReadyH.nil
  go_simp
  go_at_call 58
  refine (ld a _).mono ?_
  rintro e w1 ⟨rfl, hb1⟩
  refine hK.out _ _ ?_ (fun hHeld => ?_)
  · exact hHeld.call hb1
  clear hK K
  try simp only [Act.put, List.setIfInBounds_toArray, List.set_cons_zero, List.set_cons_succ]
  refine wpAnyH_ready (rs := [2]) (by kernel_rfl) (by simp) ?_
  refine AllReadyH.cons rfl (fun K hK => ?_) AllReadyH.nil
  go_simp
  go_at_call 56
  refine (st a ha _).mono ?_
  rintro e w2 ⟨rfl, hb2⟩
  refine hK.out _ _ ?_ (fun hHeld => ?_)
  · exact hHeld.call hb2
  clear hK K
  try simp only [Act.put, List.setIfInBounds_toArray, List.set_cons_zero, List.set_cons_succ]
  refine take1 (i := 4) (v := ?_) 7 rfl rfl (by kernel_rfl) (by kernel_rfl) (by kernel_rfl) (fun _ _ _ h => h) (Or.inl ⟨by rfl, ?_⟩) hHeld ?_
  rotate_left 1
  · intro w hSw; go_simp <;> with_reducible rfl
  simp only [Act.put, List.setIfInBounds_toArray, List.set_cons_zero, List.set_cons_succ]
  refine take1 (i := 5) (v := ?_) 2 rfl rfl (by kernel_rfl) (by kernel_rfl) (by kernel_rfl) (fun _ _ _ h => h) (Or.inl ⟨by rfl, ?_⟩) hHeld ?_
  rotate_left 1
  · intro w hSw; go_simp <;> with_reducible rfl
  simp only [Act.put, List.setIfInBounds_toArray, List.set_cons_zero, List.set_cons_succ]
  refine wpAnyH_done (by kernel_rfl) ?_ _
  go_wp2
  go_ret
  exact ⟨rfl, hHeld.below⟩
end Go.Proofs.YtdegfgncdphepaaDoor
/- The law's awake; what the laws lean on: the four calls in the laws' own spelling. -/
namespace Go.Proofs.YtdegfgncdphepaaDoor
open Go Go.RowKit Go.Lib
set_option linter.unusedSimpArgs false
set_option linter.unusedVariables false
theorem addL (a b : Nat) (ha : a < RN) (hb : b < RN) (w : World) : Calls Tryd.prog 61 #[.agg (bl a).toArray, .agg (bl b).toArray] w fun e w' => e = .returned (.agg (bl ((a + b) % pp)).toArray) ∧ Below w.heap.size w w' := Add_any a b ha hb w
theorem mulL (a b : Nat) (ha : a < RN) (hb : b < RN) (w : World) : Calls Tryd.prog 38 #[.agg (bl a).toArray, .agg (bl b).toArray] w fun e w' => e = .returned (.agg (bl ((a * b) % pp)).toArray) ∧ Below w.heap.size w w' := Mul_any a b ha hb w
theorem canL (a : Nat) (ha : a < RN) (w : World) : Calls Tryd.prog 65 #[.agg (bl a).toArray] w fun e w' => e = .returned (.bool (decide (a < pp))) ∧ Below w.heap.size w w' := Canonical_any a ha w
theorem lit0 : (#[.int .u8 0, .int .u8 0, .int .u8 0, .int .u8 0, .int .u8 0, .int .u8 0, .int .u8 0, .int .u8 0, .int .u8 0, .int .u8 0, .int .u8 0, .int .u8 0, .int .u8 0, .int .u8 0, .int .u8 0, .int .u8 0, .int .u8 0, .int .u8 0, .int .u8 0, .int .u8 0, .int .u8 0, .int .u8 0, .int .u8 0, .int .u8 0, .int .u8 0, .int .u8 0, .int .u8 0, .int .u8 0, .int .u8 0, .int .u8 0, .int .u8 0, .int .u8 0] : Array Value) = (bl 0).toArray := by kernel_rfl
theorem lit1 : (#[.int .u8 1, .int .u8 0, .int .u8 0, .int .u8 0, .int .u8 0, .int .u8 0, .int .u8 0, .int .u8 0, .int .u8 0, .int .u8 0, .int .u8 0, .int .u8 0, .int .u8 0, .int .u8 0, .int .u8 0, .int .u8 0, .int .u8 0, .int .u8 0, .int .u8 0, .int .u8 0, .int .u8 0, .int .u8 0, .int .u8 0, .int .u8 0, .int .u8 0, .int .u8 0, .int .u8 0, .int .u8 0, .int .u8 0, .int .u8 0, .int .u8 0, .int .u8 0] : Array Value) = (bl 1).toArray := by kernel_rfl
theorem lit2 : (#[.int .u8 2, .int .u8 0, .int .u8 0, .int .u8 0, .int .u8 0, .int .u8 0, .int .u8 0, .int .u8 0, .int .u8 0, .int .u8 0, .int .u8 0, .int .u8 0, .int .u8 0, .int .u8 0, .int .u8 0, .int .u8 0, .int .u8 0, .int .u8 0, .int .u8 0, .int .u8 0, .int .u8 0, .int .u8 0, .int .u8 0, .int .u8 0, .int .u8 0, .int .u8 0, .int .u8 0, .int .u8 0, .int .u8 0, .int .u8 0, .int .u8 0, .int .u8 0] : Array Value) = (bl 2).toArray := by kernel_rfl
theorem lit3 : (#[.int .u8 3, .int .u8 0, .int .u8 0, .int .u8 0, .int .u8 0, .int .u8 0, .int .u8 0, .int .u8 0, .int .u8 0, .int .u8 0, .int .u8 0, .int .u8 0, .int .u8 0, .int .u8 0, .int .u8 0, .int .u8 0, .int .u8 0, .int .u8 0, .int .u8 0, .int .u8 0, .int .u8 0, .int .u8 0, .int .u8 0, .int .u8 0, .int .u8 0, .int .u8 0, .int .u8 0, .int .u8 0, .int .u8 0, .int .u8 0, .int .u8 0, .int .u8 0] : Array Value) = (bl 3).toArray := by kernel_rfl
theorem lit6 : (#[.int .u8 6, .int .u8 0, .int .u8 0, .int .u8 0, .int .u8 0, .int .u8 0, .int .u8 0, .int .u8 0, .int .u8 0, .int .u8 0, .int .u8 0, .int .u8 0, .int .u8 0, .int .u8 0, .int .u8 0, .int .u8 0, .int .u8 0, .int .u8 0, .int .u8 0, .int .u8 0, .int .u8 0, .int .u8 0, .int .u8 0, .int .u8 0, .int .u8 0, .int .u8 0, .int .u8 0, .int .u8 0, .int .u8 0, .int .u8 0, .int .u8 0, .int .u8 0] : Array Value) = (bl 6).toArray := by kernel_rfl
/-- Equality, decided. -/
theorem eq_yes (m n : Nat) (hm : m < RN) (hn : n < RN) (h : m = n) (w : World) : (Op.equalIn 10000 22 (.agg (bl m).toArray) (.agg (bl n).toArray)).run Tryd.prog w = .ok true w := by
  rw [eq_row m n hm hn, decide_eq_true h]
theorem eq_no (m n : Nat) (hm : m < RN) (hn : n < RN) (h : ¬ m = n) (w : World) : (Op.equalIn 10000 22 (.agg (bl m).toArray) (.agg (bl n).toArray)).run Tryd.prog w = .ok false w := by
  rw [eq_row m n hm hn, decide_eq_false h]
end Go.Proofs.YtdegfgncdphepaaDoor
