/- The walk of FieldRoots. -/
import Derived.Test.YtmelibhpjmgbhaaFieU
import Derived.Test.YtmelibhpjmgbhaaFieCanW
namespace Go.Proofs.Ytmelibhpjmgbhaa
open Go Go.RowKit Go.Lib
set_option linter.unusedSimpArgs false
set_option linter.unusedVariables false
/-- A new variable of 32 bytes, written whole. -/
theorem HH.var {w0 : World} {bs : List (Nat × List Value × TypeId)} {w : World} (h : HH w0 bs w) (n : Nat) : HH w0 (bs ++ [(w.heap.size, bl n, 22)]) ((w.alloc (.cells (bl 0).toArray 22)).setCells w.heap.size 0 (bl n)) := by
  have hq : ((w.alloc (.cells (bl 0).toArray 22)).setCells w.heap.size 0 (bl n)).heap[w.heap.size]? = some (.cells (bl n).toArray 22 (0, 0)) := by
    refine heap_setCells (heap_alloc_here _ _ _ rfl) 0 _ (by have := br_size 0; simp only [br] at this; rw [bl_length]; omega) (fun i => ?_)
    have e1 := br_get' n i
    have e2 := br_get' 0 i
    simp only [br] at e1 e2
    rw [e1, e2, bl_length]
    by_cases hi : i < 32
    · rw [if_pos hi, if_pos (by omega), Nat.sub_zero]
      have := br_get n i hi
      simp only [br] at this
      simpa using this.symm
    · rw [if_neg hi, if_neg (by omega), if_neg hi]
  refine ⟨below_setCells _ h.below.size _ _ _ (h.below.alloc h.below.size _), ?_⟩
  intro i g L t hm
  rw [List.getElem?_append] at hm
  split at hm
  · have hh := h.holds i g L t hm
    have hl := lt_of_heap hh
    exact (heap_setCells_past _ _ (by omega) _ _ _).trans ((heap_alloc_past _ _ _ hl).trans hh)
  · rename_i hi
    rcases Nat.lt_or_ge (i - bs.length) 1 with hl | hl
    · rw [show i - bs.length = 0 by omega] at hm
      simp only [List.getElem?_cons_zero, Option.some.injEq, Prod.mk.injEq] at hm
      obtain ⟨rfl, rfl, rfl⟩ := hm
      exact hq
    · rw [List.getElem?_eq_none (by simp; omega)] at hm
      cases hm
theorem var_there (w : World) (n : Nat) : (w.alloc (.cells (bl 0).toArray 22)).there w.heap.size 0 (br n).size := by
  rw [br_size]
  exact there_of_row (heap_alloc_here _ _ _ rfl) 0 32 (by have := br_size 0; simp only [br] at this; omega)
/-- A row stored whole; the world behind it a letter. -/
theorem wpList_store_midL {P : Program} {ops : Array Oper} {rest : List Oper} {op : Oper} {a : Act} {w : World} {Q : Exit → Act → World → Prop} (hgd : op.guard = none) (ty : TypeId) (x y : Operand) (ho : op.op = .store ty x y)
    (b o : Nat) (L : List Value) (hx : a.eval x = .pointer (some ⟨b, o, none⟩)) (hy : a.eval y = .agg L.toArray)
    (ht : w.there b o L.toArray.size) (hi : (P.info? ty).map (·.size) = some L.length) (h1 : L.toArray.all (·.oneCell') = true)
    (h : ∀ w', w' = w.setCells b o L → wpList P ops Q rest (a.put op.dst undef) w') : wpList P ops Q (op :: rest) a w :=
  wpList_store_mid hgd ty x y ho b o L.toArray hx hy ht hi h1 (h _ rfl)
theorem cell0 {w : World} {g n : Nat} {t : TypeId} (h : w.heap[g]? = some (.cells (bl n).toArray t (0, 0))) : w.cell? ⟨g, 0, none⟩ = some (.int .u8 (by8 n 0)) := by
  rw [cell_of_row w g 0 _ t _ h]
  exact br_get n 0 (by omega)
theorem by8_even (n : Nat) (h : n % 2 = 0) : by8 n 0 % 2 = 0 ∧ (by8 n 0).tmod 2 = 0 := by
  unfold by8
  rw [Nat.pow_zero, Nat.div_one]
  have e : (((n % 256 : Nat) : Int)) % 2 = 0 := by omega
  refine ⟨e, ?_⟩
  rw [Int.tmod_eq_emod_of_nonneg (by omega)]
  exact e
theorem sqrtL (a : Nat) (ha : a < RN) (w : World) : Calls Try.prog 9 #[.agg (bl a).toArray] w fun e w' => e = .returned (.tuple #[.agg (bl (sqv a)).toArray, .int .i64 (sqe a)]) ∧ Below w.heap.size w w' := Sqrt_any a ha w
set_option maxRecDepth 100000 in
set_option maxHeartbeats 4000000 in
theorem roots_sy (a q r d g s : Nat) (w : World)
    (ha : a < RN) (maa : ∀ w, Calls Try.prog 17 #[.agg (bl a).toArray, .agg (bl a).toArray] w fun e w' => e = .returned (.agg (bl q).toArray) ∧ Below w.heap.size w w') (mrr : ∀ w, Calls Try.prog 17 #[.agg (bl r).toArray, .agg (bl r).toArray] w fun e w' => e = .returned (.agg (bl q).toArray) ∧ Below w.heap.size w w') (ka0 : ∀ w, Calls Try.prog 13 #[.agg (bl a).toArray, .agg (bl 0).toArray] w fun e w' => e = .returned (.agg (bl d).toArray) ∧ Below w.heap.size w w') (s0a : ∀ w, Calls Try.prog 15 #[.agg (bl 0).toArray, .agg (bl a).toArray] w fun e w' => e = .returned (.agg (bl g).toArray) ∧ Below w.heap.size w w')
    (sq : ∀ w, Calls Try.prog 9 #[.agg (bl q).toArray] w fun e w' => e = .returned (.tuple #[.agg (bl r).toArray, .int .i64 0]) ∧ Below w.heap.size w w')
    (sa : ∀ w, Calls Try.prog 9 #[.agg (bl a).toArray] w fun e w' => e = .returned (.tuple #[.agg (bl s).toArray, .int .i64 0]) ∧ Below w.heap.size w w')
    (er1 : by8 r 0 % 2 = 0) (er2 : (by8 r 0).tmod 2 = 0) (eq : ∀ w, (Op.equalIn 10000 22 (.agg (bl q).toArray) (.agg (bl q).toArray)).run Try.prog w = .ok true w)
    (erd : ∀ w, (Op.equalIn 10000 22 (.agg (bl r).toArray) (.agg (bl d).toArray)).run Try.prog w = .ok true w)
    (mss : ∀ w, Calls Try.prog 17 #[.agg (bl s).toArray, .agg (bl s).toArray] w fun e w' => e = .returned (.agg (bl d).toArray) ∧ Below w.heap.size w w') (es1 : by8 s 0 % 2 = 0) (es2 : (by8 s 0).tmod 2 = 0) (edd : ∀ w, (Op.equalIn 10000 22 (.agg (bl d).toArray) (.agg (bl d).toArray)).run Try.prog w = .ok true w) :
    Calls Try.prog 6 #[bv a] w fun e w' => e = .returned (.bool true) ∧ Below w.heap.size w w' := by
  have hz := zero_32
  have hza : (bl a).toArray.size = 32 := br_size a
  have hz0 : (bl 0).toArray.size = 32 := br_size 0
  have HS : Hid (HH w [(w.heap.size, bl a, 22)] (w.alloc (.cells (bl a).toArray 22))) := HH.one w _ _
  simp only [bv, br] at hz ⊢
  go_enter Try.func6, Try.ntmps6
  go_wp2_with fail
  refine (awake_any _).mono ?_
  rintro e w1 ⟨rfl, hb1⟩
  have H1 : Hid (HH w [(w.heap.size, bl a, 22)] w1) := HS.out.call hb1
  have C1 : Hid (World.rangeAt _ w.heap.size 0 (bl a)) := H1.out.range (i := 0) rfl
  clear HS hb1
  go_wp2_with (first | (refine wpList_load_mid rfl 22 _ rfl (w.heap.size) 0 rfl (bl a) _ C1.out Try.underlying22 rfl (i32 a) ?_))
  refine (maa _).mono ?_
  rintro e wm ⟨rfl, hbm⟩
  have H2 : Hid (HH w [(w.heap.size, bl a, 22)] wm) := H1.out.call hbm
  have H3a : Hid (HH w [(w.heap.size, bl a, 22), (wm.heap.size, bl q, 22)] ((wm.alloc (.cells (bl 0).toArray 22)).setCells wm.heap.size 0 (bl q))) := H2.out.var q
  have T3 : Hid ((wm.alloc (.cells (bl 0).toArray 22)).there wm.heap.size 0 (br q).size) := var_there wm q
  have lm := H2.out.below.size
  clear hbm H1 C1
  go_wp2_with (first | (refine wpList_store_midL rfl 22 _ _ rfl (wm.heap.size) 0 (bl q) rfl rfl T3.out (i32 q) (br_one _) ?_; intro x3 hx3; have H3 : Hid (HH w [(w.heap.size, bl a, 22), (wm.heap.size, bl q, 22)] x3) := (by rw [hx3]; exact H3a.out); have C3 : Hid (x3.rangeAt wm.heap.size 0 (bl q)) := H3.out.range (i := 1) rfl; clear hx3) | (refine wpList_load_mid rfl 22 _ rfl (wm.heap.size) 0 rfl (bl q) _ C3.out Try.underlying22 rfl (i32 q) ?_))
  refine (sq _).mono ?_
  rintro e wr ⟨rfl, hbr⟩
  have H4 : Hid (HH w [(w.heap.size, bl a, 22), (wm.heap.size, bl q, 22)] wr) := H3.out.call hbr
  have H5a : Hid (HH w [(w.heap.size, bl a, 22), (wm.heap.size, bl q, 22), (wr.heap.size, bl r, 22)] ((wr.alloc (.cells (bl 0).toArray 22)).setCells wr.heap.size 0 (bl r))) := H4.out.var r
  have T5 : Hid ((wr.alloc (.cells (bl 0).toArray 22)).there wr.heap.size 0 (br r).size) := var_there wr r
  clear hbr H2 H3 T3 C3 H4 H3a
  go_wp2_with (first | (refine wpList_store_midL rfl 22 _ _ rfl (wr.heap.size) 0 (bl r) rfl rfl T5.out (i32 r) (br_one _) ?_; intro x5 hx5; have H5 : Hid (HH w [(w.heap.size, bl a, 22), (wm.heap.size, bl q, 22), (wr.heap.size, bl r, 22)] x5) := (by rw [hx5]; exact H5a.out); clear hx5))
  clear H5a T5
  refine wp_region_held_drew (S := (fun w' => HH w [(w.heap.size, bl a, 22), (wm.heap.size, bl q, 22), (wr.heap.size, bl r, 22)] w')) (by kernel_rfl) ?_ (fun hHeld => ?_)
  · exact H5.out.drew
  refine take1 (i := 0) (v := ?_) 18 rfl rfl (by kernel_rfl) (by kernel_rfl) (by kernel_rfl) (fun _ _ _ h => h) (Or.inl ⟨by rfl, ?_⟩) hHeld ?_
  rotate_left 1
  · intro w hSw; go_simp <;> with_reducible rfl
  simp only [Act.put, List.setIfInBounds_toArray, List.set_cons_zero, List.set_cons_succ]
  refine take1 (i := 1) (v := ?_) 19 rfl rfl (by kernel_rfl) (by kernel_rfl) (by kernel_rfl) (fun _ _ _ h => h) (Or.inl ⟨by rfl, ?_⟩) hHeld ?_
  rotate_left 1
  · intro w hSw; go_simp <;> with_reducible rfl
  simp only [Act.put, List.setIfInBounds_toArray, List.set_cons_zero, List.set_cons_succ]
  refine take1 (i := 2) (v := ?_) 20 rfl rfl (by kernel_rfl) (by kernel_rfl) (by kernel_rfl) (fun _ _ _ h => h) (Or.inl ⟨by rfl, ?_⟩) hHeld ?_
  rotate_left 1
  · intro w hSw; go_simp <;> with_reducible rfl
  simp only [Act.put, List.setIfInBounds_toArray, List.set_cons_zero, List.set_cons_succ]
  refine take1 (i := 3) (v := ?_) 21 rfl rfl (by kernel_rfl) (by kernel_rfl) (by kernel_rfl) (fun _ _ _ h => h) (Or.inl ⟨by rfl, ?_⟩) hHeld ?_
  rotate_left 1
  · intro w hSw; go_simp <;> with_reducible rfl
  simp only [Act.put, List.setIfInBounds_toArray, List.set_cons_zero, List.set_cons_succ]
  refine take1 (i := 4) (v := ?_) 22 rfl rfl (by kernel_rfl) (by kernel_rfl) (by kernel_rfl) (fun _ _ _ h => h) (Or.inl ⟨by rfl, ?_⟩) hHeld ?_
  rotate_left 1
  · intro w hSw; have hc0 := cell0 (hSw.holds 2 _ _ _ rfl); go_simp <;> with_reducible rfl
  simp only [Act.put, List.setIfInBounds_toArray, List.set_cons_zero, List.set_cons_succ]
  refine take1 (i := 5) (v := ?_) 23 rfl rfl (by kernel_rfl) (by kernel_rfl) (by kernel_rfl) (fun _ _ _ h => h) (Or.inl ⟨by rfl, ?_⟩) hHeld ?_
  rotate_left 1
  · intro w hSw; go_simp <;> with_reducible rfl
  simp only [Act.put, List.setIfInBounds_toArray, List.set_cons_zero, List.set_cons_succ]
  refine take1 (i := 6) (v := ?_) 24 rfl rfl (by kernel_rfl) (by kernel_rfl) (by kernel_rfl) (fun _ _ _ h => h) (Or.inl ⟨by rfl, ?_⟩) hHeld ?_
  rotate_left 1
  · intro w hSw; go_simp <;> with_reducible rfl
  simp only [Act.put, List.setIfInBounds_toArray, List.set_cons_zero, List.set_cons_succ]
  refine take1 (i := 7) (v := ?_) 25 rfl rfl (by kernel_rfl) (by kernel_rfl) (by kernel_rfl) (fun _ _ _ h => h) (Or.inl ⟨by rfl, ?_⟩) hHeld ?_
  rotate_left 1
  · intro w hSw; go_simp <;> with_reducible rfl
  simp only [Act.put, List.setIfInBounds_toArray, List.set_cons_zero, List.set_cons_succ]
  refine take1 (i := 8) (v := ?_) 26 rfl rfl (by kernel_rfl) (by kernel_rfl) (by kernel_rfl) (fun _ _ _ h => h) (Or.inl ⟨by rfl, ?_⟩) hHeld ?_
  rotate_left 1
  · intro w hSw; go_simp <;> with_reducible rfl
  simp only [Act.put, List.setIfInBounds_toArray, List.set_cons_zero, List.set_cons_succ]
  refine take1 (i := 9) (v := _) 27 rfl rfl (by kernel_rfl) (by kernel_rfl) (by kernel_rfl) (fun _ _ _ h => h) (yieldsIf_load_mid (by rfl) _ _ rfl _ _ rfl _ _ (fun w h => h.range (i := 2) rfl) Try.underlying22 rfl (i32 r)) hHeld ?_
  simp only [Act.put, List.setIfInBounds_toArray, List.set_cons_zero, List.set_cons_succ]
  refine take1 (i := 10) (v := _) 28 rfl rfl (by kernel_rfl) (by kernel_rfl) (by kernel_rfl) (fun _ _ _ h => h) (yieldsIf_load_mid (by rfl) _ _ rfl _ _ rfl _ _ (fun w h => h.range (i := 2) rfl) Try.underlying22 rfl (i32 r)) hHeld ?_
  simp only [Act.put, List.setIfInBounds_toArray, List.set_cons_zero, List.set_cons_succ]
  refine take1 (i := 12) (v := _) 30 rfl rfl (by kernel_rfl) (by kernel_rfl) (by kernel_rfl) (fun _ _ _ h => h) (yieldsIf_load_mid (by rfl) _ _ rfl _ _ rfl _ _ (fun w h => h.range (i := 1) rfl) Try.underlying22 rfl (i32 q)) hHeld ?_
  simp only [Act.put, List.setIfInBounds_toArray, List.set_cons_zero, List.set_cons_succ]
  refine wpAnyH_ready (rs := [11]) (by kernel_rfl) (by simp) ?_
  refine AllReadyH.cons rfl (fun K hK => ?_) AllReadyH.nil
  go_simp
  go_at_call 17
  refine (mrr _).mono ?_
  rintro e wq ⟨rfl, hbq⟩
  refine hK.out _ _ ?_ (fun hHeld => ?_)
  · exact hHeld.call hbq
  clear hK K
  try simp only [Act.put, List.setIfInBounds_toArray, List.set_cons_zero, List.set_cons_succ]
  refine take1 (i := 13) (v := ?_) 31 rfl rfl (by kernel_rfl) (by kernel_rfl) (by kernel_rfl) (fun _ _ _ h => h) (Or.inl ⟨by rfl, ?_⟩) hHeld ?_
  rotate_left 1
  · intro w hSw; go_simp <;> with_reducible rfl
  simp only [Act.put, List.setIfInBounds_toArray, List.set_cons_zero, List.set_cons_succ]
  refine take1 (i := 14) (v := ?_) 32 rfl rfl (by kernel_rfl) (by kernel_rfl) (by kernel_rfl) (fun _ _ _ h => h) (Or.inl ⟨by rfl, ?_⟩) hHeld ?_
  rotate_left 1
  · intro w hSw; go_simp <;> with_reducible rfl
  simp only [Act.put, List.setIfInBounds_toArray, List.set_cons_zero, List.set_cons_succ]
  refine take1 (i := 15) (v := ?_) 33 rfl rfl (by kernel_rfl) (by kernel_rfl) (by kernel_rfl) (fun _ _ _ h => h) (Or.inl ⟨by rfl, ?_⟩) hHeld ?_
  rotate_left 1
  · intro w hSw; go_simp <;> with_reducible rfl
  simp only [Act.put, List.setIfInBounds_toArray, List.set_cons_zero, List.set_cons_succ]
  refine take1 (i := 16) (v := _) 34 rfl rfl (by kernel_rfl) (by kernel_rfl) (by kernel_rfl) (fun _ _ _ h => h) (yieldsIf_load_mid (by rfl) _ _ rfl _ _ rfl _ _ (fun w h => h.range (i := 2) rfl) Try.underlying22 rfl (i32 r)) hHeld ?_
  simp only [Act.put, List.setIfInBounds_toArray, List.set_cons_zero, List.set_cons_succ]
  refine take1 (i := 17) (v := _) 35 rfl rfl (by kernel_rfl) (by kernel_rfl) (by kernel_rfl) (fun _ _ _ h => h) (yieldsIf_load_mid (by rfl) _ _ rfl _ _ rfl _ _ (fun w h => h.range (i := 0) rfl) Try.underlying22 rfl (i32 a)) hHeld ?_
  simp only [Act.put, List.setIfInBounds_toArray, List.set_cons_zero, List.set_cons_succ]
  refine take1 (i := 18) (v := ?_) 36 rfl rfl (by kernel_rfl) (by kernel_rfl) (by kernel_rfl) (fun _ _ _ h => h) (Or.inl ⟨by rfl, ?_⟩) hHeld ?_
  rotate_left 1
  · intro w hSw; go_simp <;> with_reducible rfl
  simp only [Act.put, List.setIfInBounds_toArray, List.set_cons_zero, List.set_cons_succ]
  try rw [lit0]
  refine wpAnyH_ready (rs := [19]) (by kernel_rfl) (by simp) ?_
  refine AllReadyH.cons rfl (fun K hK => ?_) AllReadyH.nil
  go_simp
  go_at_call 13
  refine (ka0 _).mono ?_
  rintro e wq ⟨rfl, hbq⟩
  refine hK.out _ _ ?_ (fun hHeld => ?_)
  · exact hHeld.call hbq
  clear hK K
  try simp only [Act.put, List.setIfInBounds_toArray, List.set_cons_zero, List.set_cons_succ]
  refine take1 (i := 20) (v := ?_) 38 rfl rfl (by kernel_rfl) (by kernel_rfl) (by kernel_rfl) (fun _ _ _ h => h) (Or.inl ⟨by rfl, ?_⟩) hHeld ?_
  rotate_left 1
  · intro w hSw; go_simp <;> with_reducible rfl
  simp only [Act.put, List.setIfInBounds_toArray, List.set_cons_zero, List.set_cons_succ]
  refine take1 (i := 21) (v := ?_) 39 rfl rfl (by kernel_rfl) (by kernel_rfl) (by kernel_rfl) (fun _ _ _ h => h) (Or.inl ⟨by rfl, ?_⟩) hHeld ?_
  rotate_left 1
  · intro w hSw; go_simp <;> with_reducible rfl
  simp only [Act.put, List.setIfInBounds_toArray, List.set_cons_zero, List.set_cons_succ]
  refine take1 (i := 22) (v := undef) 40 rfl rfl (by kernel_rfl) (by kernel_rfl) (by kernel_rfl) (fun _ _ _ h => h) (Or.inr ⟨by rfl, rfl⟩) hHeld ?_
  simp only [Act.put, List.setIfInBounds_toArray, List.set_cons_zero, List.set_cons_succ]
  refine take1 (i := 23) (v := undef) 41 rfl rfl (by kernel_rfl) (by kernel_rfl) (by kernel_rfl) (fun _ _ _ h => h) (Or.inr ⟨by rfl, rfl⟩) hHeld ?_
  simp only [Act.put, List.setIfInBounds_toArray, List.set_cons_zero, List.set_cons_succ]
  refine take1 (i := 24) (v := undef) 42 rfl rfl (by kernel_rfl) (by kernel_rfl) (by kernel_rfl) (fun _ _ _ h => h) (Or.inr ⟨by rfl, rfl⟩) hHeld ?_
  simp only [Act.put, List.setIfInBounds_toArray, List.set_cons_zero, List.set_cons_succ]
  refine take1 (i := 25) (v := undef) 43 rfl rfl (by kernel_rfl) (by kernel_rfl) (by kernel_rfl) (fun _ _ _ h => h) (Or.inr ⟨by rfl, rfl⟩) hHeld ?_
  simp only [Act.put, List.setIfInBounds_toArray, List.set_cons_zero, List.set_cons_succ]
  refine take1 (i := 26) (v := undef) 44 rfl rfl (by kernel_rfl) (by kernel_rfl) (by kernel_rfl) (fun _ _ _ h => h) (Or.inr ⟨by rfl, rfl⟩) hHeld ?_
  simp only [Act.put, List.setIfInBounds_toArray, List.set_cons_zero, List.set_cons_succ]
  refine take1 (i := 27) (v := ?_) 45 rfl rfl (by kernel_rfl) (by kernel_rfl) (by kernel_rfl) (fun _ _ _ h => h) (Or.inl ⟨by rfl, ?_⟩) hHeld ?_
  rotate_left 1
  · intro w hSw; go_simp <;> with_reducible rfl
  simp only [Act.put, List.setIfInBounds_toArray, List.set_cons_zero, List.set_cons_succ]
  refine take1 (i := 28) (v := ?_) 46 rfl rfl (by kernel_rfl) (by kernel_rfl) (by kernel_rfl) (fun _ _ _ h => h) (Or.inl ⟨by rfl, ?_⟩) hHeld ?_
  rotate_left 1
  · intro w hSw; go_simp <;> with_reducible rfl
  simp only [Act.put, List.setIfInBounds_toArray, List.set_cons_zero, List.set_cons_succ]
  refine wpAnyH_done (by kernel_rfl) ?_ _
  have H6 : Hid (HH w [(w.heap.size, bl a, 22), (wm.heap.size, bl q, 22), (wr.heap.size, bl r, 22)] _) := hHeld
  have C6 : Hid (World.rangeAt _ w.heap.size 0 (bl a)) := H6.out.range (i := 0) rfl
  clear hHeld H5
  go_wp2_with (first | (refine wpList_load_mid rfl 22 _ rfl (w.heap.size) 0 rfl (bl a) _ C6.out Try.underlying22 rfl (i32 a) ?_))
  refine (sa _).mono ?_
  rintro e ws ⟨rfl, hbs⟩
  have H7 : Hid (HH w [(w.heap.size, bl a, 22), (wm.heap.size, bl q, 22), (wr.heap.size, bl r, 22)] ws) := H6.out.call hbs
  have H8a : Hid (HH w [(w.heap.size, bl a, 22), (wm.heap.size, bl q, 22), (wr.heap.size, bl r, 22), (ws.heap.size, bl s, 22)] ((ws.alloc (.cells (bl 0).toArray 22)).setCells ws.heap.size 0 (bl s))) := H7.out.var s
  have T8 : Hid ((ws.alloc (.cells (bl 0).toArray 22)).there ws.heap.size 0 (br s).size) := var_there ws s
  clear hbs H6 C6 H7
  go_wp2_with (first | (refine wpList_store_midL rfl 22 _ _ rfl (ws.heap.size) 0 (bl s) rfl rfl T8.out (i32 s) (br_one _) ?_; intro x8 hx8; have H8 : Hid (HH w [(w.heap.size, bl a, 22), (wm.heap.size, bl q, 22), (wr.heap.size, bl r, 22), (ws.heap.size, bl s, 22)] x8) := (by rw [hx8]; exact H8a.out); clear hx8))
  clear H8a T8
  refine wp_region_held_drew (S := (fun w' => HH w [(w.heap.size, bl a, 22), (wm.heap.size, bl q, 22), (wr.heap.size, bl r, 22), (ws.heap.size, bl s, 22)] w')) (by kernel_rfl) ?_ (fun hHeld => ?_)
  · exact H8.out.drew
  refine take1 (i := 0) (v := _) 61 rfl rfl (by kernel_rfl) (by kernel_rfl) (by kernel_rfl) (fun _ _ _ h => h) (yieldsIf_load_mid (by rfl) _ _ rfl _ _ rfl _ _ (fun w h => h.range (i := 3) rfl) Try.underlying22 rfl (i32 s)) hHeld ?_
  simp only [Act.put, List.setIfInBounds_toArray, List.set_cons_zero, List.set_cons_succ]
  refine take1 (i := 1) (v := _) 62 rfl rfl (by kernel_rfl) (by kernel_rfl) (by kernel_rfl) (fun _ _ _ h => h) (yieldsIf_load_mid (by rfl) _ _ rfl _ _ rfl _ _ (fun w h => h.range (i := 3) rfl) Try.underlying22 rfl (i32 s)) hHeld ?_
  simp only [Act.put, List.setIfInBounds_toArray, List.set_cons_zero, List.set_cons_succ]
  refine take1 (i := 3) (v := _) 64 rfl rfl (by kernel_rfl) (by kernel_rfl) (by kernel_rfl) (fun _ _ _ h => h) (yieldsIf_load_mid (by rfl) _ _ rfl _ _ rfl _ _ (fun w h => h.range (i := 0) rfl) Try.underlying22 rfl (i32 a)) hHeld ?_
  simp only [Act.put, List.setIfInBounds_toArray, List.set_cons_zero, List.set_cons_succ]
  refine take1 (i := 4) (v := ?_) 65 rfl rfl (by kernel_rfl) (by kernel_rfl) (by kernel_rfl) (fun _ _ _ h => h) (Or.inl ⟨by rfl, ?_⟩) hHeld ?_
  rotate_left 1
  · intro w hSw; go_simp <;> with_reducible rfl
  simp only [Act.put, List.setIfInBounds_toArray, List.set_cons_zero, List.set_cons_succ]
  try rw [lit0]
  refine wpAnyH_ready (rs := [2]) (by kernel_rfl) (by simp) ?_
  refine AllReadyH.cons rfl (fun K hK => ?_) AllReadyH.nil
  go_simp
  go_at_call 17
  refine (mss _).mono ?_
  rintro e wq ⟨rfl, hbq⟩
  refine hK.out _ _ ?_ (fun hHeld => ?_)
  · exact hHeld.call hbq
  clear hK K
  try simp only [Act.put, List.setIfInBounds_toArray, List.set_cons_zero, List.set_cons_succ]
  refine wpAnyH_ready (rs := [5]) (by kernel_rfl) (by simp) ?_
  refine AllReadyH.cons rfl (fun K hK => ?_) AllReadyH.nil
  go_simp
  go_at_call 13
  refine (ka0 _).mono ?_
  rintro e wq ⟨rfl, hbq⟩
  refine hK.out _ _ ?_ (fun hHeld => ?_)
  · exact hHeld.call hbq
  clear hK K
  try simp only [Act.put, List.setIfInBounds_toArray, List.set_cons_zero, List.set_cons_succ]
  refine take1 (i := 6) (v := ?_) 67 rfl rfl (by kernel_rfl) (by kernel_rfl) (by kernel_rfl) (fun _ _ _ h => h) (Or.inl ⟨by rfl, ?_⟩) hHeld ?_
  rotate_left 1
  · intro w hSw; go_simp <;> with_reducible rfl
  simp only [Act.put, List.setIfInBounds_toArray, List.set_cons_zero, List.set_cons_succ]
  refine take1 (i := 7) (v := ?_) 68 rfl rfl (by kernel_rfl) (by kernel_rfl) (by kernel_rfl) (fun _ _ _ h => h) (Or.inl ⟨by rfl, ?_⟩) hHeld ?_
  rotate_left 1
  · intro w hSw; go_simp <;> with_reducible rfl
  simp only [Act.put, List.setIfInBounds_toArray, List.set_cons_zero, List.set_cons_succ]
  refine take1 (i := 8) (v := ?_) 69 rfl rfl (by kernel_rfl) (by kernel_rfl) (by kernel_rfl) (fun _ _ _ h => h) (Or.inl ⟨by rfl, ?_⟩) hHeld ?_
  rotate_left 1
  · intro w hSw; go_simp <;> with_reducible rfl
  simp only [Act.put, List.setIfInBounds_toArray, List.set_cons_zero, List.set_cons_succ]
  refine take1 (i := 9) (v := ?_) 70 rfl rfl (by kernel_rfl) (by kernel_rfl) (by kernel_rfl) (fun _ _ _ h => h) (Or.inl ⟨by rfl, ?_⟩) hHeld ?_
  rotate_left 1
  · intro w hSw; have hc0 := cell0 (hSw.holds 3 _ _ _ rfl); go_simp <;> with_reducible rfl
  simp only [Act.put, List.setIfInBounds_toArray, List.set_cons_zero, List.set_cons_succ]
  refine take1 (i := 10) (v := ?_) 71 rfl rfl (by kernel_rfl) (by kernel_rfl) (by kernel_rfl) (fun _ _ _ h => h) (Or.inl ⟨by rfl, ?_⟩) hHeld ?_
  rotate_left 1
  · intro w hSw; go_simp <;> with_reducible rfl
  simp only [Act.put, List.setIfInBounds_toArray, List.set_cons_zero, List.set_cons_succ]
  refine take1 (i := 11) (v := ?_) 72 rfl rfl (by kernel_rfl) (by kernel_rfl) (by kernel_rfl) (fun _ _ _ h => h) (Or.inl ⟨by rfl, ?_⟩) hHeld ?_
  rotate_left 1
  · intro w hSw; go_simp <;> with_reducible rfl
  simp only [Act.put, List.setIfInBounds_toArray, List.set_cons_zero, List.set_cons_succ]
  refine take1 (i := 12) (v := ?_) 73 rfl rfl (by kernel_rfl) (by kernel_rfl) (by kernel_rfl) (fun _ _ _ h => h) (Or.inl ⟨by rfl, ?_⟩) hHeld ?_
  rotate_left 1
  · intro w hSw; go_simp <;> with_reducible rfl
  simp only [Act.put, List.setIfInBounds_toArray, List.set_cons_zero, List.set_cons_succ]
  refine take1 (i := 13) (v := ?_) 2 rfl rfl (by kernel_rfl) (by kernel_rfl) (by kernel_rfl) (fun _ _ _ h => h) (Or.inl ⟨by rfl, ?_⟩) hHeld ?_
  rotate_left 1
  · intro w hSw; go_simp <;> with_reducible rfl
  simp only [Act.put, List.setIfInBounds_toArray, List.set_cons_zero, List.set_cons_succ]
  refine wpAnyH_done (by kernel_rfl) ?_ _
  go_wp2
  go_ret
  exact ⟨rfl, hHeld.below⟩
set_option maxRecDepth 100000 in
set_option maxHeartbeats 4000000 in
theorem roots_sn (a q r d g s : Nat) (w : World)
    (ha : a < RN) (maa : ∀ w, Calls Try.prog 17 #[.agg (bl a).toArray, .agg (bl a).toArray] w fun e w' => e = .returned (.agg (bl q).toArray) ∧ Below w.heap.size w w') (mrr : ∀ w, Calls Try.prog 17 #[.agg (bl r).toArray, .agg (bl r).toArray] w fun e w' => e = .returned (.agg (bl q).toArray) ∧ Below w.heap.size w w') (ka0 : ∀ w, Calls Try.prog 13 #[.agg (bl a).toArray, .agg (bl 0).toArray] w fun e w' => e = .returned (.agg (bl d).toArray) ∧ Below w.heap.size w w') (s0a : ∀ w, Calls Try.prog 15 #[.agg (bl 0).toArray, .agg (bl a).toArray] w fun e w' => e = .returned (.agg (bl g).toArray) ∧ Below w.heap.size w w')
    (sq : ∀ w, Calls Try.prog 9 #[.agg (bl q).toArray] w fun e w' => e = .returned (.tuple #[.agg (bl r).toArray, .int .i64 0]) ∧ Below w.heap.size w w')
    (sa : ∀ w, Calls Try.prog 9 #[.agg (bl a).toArray] w fun e w' => e = .returned (.tuple #[.agg (bl s).toArray, .int .i64 4]) ∧ Below w.heap.size w w')
    (er1 : by8 r 0 % 2 = 0) (er2 : (by8 r 0).tmod 2 = 0) (eq : ∀ w, (Op.equalIn 10000 22 (.agg (bl q).toArray) (.agg (bl q).toArray)).run Try.prog w = .ok true w)
    (erd : ∀ w, (Op.equalIn 10000 22 (.agg (bl r).toArray) (.agg (bl d).toArray)).run Try.prog w = .ok true w)
    (es0 : ∀ w, (Op.equalIn 10000 22 (.agg (bl s).toArray) (.agg #[.int .u8 0, .int .u8 0, .int .u8 0, .int .u8 0, .int .u8 0, .int .u8 0, .int .u8 0, .int .u8 0, .int .u8 0, .int .u8 0, .int .u8 0, .int .u8 0, .int .u8 0, .int .u8 0, .int .u8 0, .int .u8 0, .int .u8 0, .int .u8 0, .int .u8 0, .int .u8 0, .int .u8 0, .int .u8 0, .int .u8 0, .int .u8 0, .int .u8 0, .int .u8 0, .int .u8 0, .int .u8 0, .int .u8 0, .int .u8 0, .int .u8 0, .int .u8 0])).run Try.prog w = .ok true w) (es0b : ∀ w, (Op.equalIn 10000 22 (.agg (bl s).toArray) (.agg (bl 0).toArray)).run Try.prog w = .ok true w) :
    Calls Try.prog 6 #[bv a] w fun e w' => e = .returned (.bool true) ∧ Below w.heap.size w w' := by
  have hz := zero_32
  have hza : (bl a).toArray.size = 32 := br_size a
  have hz0 : (bl 0).toArray.size = 32 := br_size 0
  have HS : Hid (HH w [(w.heap.size, bl a, 22)] (w.alloc (.cells (bl a).toArray 22))) := HH.one w _ _
  simp only [bv, br] at hz ⊢
  go_enter Try.func6, Try.ntmps6
  go_wp2_with fail
  refine (awake_any _).mono ?_
  rintro e w1 ⟨rfl, hb1⟩
  have H1 : Hid (HH w [(w.heap.size, bl a, 22)] w1) := HS.out.call hb1
  have C1 : Hid (World.rangeAt _ w.heap.size 0 (bl a)) := H1.out.range (i := 0) rfl
  clear HS hb1
  go_wp2_with (first | (refine wpList_load_mid rfl 22 _ rfl (w.heap.size) 0 rfl (bl a) _ C1.out Try.underlying22 rfl (i32 a) ?_))
  refine (maa _).mono ?_
  rintro e wm ⟨rfl, hbm⟩
  have H2 : Hid (HH w [(w.heap.size, bl a, 22)] wm) := H1.out.call hbm
  have H3a : Hid (HH w [(w.heap.size, bl a, 22), (wm.heap.size, bl q, 22)] ((wm.alloc (.cells (bl 0).toArray 22)).setCells wm.heap.size 0 (bl q))) := H2.out.var q
  have T3 : Hid ((wm.alloc (.cells (bl 0).toArray 22)).there wm.heap.size 0 (br q).size) := var_there wm q
  have lm := H2.out.below.size
  clear hbm H1 C1
  go_wp2_with (first | (refine wpList_store_midL rfl 22 _ _ rfl (wm.heap.size) 0 (bl q) rfl rfl T3.out (i32 q) (br_one _) ?_; intro x3 hx3; have H3 : Hid (HH w [(w.heap.size, bl a, 22), (wm.heap.size, bl q, 22)] x3) := (by rw [hx3]; exact H3a.out); have C3 : Hid (x3.rangeAt wm.heap.size 0 (bl q)) := H3.out.range (i := 1) rfl; clear hx3) | (refine wpList_load_mid rfl 22 _ rfl (wm.heap.size) 0 rfl (bl q) _ C3.out Try.underlying22 rfl (i32 q) ?_))
  refine (sq _).mono ?_
  rintro e wr ⟨rfl, hbr⟩
  have H4 : Hid (HH w [(w.heap.size, bl a, 22), (wm.heap.size, bl q, 22)] wr) := H3.out.call hbr
  have H5a : Hid (HH w [(w.heap.size, bl a, 22), (wm.heap.size, bl q, 22), (wr.heap.size, bl r, 22)] ((wr.alloc (.cells (bl 0).toArray 22)).setCells wr.heap.size 0 (bl r))) := H4.out.var r
  have T5 : Hid ((wr.alloc (.cells (bl 0).toArray 22)).there wr.heap.size 0 (br r).size) := var_there wr r
  clear hbr H2 H3 T3 C3 H4 H3a
  go_wp2_with (first | (refine wpList_store_midL rfl 22 _ _ rfl (wr.heap.size) 0 (bl r) rfl rfl T5.out (i32 r) (br_one _) ?_; intro x5 hx5; have H5 : Hid (HH w [(w.heap.size, bl a, 22), (wm.heap.size, bl q, 22), (wr.heap.size, bl r, 22)] x5) := (by rw [hx5]; exact H5a.out); clear hx5))
  clear H5a T5
  refine wp_region_held_drew (S := (fun w' => HH w [(w.heap.size, bl a, 22), (wm.heap.size, bl q, 22), (wr.heap.size, bl r, 22)] w')) (by kernel_rfl) ?_ (fun hHeld => ?_)
  · exact H5.out.drew
  refine take1 (i := 0) (v := ?_) 18 rfl rfl (by kernel_rfl) (by kernel_rfl) (by kernel_rfl) (fun _ _ _ h => h) (Or.inl ⟨by rfl, ?_⟩) hHeld ?_
  rotate_left 1
  · intro w hSw; go_simp <;> with_reducible rfl
  simp only [Act.put, List.setIfInBounds_toArray, List.set_cons_zero, List.set_cons_succ]
  refine take1 (i := 1) (v := ?_) 19 rfl rfl (by kernel_rfl) (by kernel_rfl) (by kernel_rfl) (fun _ _ _ h => h) (Or.inl ⟨by rfl, ?_⟩) hHeld ?_
  rotate_left 1
  · intro w hSw; go_simp <;> with_reducible rfl
  simp only [Act.put, List.setIfInBounds_toArray, List.set_cons_zero, List.set_cons_succ]
  refine take1 (i := 2) (v := ?_) 20 rfl rfl (by kernel_rfl) (by kernel_rfl) (by kernel_rfl) (fun _ _ _ h => h) (Or.inl ⟨by rfl, ?_⟩) hHeld ?_
  rotate_left 1
  · intro w hSw; go_simp <;> with_reducible rfl
  simp only [Act.put, List.setIfInBounds_toArray, List.set_cons_zero, List.set_cons_succ]
  refine take1 (i := 3) (v := ?_) 21 rfl rfl (by kernel_rfl) (by kernel_rfl) (by kernel_rfl) (fun _ _ _ h => h) (Or.inl ⟨by rfl, ?_⟩) hHeld ?_
  rotate_left 1
  · intro w hSw; go_simp <;> with_reducible rfl
  simp only [Act.put, List.setIfInBounds_toArray, List.set_cons_zero, List.set_cons_succ]
  refine take1 (i := 4) (v := ?_) 22 rfl rfl (by kernel_rfl) (by kernel_rfl) (by kernel_rfl) (fun _ _ _ h => h) (Or.inl ⟨by rfl, ?_⟩) hHeld ?_
  rotate_left 1
  · intro w hSw; have hc0 := cell0 (hSw.holds 2 _ _ _ rfl); go_simp <;> with_reducible rfl
  simp only [Act.put, List.setIfInBounds_toArray, List.set_cons_zero, List.set_cons_succ]
  refine take1 (i := 5) (v := ?_) 23 rfl rfl (by kernel_rfl) (by kernel_rfl) (by kernel_rfl) (fun _ _ _ h => h) (Or.inl ⟨by rfl, ?_⟩) hHeld ?_
  rotate_left 1
  · intro w hSw; go_simp <;> with_reducible rfl
  simp only [Act.put, List.setIfInBounds_toArray, List.set_cons_zero, List.set_cons_succ]
  refine take1 (i := 6) (v := ?_) 24 rfl rfl (by kernel_rfl) (by kernel_rfl) (by kernel_rfl) (fun _ _ _ h => h) (Or.inl ⟨by rfl, ?_⟩) hHeld ?_
  rotate_left 1
  · intro w hSw; go_simp <;> with_reducible rfl
  simp only [Act.put, List.setIfInBounds_toArray, List.set_cons_zero, List.set_cons_succ]
  refine take1 (i := 7) (v := ?_) 25 rfl rfl (by kernel_rfl) (by kernel_rfl) (by kernel_rfl) (fun _ _ _ h => h) (Or.inl ⟨by rfl, ?_⟩) hHeld ?_
  rotate_left 1
  · intro w hSw; go_simp <;> with_reducible rfl
  simp only [Act.put, List.setIfInBounds_toArray, List.set_cons_zero, List.set_cons_succ]
  refine take1 (i := 8) (v := ?_) 26 rfl rfl (by kernel_rfl) (by kernel_rfl) (by kernel_rfl) (fun _ _ _ h => h) (Or.inl ⟨by rfl, ?_⟩) hHeld ?_
  rotate_left 1
  · intro w hSw; go_simp <;> with_reducible rfl
  simp only [Act.put, List.setIfInBounds_toArray, List.set_cons_zero, List.set_cons_succ]
  refine take1 (i := 9) (v := _) 27 rfl rfl (by kernel_rfl) (by kernel_rfl) (by kernel_rfl) (fun _ _ _ h => h) (yieldsIf_load_mid (by rfl) _ _ rfl _ _ rfl _ _ (fun w h => h.range (i := 2) rfl) Try.underlying22 rfl (i32 r)) hHeld ?_
  simp only [Act.put, List.setIfInBounds_toArray, List.set_cons_zero, List.set_cons_succ]
  refine take1 (i := 10) (v := _) 28 rfl rfl (by kernel_rfl) (by kernel_rfl) (by kernel_rfl) (fun _ _ _ h => h) (yieldsIf_load_mid (by rfl) _ _ rfl _ _ rfl _ _ (fun w h => h.range (i := 2) rfl) Try.underlying22 rfl (i32 r)) hHeld ?_
  simp only [Act.put, List.setIfInBounds_toArray, List.set_cons_zero, List.set_cons_succ]
  refine take1 (i := 12) (v := _) 30 rfl rfl (by kernel_rfl) (by kernel_rfl) (by kernel_rfl) (fun _ _ _ h => h) (yieldsIf_load_mid (by rfl) _ _ rfl _ _ rfl _ _ (fun w h => h.range (i := 1) rfl) Try.underlying22 rfl (i32 q)) hHeld ?_
  simp only [Act.put, List.setIfInBounds_toArray, List.set_cons_zero, List.set_cons_succ]
  refine wpAnyH_ready (rs := [11]) (by kernel_rfl) (by simp) ?_
  refine AllReadyH.cons rfl (fun K hK => ?_) AllReadyH.nil
  go_simp
  go_at_call 17
  refine (mrr _).mono ?_
  rintro e wq ⟨rfl, hbq⟩
  refine hK.out _ _ ?_ (fun hHeld => ?_)
  · exact hHeld.call hbq
  clear hK K
  try simp only [Act.put, List.setIfInBounds_toArray, List.set_cons_zero, List.set_cons_succ]
  refine take1 (i := 13) (v := ?_) 31 rfl rfl (by kernel_rfl) (by kernel_rfl) (by kernel_rfl) (fun _ _ _ h => h) (Or.inl ⟨by rfl, ?_⟩) hHeld ?_
  rotate_left 1
  · intro w hSw; go_simp <;> with_reducible rfl
  simp only [Act.put, List.setIfInBounds_toArray, List.set_cons_zero, List.set_cons_succ]
  refine take1 (i := 14) (v := ?_) 32 rfl rfl (by kernel_rfl) (by kernel_rfl) (by kernel_rfl) (fun _ _ _ h => h) (Or.inl ⟨by rfl, ?_⟩) hHeld ?_
  rotate_left 1
  · intro w hSw; go_simp <;> with_reducible rfl
  simp only [Act.put, List.setIfInBounds_toArray, List.set_cons_zero, List.set_cons_succ]
  refine take1 (i := 15) (v := ?_) 33 rfl rfl (by kernel_rfl) (by kernel_rfl) (by kernel_rfl) (fun _ _ _ h => h) (Or.inl ⟨by rfl, ?_⟩) hHeld ?_
  rotate_left 1
  · intro w hSw; go_simp <;> with_reducible rfl
  simp only [Act.put, List.setIfInBounds_toArray, List.set_cons_zero, List.set_cons_succ]
  refine take1 (i := 16) (v := _) 34 rfl rfl (by kernel_rfl) (by kernel_rfl) (by kernel_rfl) (fun _ _ _ h => h) (yieldsIf_load_mid (by rfl) _ _ rfl _ _ rfl _ _ (fun w h => h.range (i := 2) rfl) Try.underlying22 rfl (i32 r)) hHeld ?_
  simp only [Act.put, List.setIfInBounds_toArray, List.set_cons_zero, List.set_cons_succ]
  refine take1 (i := 17) (v := _) 35 rfl rfl (by kernel_rfl) (by kernel_rfl) (by kernel_rfl) (fun _ _ _ h => h) (yieldsIf_load_mid (by rfl) _ _ rfl _ _ rfl _ _ (fun w h => h.range (i := 0) rfl) Try.underlying22 rfl (i32 a)) hHeld ?_
  simp only [Act.put, List.setIfInBounds_toArray, List.set_cons_zero, List.set_cons_succ]
  refine take1 (i := 18) (v := ?_) 36 rfl rfl (by kernel_rfl) (by kernel_rfl) (by kernel_rfl) (fun _ _ _ h => h) (Or.inl ⟨by rfl, ?_⟩) hHeld ?_
  rotate_left 1
  · intro w hSw; go_simp <;> with_reducible rfl
  simp only [Act.put, List.setIfInBounds_toArray, List.set_cons_zero, List.set_cons_succ]
  try rw [lit0]
  refine wpAnyH_ready (rs := [19]) (by kernel_rfl) (by simp) ?_
  refine AllReadyH.cons rfl (fun K hK => ?_) AllReadyH.nil
  go_simp
  go_at_call 13
  refine (ka0 _).mono ?_
  rintro e wq ⟨rfl, hbq⟩
  refine hK.out _ _ ?_ (fun hHeld => ?_)
  · exact hHeld.call hbq
  clear hK K
  try simp only [Act.put, List.setIfInBounds_toArray, List.set_cons_zero, List.set_cons_succ]
  refine take1 (i := 20) (v := ?_) 38 rfl rfl (by kernel_rfl) (by kernel_rfl) (by kernel_rfl) (fun _ _ _ h => h) (Or.inl ⟨by rfl, ?_⟩) hHeld ?_
  rotate_left 1
  · intro w hSw; go_simp <;> with_reducible rfl
  simp only [Act.put, List.setIfInBounds_toArray, List.set_cons_zero, List.set_cons_succ]
  refine take1 (i := 21) (v := ?_) 39 rfl rfl (by kernel_rfl) (by kernel_rfl) (by kernel_rfl) (fun _ _ _ h => h) (Or.inl ⟨by rfl, ?_⟩) hHeld ?_
  rotate_left 1
  · intro w hSw; go_simp <;> with_reducible rfl
  simp only [Act.put, List.setIfInBounds_toArray, List.set_cons_zero, List.set_cons_succ]
  refine take1 (i := 22) (v := undef) 40 rfl rfl (by kernel_rfl) (by kernel_rfl) (by kernel_rfl) (fun _ _ _ h => h) (Or.inr ⟨by rfl, rfl⟩) hHeld ?_
  simp only [Act.put, List.setIfInBounds_toArray, List.set_cons_zero, List.set_cons_succ]
  refine take1 (i := 23) (v := undef) 41 rfl rfl (by kernel_rfl) (by kernel_rfl) (by kernel_rfl) (fun _ _ _ h => h) (Or.inr ⟨by rfl, rfl⟩) hHeld ?_
  simp only [Act.put, List.setIfInBounds_toArray, List.set_cons_zero, List.set_cons_succ]
  refine take1 (i := 24) (v := undef) 42 rfl rfl (by kernel_rfl) (by kernel_rfl) (by kernel_rfl) (fun _ _ _ h => h) (Or.inr ⟨by rfl, rfl⟩) hHeld ?_
  simp only [Act.put, List.setIfInBounds_toArray, List.set_cons_zero, List.set_cons_succ]
  refine take1 (i := 25) (v := undef) 43 rfl rfl (by kernel_rfl) (by kernel_rfl) (by kernel_rfl) (fun _ _ _ h => h) (Or.inr ⟨by rfl, rfl⟩) hHeld ?_
  simp only [Act.put, List.setIfInBounds_toArray, List.set_cons_zero, List.set_cons_succ]
  refine take1 (i := 26) (v := undef) 44 rfl rfl (by kernel_rfl) (by kernel_rfl) (by kernel_rfl) (fun _ _ _ h => h) (Or.inr ⟨by rfl, rfl⟩) hHeld ?_
  simp only [Act.put, List.setIfInBounds_toArray, List.set_cons_zero, List.set_cons_succ]
  refine take1 (i := 27) (v := ?_) 45 rfl rfl (by kernel_rfl) (by kernel_rfl) (by kernel_rfl) (fun _ _ _ h => h) (Or.inl ⟨by rfl, ?_⟩) hHeld ?_
  rotate_left 1
  · intro w hSw; go_simp <;> with_reducible rfl
  simp only [Act.put, List.setIfInBounds_toArray, List.set_cons_zero, List.set_cons_succ]
  refine take1 (i := 28) (v := ?_) 46 rfl rfl (by kernel_rfl) (by kernel_rfl) (by kernel_rfl) (fun _ _ _ h => h) (Or.inl ⟨by rfl, ?_⟩) hHeld ?_
  rotate_left 1
  · intro w hSw; go_simp <;> with_reducible rfl
  simp only [Act.put, List.setIfInBounds_toArray, List.set_cons_zero, List.set_cons_succ]
  refine wpAnyH_done (by kernel_rfl) ?_ _
  have H6 : Hid (HH w [(w.heap.size, bl a, 22), (wm.heap.size, bl q, 22), (wr.heap.size, bl r, 22)] _) := hHeld
  have C6 : Hid (World.rangeAt _ w.heap.size 0 (bl a)) := H6.out.range (i := 0) rfl
  clear hHeld H5
  go_wp2_with (first | (refine wpList_load_mid rfl 22 _ rfl (w.heap.size) 0 rfl (bl a) _ C6.out Try.underlying22 rfl (i32 a) ?_))
  refine (sa _).mono ?_
  rintro e ws ⟨rfl, hbs⟩
  have H7 : Hid (HH w [(w.heap.size, bl a, 22), (wm.heap.size, bl q, 22), (wr.heap.size, bl r, 22)] ws) := H6.out.call hbs
  have H8a : Hid (HH w [(w.heap.size, bl a, 22), (wm.heap.size, bl q, 22), (wr.heap.size, bl r, 22), (ws.heap.size, bl s, 22)] ((ws.alloc (.cells (bl 0).toArray 22)).setCells ws.heap.size 0 (bl s))) := H7.out.var s
  have T8 : Hid ((ws.alloc (.cells (bl 0).toArray 22)).there ws.heap.size 0 (br s).size) := var_there ws s
  clear hbs H6 C6 H7
  go_wp2_with (first | (refine wpList_store_midL rfl 22 _ _ rfl (ws.heap.size) 0 (bl s) rfl rfl T8.out (i32 s) (br_one _) ?_; intro x8 hx8; have H8 : Hid (HH w [(w.heap.size, bl a, 22), (wm.heap.size, bl q, 22), (wr.heap.size, bl r, 22), (ws.heap.size, bl s, 22)] x8) := (by rw [hx8]; exact H8a.out); have C8 : Hid (x8.rangeAt ws.heap.size 0 (bl s)) := H8.out.range (i := 3) rfl; clear hx8) | (refine wpList_load_g (by rfl) 22 _ rfl ws.heap.size 0 rfl (bl s) _ C8.out Try.underlying22 rfl (i32 s) ?_))
  go_ret
  exact ⟨rfl, H8.out.below⟩
set_option maxRecDepth 100000 in
set_option maxHeartbeats 4000000 in
theorem roots_oy (a q r d g s : Nat) (w : World)
    (ha : a < RN) (maa : ∀ w, Calls Try.prog 17 #[.agg (bl a).toArray, .agg (bl a).toArray] w fun e w' => e = .returned (.agg (bl q).toArray) ∧ Below w.heap.size w w') (mrr : ∀ w, Calls Try.prog 17 #[.agg (bl r).toArray, .agg (bl r).toArray] w fun e w' => e = .returned (.agg (bl q).toArray) ∧ Below w.heap.size w w') (ka0 : ∀ w, Calls Try.prog 13 #[.agg (bl a).toArray, .agg (bl 0).toArray] w fun e w' => e = .returned (.agg (bl d).toArray) ∧ Below w.heap.size w w') (s0a : ∀ w, Calls Try.prog 15 #[.agg (bl 0).toArray, .agg (bl a).toArray] w fun e w' => e = .returned (.agg (bl g).toArray) ∧ Below w.heap.size w w')
    (sq : ∀ w, Calls Try.prog 9 #[.agg (bl q).toArray] w fun e w' => e = .returned (.tuple #[.agg (bl r).toArray, .int .i64 0]) ∧ Below w.heap.size w w')
    (sa : ∀ w, Calls Try.prog 9 #[.agg (bl a).toArray] w fun e w' => e = .returned (.tuple #[.agg (bl s).toArray, .int .i64 0]) ∧ Below w.heap.size w w')
    (er1 : by8 r 0 % 2 = 0) (er2 : (by8 r 0).tmod 2 = 0) (eq : ∀ w, (Op.equalIn 10000 22 (.agg (bl q).toArray) (.agg (bl q).toArray)).run Try.prog w = .ok true w)
    (erd : ∀ w, (Op.equalIn 10000 22 (.agg (bl r).toArray) (.agg (bl d).toArray)).run Try.prog w = .ok false w) (erg : ∀ w, (Op.equalIn 10000 22 (.agg (bl r).toArray) (.agg (bl g).toArray)).run Try.prog w = .ok true w)
    (mss : ∀ w, Calls Try.prog 17 #[.agg (bl s).toArray, .agg (bl s).toArray] w fun e w' => e = .returned (.agg (bl d).toArray) ∧ Below w.heap.size w w') (es1 : by8 s 0 % 2 = 0) (es2 : (by8 s 0).tmod 2 = 0) (edd : ∀ w, (Op.equalIn 10000 22 (.agg (bl d).toArray) (.agg (bl d).toArray)).run Try.prog w = .ok true w) :
    Calls Try.prog 6 #[bv a] w fun e w' => e = .returned (.bool true) ∧ Below w.heap.size w w' := by
  have hz := zero_32
  have hza : (bl a).toArray.size = 32 := br_size a
  have hz0 : (bl 0).toArray.size = 32 := br_size 0
  have HS : Hid (HH w [(w.heap.size, bl a, 22)] (w.alloc (.cells (bl a).toArray 22))) := HH.one w _ _
  simp only [bv, br] at hz ⊢
  go_enter Try.func6, Try.ntmps6
  go_wp2_with fail
  refine (awake_any _).mono ?_
  rintro e w1 ⟨rfl, hb1⟩
  have H1 : Hid (HH w [(w.heap.size, bl a, 22)] w1) := HS.out.call hb1
  have C1 : Hid (World.rangeAt _ w.heap.size 0 (bl a)) := H1.out.range (i := 0) rfl
  clear HS hb1
  go_wp2_with (first | (refine wpList_load_mid rfl 22 _ rfl (w.heap.size) 0 rfl (bl a) _ C1.out Try.underlying22 rfl (i32 a) ?_))
  refine (maa _).mono ?_
  rintro e wm ⟨rfl, hbm⟩
  have H2 : Hid (HH w [(w.heap.size, bl a, 22)] wm) := H1.out.call hbm
  have H3a : Hid (HH w [(w.heap.size, bl a, 22), (wm.heap.size, bl q, 22)] ((wm.alloc (.cells (bl 0).toArray 22)).setCells wm.heap.size 0 (bl q))) := H2.out.var q
  have T3 : Hid ((wm.alloc (.cells (bl 0).toArray 22)).there wm.heap.size 0 (br q).size) := var_there wm q
  have lm := H2.out.below.size
  clear hbm H1 C1
  go_wp2_with (first | (refine wpList_store_midL rfl 22 _ _ rfl (wm.heap.size) 0 (bl q) rfl rfl T3.out (i32 q) (br_one _) ?_; intro x3 hx3; have H3 : Hid (HH w [(w.heap.size, bl a, 22), (wm.heap.size, bl q, 22)] x3) := (by rw [hx3]; exact H3a.out); have C3 : Hid (x3.rangeAt wm.heap.size 0 (bl q)) := H3.out.range (i := 1) rfl; clear hx3) | (refine wpList_load_mid rfl 22 _ rfl (wm.heap.size) 0 rfl (bl q) _ C3.out Try.underlying22 rfl (i32 q) ?_))
  refine (sq _).mono ?_
  rintro e wr ⟨rfl, hbr⟩
  have H4 : Hid (HH w [(w.heap.size, bl a, 22), (wm.heap.size, bl q, 22)] wr) := H3.out.call hbr
  have H5a : Hid (HH w [(w.heap.size, bl a, 22), (wm.heap.size, bl q, 22), (wr.heap.size, bl r, 22)] ((wr.alloc (.cells (bl 0).toArray 22)).setCells wr.heap.size 0 (bl r))) := H4.out.var r
  have T5 : Hid ((wr.alloc (.cells (bl 0).toArray 22)).there wr.heap.size 0 (br r).size) := var_there wr r
  clear hbr H2 H3 T3 C3 H4 H3a
  go_wp2_with (first | (refine wpList_store_midL rfl 22 _ _ rfl (wr.heap.size) 0 (bl r) rfl rfl T5.out (i32 r) (br_one _) ?_; intro x5 hx5; have H5 : Hid (HH w [(w.heap.size, bl a, 22), (wm.heap.size, bl q, 22), (wr.heap.size, bl r, 22)] x5) := (by rw [hx5]; exact H5a.out); clear hx5))
  clear H5a T5
  refine wp_region_held_drew (S := (fun w' => HH w [(w.heap.size, bl a, 22), (wm.heap.size, bl q, 22), (wr.heap.size, bl r, 22)] w')) (by kernel_rfl) ?_ (fun hHeld => ?_)
  · exact H5.out.drew
  refine take1 (i := 0) (v := ?_) 18 rfl rfl (by kernel_rfl) (by kernel_rfl) (by kernel_rfl) (fun _ _ _ h => h) (Or.inl ⟨by rfl, ?_⟩) hHeld ?_
  rotate_left 1
  · intro w hSw; go_simp <;> with_reducible rfl
  simp only [Act.put, List.setIfInBounds_toArray, List.set_cons_zero, List.set_cons_succ]
  refine take1 (i := 1) (v := ?_) 19 rfl rfl (by kernel_rfl) (by kernel_rfl) (by kernel_rfl) (fun _ _ _ h => h) (Or.inl ⟨by rfl, ?_⟩) hHeld ?_
  rotate_left 1
  · intro w hSw; go_simp <;> with_reducible rfl
  simp only [Act.put, List.setIfInBounds_toArray, List.set_cons_zero, List.set_cons_succ]
  refine take1 (i := 2) (v := ?_) 20 rfl rfl (by kernel_rfl) (by kernel_rfl) (by kernel_rfl) (fun _ _ _ h => h) (Or.inl ⟨by rfl, ?_⟩) hHeld ?_
  rotate_left 1
  · intro w hSw; go_simp <;> with_reducible rfl
  simp only [Act.put, List.setIfInBounds_toArray, List.set_cons_zero, List.set_cons_succ]
  refine take1 (i := 3) (v := ?_) 21 rfl rfl (by kernel_rfl) (by kernel_rfl) (by kernel_rfl) (fun _ _ _ h => h) (Or.inl ⟨by rfl, ?_⟩) hHeld ?_
  rotate_left 1
  · intro w hSw; go_simp <;> with_reducible rfl
  simp only [Act.put, List.setIfInBounds_toArray, List.set_cons_zero, List.set_cons_succ]
  refine take1 (i := 4) (v := ?_) 22 rfl rfl (by kernel_rfl) (by kernel_rfl) (by kernel_rfl) (fun _ _ _ h => h) (Or.inl ⟨by rfl, ?_⟩) hHeld ?_
  rotate_left 1
  · intro w hSw; have hc0 := cell0 (hSw.holds 2 _ _ _ rfl); go_simp <;> with_reducible rfl
  simp only [Act.put, List.setIfInBounds_toArray, List.set_cons_zero, List.set_cons_succ]
  refine take1 (i := 5) (v := ?_) 23 rfl rfl (by kernel_rfl) (by kernel_rfl) (by kernel_rfl) (fun _ _ _ h => h) (Or.inl ⟨by rfl, ?_⟩) hHeld ?_
  rotate_left 1
  · intro w hSw; go_simp <;> with_reducible rfl
  simp only [Act.put, List.setIfInBounds_toArray, List.set_cons_zero, List.set_cons_succ]
  refine take1 (i := 6) (v := ?_) 24 rfl rfl (by kernel_rfl) (by kernel_rfl) (by kernel_rfl) (fun _ _ _ h => h) (Or.inl ⟨by rfl, ?_⟩) hHeld ?_
  rotate_left 1
  · intro w hSw; go_simp <;> with_reducible rfl
  simp only [Act.put, List.setIfInBounds_toArray, List.set_cons_zero, List.set_cons_succ]
  refine take1 (i := 7) (v := ?_) 25 rfl rfl (by kernel_rfl) (by kernel_rfl) (by kernel_rfl) (fun _ _ _ h => h) (Or.inl ⟨by rfl, ?_⟩) hHeld ?_
  rotate_left 1
  · intro w hSw; go_simp <;> with_reducible rfl
  simp only [Act.put, List.setIfInBounds_toArray, List.set_cons_zero, List.set_cons_succ]
  refine take1 (i := 8) (v := ?_) 26 rfl rfl (by kernel_rfl) (by kernel_rfl) (by kernel_rfl) (fun _ _ _ h => h) (Or.inl ⟨by rfl, ?_⟩) hHeld ?_
  rotate_left 1
  · intro w hSw; go_simp <;> with_reducible rfl
  simp only [Act.put, List.setIfInBounds_toArray, List.set_cons_zero, List.set_cons_succ]
  refine take1 (i := 9) (v := _) 27 rfl rfl (by kernel_rfl) (by kernel_rfl) (by kernel_rfl) (fun _ _ _ h => h) (yieldsIf_load_mid (by rfl) _ _ rfl _ _ rfl _ _ (fun w h => h.range (i := 2) rfl) Try.underlying22 rfl (i32 r)) hHeld ?_
  simp only [Act.put, List.setIfInBounds_toArray, List.set_cons_zero, List.set_cons_succ]
  refine take1 (i := 10) (v := _) 28 rfl rfl (by kernel_rfl) (by kernel_rfl) (by kernel_rfl) (fun _ _ _ h => h) (yieldsIf_load_mid (by rfl) _ _ rfl _ _ rfl _ _ (fun w h => h.range (i := 2) rfl) Try.underlying22 rfl (i32 r)) hHeld ?_
  simp only [Act.put, List.setIfInBounds_toArray, List.set_cons_zero, List.set_cons_succ]
  refine take1 (i := 12) (v := _) 30 rfl rfl (by kernel_rfl) (by kernel_rfl) (by kernel_rfl) (fun _ _ _ h => h) (yieldsIf_load_mid (by rfl) _ _ rfl _ _ rfl _ _ (fun w h => h.range (i := 1) rfl) Try.underlying22 rfl (i32 q)) hHeld ?_
  simp only [Act.put, List.setIfInBounds_toArray, List.set_cons_zero, List.set_cons_succ]
  refine wpAnyH_ready (rs := [11]) (by kernel_rfl) (by simp) ?_
  refine AllReadyH.cons rfl (fun K hK => ?_) AllReadyH.nil
  go_simp
  go_at_call 17
  refine (mrr _).mono ?_
  rintro e wq ⟨rfl, hbq⟩
  refine hK.out _ _ ?_ (fun hHeld => ?_)
  · exact hHeld.call hbq
  clear hK K
  try simp only [Act.put, List.setIfInBounds_toArray, List.set_cons_zero, List.set_cons_succ]
  refine take1 (i := 13) (v := ?_) 31 rfl rfl (by kernel_rfl) (by kernel_rfl) (by kernel_rfl) (fun _ _ _ h => h) (Or.inl ⟨by rfl, ?_⟩) hHeld ?_
  rotate_left 1
  · intro w hSw; go_simp <;> with_reducible rfl
  simp only [Act.put, List.setIfInBounds_toArray, List.set_cons_zero, List.set_cons_succ]
  refine take1 (i := 14) (v := ?_) 32 rfl rfl (by kernel_rfl) (by kernel_rfl) (by kernel_rfl) (fun _ _ _ h => h) (Or.inl ⟨by rfl, ?_⟩) hHeld ?_
  rotate_left 1
  · intro w hSw; go_simp <;> with_reducible rfl
  simp only [Act.put, List.setIfInBounds_toArray, List.set_cons_zero, List.set_cons_succ]
  refine take1 (i := 15) (v := ?_) 33 rfl rfl (by kernel_rfl) (by kernel_rfl) (by kernel_rfl) (fun _ _ _ h => h) (Or.inl ⟨by rfl, ?_⟩) hHeld ?_
  rotate_left 1
  · intro w hSw; go_simp <;> with_reducible rfl
  simp only [Act.put, List.setIfInBounds_toArray, List.set_cons_zero, List.set_cons_succ]
  refine take1 (i := 16) (v := _) 34 rfl rfl (by kernel_rfl) (by kernel_rfl) (by kernel_rfl) (fun _ _ _ h => h) (yieldsIf_load_mid (by rfl) _ _ rfl _ _ rfl _ _ (fun w h => h.range (i := 2) rfl) Try.underlying22 rfl (i32 r)) hHeld ?_
  simp only [Act.put, List.setIfInBounds_toArray, List.set_cons_zero, List.set_cons_succ]
  refine take1 (i := 17) (v := _) 35 rfl rfl (by kernel_rfl) (by kernel_rfl) (by kernel_rfl) (fun _ _ _ h => h) (yieldsIf_load_mid (by rfl) _ _ rfl _ _ rfl _ _ (fun w h => h.range (i := 0) rfl) Try.underlying22 rfl (i32 a)) hHeld ?_
  simp only [Act.put, List.setIfInBounds_toArray, List.set_cons_zero, List.set_cons_succ]
  refine take1 (i := 18) (v := ?_) 36 rfl rfl (by kernel_rfl) (by kernel_rfl) (by kernel_rfl) (fun _ _ _ h => h) (Or.inl ⟨by rfl, ?_⟩) hHeld ?_
  rotate_left 1
  · intro w hSw; go_simp <;> with_reducible rfl
  simp only [Act.put, List.setIfInBounds_toArray, List.set_cons_zero, List.set_cons_succ]
  try rw [lit0]
  refine wpAnyH_ready (rs := [19]) (by kernel_rfl) (by simp) ?_
  refine AllReadyH.cons rfl (fun K hK => ?_) AllReadyH.nil
  go_simp
  go_at_call 13
  refine (ka0 _).mono ?_
  rintro e wq ⟨rfl, hbq⟩
  refine hK.out _ _ ?_ (fun hHeld => ?_)
  · exact hHeld.call hbq
  clear hK K
  try simp only [Act.put, List.setIfInBounds_toArray, List.set_cons_zero, List.set_cons_succ]
  refine take1 (i := 20) (v := ?_) 38 rfl rfl (by kernel_rfl) (by kernel_rfl) (by kernel_rfl) (fun _ _ _ h => h) (Or.inl ⟨by rfl, ?_⟩) hHeld ?_
  rotate_left 1
  · intro w hSw; go_simp <;> with_reducible rfl
  simp only [Act.put, List.setIfInBounds_toArray, List.set_cons_zero, List.set_cons_succ]
  refine take1 (i := 21) (v := ?_) 39 rfl rfl (by kernel_rfl) (by kernel_rfl) (by kernel_rfl) (fun _ _ _ h => h) (Or.inl ⟨by rfl, ?_⟩) hHeld ?_
  rotate_left 1
  · intro w hSw; go_simp <;> with_reducible rfl
  simp only [Act.put, List.setIfInBounds_toArray, List.set_cons_zero, List.set_cons_succ]
  refine take1 (i := 22) (v := _) 40 rfl rfl (by kernel_rfl) (by kernel_rfl) (by kernel_rfl) (fun _ _ _ h => h) (yieldsIf_load_mid (by rfl) _ _ rfl _ _ rfl _ _ (fun w h => h.range (i := 2) rfl) Try.underlying22 rfl (i32 r)) hHeld ?_
  simp only [Act.put, List.setIfInBounds_toArray, List.set_cons_zero, List.set_cons_succ]
  refine take1 (i := 23) (v := ?_) 41 rfl rfl (by kernel_rfl) (by kernel_rfl) (by kernel_rfl) (fun _ _ _ h => h) (Or.inl ⟨by rfl, ?_⟩) hHeld ?_
  rotate_left 1
  · intro w hSw; go_simp <;> with_reducible rfl
  simp only [Act.put, List.setIfInBounds_toArray, List.set_cons_zero, List.set_cons_succ]
  try rw [lit0]
  refine take1 (i := 24) (v := _) 42 rfl rfl (by kernel_rfl) (by kernel_rfl) (by kernel_rfl) (fun _ _ _ h => h) (yieldsIf_load_mid (by rfl) _ _ rfl _ _ rfl _ _ (fun w h => h.range (i := 0) rfl) Try.underlying22 rfl (i32 a)) hHeld ?_
  simp only [Act.put, List.setIfInBounds_toArray, List.set_cons_zero, List.set_cons_succ]
  refine wpAnyH_ready (rs := [25]) (by kernel_rfl) (by simp) ?_
  refine AllReadyH.cons rfl (fun K hK => ?_) AllReadyH.nil
  go_simp
  go_at_call 15
  refine (s0a _).mono ?_
  rintro e wq ⟨rfl, hbq⟩
  refine hK.out _ _ ?_ (fun hHeld => ?_)
  · exact hHeld.call hbq
  clear hK K
  try simp only [Act.put, List.setIfInBounds_toArray, List.set_cons_zero, List.set_cons_succ]
  refine take1 (i := 26) (v := ?_) 44 rfl rfl (by kernel_rfl) (by kernel_rfl) (by kernel_rfl) (fun _ _ _ h => h) (Or.inl ⟨by rfl, ?_⟩) hHeld ?_
  rotate_left 1
  · intro w hSw; go_simp <;> with_reducible rfl
  simp only [Act.put, List.setIfInBounds_toArray, List.set_cons_zero, List.set_cons_succ]
  refine take1 (i := 27) (v := ?_) 45 rfl rfl (by kernel_rfl) (by kernel_rfl) (by kernel_rfl) (fun _ _ _ h => h) (Or.inl ⟨by rfl, ?_⟩) hHeld ?_
  rotate_left 1
  · intro w hSw; go_simp <;> with_reducible rfl
  simp only [Act.put, List.setIfInBounds_toArray, List.set_cons_zero, List.set_cons_succ]
  refine take1 (i := 28) (v := ?_) 46 rfl rfl (by kernel_rfl) (by kernel_rfl) (by kernel_rfl) (fun _ _ _ h => h) (Or.inl ⟨by rfl, ?_⟩) hHeld ?_
  rotate_left 1
  · intro w hSw; go_simp <;> with_reducible rfl
  simp only [Act.put, List.setIfInBounds_toArray, List.set_cons_zero, List.set_cons_succ]
  refine wpAnyH_done (by kernel_rfl) ?_ _
  have H6 : Hid (HH w [(w.heap.size, bl a, 22), (wm.heap.size, bl q, 22), (wr.heap.size, bl r, 22)] _) := hHeld
  have C6 : Hid (World.rangeAt _ w.heap.size 0 (bl a)) := H6.out.range (i := 0) rfl
  clear hHeld H5
  go_wp2_with (first | (refine wpList_load_mid rfl 22 _ rfl (w.heap.size) 0 rfl (bl a) _ C6.out Try.underlying22 rfl (i32 a) ?_))
  refine (sa _).mono ?_
  rintro e ws ⟨rfl, hbs⟩
  have H7 : Hid (HH w [(w.heap.size, bl a, 22), (wm.heap.size, bl q, 22), (wr.heap.size, bl r, 22)] ws) := H6.out.call hbs
  have H8a : Hid (HH w [(w.heap.size, bl a, 22), (wm.heap.size, bl q, 22), (wr.heap.size, bl r, 22), (ws.heap.size, bl s, 22)] ((ws.alloc (.cells (bl 0).toArray 22)).setCells ws.heap.size 0 (bl s))) := H7.out.var s
  have T8 : Hid ((ws.alloc (.cells (bl 0).toArray 22)).there ws.heap.size 0 (br s).size) := var_there ws s
  clear hbs H6 C6 H7
  go_wp2_with (first | (refine wpList_store_midL rfl 22 _ _ rfl (ws.heap.size) 0 (bl s) rfl rfl T8.out (i32 s) (br_one _) ?_; intro x8 hx8; have H8 : Hid (HH w [(w.heap.size, bl a, 22), (wm.heap.size, bl q, 22), (wr.heap.size, bl r, 22), (ws.heap.size, bl s, 22)] x8) := (by rw [hx8]; exact H8a.out); clear hx8))
  clear H8a T8
  refine wp_region_held_drew (S := (fun w' => HH w [(w.heap.size, bl a, 22), (wm.heap.size, bl q, 22), (wr.heap.size, bl r, 22), (ws.heap.size, bl s, 22)] w')) (by kernel_rfl) ?_ (fun hHeld => ?_)
  · exact H8.out.drew
  refine take1 (i := 0) (v := _) 61 rfl rfl (by kernel_rfl) (by kernel_rfl) (by kernel_rfl) (fun _ _ _ h => h) (yieldsIf_load_mid (by rfl) _ _ rfl _ _ rfl _ _ (fun w h => h.range (i := 3) rfl) Try.underlying22 rfl (i32 s)) hHeld ?_
  simp only [Act.put, List.setIfInBounds_toArray, List.set_cons_zero, List.set_cons_succ]
  refine take1 (i := 1) (v := _) 62 rfl rfl (by kernel_rfl) (by kernel_rfl) (by kernel_rfl) (fun _ _ _ h => h) (yieldsIf_load_mid (by rfl) _ _ rfl _ _ rfl _ _ (fun w h => h.range (i := 3) rfl) Try.underlying22 rfl (i32 s)) hHeld ?_
  simp only [Act.put, List.setIfInBounds_toArray, List.set_cons_zero, List.set_cons_succ]
  refine take1 (i := 3) (v := _) 64 rfl rfl (by kernel_rfl) (by kernel_rfl) (by kernel_rfl) (fun _ _ _ h => h) (yieldsIf_load_mid (by rfl) _ _ rfl _ _ rfl _ _ (fun w h => h.range (i := 0) rfl) Try.underlying22 rfl (i32 a)) hHeld ?_
  simp only [Act.put, List.setIfInBounds_toArray, List.set_cons_zero, List.set_cons_succ]
  refine take1 (i := 4) (v := ?_) 65 rfl rfl (by kernel_rfl) (by kernel_rfl) (by kernel_rfl) (fun _ _ _ h => h) (Or.inl ⟨by rfl, ?_⟩) hHeld ?_
  rotate_left 1
  · intro w hSw; go_simp <;> with_reducible rfl
  simp only [Act.put, List.setIfInBounds_toArray, List.set_cons_zero, List.set_cons_succ]
  try rw [lit0]
  refine wpAnyH_ready (rs := [2]) (by kernel_rfl) (by simp) ?_
  refine AllReadyH.cons rfl (fun K hK => ?_) AllReadyH.nil
  go_simp
  go_at_call 17
  refine (mss _).mono ?_
  rintro e wq ⟨rfl, hbq⟩
  refine hK.out _ _ ?_ (fun hHeld => ?_)
  · exact hHeld.call hbq
  clear hK K
  try simp only [Act.put, List.setIfInBounds_toArray, List.set_cons_zero, List.set_cons_succ]
  refine wpAnyH_ready (rs := [5]) (by kernel_rfl) (by simp) ?_
  refine AllReadyH.cons rfl (fun K hK => ?_) AllReadyH.nil
  go_simp
  go_at_call 13
  refine (ka0 _).mono ?_
  rintro e wq ⟨rfl, hbq⟩
  refine hK.out _ _ ?_ (fun hHeld => ?_)
  · exact hHeld.call hbq
  clear hK K
  try simp only [Act.put, List.setIfInBounds_toArray, List.set_cons_zero, List.set_cons_succ]
  refine take1 (i := 6) (v := ?_) 67 rfl rfl (by kernel_rfl) (by kernel_rfl) (by kernel_rfl) (fun _ _ _ h => h) (Or.inl ⟨by rfl, ?_⟩) hHeld ?_
  rotate_left 1
  · intro w hSw; go_simp <;> with_reducible rfl
  simp only [Act.put, List.setIfInBounds_toArray, List.set_cons_zero, List.set_cons_succ]
  refine take1 (i := 7) (v := ?_) 68 rfl rfl (by kernel_rfl) (by kernel_rfl) (by kernel_rfl) (fun _ _ _ h => h) (Or.inl ⟨by rfl, ?_⟩) hHeld ?_
  rotate_left 1
  · intro w hSw; go_simp <;> with_reducible rfl
  simp only [Act.put, List.setIfInBounds_toArray, List.set_cons_zero, List.set_cons_succ]
  refine take1 (i := 8) (v := ?_) 69 rfl rfl (by kernel_rfl) (by kernel_rfl) (by kernel_rfl) (fun _ _ _ h => h) (Or.inl ⟨by rfl, ?_⟩) hHeld ?_
  rotate_left 1
  · intro w hSw; go_simp <;> with_reducible rfl
  simp only [Act.put, List.setIfInBounds_toArray, List.set_cons_zero, List.set_cons_succ]
  refine take1 (i := 9) (v := ?_) 70 rfl rfl (by kernel_rfl) (by kernel_rfl) (by kernel_rfl) (fun _ _ _ h => h) (Or.inl ⟨by rfl, ?_⟩) hHeld ?_
  rotate_left 1
  · intro w hSw; have hc0 := cell0 (hSw.holds 3 _ _ _ rfl); go_simp <;> with_reducible rfl
  simp only [Act.put, List.setIfInBounds_toArray, List.set_cons_zero, List.set_cons_succ]
  refine take1 (i := 10) (v := ?_) 71 rfl rfl (by kernel_rfl) (by kernel_rfl) (by kernel_rfl) (fun _ _ _ h => h) (Or.inl ⟨by rfl, ?_⟩) hHeld ?_
  rotate_left 1
  · intro w hSw; go_simp <;> with_reducible rfl
  simp only [Act.put, List.setIfInBounds_toArray, List.set_cons_zero, List.set_cons_succ]
  refine take1 (i := 11) (v := ?_) 72 rfl rfl (by kernel_rfl) (by kernel_rfl) (by kernel_rfl) (fun _ _ _ h => h) (Or.inl ⟨by rfl, ?_⟩) hHeld ?_
  rotate_left 1
  · intro w hSw; go_simp <;> with_reducible rfl
  simp only [Act.put, List.setIfInBounds_toArray, List.set_cons_zero, List.set_cons_succ]
  refine take1 (i := 12) (v := ?_) 73 rfl rfl (by kernel_rfl) (by kernel_rfl) (by kernel_rfl) (fun _ _ _ h => h) (Or.inl ⟨by rfl, ?_⟩) hHeld ?_
  rotate_left 1
  · intro w hSw; go_simp <;> with_reducible rfl
  simp only [Act.put, List.setIfInBounds_toArray, List.set_cons_zero, List.set_cons_succ]
  refine take1 (i := 13) (v := ?_) 2 rfl rfl (by kernel_rfl) (by kernel_rfl) (by kernel_rfl) (fun _ _ _ h => h) (Or.inl ⟨by rfl, ?_⟩) hHeld ?_
  rotate_left 1
  · intro w hSw; go_simp <;> with_reducible rfl
  simp only [Act.put, List.setIfInBounds_toArray, List.set_cons_zero, List.set_cons_succ]
  refine wpAnyH_done (by kernel_rfl) ?_ _
  go_wp2
  go_ret
  exact ⟨rfl, hHeld.below⟩
set_option maxRecDepth 100000 in
set_option maxHeartbeats 4000000 in
theorem roots_on (a q r d g s : Nat) (w : World)
    (ha : a < RN) (maa : ∀ w, Calls Try.prog 17 #[.agg (bl a).toArray, .agg (bl a).toArray] w fun e w' => e = .returned (.agg (bl q).toArray) ∧ Below w.heap.size w w') (mrr : ∀ w, Calls Try.prog 17 #[.agg (bl r).toArray, .agg (bl r).toArray] w fun e w' => e = .returned (.agg (bl q).toArray) ∧ Below w.heap.size w w') (ka0 : ∀ w, Calls Try.prog 13 #[.agg (bl a).toArray, .agg (bl 0).toArray] w fun e w' => e = .returned (.agg (bl d).toArray) ∧ Below w.heap.size w w') (s0a : ∀ w, Calls Try.prog 15 #[.agg (bl 0).toArray, .agg (bl a).toArray] w fun e w' => e = .returned (.agg (bl g).toArray) ∧ Below w.heap.size w w')
    (sq : ∀ w, Calls Try.prog 9 #[.agg (bl q).toArray] w fun e w' => e = .returned (.tuple #[.agg (bl r).toArray, .int .i64 0]) ∧ Below w.heap.size w w')
    (sa : ∀ w, Calls Try.prog 9 #[.agg (bl a).toArray] w fun e w' => e = .returned (.tuple #[.agg (bl s).toArray, .int .i64 4]) ∧ Below w.heap.size w w')
    (er1 : by8 r 0 % 2 = 0) (er2 : (by8 r 0).tmod 2 = 0) (eq : ∀ w, (Op.equalIn 10000 22 (.agg (bl q).toArray) (.agg (bl q).toArray)).run Try.prog w = .ok true w)
    (erd : ∀ w, (Op.equalIn 10000 22 (.agg (bl r).toArray) (.agg (bl d).toArray)).run Try.prog w = .ok false w) (erg : ∀ w, (Op.equalIn 10000 22 (.agg (bl r).toArray) (.agg (bl g).toArray)).run Try.prog w = .ok true w)
    (es0 : ∀ w, (Op.equalIn 10000 22 (.agg (bl s).toArray) (.agg #[.int .u8 0, .int .u8 0, .int .u8 0, .int .u8 0, .int .u8 0, .int .u8 0, .int .u8 0, .int .u8 0, .int .u8 0, .int .u8 0, .int .u8 0, .int .u8 0, .int .u8 0, .int .u8 0, .int .u8 0, .int .u8 0, .int .u8 0, .int .u8 0, .int .u8 0, .int .u8 0, .int .u8 0, .int .u8 0, .int .u8 0, .int .u8 0, .int .u8 0, .int .u8 0, .int .u8 0, .int .u8 0, .int .u8 0, .int .u8 0, .int .u8 0, .int .u8 0])).run Try.prog w = .ok true w) (es0b : ∀ w, (Op.equalIn 10000 22 (.agg (bl s).toArray) (.agg (bl 0).toArray)).run Try.prog w = .ok true w) :
    Calls Try.prog 6 #[bv a] w fun e w' => e = .returned (.bool true) ∧ Below w.heap.size w w' := by
  have hz := zero_32
  have hza : (bl a).toArray.size = 32 := br_size a
  have hz0 : (bl 0).toArray.size = 32 := br_size 0
  have HS : Hid (HH w [(w.heap.size, bl a, 22)] (w.alloc (.cells (bl a).toArray 22))) := HH.one w _ _
  simp only [bv, br] at hz ⊢
  go_enter Try.func6, Try.ntmps6
  go_wp2_with fail
  refine (awake_any _).mono ?_
  rintro e w1 ⟨rfl, hb1⟩
  have H1 : Hid (HH w [(w.heap.size, bl a, 22)] w1) := HS.out.call hb1
  have C1 : Hid (World.rangeAt _ w.heap.size 0 (bl a)) := H1.out.range (i := 0) rfl
  clear HS hb1
  go_wp2_with (first | (refine wpList_load_mid rfl 22 _ rfl (w.heap.size) 0 rfl (bl a) _ C1.out Try.underlying22 rfl (i32 a) ?_))
  refine (maa _).mono ?_
  rintro e wm ⟨rfl, hbm⟩
  have H2 : Hid (HH w [(w.heap.size, bl a, 22)] wm) := H1.out.call hbm
  have H3a : Hid (HH w [(w.heap.size, bl a, 22), (wm.heap.size, bl q, 22)] ((wm.alloc (.cells (bl 0).toArray 22)).setCells wm.heap.size 0 (bl q))) := H2.out.var q
  have T3 : Hid ((wm.alloc (.cells (bl 0).toArray 22)).there wm.heap.size 0 (br q).size) := var_there wm q
  have lm := H2.out.below.size
  clear hbm H1 C1
  go_wp2_with (first | (refine wpList_store_midL rfl 22 _ _ rfl (wm.heap.size) 0 (bl q) rfl rfl T3.out (i32 q) (br_one _) ?_; intro x3 hx3; have H3 : Hid (HH w [(w.heap.size, bl a, 22), (wm.heap.size, bl q, 22)] x3) := (by rw [hx3]; exact H3a.out); have C3 : Hid (x3.rangeAt wm.heap.size 0 (bl q)) := H3.out.range (i := 1) rfl; clear hx3) | (refine wpList_load_mid rfl 22 _ rfl (wm.heap.size) 0 rfl (bl q) _ C3.out Try.underlying22 rfl (i32 q) ?_))
  refine (sq _).mono ?_
  rintro e wr ⟨rfl, hbr⟩
  have H4 : Hid (HH w [(w.heap.size, bl a, 22), (wm.heap.size, bl q, 22)] wr) := H3.out.call hbr
  have H5a : Hid (HH w [(w.heap.size, bl a, 22), (wm.heap.size, bl q, 22), (wr.heap.size, bl r, 22)] ((wr.alloc (.cells (bl 0).toArray 22)).setCells wr.heap.size 0 (bl r))) := H4.out.var r
  have T5 : Hid ((wr.alloc (.cells (bl 0).toArray 22)).there wr.heap.size 0 (br r).size) := var_there wr r
  clear hbr H2 H3 T3 C3 H4 H3a
  go_wp2_with (first | (refine wpList_store_midL rfl 22 _ _ rfl (wr.heap.size) 0 (bl r) rfl rfl T5.out (i32 r) (br_one _) ?_; intro x5 hx5; have H5 : Hid (HH w [(w.heap.size, bl a, 22), (wm.heap.size, bl q, 22), (wr.heap.size, bl r, 22)] x5) := (by rw [hx5]; exact H5a.out); clear hx5))
  clear H5a T5
  refine wp_region_held_drew (S := (fun w' => HH w [(w.heap.size, bl a, 22), (wm.heap.size, bl q, 22), (wr.heap.size, bl r, 22)] w')) (by kernel_rfl) ?_ (fun hHeld => ?_)
  · exact H5.out.drew
  refine take1 (i := 0) (v := ?_) 18 rfl rfl (by kernel_rfl) (by kernel_rfl) (by kernel_rfl) (fun _ _ _ h => h) (Or.inl ⟨by rfl, ?_⟩) hHeld ?_
  rotate_left 1
  · intro w hSw; go_simp <;> with_reducible rfl
  simp only [Act.put, List.setIfInBounds_toArray, List.set_cons_zero, List.set_cons_succ]
  refine take1 (i := 1) (v := ?_) 19 rfl rfl (by kernel_rfl) (by kernel_rfl) (by kernel_rfl) (fun _ _ _ h => h) (Or.inl ⟨by rfl, ?_⟩) hHeld ?_
  rotate_left 1
  · intro w hSw; go_simp <;> with_reducible rfl
  simp only [Act.put, List.setIfInBounds_toArray, List.set_cons_zero, List.set_cons_succ]
  refine take1 (i := 2) (v := ?_) 20 rfl rfl (by kernel_rfl) (by kernel_rfl) (by kernel_rfl) (fun _ _ _ h => h) (Or.inl ⟨by rfl, ?_⟩) hHeld ?_
  rotate_left 1
  · intro w hSw; go_simp <;> with_reducible rfl
  simp only [Act.put, List.setIfInBounds_toArray, List.set_cons_zero, List.set_cons_succ]
  refine take1 (i := 3) (v := ?_) 21 rfl rfl (by kernel_rfl) (by kernel_rfl) (by kernel_rfl) (fun _ _ _ h => h) (Or.inl ⟨by rfl, ?_⟩) hHeld ?_
  rotate_left 1
  · intro w hSw; go_simp <;> with_reducible rfl
  simp only [Act.put, List.setIfInBounds_toArray, List.set_cons_zero, List.set_cons_succ]
  refine take1 (i := 4) (v := ?_) 22 rfl rfl (by kernel_rfl) (by kernel_rfl) (by kernel_rfl) (fun _ _ _ h => h) (Or.inl ⟨by rfl, ?_⟩) hHeld ?_
  rotate_left 1
  · intro w hSw; have hc0 := cell0 (hSw.holds 2 _ _ _ rfl); go_simp <;> with_reducible rfl
  simp only [Act.put, List.setIfInBounds_toArray, List.set_cons_zero, List.set_cons_succ]
  refine take1 (i := 5) (v := ?_) 23 rfl rfl (by kernel_rfl) (by kernel_rfl) (by kernel_rfl) (fun _ _ _ h => h) (Or.inl ⟨by rfl, ?_⟩) hHeld ?_
  rotate_left 1
  · intro w hSw; go_simp <;> with_reducible rfl
  simp only [Act.put, List.setIfInBounds_toArray, List.set_cons_zero, List.set_cons_succ]
  refine take1 (i := 6) (v := ?_) 24 rfl rfl (by kernel_rfl) (by kernel_rfl) (by kernel_rfl) (fun _ _ _ h => h) (Or.inl ⟨by rfl, ?_⟩) hHeld ?_
  rotate_left 1
  · intro w hSw; go_simp <;> with_reducible rfl
  simp only [Act.put, List.setIfInBounds_toArray, List.set_cons_zero, List.set_cons_succ]
  refine take1 (i := 7) (v := ?_) 25 rfl rfl (by kernel_rfl) (by kernel_rfl) (by kernel_rfl) (fun _ _ _ h => h) (Or.inl ⟨by rfl, ?_⟩) hHeld ?_
  rotate_left 1
  · intro w hSw; go_simp <;> with_reducible rfl
  simp only [Act.put, List.setIfInBounds_toArray, List.set_cons_zero, List.set_cons_succ]
  refine take1 (i := 8) (v := ?_) 26 rfl rfl (by kernel_rfl) (by kernel_rfl) (by kernel_rfl) (fun _ _ _ h => h) (Or.inl ⟨by rfl, ?_⟩) hHeld ?_
  rotate_left 1
  · intro w hSw; go_simp <;> with_reducible rfl
  simp only [Act.put, List.setIfInBounds_toArray, List.set_cons_zero, List.set_cons_succ]
  refine take1 (i := 9) (v := _) 27 rfl rfl (by kernel_rfl) (by kernel_rfl) (by kernel_rfl) (fun _ _ _ h => h) (yieldsIf_load_mid (by rfl) _ _ rfl _ _ rfl _ _ (fun w h => h.range (i := 2) rfl) Try.underlying22 rfl (i32 r)) hHeld ?_
  simp only [Act.put, List.setIfInBounds_toArray, List.set_cons_zero, List.set_cons_succ]
  refine take1 (i := 10) (v := _) 28 rfl rfl (by kernel_rfl) (by kernel_rfl) (by kernel_rfl) (fun _ _ _ h => h) (yieldsIf_load_mid (by rfl) _ _ rfl _ _ rfl _ _ (fun w h => h.range (i := 2) rfl) Try.underlying22 rfl (i32 r)) hHeld ?_
  simp only [Act.put, List.setIfInBounds_toArray, List.set_cons_zero, List.set_cons_succ]
  refine take1 (i := 12) (v := _) 30 rfl rfl (by kernel_rfl) (by kernel_rfl) (by kernel_rfl) (fun _ _ _ h => h) (yieldsIf_load_mid (by rfl) _ _ rfl _ _ rfl _ _ (fun w h => h.range (i := 1) rfl) Try.underlying22 rfl (i32 q)) hHeld ?_
  simp only [Act.put, List.setIfInBounds_toArray, List.set_cons_zero, List.set_cons_succ]
  refine wpAnyH_ready (rs := [11]) (by kernel_rfl) (by simp) ?_
  refine AllReadyH.cons rfl (fun K hK => ?_) AllReadyH.nil
  go_simp
  go_at_call 17
  refine (mrr _).mono ?_
  rintro e wq ⟨rfl, hbq⟩
  refine hK.out _ _ ?_ (fun hHeld => ?_)
  · exact hHeld.call hbq
  clear hK K
  try simp only [Act.put, List.setIfInBounds_toArray, List.set_cons_zero, List.set_cons_succ]
  refine take1 (i := 13) (v := ?_) 31 rfl rfl (by kernel_rfl) (by kernel_rfl) (by kernel_rfl) (fun _ _ _ h => h) (Or.inl ⟨by rfl, ?_⟩) hHeld ?_
  rotate_left 1
  · intro w hSw; go_simp <;> with_reducible rfl
  simp only [Act.put, List.setIfInBounds_toArray, List.set_cons_zero, List.set_cons_succ]
  refine take1 (i := 14) (v := ?_) 32 rfl rfl (by kernel_rfl) (by kernel_rfl) (by kernel_rfl) (fun _ _ _ h => h) (Or.inl ⟨by rfl, ?_⟩) hHeld ?_
  rotate_left 1
  · intro w hSw; go_simp <;> with_reducible rfl
  simp only [Act.put, List.setIfInBounds_toArray, List.set_cons_zero, List.set_cons_succ]
  refine take1 (i := 15) (v := ?_) 33 rfl rfl (by kernel_rfl) (by kernel_rfl) (by kernel_rfl) (fun _ _ _ h => h) (Or.inl ⟨by rfl, ?_⟩) hHeld ?_
  rotate_left 1
  · intro w hSw; go_simp <;> with_reducible rfl
  simp only [Act.put, List.setIfInBounds_toArray, List.set_cons_zero, List.set_cons_succ]
  refine take1 (i := 16) (v := _) 34 rfl rfl (by kernel_rfl) (by kernel_rfl) (by kernel_rfl) (fun _ _ _ h => h) (yieldsIf_load_mid (by rfl) _ _ rfl _ _ rfl _ _ (fun w h => h.range (i := 2) rfl) Try.underlying22 rfl (i32 r)) hHeld ?_
  simp only [Act.put, List.setIfInBounds_toArray, List.set_cons_zero, List.set_cons_succ]
  refine take1 (i := 17) (v := _) 35 rfl rfl (by kernel_rfl) (by kernel_rfl) (by kernel_rfl) (fun _ _ _ h => h) (yieldsIf_load_mid (by rfl) _ _ rfl _ _ rfl _ _ (fun w h => h.range (i := 0) rfl) Try.underlying22 rfl (i32 a)) hHeld ?_
  simp only [Act.put, List.setIfInBounds_toArray, List.set_cons_zero, List.set_cons_succ]
  refine take1 (i := 18) (v := ?_) 36 rfl rfl (by kernel_rfl) (by kernel_rfl) (by kernel_rfl) (fun _ _ _ h => h) (Or.inl ⟨by rfl, ?_⟩) hHeld ?_
  rotate_left 1
  · intro w hSw; go_simp <;> with_reducible rfl
  simp only [Act.put, List.setIfInBounds_toArray, List.set_cons_zero, List.set_cons_succ]
  try rw [lit0]
  refine wpAnyH_ready (rs := [19]) (by kernel_rfl) (by simp) ?_
  refine AllReadyH.cons rfl (fun K hK => ?_) AllReadyH.nil
  go_simp
  go_at_call 13
  refine (ka0 _).mono ?_
  rintro e wq ⟨rfl, hbq⟩
  refine hK.out _ _ ?_ (fun hHeld => ?_)
  · exact hHeld.call hbq
  clear hK K
  try simp only [Act.put, List.setIfInBounds_toArray, List.set_cons_zero, List.set_cons_succ]
  refine take1 (i := 20) (v := ?_) 38 rfl rfl (by kernel_rfl) (by kernel_rfl) (by kernel_rfl) (fun _ _ _ h => h) (Or.inl ⟨by rfl, ?_⟩) hHeld ?_
  rotate_left 1
  · intro w hSw; go_simp <;> with_reducible rfl
  simp only [Act.put, List.setIfInBounds_toArray, List.set_cons_zero, List.set_cons_succ]
  refine take1 (i := 21) (v := ?_) 39 rfl rfl (by kernel_rfl) (by kernel_rfl) (by kernel_rfl) (fun _ _ _ h => h) (Or.inl ⟨by rfl, ?_⟩) hHeld ?_
  rotate_left 1
  · intro w hSw; go_simp <;> with_reducible rfl
  simp only [Act.put, List.setIfInBounds_toArray, List.set_cons_zero, List.set_cons_succ]
  refine take1 (i := 22) (v := _) 40 rfl rfl (by kernel_rfl) (by kernel_rfl) (by kernel_rfl) (fun _ _ _ h => h) (yieldsIf_load_mid (by rfl) _ _ rfl _ _ rfl _ _ (fun w h => h.range (i := 2) rfl) Try.underlying22 rfl (i32 r)) hHeld ?_
  simp only [Act.put, List.setIfInBounds_toArray, List.set_cons_zero, List.set_cons_succ]
  refine take1 (i := 23) (v := ?_) 41 rfl rfl (by kernel_rfl) (by kernel_rfl) (by kernel_rfl) (fun _ _ _ h => h) (Or.inl ⟨by rfl, ?_⟩) hHeld ?_
  rotate_left 1
  · intro w hSw; go_simp <;> with_reducible rfl
  simp only [Act.put, List.setIfInBounds_toArray, List.set_cons_zero, List.set_cons_succ]
  try rw [lit0]
  refine take1 (i := 24) (v := _) 42 rfl rfl (by kernel_rfl) (by kernel_rfl) (by kernel_rfl) (fun _ _ _ h => h) (yieldsIf_load_mid (by rfl) _ _ rfl _ _ rfl _ _ (fun w h => h.range (i := 0) rfl) Try.underlying22 rfl (i32 a)) hHeld ?_
  simp only [Act.put, List.setIfInBounds_toArray, List.set_cons_zero, List.set_cons_succ]
  refine wpAnyH_ready (rs := [25]) (by kernel_rfl) (by simp) ?_
  refine AllReadyH.cons rfl (fun K hK => ?_) AllReadyH.nil
  go_simp
  go_at_call 15
  refine (s0a _).mono ?_
  rintro e wq ⟨rfl, hbq⟩
  refine hK.out _ _ ?_ (fun hHeld => ?_)
  · exact hHeld.call hbq
  clear hK K
  try simp only [Act.put, List.setIfInBounds_toArray, List.set_cons_zero, List.set_cons_succ]
  refine take1 (i := 26) (v := ?_) 44 rfl rfl (by kernel_rfl) (by kernel_rfl) (by kernel_rfl) (fun _ _ _ h => h) (Or.inl ⟨by rfl, ?_⟩) hHeld ?_
  rotate_left 1
  · intro w hSw; go_simp <;> with_reducible rfl
  simp only [Act.put, List.setIfInBounds_toArray, List.set_cons_zero, List.set_cons_succ]
  refine take1 (i := 27) (v := ?_) 45 rfl rfl (by kernel_rfl) (by kernel_rfl) (by kernel_rfl) (fun _ _ _ h => h) (Or.inl ⟨by rfl, ?_⟩) hHeld ?_
  rotate_left 1
  · intro w hSw; go_simp <;> with_reducible rfl
  simp only [Act.put, List.setIfInBounds_toArray, List.set_cons_zero, List.set_cons_succ]
  refine take1 (i := 28) (v := ?_) 46 rfl rfl (by kernel_rfl) (by kernel_rfl) (by kernel_rfl) (fun _ _ _ h => h) (Or.inl ⟨by rfl, ?_⟩) hHeld ?_
  rotate_left 1
  · intro w hSw; go_simp <;> with_reducible rfl
  simp only [Act.put, List.setIfInBounds_toArray, List.set_cons_zero, List.set_cons_succ]
  refine wpAnyH_done (by kernel_rfl) ?_ _
  have H6 : Hid (HH w [(w.heap.size, bl a, 22), (wm.heap.size, bl q, 22), (wr.heap.size, bl r, 22)] _) := hHeld
  have C6 : Hid (World.rangeAt _ w.heap.size 0 (bl a)) := H6.out.range (i := 0) rfl
  clear hHeld H5
  go_wp2_with (first | (refine wpList_load_mid rfl 22 _ rfl (w.heap.size) 0 rfl (bl a) _ C6.out Try.underlying22 rfl (i32 a) ?_))
  refine (sa _).mono ?_
  rintro e ws ⟨rfl, hbs⟩
  have H7 : Hid (HH w [(w.heap.size, bl a, 22), (wm.heap.size, bl q, 22), (wr.heap.size, bl r, 22)] ws) := H6.out.call hbs
  have H8a : Hid (HH w [(w.heap.size, bl a, 22), (wm.heap.size, bl q, 22), (wr.heap.size, bl r, 22), (ws.heap.size, bl s, 22)] ((ws.alloc (.cells (bl 0).toArray 22)).setCells ws.heap.size 0 (bl s))) := H7.out.var s
  have T8 : Hid ((ws.alloc (.cells (bl 0).toArray 22)).there ws.heap.size 0 (br s).size) := var_there ws s
  clear hbs H6 C6 H7
  go_wp2_with (first | (refine wpList_store_midL rfl 22 _ _ rfl (ws.heap.size) 0 (bl s) rfl rfl T8.out (i32 s) (br_one _) ?_; intro x8 hx8; have H8 : Hid (HH w [(w.heap.size, bl a, 22), (wm.heap.size, bl q, 22), (wr.heap.size, bl r, 22), (ws.heap.size, bl s, 22)] x8) := (by rw [hx8]; exact H8a.out); have C8 : Hid (x8.rangeAt ws.heap.size 0 (bl s)) := H8.out.range (i := 3) rfl; clear hx8) | (refine wpList_load_g (by rfl) 22 _ rfl ws.heap.size 0 rfl (bl s) _ C8.out Try.underlying22 rfl (i32 s) ?_))
  go_ret
  exact ⟨rfl, H8.out.below⟩
theorem sqe_yes (a : Nat) (h : rt a * rt a % pp = a % pp) : sqe a = 0 ∧ sqv a = ev (rt a) := ⟨by rw [sqe, if_pos h], by rw [sqv, if_pos h]⟩
theorem sqe_no (a : Nat) (h : ¬ rt a * rt a % pp = a % pp) : sqe a = 4 ∧ sqv a = 0 := ⟨by rw [sqe, if_neg h], by rw [sqv, if_neg h]⟩
theorem fieldRoots_walk (a : Nat) (ha : a < RN) (w : World) :
    Calls Try.prog 6 #[bv a] w fun e w' => e = .returned (.bool true) ∧ Below w.heap.size w w' := by
  obtain ⟨q, hq⟩ : ∃ q, q = a * a % pp := ⟨_, rfl⟩
  have hqp : q < pp := by rw [hq]; exact Nat.mod_lt _ pp_pos
  have hql : q < RN := Nat.lt_trans hqp pp_lt
  have hqm : q % pp = q := Nat.mod_eq_of_lt hqp
  have hroot := root_sq a q hq
  obtain ⟨r, hr⟩ : ∃ r, r = ev (rt q) := ⟨_, rfl⟩
  have hrp : r < pp := by rw [hr]; exact ev_lt _ (rt_lt q)
  have hrl : r < RN := Nat.lt_trans hrp pp_lt
  have hrr : r * r % pp = q := by rw [hr, ev_sq _ (rt_lt q), hroot, hqm]
  have hre := by8_even r (by rw [hr]; exact ev_even _ (rt_lt q))
  obtain ⟨d, hd⟩ : ∃ d, d = a % pp := ⟨_, rfl⟩
  obtain ⟨g, hg⟩ : ∃ g, g = (0 + (pp - a % pp)) % pp := ⟨_, rfl⟩
  have hdl : d < RN := by rw [hd]; exact mod_lt_RN _
  have hgl : g < RN := by rw [hg]; exact mod_lt_RN _
  have maa : ∀ w, Calls Try.prog 17 #[.agg (bl a).toArray, .agg (bl a).toArray] w fun e w' => e = .returned (.agg (bl q).toArray) ∧ Below w.heap.size w w' := fun w => by
    have := mulL a a ha ha w; rw [← hq] at this; exact this
  have mrr : ∀ w, Calls Try.prog 17 #[.agg (bl r).toArray, .agg (bl r).toArray] w fun e w' => e = .returned (.agg (bl q).toArray) ∧ Below w.heap.size w w' := fun w => by
    have := mulL r r hrl hrl w; rw [hrr] at this; exact this
  have ka0 : ∀ w, Calls Try.prog 13 #[.agg (bl a).toArray, .agg (bl 0).toArray] w fun e w' => e = .returned (.agg (bl d).toArray) ∧ Below w.heap.size w w' := fun w => by
    have := addL a 0 ha (by decide) w; rw [Nat.add_zero, ← hd] at this; exact this
  have s0a : ∀ w, Calls Try.prog 15 #[.agg (bl 0).toArray, .agg (bl a).toArray] w fun e w' => e = .returned (.agg (bl g).toArray) ∧ Below w.heap.size w w' := fun w => by
    have := subL 0 a (by decide) ha w; rw [← hg] at this; exact this
  have sq : ∀ w, Calls Try.prog 9 #[.agg (bl q).toArray] w fun e w' => e = .returned (.tuple #[.agg (bl r).toArray, .int .i64 0]) ∧ Below w.heap.size w w' := fun w => by
    have := sqrtL q hql w; rw [(sqe_yes q hroot).1, (sqe_yes q hroot).2, ← hr] at this; exact this
  have eq := eq_yes q q hql hql rfl
  have two := two_roots r a hrp (by rw [hrr, hq])
  rw [← hg, ← hd] at two
  by_cases hs : rt a * rt a % pp = a % pp
  · obtain ⟨s, hsv⟩ : ∃ s, s = ev (rt a) := ⟨_, rfl⟩
    have hsp : s < pp := by rw [hsv]; exact ev_lt _ (rt_lt a)
    have hsl : s < RN := Nat.lt_trans hsp pp_lt
    have hse := by8_even s (by rw [hsv]; exact ev_even _ (rt_lt a))
    have sa : ∀ w, Calls Try.prog 9 #[.agg (bl a).toArray] w fun e w' => e = .returned (.tuple #[.agg (bl s).toArray, .int .i64 0]) ∧ Below w.heap.size w w' := fun w => by
      have := sqrtL a ha w; rw [(sqe_yes a hs).1, (sqe_yes a hs).2, ← hsv] at this; exact this
    have mss : ∀ w, Calls Try.prog 17 #[.agg (bl s).toArray, .agg (bl s).toArray] w fun e w' => e = .returned (.agg (bl d).toArray) ∧ Below w.heap.size w w' := fun w => by
      have := mulL s s hsl hsl w
      rw [show s * s % pp = d by rw [hsv, ev_sq _ (rt_lt a), hs, hd]] at this
      exact this
    have edd := eq_yes d d hdl hdl rfl
    by_cases hrd : r = d
    · exact roots_sy a q r d g s w ha maa mrr ka0 s0a sq sa hre.1 hre.2 eq (eq_yes r d hrl hdl hrd) mss hse.1 hse.2 edd
    · exact roots_oy a q r d g s w ha maa mrr ka0 s0a sq sa hre.1 hre.2 eq (eq_no r d hrl hdl hrd) (eq_yes r g hrl hgl (two.resolve_left hrd)) mss hse.1 hse.2 edd
  · have sa : ∀ w, Calls Try.prog 9 #[.agg (bl a).toArray] w fun e w' => e = .returned (.tuple #[.agg (bl 0).toArray, .int .i64 4]) ∧ Below w.heap.size w w' := fun w => by
      have := sqrtL a ha w; rw [(sqe_no a hs).1, (sqe_no a hs).2] at this; exact this
    have es0 : ∀ w, (Op.equalIn 10000 22 (.agg (bl 0).toArray) (.agg #[.int .u8 0, .int .u8 0, .int .u8 0, .int .u8 0, .int .u8 0, .int .u8 0, .int .u8 0, .int .u8 0, .int .u8 0, .int .u8 0, .int .u8 0, .int .u8 0, .int .u8 0, .int .u8 0, .int .u8 0, .int .u8 0, .int .u8 0, .int .u8 0, .int .u8 0, .int .u8 0, .int .u8 0, .int .u8 0, .int .u8 0, .int .u8 0, .int .u8 0, .int .u8 0, .int .u8 0, .int .u8 0, .int .u8 0, .int .u8 0, .int .u8 0, .int .u8 0])).run Try.prog w = .ok true w := fun w => by rw [lit0]; exact eq_yes 0 0 (by decide) (by decide) rfl w
    by_cases hrd : r = d
    · exact roots_sn a q r d g 0 w ha maa mrr ka0 s0a sq sa hre.1 hre.2 eq (eq_yes r d hrl hdl hrd) es0 (eq_yes 0 0 (by decide) (by decide) rfl)
    · exact roots_on a q r d g 0 w ha maa mrr ka0 s0a sq sa hre.1 hre.2 eq (eq_no r d hrl hdl hrd) (eq_yes r g hrl hgl (two.resolve_left hrd)) es0 (eq_yes 0 0 (by decide) (by decide) rfl)
end Go.Proofs.Ytmelibhpjmgbhaa
