/- The walk of FieldCanonical. -/
import Derived.Test.YtmelibhpjmgbhaaFieInvW
namespace Go.Proofs.Ytmelibhpjmgbhaa
open Go Go.RowKit Go.Lib
set_option linter.unusedSimpArgs false
set_option linter.unusedVariables false
/-- A load of a row, guarded or not, in the text's order. -/
theorem wpList_load_g {P : Program} {ops : Array Oper} {rest : List Oper} {op : Oper} {a : Act} {w : World} {Q : Exit → Act → World → Prop} (hw : Region.wanted op (yielded ops a.tmps) = true) (ty : TypeId) (x : Operand) (ho : op.op = .load ty x)
    (b o : Nat) (hx : a.eval x = .pointer (some ⟨b, o, none⟩)) (cs : List Value) (d : TypeDesc) (hc : w.rangeAt b o cs)
    (hu : P.underlying ty = some d) (hd : d.isRow = true) (hi : (P.info? ty).map (·.size) = some cs.length)
    (h : wpList P ops Q rest (a.put op.dst (.agg cs.toArray)) w) : wpList P ops Q (op :: rest) a w := by
  unfold wpList
  rw [if_pos hw]
  exact .inl (wp_load_mid ty x ho b o hx cs d hc hu hd hi h)
theorem canT (x : Nat) (h : x < pp) (w : World) : Calls Try.prog 11 #[.agg (bl x).toArray] w fun e w' => e = .returned (.bool true) ∧ Below w.heap.size w w' := by
  have := canL x (Nat.lt_trans h pp_lt) w
  rw [decide_eq_true h] at this
  exact this
set_option maxRecDepth 100000 in
set_option maxHeartbeats 4000000 in
theorem fieldCanonical_walk (a b : Nat) (ha : a < RN) (hb : b < RN) (w : World) :
    Calls Try.prog 7 #[bv a, bv b] w fun e w' => e = .returned (.bool true) ∧ Below w.heap.size w w' := by
  have hza : (bl a).toArray.size = 32 := br_size a
  have hzb : (bl b).toArray.size = 32 := br_size b
  have HS0 := (HH.one w (bl a) 22).more (bl b) 22
  simp only [World.size_alloc, List.cons_append, List.nil_append] at HS0
  have HS : Hid (HH w [(w.heap.size, bl a, 22), (w.heap.size + 1, bl b, 22)] ((w.alloc (.cells (bl a).toArray 22)).alloc (.cells (bl b).toArray 22))) := HS0
  clear HS0
  obtain ⟨s0, q0⟩ : ∃ s, s = a % pp := ⟨_, rfl⟩
  obtain ⟨s1, q1⟩ : ∃ s, s = (a + b) % pp := ⟨_, rfl⟩
  obtain ⟨s2, q2⟩ : ∃ s, s = (a * b) % pp := ⟨_, rfl⟩
  obtain ⟨s3, q3⟩ : ∃ s, s = (a + (pp - b % pp)) % pp := ⟨_, rfl⟩
  obtain ⟨s4, q4⟩ : ∃ s, s = a ^ (pp - 2) % pp := ⟨_, rfl⟩
  have l0 : s0 < pp := by rw [q0]; exact Nat.mod_lt _ pp_pos
  have l1 : s1 < pp := by rw [q1]; exact Nat.mod_lt _ pp_pos
  have l2 : s2 < pp := by rw [q2]; exact Nat.mod_lt _ pp_pos
  have l3 : s3 < pp := by rw [q3]; exact Nat.mod_lt _ pp_pos
  have l4 : s4 < pp := by rw [q4]; exact Nat.mod_lt _ pp_pos
  have ka0 : ∀ w, Calls Try.prog 13 #[.agg (bl a).toArray, .agg (bl 0).toArray] w fun e w' => e = .returned (.agg (bl s0).toArray) ∧ Below w.heap.size w w' := fun w => by
    have := addL a 0 ha (by decide) w
    rw [Nat.add_zero, ← q0] at this
    exact this
  have kab : ∀ w, Calls Try.prog 13 #[.agg (bl a).toArray, .agg (bl b).toArray] w fun e w' => e = .returned (.agg (bl s1).toArray) ∧ Below w.heap.size w w' := fun w => by
    have := addL a b ha hb w
    rw [← q1] at this
    exact this
  have mab : ∀ w, Calls Try.prog 17 #[.agg (bl a).toArray, .agg (bl b).toArray] w fun e w' => e = .returned (.agg (bl s2).toArray) ∧ Below w.heap.size w w' := fun w => by
    have := mulL a b ha hb w
    rw [← q2] at this
    exact this
  have sab : ∀ w, Calls Try.prog 15 #[.agg (bl a).toArray, .agg (bl b).toArray] w fun e w' => e = .returned (.agg (bl s3).toArray) ∧ Below w.heap.size w w' := fun w => by
    have := subL a b ha hb w
    rw [← q3] at this
    exact this
  have ia : ∀ w, Calls Try.prog 19 #[.agg (bl a).toArray] w fun e w' => e = .returned (.agg (bl s4).toArray) ∧ Below w.heap.size w w' := fun w => by
    have := invL a ha w
    rw [← q4] at this
    exact this
  have c1 := canT s1 l1
  have c2 := canT s2 l2
  have c3 := canT s3 l3
  have c4 := canT s4 l4
  obtain ⟨B, hB⟩ : ∃ B, B = decide (a < pp) := ⟨_, rfl⟩
  have c5 := canL a ha
  have ea : ∀ w, (Op.equalIn 10000 22 (.agg (bl s0).toArray) (.agg (bl a).toArray)).run Try.prog w = .ok B w := fun w => by
    rw [eq_row s0 a (Nat.lt_trans l0 pp_lt) ha w, q0, mod_eq_self, ← hB]
  rw [← hB] at c5
  have HL : Hid (s0 < pp ∧ s1 < pp ∧ s2 < pp ∧ s3 < pp ∧ s4 < pp) := ⟨l0, l1, l2, l3, l4⟩
  clear q0 q1 q2 q3 q4 l0 l1 l2 l3 l4 hB
  simp only [bv, br]
  go_enter Try.func7, Try.ntmps7
  go_wp2_with fail
  refine (awake_any _).mono ?_
  rintro e w1 ⟨rfl, hb1⟩
  have H1 : Hid (HH w [(w.heap.size, bl a, 22), (w.heap.size + 1, bl b, 22)] w1) := HS.out.call hb1
  clear HS hb1
  go_wp2_with fail
  refine wp_region_held_drew (S := (fun w' => HH w [(w.heap.size, bl a, 22), (w.heap.size + 1, bl b, 22)] w')) (by kernel_rfl) ?_ (fun hHeld => ?_)
  · exact H1.out.drew
  refine take1 (i := 0) (v := _) 8 rfl rfl (by kernel_rfl) (by kernel_rfl) (by kernel_rfl) (fun _ _ _ h => h) (yieldsIf_load_mid (by rfl) _ _ rfl _ _ rfl _ _ (fun w h => h.range (i := 0) rfl) Try.underlying22 rfl (i32 a)) hHeld ?_
  simp only [Act.put, List.setIfInBounds_toArray, List.set_cons_zero, List.set_cons_succ]
  refine take1 (i := 1) (v := ?_) 9 rfl rfl (by kernel_rfl) (by kernel_rfl) (by kernel_rfl) (fun _ _ _ h => h) (Or.inl ⟨by rfl, ?_⟩) hHeld ?_
  rotate_left 1
  · intro w hSw; go_simp <;> with_reducible rfl
  simp only [Act.put, List.setIfInBounds_toArray, List.set_cons_zero, List.set_cons_succ]
  rw [lit0]
  refine take1 (i := 3) (v := _) 11 rfl rfl (by kernel_rfl) (by kernel_rfl) (by kernel_rfl) (fun _ _ _ h => h) (yieldsIf_load_mid (by rfl) _ _ rfl _ _ rfl _ _ (fun w h => h.range (i := 0) rfl) Try.underlying22 rfl (i32 a)) hHeld ?_
  simp only [Act.put, List.setIfInBounds_toArray, List.set_cons_zero, List.set_cons_succ]
  refine wpAnyH_ready (rs := [2]) (by kernel_rfl) (by simp) ?_
  refine AllReadyH.cons rfl (fun K hK => ?_) AllReadyH.nil
  go_simp
  go_at_call 13
  refine (ka0 _).mono ?_
  rintro e wq ⟨rfl, hbq⟩
  refine hK.out _ _ ?_ (fun hHeld => ?_)
  · exact hHeld.call hbq
  clear hK K
  try simp only [Act.put, List.setIfInBounds_toArray, List.set_cons_zero, List.set_cons_succ]
  refine take1 (i := 4) (v := ?_) 12 rfl rfl (by kernel_rfl) (by kernel_rfl) (by kernel_rfl) (fun _ _ _ h => h) (Or.inl ⟨by rfl, ?_⟩) hHeld ?_
  rotate_left 1
  · intro w hSw; go_simp <;> with_reducible rfl
  simp only [Act.put, List.setIfInBounds_toArray, List.set_cons_zero, List.set_cons_succ]
  refine take1 (i := 5) (v := ?_) 5 rfl rfl (by kernel_rfl) (by kernel_rfl) (by kernel_rfl) (fun _ _ _ h => h) (Or.inl ⟨by rfl, ?_⟩) hHeld ?_
  rotate_left 1
  · intro w hSw; go_simp <;> with_reducible rfl
  simp only [Act.put, List.setIfInBounds_toArray, List.set_cons_zero, List.set_cons_succ]
  refine wpAnyH_done (by kernel_rfl) ?_ _
  have H2 : Hid (HH w [(w.heap.size, bl a, 22), (w.heap.size + 1, bl b, 22)] _) := hHeld
  clear hHeld H1
  have CH20 : Hid (World.rangeAt _ (w.heap.size) 0 (bl a)) := H2.out.range (i := 0) rfl
  have CH21 : Hid (World.rangeAt _ (w.heap.size + 1) 0 (bl b)) := H2.out.range (i := 1) rfl
  go_wp2_with (first | (refine wpList_load_g (by rfl) 22 _ rfl (w.heap.size) 0 rfl (bl a) _ CH20.out Try.underlying22 rfl (i32 a) ?_) | (refine wpList_load_g (by rfl) 22 _ rfl (w.heap.size + 1) 0 rfl (bl b) _ CH21.out Try.underlying22 rfl (i32 b) ?_))
  refine (kab _).mono ?_
  rintro e wp1 ⟨rfl, hbp1⟩
  have Hp1 : Hid (HH w [(w.heap.size, bl a, 22), (w.heap.size + 1, bl b, 22)] wp1) := H2.out.call hbp1
  clear hbp1 CH20 CH21
  have CHp10 : Hid (World.rangeAt _ (w.heap.size) 0 (bl a)) := Hp1.out.range (i := 0) rfl
  have CHp11 : Hid (World.rangeAt _ (w.heap.size + 1) 0 (bl b)) := Hp1.out.range (i := 1) rfl
  go_wp2_with (first | (refine wpList_load_g (by rfl) 22 _ rfl (w.heap.size) 0 rfl (bl a) _ CHp10.out Try.underlying22 rfl (i32 a) ?_) | (refine wpList_load_g (by rfl) 22 _ rfl (w.heap.size + 1) 0 rfl (bl b) _ CHp11.out Try.underlying22 rfl (i32 b) ?_))
  refine (c1 _).mono ?_
  rintro e wp2 ⟨rfl, hbp2⟩
  have Hp2 : Hid (HH w [(w.heap.size, bl a, 22), (w.heap.size + 1, bl b, 22)] wp2) := Hp1.out.call hbp2
  clear hbp2 CHp10 CHp11
  have CHp20 : Hid (World.rangeAt _ (w.heap.size) 0 (bl a)) := Hp2.out.range (i := 0) rfl
  have CHp21 : Hid (World.rangeAt _ (w.heap.size + 1) 0 (bl b)) := Hp2.out.range (i := 1) rfl
  go_wp2_with (first | (refine wpList_load_g (by rfl) 22 _ rfl (w.heap.size) 0 rfl (bl a) _ CHp20.out Try.underlying22 rfl (i32 a) ?_) | (refine wpList_load_g (by rfl) 22 _ rfl (w.heap.size + 1) 0 rfl (bl b) _ CHp21.out Try.underlying22 rfl (i32 b) ?_))
  refine (mab _).mono ?_
  rintro e wp3 ⟨rfl, hbp3⟩
  have Hp3 : Hid (HH w [(w.heap.size, bl a, 22), (w.heap.size + 1, bl b, 22)] wp3) := Hp2.out.call hbp3
  clear hbp3 CHp20 CHp21
  have CHp30 : Hid (World.rangeAt _ (w.heap.size) 0 (bl a)) := Hp3.out.range (i := 0) rfl
  have CHp31 : Hid (World.rangeAt _ (w.heap.size + 1) 0 (bl b)) := Hp3.out.range (i := 1) rfl
  go_wp2_with (first | (refine wpList_load_g (by rfl) 22 _ rfl (w.heap.size) 0 rfl (bl a) _ CHp30.out Try.underlying22 rfl (i32 a) ?_) | (refine wpList_load_g (by rfl) 22 _ rfl (w.heap.size + 1) 0 rfl (bl b) _ CHp31.out Try.underlying22 rfl (i32 b) ?_))
  refine (c2 _).mono ?_
  rintro e wp4 ⟨rfl, hbp4⟩
  have Hp4 : Hid (HH w [(w.heap.size, bl a, 22), (w.heap.size + 1, bl b, 22)] wp4) := Hp3.out.call hbp4
  clear hbp4 CHp30 CHp31
  have CHp40 : Hid (World.rangeAt _ (w.heap.size) 0 (bl a)) := Hp4.out.range (i := 0) rfl
  have CHp41 : Hid (World.rangeAt _ (w.heap.size + 1) 0 (bl b)) := Hp4.out.range (i := 1) rfl
  go_wp2_with (first | (refine wpList_load_g (by rfl) 22 _ rfl (w.heap.size) 0 rfl (bl a) _ CHp40.out Try.underlying22 rfl (i32 a) ?_) | (refine wpList_load_g (by rfl) 22 _ rfl (w.heap.size + 1) 0 rfl (bl b) _ CHp41.out Try.underlying22 rfl (i32 b) ?_))
  refine (sab _).mono ?_
  rintro e wp5 ⟨rfl, hbp5⟩
  have Hp5 : Hid (HH w [(w.heap.size, bl a, 22), (w.heap.size + 1, bl b, 22)] wp5) := Hp4.out.call hbp5
  clear hbp5 CHp40 CHp41
  have CHp50 : Hid (World.rangeAt _ (w.heap.size) 0 (bl a)) := Hp5.out.range (i := 0) rfl
  have CHp51 : Hid (World.rangeAt _ (w.heap.size + 1) 0 (bl b)) := Hp5.out.range (i := 1) rfl
  go_wp2_with (first | (refine wpList_load_g (by rfl) 22 _ rfl (w.heap.size) 0 rfl (bl a) _ CHp50.out Try.underlying22 rfl (i32 a) ?_) | (refine wpList_load_g (by rfl) 22 _ rfl (w.heap.size + 1) 0 rfl (bl b) _ CHp51.out Try.underlying22 rfl (i32 b) ?_))
  refine (c3 _).mono ?_
  rintro e wp6 ⟨rfl, hbp6⟩
  have Hp6 : Hid (HH w [(w.heap.size, bl a, 22), (w.heap.size + 1, bl b, 22)] wp6) := Hp5.out.call hbp6
  clear hbp6 CHp50 CHp51
  have CHp60 : Hid (World.rangeAt _ (w.heap.size) 0 (bl a)) := Hp6.out.range (i := 0) rfl
  have CHp61 : Hid (World.rangeAt _ (w.heap.size + 1) 0 (bl b)) := Hp6.out.range (i := 1) rfl
  go_wp2_with (first | (refine wpList_load_g (by rfl) 22 _ rfl (w.heap.size) 0 rfl (bl a) _ CHp60.out Try.underlying22 rfl (i32 a) ?_) | (refine wpList_load_g (by rfl) 22 _ rfl (w.heap.size + 1) 0 rfl (bl b) _ CHp61.out Try.underlying22 rfl (i32 b) ?_))
  refine (ia _).mono ?_
  rintro e wp7 ⟨rfl, hbp7⟩
  have Hp7 : Hid (HH w [(w.heap.size, bl a, 22), (w.heap.size + 1, bl b, 22)] wp7) := Hp6.out.call hbp7
  clear hbp7 CHp60 CHp61
  have CHp70 : Hid (World.rangeAt _ (w.heap.size) 0 (bl a)) := Hp7.out.range (i := 0) rfl
  have CHp71 : Hid (World.rangeAt _ (w.heap.size + 1) 0 (bl b)) := Hp7.out.range (i := 1) rfl
  go_wp2_with (first | (refine wpList_load_g (by rfl) 22 _ rfl (w.heap.size) 0 rfl (bl a) _ CHp70.out Try.underlying22 rfl (i32 a) ?_) | (refine wpList_load_g (by rfl) 22 _ rfl (w.heap.size + 1) 0 rfl (bl b) _ CHp71.out Try.underlying22 rfl (i32 b) ?_))
  refine (c4 _).mono ?_
  rintro e wp8 ⟨rfl, hbp8⟩
  have Hp8 : Hid (HH w [(w.heap.size, bl a, 22), (w.heap.size + 1, bl b, 22)] wp8) := Hp7.out.call hbp8
  clear hbp8 CHp70 CHp71
  have CHp80 : Hid (World.rangeAt _ (w.heap.size) 0 (bl a)) := Hp8.out.range (i := 0) rfl
  have CHp81 : Hid (World.rangeAt _ (w.heap.size + 1) 0 (bl b)) := Hp8.out.range (i := 1) rfl
  go_wp2_with (first | (refine wpList_load_g (by rfl) 22 _ rfl (w.heap.size) 0 rfl (bl a) _ CHp80.out Try.underlying22 rfl (i32 a) ?_) | (refine wpList_load_g (by rfl) 22 _ rfl (w.heap.size + 1) 0 rfl (bl b) _ CHp81.out Try.underlying22 rfl (i32 b) ?_))
  refine (c5 _).mono ?_
  rintro e wp9 ⟨rfl, hbp9⟩
  have Hp9 : Hid (HH w [(w.heap.size, bl a, 22), (w.heap.size + 1, bl b, 22)] wp9) := Hp8.out.call hbp9
  clear hbp9 CHp80 CHp81
  have CHp90 : Hid (World.rangeAt _ (w.heap.size) 0 (bl a)) := Hp9.out.range (i := 0) rfl
  have CHp91 : Hid (World.rangeAt _ (w.heap.size + 1) 0 (bl b)) := Hp9.out.range (i := 1) rfl
  go_wp2_with (first | (refine wpList_load_g (by rfl) 22 _ rfl (w.heap.size) 0 rfl (bl a) _ CHp90.out Try.underlying22 rfl (i32 a) ?_) | (refine wpList_load_g (by rfl) 22 _ rfl (w.heap.size + 1) 0 rfl (bl b) _ CHp91.out Try.underlying22 rfl (i32 b) ?_))
  go_ret
  exact ⟨by simp, Hp9.out.below⟩
end Go.Proofs.Ytmelibhpjmgbhaa
