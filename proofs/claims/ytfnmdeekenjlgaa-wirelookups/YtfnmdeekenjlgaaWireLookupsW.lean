/- WireLookups, walked, given what the program's DecodeLookup answers. -/
import Derived.Test.YtfnmdeekenjlgaaWtB
import Derived.Test.YtfnmdeekenjlgaaWirF
namespace Go.Proofs.Ytfnmdeekenjlgaa
open Go Go.RowKit
set_option linter.unusedSimpArgs false
set_option linter.unusedVariables false
set_option maxRecDepth 100000

/-- What the program's DecodeLookup answers. -/
def DLc : Prop := ∀ (xs : List Int) (v : Value) (w : World), Byt xs → Sl w v xs → xs.length ≤ 140737488355328 →
    Calls Try.prog 8 #[v] w fun e w' => ∃ A, e = .returned (.tuple #[.agg A.toArray, .int .i64 (dlE xs)]) ∧ LV w' A (dLp xs) ∧ Below w.heap.size w w'
theorem LV.len {w : World} {A : List Value} {S : Lp} (h : LV w A S) (hS : S.Ok) : A.length = 328 := by
  obtain ⟨nv, av, kv, rfl, -⟩ := h
  exact lc_length hS.le _ _ _
theorem LV.one {w : World} {A : List Value} {S : Lp} (h : LV w A S) : A.toArray.all (·.oneCell') = true := by
  obtain ⟨nv, av, kv, rfl, h1, h2, h3⟩ := h
  obtain ⟨a1, n1, c1, rfl⟩ := YS.sl h1
  obtain ⟨a2, n2, c2, rfl⟩ := NS.sl h2
  obtain ⟨a3, n3, c3, rfl⟩ := NS.sl h3
  exact lc_one _ _ _ _ _ _ _ _ _ _
theorem le_zero {S : Lp} (h : leE S = 0) : llb S = true ∧ encE S.list = 0 := by
  cases hk : llb S with
  | true => rw [(le_yes hk).1] at h; exact ⟨rfl, h⟩
  | false => rw [(le_no hk).1] at h; cases h
theorem le_nil {S : Lp} (h : ¬ leE S = 0) : leB S = [] := by
  cases hk : llb S with
  | true =>
    rw [(le_yes hk).1] at h
    rw [(le_yes hk).2]
    cases hb : big S.list with
    | true => exact (encE_big hb).2
    | false => exact absurd (encE_ok hb).1 h
  | false => exact (le_no hk).2
theorem nds_byt {l : List Nd} (h : ∀ x ∈ l, x.Ok) : Byt (l.flatMap ndb) := by
  intro z hz
  obtain ⟨x, hx, hz⟩ := List.mem_flatMap.1 hz
  rcases List.mem_append.1 hz with h' | h'
  · exact be_byt 2 _ z h'
  · rcases List.mem_append.1 h' with h' | h'
    · exact (h x hx).p.byt z h'
    · exact (h x hx).h.byt z h'
theorem root_byt {R : Rt} (hR : R.Ok) : Byt (encB R.all) := by
  rw [(encE_ok (big_all hR)).2, encK_fl _ _ (Nat.le_refl _)]
  refine (be_byt4 _).append (fl_byt (fun m hm => ?_))
  rw [List.take_length] at hm
  unfold Rt.all at hm
  simp only [List.mem_cons, List.mem_nil_iff, or_false] at hm
  rcases hm with rfl | rfl | rfl
  · exact byt_sign
  · rw [(encE_ok (big_list hR)).2, encK_fl _ _ (Nat.le_refl _)]
    refine (be_byt4 _).append (fl_byt (fun m hm => ?_))
    rw [List.take_length] at hm
    unfold Rt.list at hm
    simp only [List.mem_cons, List.mem_nil_iff, or_false] at hm
    rcases hm with rfl | rfl | rfl | rfl | rfl | rfl | rfl
    · exact byt_root
    · exact be_byt 8 _
    · exact be_byt 8 _
    · exact be_byt 8 _
    · exact hR.pr.2
    · exact hR.hs.2
    · exact hR.lk.2
  · exact hR.sg.2
theorem leB_byt {S : Lp} (hS : S.Ok) (h : leE S = 0) : Byt (leB S) ∧ (leB S).length ≤ 1048576 := by
  obtain ⟨h1, h2⟩ := le_zero h
  rw [(le_yes h1).2]
  refine ⟨?_, encB_small _⟩
  have hbg := big_of_E h2
  rw [(encE_ok hbg).2, encK_fl _ _ (Nat.le_refl _)]
  refine (be_byt4 _).append (fl_byt (fun m hm => ?_))
  rw [List.take_length] at hm
  unfold Lp.list at hm
  simp only [List.mem_cons, List.mem_nil_iff, or_false] at hm
  rcases hm with rfl | rfl | rfl | rfl | rfl | rfl | rfl | rfl | rfl
  · exact byt_look
  · exact root_byt hS.R
  · intro z hz
    unfold nb at hz
    obtain ⟨b, _, rfl⟩ := List.mem_map.1 hz
    have := b.toNat_lt
    omega
  · exact be_byt 8 _
  · intro z hz
    obtain ⟨x, hx, hz⟩ := List.mem_flatMap.1 hz
    exact (hS.ds x hx).byt z hz
  · exact hS.fp.2
  · exact nds_byt hS.fn
  · exact hS.sp.2
  · exact nds_byt hS.sn
theorem rt_below {w w' : World} {b : Nat} {A : List Value} (h : w.rangeAt b 0 A ∧ b < w.heap.size) (hb : Below w.heap.size w w') : w'.rangeAt b 0 A ∧ b < w'.heap.size := ⟨range_below h.1 hb h.2, Nat.lt_of_lt_of_le h.2 hb.size⟩
theorem lay_look {w : World} {A : List Value} (hA : A.length = 328) {U : World} (e : (w.alloc (.cells z328.toArray 33)).setCells w.heap.size 0 A = U) : (U.rangeAt w.heap.size 0 A ∧ w.heap.size < U.heap.size) ∧ Below w.heap.size w U := by
  obtain ⟨r1, r2, r3⟩ := laid_row (by rw [List.size_toArray, hA, z328_length]) (by rw [hA]; decide) e
  exact ⟨⟨r1, r3⟩, r2⟩
set_option maxHeartbeats 16000000 in
theorem wireLookups_any (hdl : DLc) (S : Lp) (hS : S.Ok) (A : List Value) (xs : List Int) (v : Value) (w : World) (hA : LV w A S) (hb : Byt xs) (hs : Sl w v xs) (hl : xs.length ≤ 140737488355328) :
    Calls Try.prog 3 #[.agg A.toArray, v] w fun e w' => e = .returned (.bool true) ∧ Below w.heap.size w w' := by
  have HDL : Hid DLc := hdl
  have HS : Hid S.Ok := hS
  have HAL : Hid (A.length = 328) := hA.len hS
  have HB : Hid (Byt xs ∧ xs.length ≤ 140737488355328) := ⟨hb, hl⟩
  have HDO : Hid (dLp xs).Ok := dLp_ok hb
  have SX : Hid (Sl w v xs) := hs
  have SA : Hid (LV w A S) := hA
  have hsz : A.toArray.size = 328 := by rw [List.size_toArray]; exact HAL.out
  obtain ⟨AA, hAA⟩ : ∃ AA, A.toArray = AA := ⟨_, rfl⟩
  have HAA : Hid (A.toArray = AA) := hAA
  rw [hAA] at hsz ⊢
  obtain ⟨e1, he1⟩ : ∃ e, leE S = e := ⟨_, rfl⟩
  have HE1 : Hid (leE S = e1) := he1
  obtain ⟨e2, he2⟩ : ∃ e, dlE xs = e := ⟨_, rfl⟩
  have HE2 : Hid (dlE xs = e2) := he2
  have hz := zero_look
  clear hA hb hs hS hAA he1 he2 hdl
  go_enter Try.func3, Try.ntmps3
  go_wp2_with fail
  obtain ⟨W0, hW0⟩ : ∃ W0, w.alloc (Obj.cells AA 33) = W0 := ⟨_, rfl⟩
  have g : Below w.heap.size w W0 := by rw [← hW0]; exact (Below.refl _ w).alloc (Nat.le_refl _) _
  have hra : W0.rangeAt w.heap.size 0 A ∧ w.heap.size < W0.heap.size := by
    rw [← hW0, ← HAA.out]; exact ⟨range_alloc w A _ _, by simp⟩
  rw [hW0]
  obtain ⟨h, hh⟩ : ∃ h, w.heap.size = h := ⟨_, rfl⟩
  rw [hh] at hra ⊢
  have RA0 : Hid (W0.rangeAt h 0 A ∧ h < W0.heap.size) := hra
  have BW0 : Hid (Below w.heap.size w W0) := g
  have SA0 : Hid (LV W0 A S) := SA.out.below g
  have SX0 : Hid (Sl W0 v xs) := SX.out.below g (Nat.le_refl _)
  have HH : Hid (w.heap.size = h) := hh
  clear g hra hh hW0 SA SX
  refine (awake_any W0).mono ?_
  rintro e w1 ⟨rfl, g⟩
  have RA1 : Hid (w1.rangeAt h 0 A ∧ h < w1.heap.size) := rt_below RA0.out g
  have BW1 : Hid (Below w.heap.size w w1) := BW0.out.trans (g.mono BW0.out.size)
  have SA1 : Hid (LV w1 A S) := SA0.out.below g
  have SX1 : Hid (Sl w1 v xs) := SX0.out.below g (Nat.le_refl _)
  clear g RA0 BW0 SA0 SX0
  go_wp2_with (refine load_g rfl 33 (.tmp 2) rfl h 0 rfl A _ RA1.out.1 Try.underlying33 rfl (by rw [HAL.out]; exact look_size) ?_)
  refine (encodeLookup_any S HS.out A w1 SA1.out).mono ?_
  rintro e w2 ⟨v1, rfl, h1, g⟩
  rw [HE1.out]
  have RA2 : Hid (w2.rangeAt h 0 A ∧ h < w2.heap.size) := rt_below RA1.out g
  have BW2 : Hid (Below w.heap.size w w2) := BW1.out.trans (g.mono BW1.out.size)
  have SA2 : Hid (LV w2 A S) := SA1.out.below g
  have SX2 : Hid (Sl w2 v xs) := SX1.out.below g (Nat.le_refl _)
  have S12 : Hid (Sl w2 v1 (leB S)) := h1
  clear g h1 RA1 BW1 SA1 SX1
  go_wp2_with (refine load_g rfl 33 (.tmp 2) rfl h 0 rfl A _ RA2.out.1 Try.underlying33 rfl (by rw [HAL.out]; exact look_size) ?_)
  refine (rencodeLookup_any S HS.out A w2 SA2.out).mono ?_
  rintro e w3 ⟨v2, rfl, h1, g⟩
  rw [HE1.out]
  have RA3 : Hid (w3.rangeAt h 0 A ∧ h < w3.heap.size) := rt_below RA2.out g
  have BW3 : Hid (Below w.heap.size w w3) := BW2.out.trans (g.mono BW2.out.size)
  have SA3 : Hid (LV w3 A S) := SA2.out.below g
  have SX3 : Hid (Sl w3 v xs) := SX2.out.below g (Nat.le_refl _)
  have S13 : Hid (Sl w3 v1 (leB S)) := S12.out.below g (Nat.le_refl _)
  have S23 : Hid (Sl w3 v2 (leB S)) := h1
  clear g h1 RA2 BW2 SA2 SX2 S12
  go_wp2_with fail
  refine (HDL.out xs v w3 HB.out.1 SX3.out HB.out.2).mono ?_
  rintro e w4 ⟨A1, rfl, h1, g⟩
  rw [HE2.out]
  have RA4 : Hid (w4.rangeAt h 0 A ∧ h < w4.heap.size) := rt_below RA3.out g
  have BW4 : Hid (Below w.heap.size w w4) := BW3.out.trans (g.mono BW3.out.size)
  have SA4 : Hid (LV w4 A S) := SA3.out.below g
  have SX4 : Hid (Sl w4 v xs) := SX3.out.below g (Nat.le_refl _)
  have S14 : Hid (Sl w4 v1 (leB S)) := S13.out.below g (Nat.le_refl _)
  have S24 : Hid (Sl w4 v2 (leB S)) := S23.out.below g (Nat.le_refl _)
  have T14 : Hid (LV w4 A1 (dLp xs)) := h1
  have HL1 : Hid (A1.length = 328) := h1.len HDO.out
  clear g h1 RA3 BW3 SA3 SX3 S13 S23
  obtain ⟨X1, hX1⟩ : ∃ X, A1.toArray = X := ⟨_, rfl⟩
  have HX1 : Hid (A1.toArray = X1) := hX1
  rw [hX1]
  clear hX1
  go_upto_region 6 with (refine wpList_store_mid rfl 33 _ _ rfl w4.heap.size 0 A1.toArray rfl (by rw [HX1.out]; rfl) (there_new w4 (by rw [List.size_toArray, List.size_toArray, HL1.out, z328_length])) (size_look HL1.out) T14.out.one ?_; simp only [List.toList_toArray])
  obtain ⟨w5, hw5⟩ : ∃ U, (w4.alloc (.cells z328.toArray 33)).setCells w4.heap.size 0 A1 = U := ⟨_, rfl⟩
  rw [hw5]
  obtain ⟨r1, g⟩ := lay_look HL1.out hw5
  obtain ⟨D1, hD1⟩ : ∃ D, w4.heap.size = D := ⟨_, rfl⟩
  have RA5 : Hid (w5.rangeAt h 0 A ∧ h < w5.heap.size) := rt_below RA4.out g
  have BW5 : Hid (Below w.heap.size w w5) := BW4.out.trans (g.mono BW4.out.size)
  have SA5 : Hid (LV w5 A S) := SA4.out.below g
  have SX5 : Hid (Sl w5 v xs) := SX4.out.below g (Nat.le_refl _)
  have S15 : Hid (Sl w5 v1 (leB S)) := S14.out.below g (Nat.le_refl _)
  have S25 : Hid (Sl w5 v2 (leB S)) := S24.out.below g (Nat.le_refl _)
  have T15 : Hid (LV w5 A1 (dLp xs)) := T14.out.below g
  rw [hD1] at r1 ⊢
  have R15 : Hid (w5.rangeAt D1 0 A1 ∧ D1 < w5.heap.size) := r1
  clear g r1 hw5 hD1 RA4 BW4 SA4 SX4 S14 S24 T14
  go_wp2_with fail
  refine (rdecodeLookup_any xs v w5 HB.out.1 SX5.out HB.out.2).mono ?_
  rintro e w6 ⟨A2, rfl, h1, g⟩
  rw [HE2.out]
  have RA6 : Hid (w6.rangeAt h 0 A ∧ h < w6.heap.size) := rt_below RA5.out g
  have BW6 : Hid (Below w.heap.size w w6) := BW5.out.trans (g.mono BW5.out.size)
  have SA6 : Hid (LV w6 A S) := SA5.out.below g
  have SX6 : Hid (Sl w6 v xs) := SX5.out.below g (Nat.le_refl _)
  have S16 : Hid (Sl w6 v1 (leB S)) := S15.out.below g (Nat.le_refl _)
  have S26 : Hid (Sl w6 v2 (leB S)) := S25.out.below g (Nat.le_refl _)
  have T16 : Hid (LV w6 A1 (dLp xs)) := T15.out.below g
  have R16 : Hid (w6.rangeAt D1 0 A1 ∧ D1 < w6.heap.size) := rt_below R15.out g
  have T26 : Hid (LV w6 A2 (dLp xs)) := h1
  have HL2 : Hid (A2.length = 328) := h1.len HDO.out
  clear g h1 RA5 BW5 SA5 SX5 S15 S25 T15 R15
  obtain ⟨X2, hX2⟩ : ∃ X, A2.toArray = X := ⟨_, rfl⟩
  have HX2 : Hid (A2.toArray = X2) := hX2
  rw [hX2]
  clear hX2
  go_upto_region 7 with (refine wpList_store_mid rfl 33 _ _ rfl w6.heap.size 0 A2.toArray rfl (by rw [HX2.out]; rfl) (there_new w6 (by rw [List.size_toArray, List.size_toArray, HL2.out, z328_length])) (size_look HL2.out) T26.out.one ?_; simp only [List.toList_toArray])
  obtain ⟨w7, hw7⟩ : ∃ U, (w6.alloc (.cells z328.toArray 33)).setCells w6.heap.size 0 A2 = U := ⟨_, rfl⟩
  rw [hw7]
  obtain ⟨r1, g⟩ := lay_look HL2.out hw7
  obtain ⟨D2, hD2⟩ : ∃ D, w6.heap.size = D := ⟨_, rfl⟩
  have RA7 : Hid (w7.rangeAt h 0 A ∧ h < w7.heap.size) := rt_below RA6.out g
  have BW7 : Hid (Below w.heap.size w w7) := BW6.out.trans (g.mono BW6.out.size)
  have SA7 : Hid (LV w7 A S) := SA6.out.below g
  have SX7 : Hid (Sl w7 v xs) := SX6.out.below g (Nat.le_refl _)
  have S17 : Hid (Sl w7 v1 (leB S)) := S16.out.below g (Nat.le_refl _)
  have S27 : Hid (Sl w7 v2 (leB S)) := S26.out.below g (Nat.le_refl _)
  have T17 : Hid (LV w7 A1 (dLp xs)) := T16.out.below g
  have R17 : Hid (w7.rangeAt D1 0 A1 ∧ D1 < w7.heap.size) := rt_below R16.out g
  have T27 : Hid (LV w7 A2 (dLp xs)) := T26.out.below g
  rw [hD2] at r1 ⊢
  have R27 : Hid (w7.rangeAt D2 0 A2 ∧ D2 < w7.heap.size) := r1
  clear g r1 hw7 hD2 RA6 BW6 SA6 SX6 S16 S26 T16 R16 T26
  have c1 := S17.out.str
  have c2 := S27.out.str
  go_wp2_with (first
    | (refine load_g rfl 33 (.tmp 9) rfl D1 0 rfl A1 _ R17.out.1 Try.underlying33 rfl (by rw [HL1.out]; exact look_size) ?_)
    | (refine load_g rfl 33 (.tmp 11) rfl D2 0 rfl A2 _ R27.out.1 Try.underlying33 rfl (by rw [HL2.out]; exact look_size) ?_))
  refine (rsameLookup_any (dLp xs) HDO.out A1 A2 w7 T17.out T27.out).mono ?_
  rintro e w8 ⟨rfl, g⟩
  have RA8 : Hid (w8.rangeAt h 0 A ∧ h < w8.heap.size) := rt_below RA7.out g
  have BW8 : Hid (Below w.heap.size w w8) := BW7.out.trans (g.mono BW7.out.size)
  have SA8 : Hid (LV w8 A S) := SA7.out.below g
  have SX8 : Hid (Sl w8 v xs) := SX7.out.below g (Nat.le_refl _)
  have S18 : Hid (Sl w8 v1 (leB S)) := S17.out.below g (Nat.le_refl _)
  have T18 : Hid (LV w8 A1 (dLp xs)) := T17.out.below g
  have R18 : Hid (w8.rangeAt D1 0 A1 ∧ D1 < w8.heap.size) := rt_below R17.out g
  clear g RA7 BW7 SA7 SX7 S17 S27 T17 R17 T27 R27 c1 c2
  obtain ⟨u9, n9, k9, rfl⟩ : ∃ a n c, v1 = .slice a n c := by obtain ⟨a, c, e, _⟩ := S18.out; exact ⟨a, _, c, e⟩
  go_upto_region 9 with (fail)
  by_cases hi : isL xs = true
  · obtain rfl : e2 = 0 := by rw [← HE2.out]; exact (dl_yes hi).2
    obtain ⟨q1, q2, q3, q4⟩ := l_back HB.out.1 hi
    have HSB : Hid (leE (dLp xs) = 0 ∧ leB (dLp xs) = xs) := by rw [(le_yes q2).1, (le_yes q2).2]; exact ⟨q3, q4⟩
    clear q1 q2 q3 q4 hi
    go_upto_region 10 with (fail)
    go_wp2_with (refine load_g rfl 33 (.tmp 9) rfl D1 0 rfl A1 _ R18.out.1 Try.underlying33 rfl (by rw [HL1.out]; exact look_size) ?_)
    refine (encodeLookup_any (dLp xs) HDO.out A1 w8 T18.out).mono ?_
    rintro e w9 ⟨v3, rfl, h1, g⟩
    rw [HSB.out.1]
    rw [HSB.out.2] at h1
    have RA9 : Hid (w9.rangeAt h 0 A ∧ h < w9.heap.size) := rt_below RA8.out g
    have BW9 : Hid (Below w.heap.size w w9) := BW8.out.trans (g.mono BW8.out.size)
    have SA9 : Hid (LV w9 A S) := SA8.out.below g
    have SX9 : Hid (Sl w9 v xs) := SX8.out.below g (Nat.le_refl _)
    have S19 : Hid (Sl w9 (.slice u9 n9 k9) (leB S)) := S18.out.below g (Nat.le_refl _)
    have c1 := h1.str
    have c2 := SX9.out.str
    clear g h1 RA8 BW8 SA8 SX8 S18 T18 R18
    by_cases hz0 : e1 = 0
    · subst hz0
      obtain ⟨z1, z2⟩ := le_zero HE1.out
      obtain ⟨y1, y2⟩ := l_of HS.out z1 z2
      have HYY : Hid (dlE (leB S) = 0 ∧ dLp (leB S) = S) := by rw [(le_yes z1).2]; exact ⟨(dl_yes y1).2, y2⟩
      have HBB : Hid (Byt (leB S) ∧ (leB S).length ≤ 1048576) := leB_byt HS.out HE1.out
      clear z1 z2 y1 y2
      go_wp2_with fail
      refine (HDL.out (leB S) (.slice u9 n9 k9) w9 HBB.out.1 S19.out (by have := HBB.out.2; omega)).mono ?_
      rintro e wa ⟨A3, rfl, h1, g⟩
      rw [HYY.out.1]
      rw [HYY.out.2] at h1
      have RAa : Hid (wa.rangeAt h 0 A ∧ h < wa.heap.size) := rt_below RA9.out g
      have BWa : Hid (Below w.heap.size w wa) := BW9.out.trans (g.mono BW9.out.size)
      have SAa : Hid (LV wa A S) := SA9.out.below g
      have T3a : Hid (LV wa A3 S) := h1
      have HL3 : Hid (A3.length = 328) := h1.len HS.out
      clear g h1 RA9 BW9 SA9 SX9 S19
      obtain ⟨X3, hX3⟩ : ∃ X, A3.toArray = X := ⟨_, rfl⟩
      have HX3 : Hid (A3.toArray = X3) := hX3
      rw [hX3]
      clear hX3
      go_upto_region 16 with (refine wpList_store_mid rfl 33 _ _ rfl wa.heap.size 0 A3.toArray rfl (by rw [HX3.out]; rfl) (there_new wa (by rw [List.size_toArray, List.size_toArray, HL3.out, z328_length])) (size_look HL3.out) T3a.out.one ?_; simp only [List.toList_toArray])
      obtain ⟨wb, hwb⟩ : ∃ U, (wa.alloc (.cells z328.toArray 33)).setCells wa.heap.size 0 A3 = U := ⟨_, rfl⟩
      rw [hwb]
      obtain ⟨r1, g⟩ := lay_look HL3.out hwb
      obtain ⟨D3, hD3⟩ : ∃ D, wa.heap.size = D := ⟨_, rfl⟩
      have RAb : Hid (wb.rangeAt h 0 A ∧ h < wb.heap.size) := rt_below RAa.out g
      have BWb : Hid (Below w.heap.size w wb) := BWa.out.trans (g.mono BWa.out.size)
      have SAb : Hid (LV wb A S) := SAa.out.below g
      have T3b : Hid (LV wb A3 S) := T3a.out.below g
      rw [hD3] at r1 ⊢
      have R3b : Hid (wb.rangeAt D3 0 A3 ∧ D3 < wb.heap.size) := r1
      clear g r1 hwb hD3 RAa BWa SAa T3a
      go_wp2_with (first
        | (refine load_g rfl 33 (.tmp 15) rfl D3 0 rfl A3 _ R3b.out.1 Try.underlying33 rfl (by rw [HL3.out]; exact look_size) ?_)
        | (refine load_g rfl 33 (.tmp 2) rfl h 0 rfl A _ RAb.out.1 Try.underlying33 rfl (by rw [HAL.out]; exact look_size) ?_))
      refine (rsameLookup_any S HS.out A3 A wb T3b.out SAb.out).mono ?_
      rintro e wc ⟨rfl, g⟩
      have BWc : Hid (Below w.heap.size w wc) := BWb.out.trans (g.mono BWb.out.size)
      clear g
      go_wp2_with fail
      go_ret
      exact ⟨rfl, BWc.out⟩
    · have hnil : leB S = [] := le_nil (by rw [HE1.out]; exact hz0)
      obtain ⟨ad, cp, hv, -⟩ := S19.out
      rw [hnil] at hv
      injection hv with _ hn _
      have hn0 : n9 = 0 := hn
      subst hn0
      clear hnil hn
      go_wp2_with fail
      go_ret
      exact ⟨rfl, BW9.out⟩
  · obtain rfl : e2 = 2 := by rw [← HE2.out]; exact (dl_no (by simpa using hi)).2
    clear hi
    have RA9 : Hid (w8.rangeAt h 0 A ∧ h < w8.heap.size) := RA8.out
    have BW9 : Hid (Below w.heap.size w w8) := BW8.out
    have SA9 : Hid (LV w8 A S) := SA8.out
    have SX9 : Hid (Sl w8 v xs) := SX8.out
    have S19 : Hid (Sl w8 (.slice u9 n9 k9) (leB S)) := S18.out
    clear RA8 BW8 SA8 SX8 S18 T18 R18
    by_cases hz0 : e1 = 0
    · subst hz0
      obtain ⟨z1, z2⟩ := le_zero HE1.out
      obtain ⟨y1, y2⟩ := l_of HS.out z1 z2
      have HYY : Hid (dlE (leB S) = 0 ∧ dLp (leB S) = S) := by rw [(le_yes z1).2]; exact ⟨(dl_yes y1).2, y2⟩
      have HBB : Hid (Byt (leB S) ∧ (leB S).length ≤ 1048576) := leB_byt HS.out HE1.out
      clear z1 z2 y1 y2
      go_wp2_with fail
      refine (HDL.out (leB S) (.slice u9 n9 k9) w8 HBB.out.1 S19.out (by have := HBB.out.2; omega)).mono ?_
      rintro e wa ⟨A3, rfl, h1, g⟩
      rw [HYY.out.1]
      rw [HYY.out.2] at h1
      have RAa : Hid (wa.rangeAt h 0 A ∧ h < wa.heap.size) := rt_below RA9.out g
      have BWa : Hid (Below w.heap.size w wa) := BW9.out.trans (g.mono BW9.out.size)
      have SAa : Hid (LV wa A S) := SA9.out.below g
      have T3a : Hid (LV wa A3 S) := h1
      have HL3 : Hid (A3.length = 328) := h1.len HS.out
      clear g h1 RA9 BW9 SA9 SX9 S19
      obtain ⟨X3, hX3⟩ : ∃ X, A3.toArray = X := ⟨_, rfl⟩
      have HX3 : Hid (A3.toArray = X3) := hX3
      rw [hX3]
      clear hX3
      go_upto_region 16 with (refine wpList_store_mid rfl 33 _ _ rfl wa.heap.size 0 A3.toArray rfl (by rw [HX3.out]; rfl) (there_new wa (by rw [List.size_toArray, List.size_toArray, HL3.out, z328_length])) (size_look HL3.out) T3a.out.one ?_; simp only [List.toList_toArray])
      obtain ⟨wb, hwb⟩ : ∃ U, (wa.alloc (.cells z328.toArray 33)).setCells wa.heap.size 0 A3 = U := ⟨_, rfl⟩
      rw [hwb]
      obtain ⟨r1, g⟩ := lay_look HL3.out hwb
      obtain ⟨D3, hD3⟩ : ∃ D, wa.heap.size = D := ⟨_, rfl⟩
      have RAb : Hid (wb.rangeAt h 0 A ∧ h < wb.heap.size) := rt_below RAa.out g
      have BWb : Hid (Below w.heap.size w wb) := BWa.out.trans (g.mono BWa.out.size)
      have SAb : Hid (LV wb A S) := SAa.out.below g
      have T3b : Hid (LV wb A3 S) := T3a.out.below g
      rw [hD3] at r1 ⊢
      have R3b : Hid (wb.rangeAt D3 0 A3 ∧ D3 < wb.heap.size) := r1
      clear g r1 hwb hD3 RAa BWa SAa T3a
      go_wp2_with (first
        | (refine load_g rfl 33 (.tmp 15) rfl D3 0 rfl A3 _ R3b.out.1 Try.underlying33 rfl (by rw [HL3.out]; exact look_size) ?_)
        | (refine load_g rfl 33 (.tmp 2) rfl h 0 rfl A _ RAb.out.1 Try.underlying33 rfl (by rw [HAL.out]; exact look_size) ?_))
      refine (rsameLookup_any S HS.out A3 A wb T3b.out SAb.out).mono ?_
      rintro e wc ⟨rfl, g⟩
      have BWc : Hid (Below w.heap.size w wc) := BWb.out.trans (g.mono BWb.out.size)
      clear g
      go_wp2_with fail
      go_ret
      exact ⟨rfl, BWc.out⟩
    · have hnil : leB S = [] := le_nil (by rw [HE1.out]; exact hz0)
      obtain ⟨ad, cp, hv, -⟩ := S19.out
      rw [hnil] at hv
      injection hv with _ hn _
      have hn0 : n9 = 0 := hn
      subst hn0
      clear hnil hn
      go_wp2_with fail
      go_ret
      exact ⟨rfl, BW9.out⟩
end Go.Proofs.Ytfnmdeekenjlgaa
