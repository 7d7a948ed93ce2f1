/- The walk of WireBack. -/
import Derived.Test.YtagfjpafbpoebaaWirN
import Derived.Test.YtagfjpafbpoebaaWireReadsW
namespace Go.Proofs.Ytagfjpafbpoebaa
open Go Go.RowKit
set_option linter.unusedSimpArgs false
set_option linter.unusedVariables false

theorem encB_byt {xss : List (List Int)} (h : ∀ i, i < xss.length → Byt (mi xss i)) : Byt (encB xss) ∧ (encB xss).length ≤ 1048576 := by
  cases hb : big xss with
  | true => rw [(encE_big hb).2]; exact ⟨Byt.nil, by simp⟩
  | false =>
    have hk : ∀ k, k ≤ xss.length → Byt (encK xss k) := by
      intro k
      induction k with
      | zero => intro _; exact be_byt _ _
      | succ k ih => intro hk; exact ((ih (by omega)).append (be_byt _ _)).append (h k (by omega))
    rw [(encE_ok hb).2]
    exact ⟨hk _ (Nat.le_refl _), by rw [encK_length]; exact (small_of hb).2⟩
theorem lens_decL {ys : List Int} (hb : Byt ys) : Lens (decL ys) := fun i hi => by
  have := (decL_len hb).2 _ (List.getElem_mem hi)
  rw [mi_get hi]; omega
set_option maxHeartbeats 2000000 in
theorem wireBack_walk (xss : List (List Int)) (v : Value) (ys : List Int) (u : Value) (w : World) (hs : LL w v xss) (hL : Lens xss) (hB : ∀ i, i < xss.length → Byt (mi xss i)) (hn : xss.length * 24 ≤ 140737488355328) (hb : Byt ys) (hu : Sl w u ys) (hl : ys.length ≤ 140737488355328) :
    Calls Try.prog 5 #[v, u] w fun e w' => e = .returned (.bool true) ∧ Below w.heap.size w w' := by
  have HS : Hid (LL w v xss) := hs
  have HU : Hid (Sl w u ys) := hu
  have HL : Hid (Lens xss) := hL
  have HB : Hid (Byt ys) := hb
  have HEB : Hid _ := encB_byt hB
  have HLD : Hid _ := lens_decL hb
  have HND : Hid ((decL ys).length ≤ 65536) := (decL_len hb).1
  have hn1 : xss.length ≤ 140737488355328 := by omega
  have C1 : (encE xss = 0 ∧ decE (encB xss) = 0 ∧ decL (encB xss) = xss) ∨ encE xss = 6 := by
    cases hbg : big xss with
    | true => exact .inr (encE_big hbg).1
    | false => exact .inl ⟨(encE_ok hbg).1, (decode_enc xss hbg).1, (decode_enc xss hbg).2⟩
  have C2 := dec_cases hb
  clear hs hu hL hB hb
  rcases C1 with ⟨c1, c2, c3⟩ | c1 <;> rcases C2 with ⟨c4 | c4, c5⟩ | ⟨c4, c5, c6⟩
  · have E1 : Hid (encE xss = 0) := c1
    have E2 : Hid (decE (encB xss) = 0) := c2
    have E3 : Hid (decL (encB xss) = xss) := c3
    clear c1 c2 c3
    have E4 : Hid (decE ys = 2) := c4
    have E5 : Hid (decL ys = []) := c5
    clear c4 c5
    go_enter Try.func5, Try.ntmps5
    go_wp2_with fail
    refine (awake_any w).mono ?_
    rintro e w1 ⟨rfl, h1⟩
    have H1 : Hid (Below w.heap.size w w1) := h1
    clear h1
    go_wp2_with fail
    refine (copyList_any xss v w1 (HS.out.below H1.out) HL.out hn).mono ?_
    rintro e w2 ⟨v2, us, rfl, h4, h5⟩
    have H4 : Hid (LL w2 v2 xss) := h4.ll
    have H5 : Hid (Below w.heap.size w w2) := H1.out.trans (h5.mono H1.out.size)
    clear h4 h5
    go_wp2_with fail
    refine (encode_any xss v2 w2 H4.out HL.out hn1).mono ?_
    rintro e w3 ⟨v3, rfl, h6, h7⟩
    rw [E1.out]
    have H6 : Hid (Sl w3 v3 (encB xss)) := h6.sl
    have H7 : Hid (Below w.heap.size w w3) := H5.out.trans (h7.mono H5.out.size)
    clear h6 h7
    go_wp2_with fail
    refine (decode_any (encB xss) v3 w3 HEB.out.1 H6.out (by have := HEB.out.2; omega)).mono ?_
    rintro e w4 ⟨v4, us4, rfl, h8, h9⟩
    rw [E2.out]
    rw [E3.out] at h8
    have H8 : Hid (LL w4 v4 xss) := h8.ll
    have H9 : Hid (Below w.heap.size w w4) := H7.out.trans (h9.mono H7.out.size)
    clear h8 h9
    go_wp2_with fail
    refine (sameList_same xss _ _ w4 H8.out (HS.out.below H9.out) hn1).mono ?_
    rintro e w5 ⟨rfl, h10⟩
    have H10 : Hid (Below w.heap.size w w5) := H9.out.trans (h10.mono H9.out.size)
    clear h10
    go_wp2_with fail
    refine (decode_any ys u w5 HB.out (HU.out.below H10.out (Nat.le_refl _)) hl).mono ?_
    rintro e w6 ⟨v6, us6, rfl, h11, h12⟩
    rw [E4.out]
    rw [E5.out] at h11
    obtain ⟨ad6, cp6, hv6, -, -⟩ := h11.ll
    subst hv6
    have H12 : Hid (Below w.heap.size w w6) := H10.out.trans (h12.mono H10.out.size)
    clear h11 h12
    go_wp2
    go_ret
    exact ⟨rfl, H12.out⟩
  · have E1 : Hid (encE xss = 0) := c1
    have E2 : Hid (decE (encB xss) = 0) := c2
    have E3 : Hid (decL (encB xss) = xss) := c3
    clear c1 c2 c3
    have E4 : Hid (decE ys = 6) := c4
    have E5 : Hid (decL ys = []) := c5
    clear c4 c5
    go_enter Try.func5, Try.ntmps5
    go_wp2_with fail
    refine (awake_any w).mono ?_
    rintro e w1 ⟨rfl, h1⟩
    have H1 : Hid (Below w.heap.size w w1) := h1
    clear h1
    go_wp2_with fail
    refine (copyList_any xss v w1 (HS.out.below H1.out) HL.out hn).mono ?_
    rintro e w2 ⟨v2, us, rfl, h4, h5⟩
    have H4 : Hid (LL w2 v2 xss) := h4.ll
    have H5 : Hid (Below w.heap.size w w2) := H1.out.trans (h5.mono H1.out.size)
    clear h4 h5
    go_wp2_with fail
    refine (encode_any xss v2 w2 H4.out HL.out hn1).mono ?_
    rintro e w3 ⟨v3, rfl, h6, h7⟩
    rw [E1.out]
    have H6 : Hid (Sl w3 v3 (encB xss)) := h6.sl
    have H7 : Hid (Below w.heap.size w w3) := H5.out.trans (h7.mono H5.out.size)
    clear h6 h7
    go_wp2_with fail
    refine (decode_any (encB xss) v3 w3 HEB.out.1 H6.out (by have := HEB.out.2; omega)).mono ?_
    rintro e w4 ⟨v4, us4, rfl, h8, h9⟩
    rw [E2.out]
    rw [E3.out] at h8
    have H8 : Hid (LL w4 v4 xss) := h8.ll
    have H9 : Hid (Below w.heap.size w w4) := H7.out.trans (h9.mono H7.out.size)
    clear h8 h9
    go_wp2_with fail
    refine (sameList_same xss _ _ w4 H8.out (HS.out.below H9.out) hn1).mono ?_
    rintro e w5 ⟨rfl, h10⟩
    have H10 : Hid (Below w.heap.size w w5) := H9.out.trans (h10.mono H9.out.size)
    clear h10
    go_wp2_with fail
    refine (decode_any ys u w5 HB.out (HU.out.below H10.out (Nat.le_refl _)) hl).mono ?_
    rintro e w6 ⟨v6, us6, rfl, h11, h12⟩
    rw [E4.out]
    rw [E5.out] at h11
    obtain ⟨ad6, cp6, hv6, -, -⟩ := h11.ll
    subst hv6
    have H12 : Hid (Below w.heap.size w w6) := H10.out.trans (h12.mono H10.out.size)
    clear h11 h12
    go_wp2
    go_ret
    exact ⟨rfl, H12.out⟩
  · have E1 : Hid (encE xss = 0) := c1
    have E2 : Hid (decE (encB xss) = 0) := c2
    have E3 : Hid (decL (encB xss) = xss) := c3
    clear c1 c2 c3
    have E4 : Hid (decE ys = 0) := c4
    have E6 : Hid (encE (decL ys) = 0 ∧ encB (decL ys) = ys) := ⟨(encE_ok c5).1, c6⟩
    clear c4 c5 c6
    go_enter Try.func5, Try.ntmps5
    go_wp2_with fail
    refine (awake_any w).mono ?_
    rintro e w1 ⟨rfl, h1⟩
    have H1 : Hid (Below w.heap.size w w1) := h1
    clear h1
    go_wp2_with fail
    refine (copyList_any xss v w1 (HS.out.below H1.out) HL.out hn).mono ?_
    rintro e w2 ⟨v2, us, rfl, h4, h5⟩
    have H4 : Hid (LL w2 v2 xss) := h4.ll
    have H5 : Hid (Below w.heap.size w w2) := H1.out.trans (h5.mono H1.out.size)
    clear h4 h5
    go_wp2_with fail
    refine (encode_any xss v2 w2 H4.out HL.out hn1).mono ?_
    rintro e w3 ⟨v3, rfl, h6, h7⟩
    rw [E1.out]
    have H6 : Hid (Sl w3 v3 (encB xss)) := h6.sl
    have H7 : Hid (Below w.heap.size w w3) := H5.out.trans (h7.mono H5.out.size)
    clear h6 h7
    go_wp2_with fail
    refine (decode_any (encB xss) v3 w3 HEB.out.1 H6.out (by have := HEB.out.2; omega)).mono ?_
    rintro e w4 ⟨v4, us4, rfl, h8, h9⟩
    rw [E2.out]
    rw [E3.out] at h8
    have H8 : Hid (LL w4 v4 xss) := h8.ll
    have H9 : Hid (Below w.heap.size w w4) := H7.out.trans (h9.mono H7.out.size)
    clear h8 h9
    go_wp2_with fail
    refine (sameList_same xss _ _ w4 H8.out (HS.out.below H9.out) hn1).mono ?_
    rintro e w5 ⟨rfl, h10⟩
    have H10 : Hid (Below w.heap.size w w5) := H9.out.trans (h10.mono H9.out.size)
    clear h10
    go_wp2_with fail
    refine (decode_any ys u w5 HB.out (HU.out.below H10.out (Nat.le_refl _)) hl).mono ?_
    rintro e w6 ⟨v6, us6, rfl, h11, h12⟩
    rw [E4.out]
    have H11 : Hid (LL w6 v6 (decL ys)) := h11.ll
    have H12 : Hid (Below w.heap.size w w6) := H10.out.trans (h12.mono H10.out.size)
    clear h11 h12
    go_wp2_with fail
    refine (encode_any (decL ys) v6 w6 H11.out HLD.out (by have := HND.out; omega)).mono ?_
    rintro e w7 ⟨v7, rfl, h13, h14⟩
    rw [E6.out.1]
    rw [E6.out.2] at h13
    have s1 := h13.sl.str
    have H14 : Hid (Below w.heap.size w w7) := H12.out.trans (h14.mono H12.out.size)
    have s2 := (HU.out.below H14.out (Nat.le_refl _)).str
    clear h13 h14
    go_wp2
    go_ret
    exact ⟨rfl, H14.out⟩
  · have E1 : Hid (encE xss = 6) := c1
    clear c1
    have E4 : Hid (decE ys = 2) := c4
    have E5 : Hid (decL ys = []) := c5
    clear c4 c5
    go_enter Try.func5, Try.ntmps5
    go_wp2_with fail
    refine (awake_any w).mono ?_
    rintro e w1 ⟨rfl, h1⟩
    have H1 : Hid (Below w.heap.size w w1) := h1
    clear h1
    go_wp2_with fail
    refine (copyList_any xss v w1 (HS.out.below H1.out) HL.out hn).mono ?_
    rintro e w2 ⟨v2, us, rfl, h4, h5⟩
    have H4 : Hid (LL w2 v2 xss) := h4.ll
    have H5 : Hid (Below w.heap.size w w2) := H1.out.trans (h5.mono H1.out.size)
    clear h4 h5
    go_wp2_with fail
    refine (encode_any xss v2 w2 H4.out HL.out hn1).mono ?_
    rintro e w3 ⟨v3, rfl, h6, h7⟩
    rw [E1.out]
    have H6 : Hid (Sl w3 v3 (encB xss)) := h6.sl
    have H7 : Hid (Below w.heap.size w w3) := H5.out.trans (h7.mono H5.out.size)
    clear h6 h7
    go_wp2_with fail
    refine (decode_any (encB xss) v3 w3 HEB.out.1 H6.out (by have := HEB.out.2; omega)).mono ?_
    rintro e w4 ⟨v4, us4, rfl, h8, h9⟩
    have H10 : Hid (Below w.heap.size w w4) := H7.out.trans (h9.mono H7.out.size)
    clear h8 h9
    obtain ⟨F, hF⟩ : ∃ F, decE (encB xss) = F := ⟨_, rfl⟩
    rw [hF]
    clear hF
    go_wp2_with fail
    refine (decode_any ys u w4 HB.out (HU.out.below H10.out (Nat.le_refl _)) hl).mono ?_
    rintro e w6 ⟨v6, us6, rfl, h11, h12⟩
    rw [E4.out]
    rw [E5.out] at h11
    obtain ⟨ad6, cp6, hv6, -, -⟩ := h11.ll
    subst hv6
    have H12 : Hid (Below w.heap.size w w6) := H10.out.trans (h12.mono H10.out.size)
    clear h11 h12
    go_wp2
    go_ret
    exact ⟨rfl, H12.out⟩
  · have E1 : Hid (encE xss = 6) := c1
    clear c1
    have E4 : Hid (decE ys = 6) := c4
    have E5 : Hid (decL ys = []) := c5
    clear c4 c5
    go_enter Try.func5, Try.ntmps5
    go_wp2_with fail
    refine (awake_any w).mono ?_
    rintro e w1 ⟨rfl, h1⟩
    have H1 : Hid (Below w.heap.size w w1) := h1
    clear h1
    go_wp2_with fail
    refine (copyList_any xss v w1 (HS.out.below H1.out) HL.out hn).mono ?_
    rintro e w2 ⟨v2, us, rfl, h4, h5⟩
    have H4 : Hid (LL w2 v2 xss) := h4.ll
    have H5 : Hid (Below w.heap.size w w2) := H1.out.trans (h5.mono H1.out.size)
    clear h4 h5
    go_wp2_with fail
    refine (encode_any xss v2 w2 H4.out HL.out hn1).mono ?_
    rintro e w3 ⟨v3, rfl, h6, h7⟩
    rw [E1.out]
    have H6 : Hid (Sl w3 v3 (encB xss)) := h6.sl
    have H7 : Hid (Below w.heap.size w w3) := H5.out.trans (h7.mono H5.out.size)
    clear h6 h7
    go_wp2_with fail
    refine (decode_any (encB xss) v3 w3 HEB.out.1 H6.out (by have := HEB.out.2; omega)).mono ?_
    rintro e w4 ⟨v4, us4, rfl, h8, h9⟩
    have H10 : Hid (Below w.heap.size w w4) := H7.out.trans (h9.mono H7.out.size)
    clear h8 h9
    obtain ⟨F, hF⟩ : ∃ F, decE (encB xss) = F := ⟨_, rfl⟩
    rw [hF]
    clear hF
    go_wp2_with fail
    refine (decode_any ys u w4 HB.out (HU.out.below H10.out (Nat.le_refl _)) hl).mono ?_
    rintro e w6 ⟨v6, us6, rfl, h11, h12⟩
    rw [E4.out]
    rw [E5.out] at h11
    obtain ⟨ad6, cp6, hv6, -, -⟩ := h11.ll
    subst hv6
    have H12 : Hid (Below w.heap.size w w6) := H10.out.trans (h12.mono H10.out.size)
    clear h11 h12
    go_wp2
    go_ret
    exact ⟨rfl, H12.out⟩
  · have E1 : Hid (encE xss = 6) := c1
    clear c1
    have E4 : Hid (decE ys = 0) := c4
    have E6 : Hid (encE (decL ys) = 0 ∧ encB (decL ys) = ys) := ⟨(encE_ok c5).1, c6⟩
    clear c4 c5 c6
    go_enter Try.func5, Try.ntmps5
    go_wp2_with fail
    refine (awake_any w).mono ?_
    rintro e w1 ⟨rfl, h1⟩
    have H1 : Hid (Below w.heap.size w w1) := h1
    clear h1
    go_wp2_with fail
    refine (copyList_any xss v w1 (HS.out.below H1.out) HL.out hn).mono ?_
    rintro e w2 ⟨v2, us, rfl, h4, h5⟩
    have H4 : Hid (LL w2 v2 xss) := h4.ll
    have H5 : Hid (Below w.heap.size w w2) := H1.out.trans (h5.mono H1.out.size)
    clear h4 h5
    go_wp2_with fail
    refine (encode_any xss v2 w2 H4.out HL.out hn1).mono ?_
    rintro e w3 ⟨v3, rfl, h6, h7⟩
    rw [E1.out]
    have H6 : Hid (Sl w3 v3 (encB xss)) := h6.sl
    have H7 : Hid (Below w.heap.size w w3) := H5.out.trans (h7.mono H5.out.size)
    clear h6 h7
    go_wp2_with fail
    refine (decode_any (encB xss) v3 w3 HEB.out.1 H6.out (by have := HEB.out.2; omega)).mono ?_
    rintro e w4 ⟨v4, us4, rfl, h8, h9⟩
    have H10 : Hid (Below w.heap.size w w4) := H7.out.trans (h9.mono H7.out.size)
    clear h8 h9
    obtain ⟨F, hF⟩ : ∃ F, decE (encB xss) = F := ⟨_, rfl⟩
    rw [hF]
    clear hF
    go_wp2_with fail
    refine (decode_any ys u w4 HB.out (HU.out.below H10.out (Nat.le_refl _)) hl).mono ?_
    rintro e w6 ⟨v6, us6, rfl, h11, h12⟩
    rw [E4.out]
    have H11 : Hid (LL w6 v6 (decL ys)) := h11.ll
    have H12 : Hid (Below w.heap.size w w6) := H10.out.trans (h12.mono H10.out.size)
    clear h11 h12
    go_wp2_with fail
    refine (encode_any (decL ys) v6 w6 H11.out HLD.out (by have := HND.out; omega)).mono ?_
    rintro e w7 ⟨v7, rfl, h13, h14⟩
    rw [E6.out.1]
    rw [E6.out.2] at h13
    have s1 := h13.sl.str
    have H14 : Hid (Below w.heap.size w w7) := H12.out.trans (h14.mono H12.out.size)
    have s2 := (HU.out.below H14.out (Nat.le_refl _)).str
    clear h13 h14
    go_wp2
    go_ret
    exact ⟨rfl, H14.out⟩
end Go.Proofs.Ytagfjpafbpoebaa
