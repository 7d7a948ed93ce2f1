/- DecodeRoot. -/
import Derived.Test.YtfnmdeekenjlgaaWrtH
namespace Go.Proofs.Ytfnmdeekenjlgaa
open Go Go.RowKit
set_option linter.unusedSimpArgs false
set_option linter.unusedVariables false
set_option maxRecDepth 100000

def signS : ByteArray := ⟨#[115, 105, 103, 110, 101, 100]⟩
/-- The bytes are a root's. -/
def isR (xs : List Int) : Bool := hasF xs signS 2 && (decide ((mi (decL xs) 2).length = 64) && isU (mi (decL xs) 1))
def dRt (xs : List Int) : Rt := { uRt (mi (decL xs) 1) with sg := mi (decL xs) 2 }
def drE (xs : List Int) : Int := match isR xs with | true => 0 | false => 2
def drA (xs : List Int) : List Value := match isR xs with | true => (dRt xs).cells | false => z163
theorem isU_lens {xs : List Int} (h : isU xs = true) : (mi (decL xs) 4).length = 32 ∧ (mi (decL xs) 5).length = 32 ∧ (mi (decL xs) 6).length = 32 := by
  unfold isU at h
  simp only [Bool.and_eq_true, decide_eq_true_eq, Bool.not_eq_true'] at h
  obtain ⟨hF, -, -, -, hC⟩ := h
  unfold hasF at hF
  simp only [Bool.and_eq_true, decide_eq_true_eq] at hF
  have hl := hF.2.1
  have q := not32_all hC
  have l4 : ((decL xs).drop 4).length = 3 := by rw [List.length_drop, hl]
  have a := q 0 (by omega)
  have b := q 1 (by omega)
  have c := q 2 (by omega)
  rw [mi_drop] at a b c
  exact ⟨a, b, c⟩
theorem uRt_cells {xs : List Int} (h : isU xs = true) : (uRt xs).cells.length = 163 := by
  obtain ⟨a, b, c⟩ := isU_lens h
  simp [Rt.cells, bv_length, uRt, a, b, c]
theorem after_store {w2 W3 : World} {A : List Value} (hA : A.length = 163) (hW : (w2.alloc (.cells z163.toArray 26)).setCells w2.heap.size 0 A = W3) : Hid (Below w2.heap.size w2 W3 ∧ W3.rangeAt w2.heap.size 0 A ∧ W3.there w2.heap.size 0 163) := by
  have h1 := (root_start (w := w2) rfl).out
  subst hW
  exact ⟨below_setCellsW _ (Nat.le_refl _) _ _ _ h1.2.1, World.rangeAt_setCells_same _ _ _ _ (by rw [hA]; exact h1.1), World.there_setCells h1.1 _ _ _⟩
theorem start_there (w2 : World) {A : List Value} (hA : A.length = 163) : (w2.alloc (.cells z163.toArray 26)).there w2.heap.size 0 A.toArray.size := by
  rw [show A.toArray.size = 163 from hA]
  exact (root_start (w := w2) rfl).out.1
theorem size_of {A : List Value} (hA : A.length = 163) : (Try.prog.info? 26).map (·.size) = some A.toArray.size := by
  rw [show A.toArray.size = 163 from hA]; exact root_size
theorem join3 {w w1 w2 W3 : World} (h : Below w.heap.size w w1 ∧ w1.there w.heap.size 0 163) (hs : w.heap.size + 1 ≤ w1.heap.size) (h6 : Below w1.heap.size w1 w2) (h4 : Below w2.heap.size w2 W3) : Hid (Below w.heap.size w W3 ∧ W3.there w.heap.size 0 163) := by
  have hb : Below w1.heap.size w1 W3 := h6.trans (h4.mono h6.size)
  exact ⟨h.1.trans (hb.mono (by omega)), there_below h.2 (hb.mono hs)⟩
theorem arrayAt64 (b o c : Nat) (W : World) : (Instr.arrayAt 24 (.slice (some ⟨b, o, none⟩) 64 c)).run Try.prog W = .ok (.pointer (some ⟨b, o, none⟩)) W := by kernel_rfl
theorem size64 : (Try.prog.info? 24).map (·.size) = some 64 := by kernel_rfl
theorem sig_there {b : Nat} {cs : List Value} {W : World} (h : cs.length = 64) (ht : W.there b 0 163) : W.there b 99 cs.toArray.size := fun i hi => by
  rw [show cs.toArray.size = 64 from h] at hi
  have := ht (99 + i) (by omega)
  rw [Nat.zero_add] at this; exact this
theorem sig_size {cs : List Value} (h : cs.length = 64) : (Try.prog.info? 24).map (·.size) = some cs.toArray.size := by rw [show cs.toArray.size = 64 from h]; exact size64
theorem root_there {b : Nat} {cs : List Value} {W : World} (h : cs.length = 163) (ht : W.there b 0 163) : W.there b 0 cs.toArray.size := by rw [show cs.toArray.size = 163 from h]; exact ht
theorem range_belowW {w w' : World} {b o : Nat} {cs : List Value} (h : w.rangeAt b o cs) (hb : b < w.heap.size) (hB : Below w.heap.size w w') : w'.rangeAt b o cs := fun j q hq => (hB.cell (p := ⟨b, o + j, none⟩) hb).trans (h j q hq)
theorem cell_setCells (w : World) (g o i : Nat) (vs : List Value) (ht : w.there g o vs.length) :
    (w.setCells g o vs).cell? ⟨g, i, none⟩ = if o ≤ i ∧ i < o + vs.length then vs[i - o]? else w.cell? ⟨g, i, none⟩ := by
  split
  · rename_i h
    have hj : i - o < vs.length := by omega
    have := World.cell?_setCells_in g vs o w (fun j hj => (ht j hj).1) (i - o) hj
    rw [show o + (i - o) = i by omega] at this
    rw [this, List.getElem?_eq_getElem hj]
  · rename_i h
    exact World.cell?_setCells_out g vs o w ⟨g, i, none⟩ (fun _ _ => by simp only; omega)
def Rt.head (R : Rt) : List Value := [.int .u64 R.ep, .int .u64 R.kd, .int .u64 R.gn] ++ (bv R.pr ++ (bv R.hs ++ bv R.lk))
theorem Rt.cells_head (R : Rt) : R.cells = R.head ++ bv R.sg := by simp [Rt.cells, Rt.head]
theorem head_same (xs : List Int) : (dRt xs).head = (uRt (mi (decL xs) 1)).head := rfl
theorem after_sig {xs : List Int} {b B : Nat} {x W3 W4 : World} (hW : W3.setCells b 99 (bv (mi (decL xs) 2)) = W4) (hU : isU (mi (decL xs) 1) = true) (h64 : (mi (decL xs) 2).length = 64) (hB : B < b) (h : W3.rangeAt b 0 (uRt (mi (decL xs) 1)).cells ∧ W3.there b 0 163) (h5 : Below B x W3 ∧ W3.there B 0 163) :
    Hid (W4.rangeAt b 0 (dRt xs).cells ∧ Below B x W4 ∧ W4.there B 0 163) := by
  subst hW
  refine ⟨fun j q hq => ?_, below_setCellsW _ (by omega) _ _ _ h5.1, World.there_setCells h5.2 _ _ _⟩
  obtain ⟨g3, g4, g5⟩ := isU_lens hU
  have hh : (uRt (mi (decL xs) 1)).head.length = 99 := by simp [Rt.head, bv_length, uRt, g3, g4, g5]
  have ht : W3.there b 99 (bv (mi (decL xs) 2)).length := fun i hi => by
    rw [bv_length, h64] at hi
    have := h.2 (99 + i) (by omega)
    rw [Nat.zero_add] at this; exact this
  rw [Nat.zero_add, cell_setCells W3 b 99 j _ ht, bv_length, h64]
  rw [Rt.cells_head, head_same] at hq
  by_cases hj : j < 99
  · rw [if_neg (by omega)]
    rw [List.getElem?_append_left (by omega)] at hq
    have := h.1 j q (by rw [Rt.cells_head, List.getElem?_append_left (by omega)]; exact hq)
    rw [Nat.zero_add] at this; exact this
  · rw [List.getElem?_append_right (by omega), hh] at hq
    have hl2 : j - 99 < 64 := by have := (List.getElem?_eq_some_iff.1 hq).1; rw [bv_length] at this; exact Nat.lt_of_lt_of_eq this h64
    rw [if_pos (by omega)]; exact hq
theorem dRt_cells {xs : List Int} (h : isU (mi (decL xs) 1) = true) (h64 : (mi (decL xs) 2).length = 64) : (dRt xs).cells.length = 163 := by
  obtain ⟨a, b, c⟩ := isU_lens h
  simp [Rt.cells, bv_length, dRt, uRt, a, b, c, h64]
set_option maxHeartbeats 2000000 in
theorem decodeRoot_any (xs : List Int) (v : Value) (w : World) (hb : Byt xs) (hs : Sl w v xs) (hl : xs.length ≤ 140737488355328) :
    Calls Try.prog 29 #[v] w fun e w' => e = .returned (.tuple #[.agg (drA xs).toArray, .int .i64 (drE xs)]) ∧ Below w.heap.size w w' := by
  have HS : Hid (Sl w v xs) := hs
  have HB : Hid (Byt xs) := hb
  clear hb hs
  have hz := zero_root
  go_enter Try.func29, Try.ntmps29
  go_wp2_with fail
  generalize hW : w.alloc _ = w0
  have H0 := root_start hW
  clear hW
  refine (fields_any xs signS 2 v w0 HB.out (HS.out.below H0.out.2.1 (Nat.le_refl _)) hl (by omega) (by omega)).mono ?_
  rintro e w1 ⟨⟨v1, rfl, h1, h2⟩, h3⟩
  have H3 : Hid (Below w.heap.size w w1 ∧ w1.there w.heap.size 0 163) := ⟨H0.out.2.1.trans (h3.mono (by have := H0.out.2.2; omega)), there_below H0.out.1 (by have := H0.out.2.2; rw [this] at h3; exact h3)⟩
  have HS0 : Hid (w0.heap.size = w.heap.size + 1) := H0.out.2.2
  have HS1 : Hid (w.heap.size + 1 ≤ w1.heap.size) := by have := h3.size; rw [HS0.out] at this; exact this
  clear h3 H0
  cases hF : hasF xs signS 2 with
  | false =>
    rw [h2 hF]
    have HU : Hid (isR xs = false) := by show isR xs = false; unfold isR; rw [hF]; rfl
    clear h1 h2
    go_wp2_with (refine wpList_store_mid rfl 26 _ _ rfl w.heap.size 0 z163.toArray rfl rfl (HT1 _ H3.out.2) root_size' z163_one ?_)
    refine bodyPost_ret (v := .tuple #[.agg z163.toArray, .int .i64 2]) ?_ rfl ⟨by unfold drA drE; rw [HU.out], below_setCellsW _ (Nat.le_refl _) _ _ _ H3.out.1⟩
    have q := World.rangeAt_setCells_same _ w.heap.size 0 z163 (HT1 _ H3.out.2)
    simp only [results, Try.results29]
    simp [asAddr, run_loadVar_mid _ w.heap.size 0 26 z163 _ q Try.underlying26 rfl (by rw [z163_length]; exact root_size)]
  | true =>
    have HQ : Hid (LF (w.heap.size + 1) w1 v1 ((decL xs).drop 1)) := by
      have := h1 hF
      rw [HS0.out] at this; exact this
    clear h1 h2
    have hlen : (decL xs).length = 3 := by
      unfold hasF at hF
      simp only [Bool.and_eq_true, decide_eq_true_eq] at hF
      exact hF.2.1
    obtain ⟨fb, fo, cap, hv, hcap, hlt, hm⟩ := HQ.out.ll.at' (by rw [List.length_drop]; omega)
    subst hv
    rw [List.length_drop, hlen] at hcap hm HQ ⊢
    simp only [mi_drop] at hm
    obtain ⟨u0, k0, s0⟩ := hm 0 (by omega)
    obtain ⟨u1, k1, s1⟩ := hm 1 (by omega)
    have S0 : Hid (Sl w1 u0 (mi (decL xs) 1)) := s0
    have S1 : Hid (Sl w1 u1 (mi (decL xs) 2)) := s1
    have HF : Hid (hasF xs signS 2 = true) := hF
    have HL : Hid ((decL xs).length = 3) := hlen
    rw [Nat.add_zero] at k0
    clear hm s0 s1 hF hlen
    obtain ⟨ad, c1, hu1, hc1, hx1⟩ := S1.out
    subst hu1
    have HX : Hid _ := hx1
    clear hx1
    by_cases h64 : (mi (decL xs) 2).length = 64
    · rw [h64] at k1 hc1
      have H64 : Hid ((mi (decL xs) 2).length = 64) := h64
      clear h64
      go_wp2_with fail
      refine (readUnsigned_any (mi (decL xs) 1) u0 w1 (decL_mi HB.out 1).1 S0.out (decL_le HB.out 1)).mono ?_
      rintro e w2 ⟨⟨A, rfl, h4, h5⟩, h6⟩
      have H6 : Hid (Below w1.heap.size w1 w2) := h6
      clear h6
      cases hU : isU (mi (decL xs) 1) with
      | false =>
        have HU : Hid (isR xs = false) := by show isR xs = false; unfold isR; rw [hU]; simp
        obtain rfl := h5 hU
        clear h4 h5
        go_wp2_with (first
          | (refine wpList_store_mid rfl 26 _ _ rfl w2.heap.size 0 z163.toArray rfl rfl (start_there w2 z163_length) root_size' z163_one ?_; generalize hW3 : World.setCells _ _ _ _ = W3; have H4 := after_store z163_length hW3; clear hW3; have H5 : Hid (Below w.heap.size w W3 ∧ W3.there w.heap.size 0 163) := join3 H3.out HS1.out H6.out H4.out.1)
          | (refine wpList_store_mid rfl 26 _ _ rfl w.heap.size 0 z163.toArray rfl rfl (HT1 _ H5.out.2) root_size' z163_one ?_))
        refine bodyPost_ret (v := .tuple #[.agg z163.toArray, .int .i64 2]) ?_ rfl ⟨by unfold drA drE; rw [HU.out], below_setCellsW _ (Nat.le_refl _) _ _ _ H5.out.1⟩
        have q := World.rangeAt_setCells_same _ w.heap.size 0 z163 (HT1 _ H5.out.2)
        simp only [results, Try.results29]
        simp [asAddr, run_loadVar_mid _ w.heap.size 0 26 z163 _ q Try.underlying26 rfl (by rw [z163_length]; exact root_size)]
      | true =>
        have HU : Hid (isR xs = true) := by show isR xs = true; unfold isR; rw [HF.out, H64.out, hU]; rfl
        obtain rfl := h4 hU
        clear h4 h5
        have HUL : Hid ((uRt (mi (decL xs) 1)).cells.length = 163) := uRt_cells hU
        obtain ⟨sb, so, rfl, hslt, hsm⟩ : ∃ sb so, ad = some ⟨sb, so, none⟩ ∧ sb < w1.heap.size ∧ w1.rangeAt sb so (bv (mi (decL xs) 2)) := by
          rcases HX.out with ⟨he, _⟩ | ⟨sb, so, he, hs2, hm2⟩
          · have := H64.out; rw [he] at this; simp at this
          · refine ⟨sb, so, he, hs2, fun j q hq => ?_⟩
            have hj : j < (mi (decL xs) 2).length := by have := (List.getElem?_eq_some_iff.1 hq).1; rwa [bv_length] at this
            rw [bv_get _ hj] at hq
            rw [hm2 j hj]; exact hq
        have HUU : Hid (isU (mi (decL xs) 1) = true) := hU
        have HSM : Hid (w1.rangeAt sb so (bv (mi (decL xs) 2))) := hsm
        have HDL : Hid ((dRt xs).cells.length = 163) := dRt_cells hU H64.out
        have g64 : Hid ((bv (mi (decL xs) 2)).length = 64) := by show (bv (mi (decL xs) 2)).length = 64; rw [bv_length]; exact H64.out
        have HBL : Hid (w.heap.size < w2.heap.size) := Nat.lt_of_lt_of_le (Nat.lt_of_succ_le HS1.out) H6.out.size
        clear hU hsm
        have hat := arrayAt64 sb so c1
        go_wp2_with (first
          | (refine wpList_store_mid rfl 26 _ _ rfl w2.heap.size 0 (uRt (mi (decL xs) 1)).cells.toArray rfl rfl (start_there w2 HUL.out) (size_of HUL.out) (cells_one _) ?_; generalize hW3 : World.setCells _ _ _ _ = W3; have H4 := after_store HUL.out hW3; clear hW3; have H5 : Hid (Below w.heap.size w W3 ∧ W3.there w.heap.size 0 163) := join3 H3.out HS1.out H6.out H4.out.1; have hB3 : Below w1.heap.size w1 W3 := H6.out.trans (H4.out.1.mono H6.out.size); have k3 := (hB3.cell (p := ⟨fb, fo + 1, none⟩) hlt).trans k1; have R3 : Hid (W3.rangeAt sb so (bv (mi (decL xs) 2))) := range_belowW HSM.out hslt hB3; clear hB3 k0 k1)
          | (refine wpList_load_mid rfl 24 _ rfl sb so rfl (bv (mi (decL xs) 2)) _ R3.out Try.underlying24 rfl (by rw [g64.out]; exact size64) ?_)
          | (refine wpList_store_mid rfl 24 _ _ rfl w2.heap.size 99 (bv (mi (decL xs) 2)).toArray rfl rfl (sig_there g64.out H4.out.2.2) (sig_size g64.out) (all_oneCell_toArray (bv_one _)) ?_; generalize hW4 : World.setCells _ _ _ _ = W4; have H7 := after_sig hW4 HUU.out H64.out HBL.out H4.out.2 H5.out; clear hW4)
          | (refine wpList_load_mid rfl 26 _ rfl w2.heap.size 0 rfl (dRt xs).cells _ H7.out.1 Try.underlying26 rfl (by rw [HDL.out]; exact root_size) ?_)
          | (refine wpList_store_mid rfl 26 _ _ rfl w.heap.size 0 (dRt xs).cells.toArray rfl rfl (root_there HDL.out H7.out.2.2) (size_of HDL.out) (cells_one _) ?_))
        refine bodyPost_ret (v := .tuple #[.agg (dRt xs).cells.toArray, .int .i64 0]) ?_ rfl ⟨by unfold drA drE; rw [HU.out], below_setCellsW _ (Nat.le_refl _) _ _ _ H7.out.2.1⟩
        have q := World.rangeAt_setCells_same W4 w.heap.size 0 (dRt xs).cells (root_there HDL.out H7.out.2.2)
        simp only [results, Try.results29]
        simp [asAddr, run_loadVar_mid _ w.heap.size 0 26 (dRt xs).cells _ q Try.underlying26 rfl (by rw [HDL.out]; exact root_size)]
    · have HU : Hid (isR xs = false) := by show isR xs = false; unfold isR; rw [decide_eq_false h64]; simp
      have gn : ¬ ((mi (decL xs) 2).length : Int) = 64 := by omega
      clear h64
      go_wp2_with (refine wpList_store_mid rfl 26 _ _ rfl w.heap.size 0 z163.toArray rfl rfl (HT1 _ H3.out.2) root_size' z163_one ?_)
      refine bodyPost_ret (v := .tuple #[.agg z163.toArray, .int .i64 2]) ?_ rfl ⟨by unfold drA drE; rw [HU.out], below_setCellsW _ (Nat.le_refl _) _ _ _ H3.out.1⟩
      have q := World.rangeAt_setCells_same _ w.heap.size 0 z163 (HT1 _ H3.out.2)
      simp only [results, Try.results29]
      simp [asAddr, run_loadVar_mid _ w.heap.size 0 26 z163 _ q Try.underlying26 rfl (by rw [z163_length]; exact root_size)]
end Go.Proofs.Ytfnmdeekenjlgaa
