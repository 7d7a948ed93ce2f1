/- The reference: DecodeStep. -/
import Derived.Test.YtfnmdeekenjlgaaWsR
namespace Go.Proofs.Ytfnmdeekenjlgaa
open Go Go.RowKit
set_option linter.unusedSimpArgs false
set_option linter.unusedVariables false
set_option maxRecDepth 100000

def rslf (v : Value) (b o N cap I0 I1 : Nat) (x : Lf) : Nat → Value
  | 0 => v
  | 1 => .slice (some ⟨b, o, none⟩) N cap
  | 2 => .int .i64 (I0 : Int)
  | 3 => .pointer (some ⟨b, o + I0 * 32, none⟩)
  | 4 => .agg (bv x.p).toArray
  | 5 => .slice (some ⟨b, o, none⟩) N cap
  | 6 => .int .i64 (I0 : Int)
  | 7 => .int .i64 (I1 : Int)
  | 8 => .pointer (some ⟨b, o + I1 * 32, none⟩)
  | 9 => .agg (bv x.q).toArray
  | 10 => .agg (lfc x).toArray
  | 11 => undef
  | 12 => undef
  | 13 => undef
  | _ => undef
set_option maxHeartbeats 8000000 in
theorem rdecodeStep_any (xs : List Int) (v : Value) (w : World) (hb : Byt xs) (hs : Sl w v xs) (hl : xs.length ≤ 140737488355328) :
    Calls Try.prog 14 #[v] w fun e w' => ∃ A, e = .returned (.tuple #[.agg A.toArray, .int .i64 (dsE xs)]) ∧ SV w' A (dSp xs) ∧ Below w.heap.size w w' := by
  have HS : Hid (Sl w v xs) := hs
  have HB : Hid (Byt xs) := hb
  clear hb hs
  have hz := zero_step
  have hz2 := zero_root
  go_enter Try.func14, Try.ntmps14
  go_wp2_with fail
  generalize hW : w.alloc _ = w0
  have H0 : Hid (Hd w w0 166) := by rw [← hW]; exact Hd.new w z166_length
  clear hW
  refine (parts_any xs stepS 4 5 (by decide) v w0 HB.out (HS.out.below H0.out.bel (Nat.le_refl _)) hl (by omega) (by omega)).mono ?_
  rintro e w1 ⟨⟨v1, rfl, h1⟩, h3⟩
  have H1 : Hid (Hd w w1 166) := H0.out.step h3
  clear h3
  cases hF : hasF xs stepS 4 with
  | false =>
    have HU : Hid (isS xs = false) := by show isS xs = false; unfold isS; rw [hF]; rfl
    clear h1
    have E0 : Hid (dSp xs = ⟨zRt, [], [], []⟩ ∧ dsE xs = 2) := ds_no HU.out
    go_wp2_with (first
     | (refine wp_build0s 46 rfl rfl z166.toArray (build_z w1) ?_)
     | (refine wpList_store_mid rfl 46 _ _ rfl w.heap.size 0 z166.toArray rfl rfl (there_of H1.out.there z166_length) (size_step z166_length) z166_one ?_))
    refine bodyPost_ret (v := .tuple #[.agg z166.toArray, .int .i64 2]) ?_ rfl ⟨z166, by rw [E0.out.2], by rw [E0.out.1]; exact z_sv _, (H1.out.put z166_length).1⟩
    have q := (H1.out.put z166_length).2
    simp only [results, Try.results14]
    simp [asAddr, run_loadVar_mid _ w.heap.size 0 46 z166 _ q Try.underlying46 rfl (by rw [z166_length]; exact step_size)]
  | true =>
    have HQ : Hid (LL w1 v1 (decL xs)) := h1
    clear h1
    have hlen : (decL xs).length = 5 := by
      unfold hasF at hF
      simp only [Bool.and_eq_true, decide_eq_true_eq] at hF
      exact hF.2.1
    obtain ⟨fb, fo, cap, hv, hcap, hlt, hm⟩ := HQ.out.at' (by omega)
    subst hv
    rw [hlen] at hcap hm ⊢
    obtain ⟨u0, k0, s0⟩ := hm 1 (by omega)
    obtain ⟨u1, k1, s1⟩ := hm 2 (by omega)
    obtain ⟨u2, k2, s2⟩ := hm 3 (by omega)
    obtain ⟨u3, k3, s3⟩ := hm 4 (by omega)
    have HSS : Hid (Sl w1 u0 (mi (decL xs) 1) ∧ Sl w1 u1 (mi (decL xs) 2) ∧ Sl w1 u2 (mi (decL xs) 3) ∧ Sl w1 u3 (mi (decL xs) 4)) := ⟨s0, s1, s2, s3⟩
    have HKK : Hid (w1.cell? ⟨fb, fo + 2, none⟩ = some u1 ∧ w1.cell? ⟨fb, fo + 3, none⟩ = some u2 ∧ w1.cell? ⟨fb, fo + 4, none⟩ = some u3 ∧ fb < w1.heap.size) := ⟨k1, k2, k3, hlt⟩
    have HF : Hid (hasF xs stepS 4 = true) := hF
    have HLB : Hid (∀ i, Byt (mi (decL xs) i) ∧ (mi (decL xs) i).length ≤ 1048576) := fun i => decL_mi HB.out i
    clear hm s0 s1 s2 s3 k1 k2 k3 hF hlen
    obtain ⟨X1, hX1⟩ : ∃ X, mi (decL xs) 1 = X := ⟨_, rfl⟩
    obtain ⟨X2, hX2⟩ : ∃ X, mi (decL xs) 2 = X := ⟨_, rfl⟩
    obtain ⟨X3, hX3⟩ : ∃ X, mi (decL xs) 3 = X := ⟨_, rfl⟩
    obtain ⟨X4, hX4⟩ : ∃ X, mi (decL xs) 4 = X := ⟨_, rfl⟩
    have HLX : Hid ((Byt X1 ∧ X1.length ≤ 1048576) ∧ (Byt X2 ∧ X2.length ≤ 1048576) ∧ (Byt X3 ∧ X3.length ≤ 1048576) ∧ (Byt X4 ∧ X4.length ≤ 1048576)) := ⟨hX1 ▸ HLB.out 1, hX2 ▸ HLB.out 2, hX3 ▸ HLB.out 3, hX4 ▸ HLB.out 4⟩
    have HXE : Hid (mi (decL xs) 1 = X1 ∧ mi (decL xs) 2 = X2 ∧ mi (decL xs) 3 = X3 ∧ mi (decL xs) 4 = X4) := ⟨hX1, hX2, hX3, hX4⟩
    rw [hX1, hX2, hX3, hX4] at HSS
    clear hX1 hX2 hX3 hX4
    go_wp2_with fail
    refine (rdecodeRoot_any X1 u0 w1 HLX.out.1.1 HSS.out.1 (by have := HLX.out.1.2; omega)).mono ?_
    rintro e w2 ⟨rfl, h6⟩
    rw [drA_cells]
    have HRL : Hid (aRt X1).L := aRt_L HLX.out.1.1
    have HCL : Hid ((aRt X1).cells.length = 163) := HRL.out.size
    have B2 : Hid (Below w1.heap.size w1 w2) := h6
    clear h6
    obtain ⟨er, her⟩ : ∃ e, drE X1 = e := ⟨_, rfl⟩
    rw [her]
    have HER : Hid (drE X1 = er) := her
    clear her
    go_upto_region 5 with (refine wpList_store_mid rfl 26 _ _ rfl w2.heap.size 0 (aRt X1).cells.toArray rfl rfl (start_there w2 HCL.out) (size_of HCL.out) (cells_one _) ?_)
    generalize hW3 : World.setCells _ _ _ _ = W3
    have H4 := after_store HCL.out hW3
    clear hW3
    have B3 : Hid (Below w1.heap.size w1 W3) := B2.out.trans (H4.out.1.mono B2.out.size)
    have RD : Hid (W3.rangeAt w2.heap.size 0 (aRt X1).cells ∧ w2.heap.size < W3.heap.size) := ⟨H4.out.2.1, (by
      have := H4.out.2.1 0 _ (List.getElem?_eq_getElem (by rw [HCL.out]; decide))
      exact (addr_lt this))⟩
    obtain ⟨D, hD⟩ : ∃ D, w2.heap.size = D := ⟨_, rfl⟩
    rw [hD] at RD ⊢
    clear hD H4 B2 k0
    have k1 : W3.cell? ⟨fb, fo + 2, none⟩ = some u1 := (B3.out.cell (p := ⟨fb, fo + 2, none⟩) HKK.out.2.2.2).trans HKK.out.1
    go_wp2_with fail
    refine (rreadNodes_any X2 u1 W3 HLX.out.2.1.1 (HSS.out.2.1.below B3.out (Nat.le_refl _)) HLX.out.2.1.2).mono ?_
    rintro e w4 ⟨nv, rfl, g1, g2⟩
    have N4 : Hid (NO W3.heap.size w4 nv (rdn X2)) := g1
    have B4 : Hid (Below w1.heap.size w1 w4) := B3.out.trans (g2.mono B3.out.size)
    have R4 : Hid (w4.rangeAt D 0 (aRt X1).cells ∧ D < w4.heap.size) := ⟨range_below RD.out.1 g2 RD.out.2, Nat.lt_of_lt_of_le RD.out.2 g2.size⟩
    obtain ⟨a1, n1, c1, rfl⟩ := NS.sl g1.ns
    clear g1 g2 k1
    have k2 : w4.cell? ⟨fb, fo + 3, none⟩ = some u2 := (B4.out.cell (p := ⟨fb, fo + 3, none⟩) HKK.out.2.2.2).trans HKK.out.2.1
    go_wp2_with fail
    refine (rreadHashes_any 2 (by decide) (by decide) X3 u2 w4 HLX.out.2.2.1.1 (HSS.out.2.2.1.below B4.out (Nat.le_refl _)) HLX.out.2.2.1.2).mono ?_
    rintro e w5 ⟨av, rfl, g1, g2⟩
    rw [show 32 * 2 = 64 from rfl]
    have L5 : Hid (YO w4.heap.size w5 av (rdh 2 X3)) := g1
    have N5 : Hid (NO W3.heap.size w5 (.slice a1 n1 c1) (rdn X2)) := N4.out.below g2
    have B5 : Hid (Below w1.heap.size w1 w5) := B4.out.trans (g2.mono B4.out.size)
    have R5 : Hid (w5.rangeAt D 0 (aRt X1).cells ∧ D < w5.heap.size) := ⟨range_below R4.out.1 g2 R4.out.2, Nat.lt_of_lt_of_le R4.out.2 g2.size⟩
    obtain ⟨a2, n2, c2, rfl⟩ : ∃ a n c, av = .slice a n c := by obtain ⟨a, c, e, _⟩ := g1.ys; exact ⟨a, _, c, e⟩
    clear g1 g2 k2 N4
    have k3 : w5.cell? ⟨fb, fo + 4, none⟩ = some u3 := (B5.out.cell (p := ⟨fb, fo + 4, none⟩) HKK.out.2.2.2).trans HKK.out.2.2.1
    go_wp2_with fail
    refine (rReadLinks_any X4 u3 w5 HLX.out.2.2.2.1 (HSS.out.2.2.2.below B5.out (Nat.le_refl _)) HLX.out.2.2.2.2).mono ?_
    rintro e w6 ⟨kv, rfl, g1, g2⟩
    have K6 : Hid (KO w5.heap.size w6 kv (rdk X4)) := g1
    have L6 : Hid (YO w4.heap.size w6 (.slice a2 n2 c2) (rdh 2 X3)) := L5.out.below g2
    have N6 : Hid (NO W3.heap.size w6 (.slice a1 n1 c1) (rdn X2)) := N5.out.below g2
    have B6 : Hid (Below w1.heap.size w1 w6) := B5.out.trans (g2.mono B5.out.size)
    have R6 : Hid (w6.rangeAt D 0 (aRt X1).cells ∧ D < w6.heap.size) := ⟨range_below R5.out.1 g2 R5.out.2, Nat.lt_of_lt_of_le R5.out.2 g2.size⟩
    have H6 : Hid (Hd w w6 166) := H1.out.step B6.out
    have HLT : Hid (w.heap.size < W3.heap.size ∧ w.heap.size < w4.heap.size ∧ w.heap.size < w5.heap.size) := by
      have e1 := H1.out.size
      have e2 := B3.out.size
      have e3 := B4.out.size
      have e4 := B5.out.size
      exact ⟨by omega, by omega, by omega⟩
    obtain ⟨a3, n3, c3, rfl⟩ := KS.sl g1.ks
    clear g1 g2 k3 L5 N5
    obtain ⟨b2, hb2⟩ : ∃ b, rnb X2 = b := ⟨_, rfl⟩
    obtain ⟨b3, hb3⟩ : ∃ b, decide (X3.length % 64 = 0) = b := ⟨_, rfl⟩
    obtain ⟨b4, hb4⟩ : ∃ b, decide (X4.length % 96 = 0) = b := ⟨_, rfl⟩
    have HBB : Hid (rnb X2 = b2 ∧ decide (X3.length % 64 = 0) = b3 ∧ decide (X4.length % 96 = 0) = b4) := ⟨hb2, hb3, hb4⟩
    rw [hb2, hb3, hb4]
    clear hb2 hb3 hb4 hcap
    have HIS : Hid (isS xs = (isR X1 && (b2 && (b3 && b4)))) := by
      show isS xs = _
      unfold isS
      rw [HF.out, HXE.out.1, HXE.out.2.1, HXE.out.2.2.1, HXE.out.2.2.2, HBB.out.1, HBB.out.2.1, HBB.out.2.2]; rfl
    cases hq1 : isR X1 with
    | false =>
      have her : er = 2 := by rw [← HER.out]; unfold drE; rw [hq1]
      subst her
      have HU : Hid (isS xs = false) := by rw [HIS.out, hq1]; rfl
      have E0 : Hid (dSp xs = ⟨zRt, [], [], []⟩ ∧ dsE xs = 2) := ds_no HU.out
      go_wp2_with (first
       | (refine wp_build0s 46 rfl rfl z166.toArray (build_z w6) ?_)
       | (refine wpList_store_mid rfl 46 _ _ rfl w.heap.size 0 z166.toArray rfl rfl (there_of H6.out.there z166_length) (size_step z166_length) z166_one ?_))
      refine bodyPost_ret (v := .tuple #[.agg z166.toArray, .int .i64 2]) ?_ rfl ⟨z166, by rw [E0.out.2], by rw [E0.out.1]; exact z_sv _, (H6.out.put z166_length).1⟩
      have q := (H6.out.put z166_length).2
      simp only [results, Try.results14]
      simp [asAddr, run_loadVar_mid _ w.heap.size 0 46 z166 _ q Try.underlying46 rfl (by rw [z166_length]; exact step_size)]
    | true =>
      have her : er = 0 := by rw [← HER.out]; unfold drE; rw [hq1]
      subst her
      cases b2 with
      | false =>
        have HU : Hid (isS xs = false) := by rw [HIS.out, hq1]; rfl
        have E0 : Hid (dSp xs = ⟨zRt, [], [], []⟩ ∧ dsE xs = 2) := ds_no HU.out
        go_wp2_with (first
         | (refine wp_build0s 46 rfl rfl z166.toArray (build_z w6) ?_)
         | (refine wpList_store_mid rfl 46 _ _ rfl w.heap.size 0 z166.toArray rfl rfl (there_of H6.out.there z166_length) (size_step z166_length) z166_one ?_))
        refine bodyPost_ret (v := .tuple #[.agg z166.toArray, .int .i64 2]) ?_ rfl ⟨z166, by rw [E0.out.2], by rw [E0.out.1]; exact z_sv _, (H6.out.put z166_length).1⟩
        have q := (H6.out.put z166_length).2
        simp only [results, Try.results14]
        simp [asAddr, run_loadVar_mid _ w.heap.size 0 46 z166 _ q Try.underlying46 rfl (by rw [z166_length]; exact step_size)]
      | true =>
        cases b3 with
        | false =>
          have HU : Hid (isS xs = false) := by rw [HIS.out, hq1]; rfl
          have E0 : Hid (dSp xs = ⟨zRt, [], [], []⟩ ∧ dsE xs = 2) := ds_no HU.out
          go_wp2_with (first
           | (refine wp_build0s 46 rfl rfl z166.toArray (build_z w6) ?_)
           | (refine wpList_store_mid rfl 46 _ _ rfl w.heap.size 0 z166.toArray rfl rfl (there_of H6.out.there z166_length) (size_step z166_length) z166_one ?_))
          refine bodyPost_ret (v := .tuple #[.agg z166.toArray, .int .i64 2]) ?_ rfl ⟨z166, by rw [E0.out.2], by rw [E0.out.1]; exact z_sv _, (H6.out.put z166_length).1⟩
          have q := (H6.out.put z166_length).2
          simp only [results, Try.results14]
          simp [asAddr, run_loadVar_mid _ w.heap.size 0 46 z166 _ q Try.underlying46 rfl (by rw [z166_length]; exact step_size)]
        | true =>
          cases b4 with
          | false =>
            have HU : Hid (isS xs = false) := by rw [HIS.out, hq1]; rfl
            have E0 : Hid (dSp xs = ⟨zRt, [], [], []⟩ ∧ dsE xs = 2) := ds_no HU.out
            go_wp2_with (first
             | (refine wp_build0s 46 rfl rfl z166.toArray (build_z w6) ?_)
             | (refine wpList_store_mid rfl 46 _ _ rfl w.heap.size 0 z166.toArray rfl rfl (there_of H6.out.there z166_length) (size_step z166_length) z166_one ?_))
            refine bodyPost_ret (v := .tuple #[.agg z166.toArray, .int .i64 2]) ?_ rfl ⟨z166, by rw [E0.out.2], by rw [E0.out.1]; exact z_sv _, (H6.out.put z166_length).1⟩
            have q := (H6.out.put z166_length).2
            simp only [results, Try.results14]
            simp [asAddr, run_loadVar_mid _ w.heap.size 0 46 z166 _ q Try.underlying46 rfl (by rw [z166_length]; exact step_size)]
          | true =>
            have HU : Hid (isS xs = true) := by rw [HIS.out, hq1]; rfl
            have E0 := ds_yes HU.out
            rw [HXE.out.1, HXE.out.2.1, HXE.out.2.2.1, HXE.out.2.2.2] at E0
            have hart : aRt X1 = dRt X1 := by unfold aRt; rw [hq1]
            have E1 : Hid (dSp xs = ⟨aRt X1, rdn X2, rdl X3, rdk X4⟩ ∧ dsE xs = 0) := by rw [hart]; exact E0
            clear E0 hart hq1
            obtain ⟨m, hm3⟩ : ∃ m, X3.length = m * 64 := ⟨X3.length / 64, by have := of_decide_eq_true HBB.out.2.1; omega⟩
            have hm1 : m * 64 ≤ 1048576 := by rw [← hm3]; exact HLX.out.2.2.1.2
            have hrd : rdh 2 X3 = (List.range (m * 2)).map (dvAt X3) := by
              unfold rdh; rw [if_pos (show X3.length % (32 * 2) = 0 by omega), show X3.length / 32 = m * 2 by omega]
            have HRL3 : Hid (rdl X3 = (List.range m).map (lfAt X3)) := by
              show _ = _
              unfold rdl; rw [if_pos (by omega), show X3.length / 64 = m by omega]
            rw [hrd] at L6
            have HYK : Hid (∀ x ∈ (List.range (m * 2)).map (dvAt X3), L32 x) := L6.out.2.1
            have HYS := L6.out.ys
            obtain ⟨ad2, cap2, hval, hc2, hx2⟩ := HYS
            rw [List.length_map, List.length_range] at hval hc2
            cases hval
            have HXX : Hid (((List.range (m * 2)).map (dvAt X3) = [] ∧ (a2 = none → c2 = 0)) ∨ ∃ b o, a2 = some ⟨b, o, none⟩ ∧ b < w6.heap.size ∧ ∀ (i : Nat) (x : List Int), ((List.range (m * 2)).map (dvAt X3))[i]? = some x → w6.rangeAt b (o + i * 32) (bv x)) := hx2
            obtain ⟨N, hN⟩ : ∃ N, m * 2 = N := ⟨_, rfl⟩
            have HN : Hid (m * 2 = N) := hN
            rw [hN]
            obtain ⟨B0, hB0⟩ : ∃ B0, w6.heap.size = B0 := ⟨_, rfl⟩
            have HB0 : Hid (w6.heap.size = B0) := hB0
            rw [hB0] at HXX
            clear hx2 hN hB0 hrd hm3 hc2
            go_wp2_with fail
            go_loopw [14, 15] (fun ov i wr => ∃ k : Nat, k ≤ m ∧ i = .int .i64 ((k * 2 : Nat) : Int) ∧ LO B0 wr ov ((List.range k).map (lfAt X3)) ∧ Below B0 w6 wr) (fun _ i _ => N - (intOf i).toNat)
            case atStart => exact ⟨0, Nat.zero_le _, rfl, LO.nil' (Nat.le_of_eq HB0.out.symm), Below.refl _ _⟩
            case round =>
              obtain ⟨k, hkn, rfl, h1, h2⟩ := hrel
              by_cases hlt : k < m
              · obtain ⟨x, hxe⟩ : ∃ x, lfAt X3 k = x := ⟨_, rfl⟩
                have hin : ∀ i, i < m * 2 → ((List.range (m * 2)).map (dvAt X3))[i]? = some (dvAt X3 i) := fun i hi => by simp [hi]
                have hok : ∀ i, i < m * 2 → L32 (dvAt X3 i) := fun i hi => HYK.out _ (List.mem_of_getElem? (hin i hi))
                rcases HXX.out with ⟨h0, _⟩ | ⟨b, o, rfl, hlb, hmm⟩
                · have := congrArg List.length h0; simp at this; omega
                have HXK : Hid x.Ok := by rw [← hxe, lfAt_dv]; exact ⟨hok _ (by omega), hok _ (by omega)⟩
                obtain ⟨ls, hls⟩ : ∃ ls, (List.range k).map (lfAt X3) = ls := ⟨_, rfl⟩
                have HLN : Hid (ls.length + 1 ≤ 3000000000000) := by show _ ≤ _; rw [← hls, List.length_map, List.length_range]; omega
                have HSN : Hid ((List.range (k + 1)).map (lfAt X3) = ls ++ [x]) := by show _ = _; rw [List.range_succ, List.map_append, hls, ← hxe]; rfl
                rw [hls] at h1
                obtain ⟨W2, hW2⟩ : ∃ W2, wr.drew = W2 := ⟨_, rfl⟩
                have HW2 : Hid (wr.drew = W2) := hW2
                have b3 : Below B0 w6 W2 := by rw [← hW2]; exact h2.drew
                have HRW : Hid (LO B0 W2 u14 ls) := by rw [← hW2]; exact h1
                have BW2 : Hid (Below B0 w6 W2) := b3
                obtain ⟨I0, hI0⟩ : ∃ I, k * 2 = I := ⟨_, rfl⟩
                obtain ⟨I1, hI1⟩ : ∃ I, k * 2 + 1 = I := ⟨_, rfl⟩
                have RP0 : W2.rangeAt b (o + I0 * 32) (bv x.p) := by rw [← hxe, lfAt_dv, ← hI0]; exact range_low9 (hmm _ _ (hin _ (by omega))) b3 hlb
                have RP1 : W2.rangeAt b (o + I1 * 32) (bv x.q) := by rw [← hxe, lfAt_dv, ← hI1]; exact range_low9 (hmm _ _ (hin _ (by omega))) b3 hlb
                have HNN := HN.out
                have hw1 : IntKind.i64.wrap ((I0 : Int) + 1) = (I1 : Int) := by rw [IntKind.wrap_i64]; omega
                have hlt0 : (I0 : Int) < (N : Int) := by omega
                have hlt1 : (I1 : Int) < (N : Int) := by omega
                have HI0 : Hid (k * 2 = I0) := hI0
                rw [hI0]
                have cap := c2
                clear hxe hin hok hmm hls h1 h2 b3 hI1 hI0 hW2 cap
                go_upto_region 14 with (fail)
                refine RU.wp_rgn' [11, 12, 13] (rslf u14 b o N c2 I0 I1 x) (fun i => if i = 0 then 1 else 0) (rcΩ W2 (W2.alloc (.cells (lfc x).toArray 84)) (.slice (some ⟨W2.heap.size, 0, none⟩) 1 1) (fun v9 w1 => LO B0 w1 v9 (ls ++ [x]) ∧ Below B0 W2 w1)) (by kernel_rfl) (by kernel_rfl) HW2.out ?_ ?_
                · refine ⟨?_, ?_, ?_, ?_, ?_, ?_, ?_, ?_, ?_, ?_, ?_, ?_, ?_, ?_, trivial⟩
                  · refine RU.ObT.pure rfl rfl rfl (fun a V hf hp ev he hc W => ?_)
                    have q14 : ev (.tmp 14) = u14 := (he (.tmp 14)).trans (hf 14 rfl)
                    simp only [List.getElem_toArray, List.getElem_cons_succ, List.getElem_cons_zero, execOp, Option.map_some, Option.map_none]; rw [q14]
                    first | (go_simp; done) | (go_simp; rfl) | rfl
                  · refine RU.ObT.pure rfl rfl rfl (fun a V hf hp ev he hc W => ?_)
                    have q10 : ev (.tmp 10) = .slice (some ⟨b, o, none⟩) N c2 := (he (.tmp 10)).trans (hf 10 rfl)
                    simp only [List.getElem_toArray, List.getElem_cons_succ, List.getElem_cons_zero, execOp, Option.map_some, Option.map_none]; rw [q10]
                    first | (go_simp; done) | (go_simp; rfl) | rfl
                  · refine RU.ObT.pure rfl rfl rfl (fun a V hf hp ev he hc W => ?_)
                    have q15 : ev (.tmp 15) = .int .i64 (I0 : Int) := (he (.tmp 15)).trans (hf 15 rfl)
                    simp only [List.getElem_toArray, List.getElem_cons_succ, List.getElem_cons_zero, execOp, Option.map_some, Option.map_none]; rw [q15]
                    first | (go_simp; done) | (go_simp; rfl) | rfl
                  · refine RU.ObT.pure rfl rfl rfl (fun a V hf hp ev he hc W => ?_)
                    have q74 : ev (.tmp 74) = .slice (some ⟨b, o, none⟩) N c2 := (he (.tmp 74)).trans (hp 1 74 rfl)
                    have q75 : ev (.tmp 75) = .int .i64 (I0 : Int) := (he (.tmp 75)).trans (hp 2 75 rfl)
                    simp only [List.getElem_toArray, List.getElem_cons_succ, List.getElem_cons_zero, execOp, Option.map_some, Option.map_none]; rw [q74, q75]
                    have hk9 := hlt0
                    first | (go_simp; done) | (go_simp; rfl) | rfl
                  · refine RU.ObT.silent rfl (fun a W k0 V hO hf hp hk => ?_)
                    have q76 : a.eval (.tmp 76) = .pointer (some ⟨b, o + I0 * 32, none⟩) := hp 3 76 rfl
                    exact RU.ob_op rfl (RU.wanted_none rfl) (wp_load_mid 23 (.tmp 76) rfl (b) (o + I0 * 32) q76 (bv x.p) _ ((by rw [show W = _ from (by obtain rfl := Nat.le_zero.1 hk; exact hO)]; exact RP0)) Try.underlying23 rfl (size_l32 HXK.out.p) ⟨rfl, hO⟩)
                  · refine RU.ObT.pure rfl rfl rfl (fun a V hf hp ev he hc W => ?_)
                    have q10 : ev (.tmp 10) = .slice (some ⟨b, o, none⟩) N c2 := (he (.tmp 10)).trans (hf 10 rfl)
                    simp only [List.getElem_toArray, List.getElem_cons_succ, List.getElem_cons_zero, execOp, Option.map_some, Option.map_none]; rw [q10]
                    first | (go_simp; done) | (go_simp; rfl) | rfl
                  · refine RU.ObT.pure rfl rfl rfl (fun a V hf hp ev he hc W => ?_)
                    have q15 : ev (.tmp 15) = .int .i64 (I0 : Int) := (he (.tmp 15)).trans (hf 15 rfl)
                    simp only [List.getElem_toArray, List.getElem_cons_succ, List.getElem_cons_zero, execOp, Option.map_some, Option.map_none]; rw [q15]
                    first | (go_simp; done) | (go_simp; rfl) | rfl
                  · refine RU.ObT.pure rfl rfl rfl (fun a V hf hp ev he hc W => ?_)
                    have q79 : ev (.tmp 79) = .int .i64 (I0 : Int) := (he (.tmp 79)).trans (hp 6 79 rfl)
                    simp only [List.getElem_toArray, List.getElem_cons_succ, List.getElem_cons_zero, execOp, Option.map_some, Option.map_none]; rw [q79]
                    try simp only [hc]
                    have hw9 := hw1
                    first | (go_simp; done) | (go_simp; rfl) | rfl
                  · refine RU.ObT.pure rfl rfl rfl (fun a V hf hp ev he hc W => ?_)
                    have q78 : ev (.tmp 78) = .slice (some ⟨b, o, none⟩) N c2 := (he (.tmp 78)).trans (hp 5 78 rfl)
                    have q80 : ev (.tmp 80) = .int .i64 (I1 : Int) := (he (.tmp 80)).trans (hp 7 80 rfl)
                    simp only [List.getElem_toArray, List.getElem_cons_succ, List.getElem_cons_zero, execOp, Option.map_some, Option.map_none]; rw [q78, q80]
                    have hk9 := hlt1
                    first | (go_simp; done) | (go_simp; rfl) | rfl
                  · refine RU.ObT.silent rfl (fun a W k0 V hO hf hp hk => ?_)
                    have q81 : a.eval (.tmp 81) = .pointer (some ⟨b, o + I1 * 32, none⟩) := hp 8 81 rfl
                    exact RU.ob_op rfl (RU.wanted_none rfl) (wp_load_mid 23 (.tmp 81) rfl (b) (o + I1 * 32) q81 (bv x.q) _ ((by rw [show W = _ from (by obtain rfl := Nat.le_zero.1 hk; exact hO)]; exact RP1)) Try.underlying23 rfl (size_l32 HXK.out.q) ⟨rfl, hO⟩)
                  · refine RU.ObT.pure rfl rfl rfl (fun a V hf hp ev he hc W => ?_)
                    have q77 : ev (.tmp 77) = .agg (bv x.p).toArray := (he (.tmp 77)).trans (hp 4 77 rfl)
                    have q82 : ev (.tmp 82) = .agg (bv x.q).toArray := (he (.tmp 82)).trans (hp 9 82 rfl)
                    simp only [List.getElem_toArray, List.getElem_cons_succ, List.getElem_cons_zero, execOp, List.map_toArray, List.map_cons, List.map_nil, q77, q82, Sem.run_bind, build_lf HXK.out W, Result.andThen_ok, Sem.run_pure]
                    rfl
                  · refine RU.ObT.loud (j := 0) rfl (fun a W V hO hf hp => ?_)
                    have q1 : a.eval (.tmp 83) = .agg (lfc x).toArray := hp 10 83 rfl
                    have hW : W = W2 := hO
                    subst hW
                    refine RU.ob_run (v := .slice (some ⟨W.heap.size, 0, none⟩) 1 1) (w' := W.alloc (.cells (lfc x).toArray 84)) rfl (RU.wanted_none rfl) (fun ev he hc => ?_) ⟨_, rfl, rfl, rfl⟩
                    have e1 := (he (.tmp 83)).trans q1
                    simp only [List.getElem_toArray, List.getElem_cons_succ, List.getElem_cons_zero, execOp, List.map_toArray, List.map_cons, List.map_nil, e1, Sem.run_bind, run_onel W HXK.out, Result.andThen_ok, Sem.run_pure]
                  · refine RU.ObT.loud (j := 1) rfl (fun a W V hO hf hp => ?_)
                    have q1 : a.eval (.tmp 73) = u14 := hp 0 73 rfl
                    have q2 : a.eval (.tmp 84) = .slice (some ⟨W2.heap.size, 0, none⟩) 1 1 := (hp 11 84 rfl).trans hO.1
                    have hW : W = W2.alloc (.cells (lfc x).toArray 84) := hO.2
                    obtain ⟨v', w', hr, p1, p2, p3⟩ := app_lown (HRW.out.alloc (.cells (lfc x).toArray 84)) (m := [x]) (fun y hy => by rw [List.mem_singleton.1 hy]; exact HXK.out) (ls_one W2 x 84) (by have := HLN.out; simp only [List.length_cons, List.length_nil]; omega)
                    refine RU.ob_run (v := v') (w' := w') rfl (RU.wanted_none rfl) (fun ev he hc => ?_) ⟨_, rfl, ⟨p1, ((Below.refl _ W2).alloc HRW.out.2.2 _).trans p2⟩⟩
                    have e1 := (he (.tmp 73)).trans q1
                    have e2 := (he (.tmp 84)).trans q2
                    rw [hW]
                    simp only [List.getElem_toArray, List.getElem_cons_succ, List.getElem_cons_zero, execOp, resolve, invoke, builtin, Sem.run_bind, Sem.run_pure, Result.andThen_ok, List.map_toArray, List.map_cons, List.map_nil, e1, e2, hr]
                  · refine RU.ObT.loud (j := 2) rfl (fun a W V hO hf hp => ?_)
                    have q1 : a.eval (.tmp 85) = V 1 := hp 12 85 rfl
                    refine RU.ob_val (v := V 1) rfl (RU.wanted_none rfl) (fun ev he hc => ?_) ⟨_, rfl, hO⟩
                    have e1 := (he (.tmp 85)).trans q1
                    simp only [List.getElem_toArray, List.getElem_cons_succ, List.getElem_cons_zero, execOp]
                    rw [e1]
                    first | rfl | go_simp
                intro W1 VW1 hOW1
                have PW1 : Hid (LO B0 W1 (VW1 2) (ls ++ [x]) ∧ Below B0 W2 W1) := hOW1
                clear hOW1
                simp only [RU.lay, RU.val, show RU.at' [11, 12, 13] 0 = none from rfl, show RU.at' [11, 12, 13] 1 = none from rfl, show RU.at' [11, 12, 13] 2 = none from rfl, show RU.at' [11, 12, 13] 3 = none from rfl, show RU.at' [11, 12, 13] 4 = none from rfl, show RU.at' [11, 12, 13] 5 = none from rfl, show RU.at' [11, 12, 13] 6 = none from rfl, show RU.at' [11, 12, 13] 7 = none from rfl, show RU.at' [11, 12, 13] 8 = none from rfl, show RU.at' [11, 12, 13] 9 = none from rfl, show RU.at' [11, 12, 13] 10 = none from rfl, show RU.at' [11, 12, 13] 11 = some 0 from rfl, show RU.at' [11, 12, 13] 12 = some 1 from rfl, show RU.at' [11, 12, 13] 13 = some 2 from rfl, rslf, Act.put]
                simp only [List.setIfInBounds_toArray, List.set_cons_succ, List.set_cons_zero]
                have O6 : Hid (LO B0 W1 (VW1 2) ((List.range (k + 1)).map (lfAt X3))) := by rw [HSN.out]; exact PW1.out.1
                have G6 : Hid (Below B0 w6 W1) := BW2.out.trans PW1.out.2
                obtain ⟨v9, hv9⟩ : ∃ q, VW1 2 = q := ⟨_, rfl⟩
                rw [hv9] at O6 ⊢
                clear hv9 PW1
                go_wp2_with fail
                exact ⟨⟨k + 1, hlt, by rw [Nat.add_mul, HI0.out]; rfl, O6.out, G6.out⟩, by simp [intOf]; omega⟩
              · obtain rfl : k = m := by omega
                have G9 : Hid (Below w6.heap.size w6 wr) := by rw [HB0.out]; exact h2
                have O9 : Hid (LO w6.heap.size wr u14 (rdl X3)) := by rw [HRL3.out, HB0.out]; exact h1
                have h9 : ¬ ((k * 2 : Nat) : Int) < (N : Int) := by rw [HN.out]; omega
                obtain ⟨a4, n4, c4, rfl⟩ := LS.sl h1.ls
                have N9 : Hid (NO W3.heap.size wr (.slice a1 n1 c1) (rdn X2)) := N6.out.below G9.out
                have K9 : Hid (KO w5.heap.size wr (.slice a3 n3 c3) (rdk X4)) := K6.out.below G9.out
                have R9 : Hid (wr.rangeAt D 0 (aRt X1).cells) := range_below R6.out.1 G9.out R6.out.2
                have H9 : Hid (Hd w wr 166) := H6.out.step G9.out
                have HSL : Hid ((sc (aRt X1) (.slice a1 n1 c1) (.slice a4 n4 c4) (.slice a3 n3 c3)).length = 166) := sc_L HRL.out _ _ _
                have HL9 : Hid (w.heap.size < w6.heap.size) := H6.out.size
                clear h1 h2
                go_wp2_with (first
                  | (refine wpList_load_mid rfl 26 _ rfl D 0 rfl (aRt X1).cells _ R9.out Try.underlying26 rfl (by rw [HCL.out]; exact root_size) ?_)
                  | (refine wp_build4 46 _ _ _ _ rfl rfl (.agg (aRt X1).cells.toArray) (.slice a1 n1 c1) (.slice a4 n4 c4) (.slice a3 n3 c3) rfl rfl rfl rfl _ (build_step HRL.out a1 a4 a3 n1 n4 n3 c1 c4 c3 wr) ?_)
                  | (refine wpList_store_mid rfl 46 _ _ rfl w.heap.size 0 (sc (aRt X1) (.slice a1 n1 c1) (.slice a4 n4 c4) (.slice a3 n3 c3)).toArray rfl rfl (there_of H9.out.there HSL.out) (size_step HSL.out) (sc_one _ _ _ _ _ _ _ _ _ _) ?_))
                refine bodyPost_ret (v := .tuple #[.agg (sc (aRt X1) (.slice a1 n1 c1) (.slice a4 n4 c4) (.slice a3 n3 c3)).toArray, .int .i64 0]) ?_ rfl ⟨_, by rw [E1.out.2], by rw [E1.out.1]; exact ⟨_, _, _, rfl, N9.out.setc HLT.out.1, O9.out.setc HL9.out, K9.out.setc HLT.out.2.2⟩, (H9.out.put HSL.out).1⟩
                have q := (H9.out.put HSL.out).2
                simp only [results, Try.results14]
                simp [asAddr, run_loadVar_mid _ w.heap.size 0 46 (sc (aRt X1) (.slice a1 n1 c1) (.slice a4 n4 c4) (.slice a3 n3 c3)) _ q Try.underlying46 rfl (by rw [HSL.out]; exact step_size)]
end Go.Proofs.Ytfnmdeekenjlgaa
