/- The walk of WireKeeps. -/
import Derived.Test.YtagfjpafbpoebabWirY
namespace Go.Proofs.Ytagfjpafbpoebab
open Go Go.RowKit
set_option linter.unusedSimpArgs false
set_option linter.unusedVariables false

theorem decL_len {xs : List Int} (hb : Byt xs) : (decL xs).length ≤ 65536 ∧ ∀ m ∈ decL xs, Byt m ∧ m.length ≤ 1048576 := by
  by_cases h1 : 1048576 < xs.length
  · rw [(dec_large h1).2]; exact ⟨by simp, fun m hm => by cases hm⟩
  by_cases h2 : xs.length < 4 ∨ 65536 < cnt xs
  · rw [(dec_form h1 h2).2]; exact ⟨by simp, fun m hm => by cases hm⟩
  cases hd : dk xs (cnt xs) with
  | none => rw [(dec_none h1 h2 hd).2]; exact ⟨by simp, fun m hm => by cases hm⟩
  | some p =>
    obtain ⟨l, r⟩ := p
    obtain ⟨e1, e2, e3, e4⟩ := dk_inv hb hd
    by_cases hr : r.length = 0
    · rw [(dec_ok h1 h2 hd hr).2]
      exact ⟨by omega, fun m hm => ⟨(e4 m hm).1, by have := (e4 m hm).2; omega⟩⟩
    · rw [(dec_rest h1 h2 hd hr).2]; exact ⟨by simp, fun m hm => by cases hm⟩
theorem addr_lt {W : World} {b o : Nat} {v : Value} (h : W.cell? ⟨b, o, none⟩ = some v) : b < W.heap.size := by
  unfold World.cell? at h
  split at h
  · rename_i hg; exact (Array.getElem?_eq_some_iff.1 hg).1
  · cases h
theorem Ow.lies {B0 : Nat} {w : World} {v : Value} {xs : List Int} (h : Ow B0 w v xs) (h0 : 0 < xs.length) : ∃ g cap, v = .slice (some ⟨g, 0, none⟩) xs.length cap ∧ xs.length ≤ cap := by
  rcases h.2 with ⟨_, h1⟩ | ⟨g, cap, cur, hv, _, _, hc, _⟩
  · omega
  · exact ⟨g, cap, hv, hc⟩
theorem OL.keep {B0 : Nat} {w w' : World} {v : Value} {us : List Value} {xss : List (List Int)} (h : OL B0 w v us xss) (hs : w.heap.size ≤ w'.heap.size) (hk : ∀ b, B0 ≤ b → b < w.heap.size → w'.heap[b]? = w.heap[b]?) : OL B0 w' v us xss := by
  refine ⟨h.len, ?_, fun i u hu => (h.mem i u hu).keep (fun b hb => hk b ((h.mem i u hu).blk b hb) ((h.mem i u hu).lt b hb)), fun i u hu b e => ⟨Nat.lt_of_lt_of_le (h.apart i u hu b e).1 hs, (h.apart i u hu b e).2⟩, h.dist⟩
  refine ⟨h.row.1, ?_⟩
  rcases h.row.2 with h1 | ⟨g, cap, cur, rfl, hg, hh, rest⟩
  · exact .inl h1
  · exact .inr ⟨g, cap, cur, rfl, hg, by rw [hk g hg (Array.getElem?_eq_some_iff.1 hh).1]; exact hh, rest⟩
theorem mem_mi {xss : List (List Int)} {i : Nat} (h : i < xss.length) : mi xss i ∈ xss := by rw [mi_get h]; exact List.getElem_mem h
/-- At the beginning. -/
theorem XR.begin {Bx By : Nat} {w4 w6 : World} {v : Value} {us : List Value} {l : List (List Int)} (h : OL Bx w4 v us l) (hy : w4.heap.size = By) (hl : ∀ m ∈ l, m.length ≤ 1048576) (hb : Below w4.heap.size w4 w6) : XR Bx By w6.heap.size w6 w6 v us 0 := by
  have h6 := h.below hb
  refine ⟨h6.row, fun _ _ _ => rfl, ⟨rfl, rfl, rfl⟩, Nat.le_refl _, fun b e => ⟨(h.blk b e).1, by have := (h.blk b e).2; omega⟩, fun j u _ hu => ⟨_, h6.mem j u hu, ?_⟩, fun j u _ hu b e => ⟨.inl (by have := (h.apart j u hu b e).1; omega), (h.apart j u hu b e).2⟩, fun j k u u' _ hjk hu hu' => h.dist j k u u' hjk hu hu'⟩
  exact hl _ (mem_mi (by rw [← h.len]; exact (List.getElem?_eq_some_iff.1 hu).1))
set_option maxHeartbeats 4000000 in
theorem wireKeeps_walk (xss : List (List Int)) (v : Value) (ys : List Int) (u : Value) (w : World) (hs : LL w v xss) (hL : Lens xss) (hn : xss.length * 24 ≤ 140737488355328) (hb : Byt ys) (hu : Sl w u ys) (hl : ys.length ≤ 140737488351232) :
    Calls Try.prog 5 #[v, u] w fun e w' => e = .returned (.bool true) ∧ Below w.heap.size w w' := by
  have HS : Hid (LL w v xss) := hs
  have HU : Hid (Sl w u ys) := hu
  have HL : Hid (Lens xss) := hL
  have HB : Hid (Byt ys) := hb
  have HDL : Hid ((decL ys).length ≤ 65536 ∧ ∀ m ∈ decL ys, Byt m ∧ m.length ≤ 1048576) := decL_len hb
  have hn1 : xss.length ≤ 140737488355328 := by omega
  obtain ⟨adu, cpu, hue, -, -⟩ := hu
  subst hue
  clear hs hL hb
  go_enter Try.func5, Try.ntmps5
  go_wp2_with fail
  refine (awake_any w).mono ?_
  rintro e w1 ⟨rfl, h1⟩
  have H1 : Hid (Below w.heap.size w w1) := h1
  clear h1
  go_wp2_with (first
    | (at_builtin; refine app_u8 (B0 := w1.heap.size) rfl (.tmp 21) (.tmp 22) rfl (by simp) _ [] rfl (Ow.lit w1 [] #[] 0 rfl rfl (by simp)) _ rfl ys (HU.out.below (H1.out.alloc H1.out.size _) (Nat.le_refl _)) (by simp; omega) ?_; intro v2 w2 h1 h2 h3 h4; rw [List.nil_append] at h1; have H2 : Hid (Ow w1.heap.size w2 v2 ys) := h1; have H3 : Hid (Below w1.heap.size w1 w2) := ((Below.refl _ w1).alloc (Nat.le_refl _) _).trans h3; clear h1 h2 h3 h4)
    | (at_builtin; refine app_u8 (B0 := w1.heap.size) rfl (.tmp 23) (.tmp 24) rfl (by have := H3.out.size; simp; omega) v2 ys rfl (H2.out.alloc _) _ rfl [77] (Sl.one _ _ _) (by simp; omega) ?_; intro v3 w3 h1 h2 h3 h4; have H4 : Hid (Ow w1.heap.size w3 v3 (ys ++ [77])) := h1; have H5 : Hid (Below w1.heap.size w1 w3) := (H3.out.alloc H3.out.size _).trans h3; clear h1 h2 h3 h4; obtain ⟨g0, c0, hv3, hc0⟩ := H4.out.lies (by simp); rw [List.length_append, List.length_singleton] at hv3 hc0; subst hv3)
    | fail)
  have HI : Hid (Sl w3 (.slice (some ⟨g0, 0, none⟩) ys.length c0) ys) := by
    have h := (H4.out.sl.cut ys.length (by omega)).1
    rw [List.take_left] at h; exact h
  have H5' : Hid (Below w.heap.size w w3) := H1.out.trans (H5.out.mono H1.out.size)
  refine (decode_any ys _ w3 HB.out HI.out (by omega)).mono ?_
  rintro e w4 ⟨vx, usx, rfl, h6, h7⟩
  have H6 : Hid (OL w3.heap.size w4 vx usx (decL ys)) := h6
  have H7 : Hid (Below w3.heap.size w3 w4) := h7
  clear h6 h7
  go_wp2_with fail
  refine (decode_any ys _ w4 HB.out (HI.out.below H7.out (Nat.le_refl _)) (by omega)).mono ?_
  rintro e w5 ⟨vy, usy, rfl, h6, h7⟩
  have H8 : Hid (OL w4.heap.size w5 vy usy (decL ys)) := h6
  have H9 : Hid (Below w4.heap.size w4 w5) := h7
  clear h6 h7
  go_wp2_with fail
  have H35 : Hid (Below w3.heap.size w3 w5) := H7.out.trans (H9.out.mono H7.out.size)
  refine (rdecode_any ys _ w5 HB.out (HU.out.below (H5'.out.trans (H35.out.mono H5'.out.size)) (Nat.le_refl _)) (by omega)).mono ?_
  rintro e w6 ⟨vw, usw, rfl, h6, h7⟩
  have H10 : Hid (OL w5.heap.size w6 vw usw (decL ys)) := h6
  have H11 : Hid (Below w5.heap.size w5 w6) := h7
  have H36 : Hid (Below w3.heap.size w3 w6) := H35.out.trans (h7.mono H35.out.size)
  have H46 : Hid (Below w4.heap.size w4 w6) := H9.out.trans (h7.mono H9.out.size)
  have H12 : Hid (OL w4.heap.size w6 vy usy (decL ys)) := H8.out.below h7
  clear h6 h7 H8 H35
  obtain ⟨n, hnn⟩ : ∃ n, (decL ys).length = n := ⟨_, rfl⟩
  have HN : Hid ((decL ys).length = n) := hnn
  obtain ⟨adx, cpx, hvx, -, -⟩ := H6.out.ll
  rw [hnn] at hvx
  subst hvx
  have hn65 : n ≤ 65536 := by rw [← hnn]; exact HDL.out.1
  clear hnn
  have X0 : Hid (XR w3.heap.size w4.heap.size w6.heap.size w6 w6 (.slice adx n cpx) usx 0) := XR.begin H6.out rfl (fun m hm => (HDL.out.2 m hm).2) H46.out
  have UX : Hid (usx.length = n) := H6.out.len.trans HN.out
  obtain ⟨Bx, hBx⟩ : ∃ B, w3.heap.size = B := ⟨_, rfl⟩
  obtain ⟨By, hBy⟩ : ∃ B, w4.heap.size = B := ⟨_, rfl⟩
  obtain ⟨Bz, hBz⟩ : ∃ B, w6.heap.size = B := ⟨_, rfl⟩
  have EX : Hid (w3.heap.size = Bx) := hBx
  have EY : Hid (w4.heap.size = By) := hBy
  have EZ : Hid (w6.heap.size = Bz) := hBz
  rw [hBx, hBy, hBz] at X0
  clear hBx hBy hBz
  go_wp2_with fail
  go_loopw [47] (fun i wr => ∃ (k : Nat) (us : List Value), k ≤ n ∧ us.length = n ∧ i = .int .i64 (k : Int) ∧ XR Bx By Bz w6 wr (.slice adx n cpx) us k) (fun i _ => n - (intOf i).toNat)
  case atStart => exact ⟨0, usx, Nat.zero_le _, UX.out, rfl, X0.out⟩
  case round =>
    obtain ⟨k, us, hk, hun, rfl, hX⟩ := hrel
    have HX : Hid (XR Bx By Bz w6 wr (.slice adx n cpx) us k) := hX
    have HUN : Hid (us.length = n) := hun
    clear hX X0 UX
    by_cases hlt : k < n
    · have gk : (k : Int) < (n : Int) := by omega
      have hku : us[k]? = some us[k] := List.getElem?_eq_getElem (by omega)
      obtain ⟨zs, hzl, hM⟩ := HX.out.pick hku
      obtain ⟨g, cap, hv, hcell⟩ := HX.out.lies (by omega)
      have hvv : adx = some ⟨g, 0, none⟩ := by simp at hv; exact hv.1
      subst hvv
      clear hv
      obtain ⟨ue, hue⟩ : ∃ ue, us[k] = ue := ⟨_, rfl⟩
      rw [hue] at hM hku
      clear hue
      obtain ⟨au, cu, hsu, -, -⟩ := hM.own.sl
      obtain ⟨L, hLz⟩ : ∃ L, zs.length = L := ⟨_, rfl⟩
      rw [hLz] at hsu hzl
      subst hsu
      have hc1 := (hcell k _ hku).1
      have HM : Hid (XM Bx By Bz wr (.slice (some ⟨g, 0, none⟩) n cpx) us k (.slice au L cu) zs) := hM
      have HX1 : Hid (XR Bx By Bz w6 wr (.slice (some ⟨g, 0, none⟩) n cpx) us (k + 1)) := HX.out.more
      have HZ : Hid (zs.length = L) := hLz
      clear hM hcell hku hLz HX
      go_wp2_with fail
      go_loopw [55] (fun i wr => ∃ (c : Nat) (zs : List Int), c ≤ L ∧ zs.length = L ∧ i = .int .i64 (c : Int) ∧ XR Bx By Bz w6 wr (.slice (some ⟨g, 0, none⟩) n cpx) us (k + 1) ∧ XM Bx By Bz wr (.slice (some ⟨g, 0, none⟩) n cpx) us k (.slice au L cu) zs) (fun i _ => L - (intOf i).toNat)
      case atStart => exact ⟨0, zs, Nat.zero_le _, HZ.out, rfl, HX1.out, HM.out⟩
      case round =>
        obtain ⟨c, zs', hc, hzl', rfl, hX, hM⟩ := hrel
        have HX2 : Hid (XR Bx By Bz w6 wr (.slice (some ⟨g, 0, none⟩) n cpx) us (k + 1)) := hX
        have HM2 : Hid (XM Bx By Bz wr (.slice (some ⟨g, 0, none⟩) n cpx) us k (.slice au L cu) zs') := hM
        have HZ2 : Hid (zs'.length = L) := hzl'
        obtain ⟨g', cap', hv', hcell⟩ := hX.lies (by omega)
        have hgg : g' = g := by simp at hv'; exact hv'.1.symm
        subst hgg
        have hc2 := (hcell k _ hM.at').1
        clear hcell hv' hX HX1 HM
        by_cases hlt2 : c < L
        · obtain ⟨gb, cb, hgb, -⟩ := hM.own.lies (by omega)
          have hau : au = some ⟨gb, 0, none⟩ := by simp at hgb; exact hgb.1
          subst hau
          obtain ⟨cc, cf⟩ := hM.own.cell (j := c) (by omega)
          have gc : (c : Int) < (L : Int) := by omega
          clear hM hgb hzl'
          go_wp2
          obtain ⟨s1, s2⟩ := HM2.out.own.set c 9
          exact ⟨⟨c + 1, _, hlt2, by rw [List.length_set]; exact HZ2.out, by go_num, HX2.out.grow HM2.out s2, ⟨HM2.out.at', s1, HM2.out.inX⟩⟩, by simp [intOf]; omega⟩
        · have gc : ¬ (c : Int) < (L : Int) := by omega
          clear hM hzl' hc2
          go_wp2_with fail
          go_loopw [65] (fun i wr => ∃ (c : Nat) (us' : List Value) (u' : Value) (zs : List Int), c ≤ 9 ∧ us'.length = n ∧ i = .int .i64 (c : Int) ∧ zs.length ≤ 1048576 + c ∧ XR Bx By Bz w6 wr (.slice (some ⟨g', 0, none⟩) n cpx) us' (k + 1) ∧ XM Bx By Bz wr (.slice (some ⟨g', 0, none⟩) n cpx) us' k u' zs) (fun i _ => 9 - (intOf i).toNat)
          case atStart => exact ⟨0, us, _, zs', by omega, HUN.out, rfl, by rw [HZ2.out]; omega, HX2.out, HM2.out⟩
          case round =>
            obtain ⟨d, us', u', zq, hd, hun', rfl, hzq, hX, hM⟩ := hrel
            have HX3 : Hid (XR Bx By Bz w6 wr (.slice (some ⟨g', 0, none⟩) n cpx) us' (k + 1)) := hX
            have HUN' : Hid (us'.length = n) := hun'
            clear HX2 HM2 HZ2
            by_cases hlt3 : d < 9
            · obtain ⟨g'', cap'', hv', hcell⟩ := hX.lies (by omega)
              have hgg : g'' = g' := by simp at hv'; exact hv'.1.symm
              subst hgg
              have hc3 := (hcell k _ hM.at').1
              have gd : (d : Int) < 9 := by omega
              obtain ⟨au', cu', hsu', -, -⟩ := hM.own.sl
              subst hsu'
              have HM3 : Hid (XM Bx By Bz wr (.slice (some ⟨g'', 0, none⟩) n cpx) us' k (.slice au' zq.length cu') zq) := hM
              have hzr : Hid (Bx ≤ wr.heap.size) := by
                have h1 := (hX.vblk g'' rfl).1
                have h2 := (addr_lt hc3)
                show Bx ≤ wr.heap.size; omega
              have hgw : Hid (g'' < wr.heap.size) := addr_lt hc3
              clear hcell hv' hX hM
              go_wp2_with (at_builtin; refine app_u8 (B0 := Bx) rfl (.tmp 72) (.tmp 73) rfl (by have := hzr.out; simp; omega) (.slice au' zq.length cu') zq rfl (HM3.out.own.alloc _) _ rfl [9] (Sl.one _ _ _) (by simp; omega) ?_; intro v8 w8 h1 h2 h3 h4; have H20 : Hid (Ow Bx w8 v8 (zq ++ [9])) := h1; have H21 : Hid (XR Bx By Bz w6 w8 (.slice (some ⟨g'', 0, none⟩) n cpx) us' (k + 1)) := ((HX3.out.alloc _).grow (HM3.out.alloc _) h2); have H22 : Hid _ := h4; clear h1 h2 h3 h4; obtain ⟨g3, cap3, hv3, hcell3⟩ := H21.out.lies (by rw [HUN'.out]; omega); have hgg3 : g3 = g'' := (by simp at hv3; exact hv3.1.symm); subst hgg3; obtain ⟨cr, cfz⟩ := hcell3 k _ HM3.out.at'; clear hcell3 hv3; obtain ⟨a8, c8, hv8, -, -⟩ := H20.out.sl; subst hv8)
              have H20' : Ow Bx w8 (.slice a8 (zq.length + 1) c8) (zq ++ [9]) := by have h := H20.out; simpa using h
              obtain ⟨p1, p2⟩ := H21.out.put (i := k) (u := .slice a8 (zq.length + 1) c8) (zs := zq ++ [9]) (by rw [HUN'.out]; exact hlt) H20' (fun b hb => by
                have H22' : (Value.slice a8 (zq.length + 1) c8).ownBlock = (Value.slice au' zq.length cu').ownBlock ∨ (Value.slice a8 (zq.length + 1) c8).ownBlock = some (wr.heap.size + 1) := by
                  have h := H22.out
                  simpa using h
                rcases H22' with e | e
                · have hb' : (Value.slice au' zq.length cu').ownBlock = some b := e.symm.trans hb
                  obtain ⟨q1, q2, q3⟩ := HM3.out.inX b hb'
                  exact ⟨q1, fun e' => q2 (by rw [← e']; rfl), q3⟩
                · have hbb : b = wr.heap.size + 1 := by
                    have := e.symm.trans hb
                    simp at this; omega
                  have hs := HX3.out.size
                  have hg := hgw.out
                  refine ⟨.inr (by omega), by omega, fun j y hj hy e' => ?_⟩
                  obtain ⟨zz, o1, _⟩ := HX3.out.mem j y (by omega) hy
                  have := o1.lt b e'
                  omega)
              exact ⟨⟨d + 1, _, _, _, hlt3, by rw [List.length_set]; exact HUN'.out, by go_num, by simp; omega, p1, p2⟩, by simp [intOf]; omega⟩
            · have gd : ¬ (d : Int) < 9 := by omega
              clear hM
              go_wp2
              exact ⟨⟨k + 1, us', hlt, HUN'.out, by go_num, HX3.out⟩, by simp [intOf]; omega⟩
    · obtain rfl : k = n := by omega
      have gk : ¬ (k : Int) < (k : Int) := by omega
      have K3 : Hid (Below w3.heap.size w3 wr) := by
        have hx := HX.out
        exact ⟨hx.rest.1.trans H36.out.os, hx.rest.2.1.trans H36.out.tape, hx.rest.2.2.trans H36.out.output, by have h1 := H36.out.size; have h2 := hx.size; have h3 := EZ.out; omega, fun j hj => by
          have h36 := H36.out.size
          rw [hx.keep j (by rw [← EZ.out]; omega) (.inl (by rw [← EX.out]; exact hj))]; exact H36.out.block j hj⟩
      have K6 : Hid (∀ j, w4.heap.size ≤ j → j < w6.heap.size → wr.heap[j]? = w6.heap[j]?) := fun j h1 h2 => HX.out.keep j (by rw [← EZ.out]; exact h2) (.inr (by rw [← EY.out]; exact h1))
      have Z6 : Hid (w6.heap.size ≤ wr.heap.size) := by rw [EZ.out]; exact HX.out.size
      have KW : Hid (Below w.heap.size w wr) := H5'.out.trans (K3.out.mono H5'.out.size)
      have YY : Hid (LL wr vy (decL ys)) := (H12.out.keep Z6.out K6.out).ll
      have WW : Hid (LL wr vw (decL ys)) := (H10.out.keep Z6.out (fun b h1 h2 => K6.out b (Nat.le_trans H9.out.size h1) h2)).ll
      have RR : Hid (Sl wr (.slice (some ⟨g0, 0, none⟩) (ys.length + 1) c0) (ys ++ [77])) := by
        exact H4.out.sl.below K3.out (Nat.le_refl _)
      have II : Hid (Sl wr (.slice (some ⟨g0, 0, none⟩) ys.length c0) ys) := HI.out.below K3.out (Nat.le_refl _)
      clear HX K3 K6 Z6 H12 H10 H36 H46 H9 H11 H6 H7 EX EY EZ HI H4
      go_wp2_with fail
      refine (copyList_any xss v wr (HS.out.below KW.out) HL.out hn).mono ?_
      rintro e w8 ⟨v8, us8, rfl, h4, h5⟩
      have CC : Hid (LL w8 v8 xss) := h4.ll
      have H8 : Hid (Below w.heap.size w w8) := KW.out.trans (h5.mono KW.out.size)
      have Y8 : Hid (LL w8 vy (decL ys)) := YY.out.below h5
      have W8 : Hid (LL w8 vw (decL ys)) := WW.out.below h5
      have R8 : Hid (Sl w8 (.slice (some ⟨g0, 0, none⟩) (ys.length + 1) c0) (ys ++ [77])) := RR.out.below h5 (Nat.le_refl _)
      have I8 : Hid (Sl w8 (.slice (some ⟨g0, 0, none⟩) ys.length c0) ys) := II.out.below h5 (Nat.le_refl _)
      clear h4 h5 YY WW RR II KW
      go_wp2_with fail
      refine (encode_any xss v8 w8 CC.out HL.out hn1).mono ?_
      rintro e w9 ⟨v9, rfl, h6, h7⟩
      obtain ⟨a9, c9, hv9, -, -⟩ := h6.sl
      obtain ⟨L9, hL9⟩ : ∃ L9, (encB xss).length = L9 := ⟨_, rfl⟩
      rw [hL9] at hv9
      subst hv9
      have O9 : Hid (Ow w8.heap.size w9 (.slice a9 L9 c9) (encB xss)) := h6
      have B9 : Hid (Below w8.heap.size w8 w9) := h7
      have HL9 : Hid ((encB xss).length = L9) := hL9
      have hl9 : L9 ≤ 1048576 := by
        rw [← hL9]
        cases hbg : big xss with
        | true => rw [(encE_big hbg).2]; simp
        | false => rw [(encE_ok hbg).2, encK_length]; exact (small_of hbg).2
      clear h6 h7 hL9
      go_wp2_with fail
      go_loopw [87] (fun i wr => ∃ (c : Nat) (zs : List Int), c ≤ L9 ∧ zs.length = L9 ∧ i = .int .i64 (c : Int) ∧ Ow w8.heap.size wr (.slice a9 L9 c9) zs ∧ Below w8.heap.size w8 wr) (fun i _ => L9 - (intOf i).toNat)
      case atStart => exact ⟨0, _, Nat.zero_le _, HL9.out, rfl, O9.out, B9.out⟩
      case round =>
        obtain ⟨c, zs, hc, hzl, rfl, hO, hBw⟩ := hrel
        have HO : Hid (Ow w8.heap.size wr (.slice a9 L9 c9) zs) := hO
        have HBW : Hid (Below w8.heap.size w8 wr) := hBw
        clear O9 B9 hBw
        by_cases hlt2 : c < L9
        · obtain ⟨gb, cb, hgb, -⟩ := hO.lies (by omega)
          have hau : a9 = some ⟨gb, 0, none⟩ := by simp at hgb; exact hgb.1
          subst hau
          obtain ⟨cc, cf⟩ := hO.cell (j := c) (by omega)
          have gc : (c : Int) < (L9 : Int) := by omega
          clear hO hgb
          go_wp2
          obtain ⟨s1, s2⟩ := HO.out.set c 9
          exact ⟨⟨c + 1, _, hlt2, by rw [List.length_set]; exact hzl, by go_num, s1, HBW.out.trans ((Below.refl _ wr).grown s2 HBW.out.size (fun b e => by cases e; exact HO.out.blk _ rfl))⟩, by simp [intOf]; omega⟩
        · have gc : ¬ (c : Int) < (L9 : Int) := by omega
          have s1 := (I8.out.below HBW.out (Nat.le_refl _)).str
          have BW : Hid (Below w.heap.size w wr) := H8.out.trans (HBW.out.mono H8.out.size)
          have s2 := (HU.out.below BW.out (Nat.le_refl _)).str
          have R9 := R8.out.below HBW.out (Nat.le_refl _)
          obtain ⟨ad9, cp9, hv9, -, hx9⟩ := R9
          have c77 : wr.cell? ⟨g0, ys.length, none⟩ = some (.int .u8 77) := by
            rcases hx9 with ⟨h, _⟩ | ⟨b, o, rfl, _, hm⟩
            · simp at h
            · simp at hv9
              obtain ⟨⟨rfl, rfl⟩, _⟩ := hv9
              have := hm ys.length (by simp)
              rw [Nat.zero_add] at this
              rw [this]; simp [gi]
          clear hO hx9 hv9 hzl
          go_wp2_with fail
          refine (sameList_same (decL ys) _ _ wr (Y8.out.below HBW.out) (W8.out.below HBW.out) (by have := HDL.out.1; omega)).mono ?_
          rintro e w11 ⟨rfl, h10⟩
          have B11 : Hid (Below w.heap.size w w11) := BW.out.trans (h10.mono BW.out.size)
          have C11 : Hid (LL w11 v8 xss) := (CC.out.below HBW.out).below h10
          clear h10
          go_wp2_with fail
          refine (sameList_same xss _ _ w11 C11.out (HS.out.below B11.out) hn1).mono ?_
          rintro e w12 ⟨rfl, h11⟩
          have B12 : Hid (Below w.heap.size w w12) := B11.out.trans (h11.mono B11.out.size)
          clear h11
          go_wp2
          go_ret
          exact ⟨rfl, B12.out⟩
end Go.Proofs.Ytagfjpafbpoebab
