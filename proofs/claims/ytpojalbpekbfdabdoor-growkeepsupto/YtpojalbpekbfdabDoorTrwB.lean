/- The reference's Without: what it gives is new memory. -/
import Derived.Test.YtpojalbpekbfdabDoorTrwA
namespace Go.Proofs.YtpojalbpekbfdabDoor
open Go Go.RowKit
set_option linter.unusedSimpArgs false
set_option linter.unusedVariables false
set_option maxRecDepth 100000

theorem NO.mono {B C : Nat} {w : World} {v : Value} {l : List Nd} (h : NO B w v l) (hC : C ≤ B) : NO C w v l := by
  refine ⟨⟨h.1.1, ?_⟩, h.2.1, Nat.le_trans hC h.2.2⟩
  rcases h.1.2 with q | ⟨g, cap, cur, hv, hb, hg⟩
  · exact .inl q
  · exact .inr ⟨g, cap, cur, hv, Nat.le_trans hC hb, hg⟩
theorem one_own (w : World) {x : Nd} (hx : x.Ok) : NO w.heap.size (w.alloc (.cells (nc x).toArray 33)) (.slice (some ⟨w.heap.size, 0, none⟩) 1 1) [x] := by
  have hh : (w.alloc (.cells (nc x).toArray 33)).heap[w.heap.size]? = some (.cells (nc x).toArray 33 (0, 0)) := by show (w.heap.push _)[w.heap.size]? = _; simp
  refine ⟨⟨by rw [ncs_length (fun z hz => by simp at hz; subst hz; exact hx)], .inr ⟨w.heap.size, 1, _, rfl, Nat.le_refl _, hh, Nat.le_refl _, by unfold maxLen; omega, by simp [nc_length hx], ?_⟩⟩, (fun z hz => by simp at hz; subst hz; exact hx), by simp⟩
  simp [ncs, List.take_of_length_le (Nat.le_of_eq (nc_length hx))]
set_option maxHeartbeats 16000000 in
theorem rWithout_own (ys : List (List Int)) (hys : ∀ y ∈ ys, L32 y) (hny : ys.length ≤ 140737488355328) (own : Bool) : ∀ (f : Nat) (l : List Nd), l.length ≤ f → Rsn l → l.length ≤ 2900000000000 → ∀ (v yv : Value) (w : World), NS w v l → YS w yv ys →
    Calls Tryd.prog 15 #[v, yv, .bool own] w fun e w' => ∃ v', e = .returned v' ∧ NO w.heap.size w' v' (wo (fun n => ys.any (fun y => hl n y)) own (f + 1) l) ∧ Below w.heap.size w w' := by
  intro f
  induction f with
  | zero =>
    intro l hlf hr hlen v yv w hv hyv
    have e : l = [] := List.length_eq_zero_iff.1 (Nat.le_zero.1 hlf)
    subst e
    obtain ⟨ad, cap, rfl, hcp, -⟩ := hv
    obtain ⟨ya, yc, rfl, -, -⟩ := hyv
    simp only [List.length_nil]
    obtain ⟨ny, hny'⟩ : ∃ ny, ys.length = ny := ⟨_, rfl⟩
    rw [hny']
    go_enter Tryd.func15, Tryd.ntmps15
    go_wp2_with fail
    go_ret
    exact ⟨_, rfl, NO.nil' (Nat.le_refl _), Below.refl _ _⟩
  | succ f ih =>
    intro l hlf hr hlen v yv w hv hyv
    by_cases hm0 : l = []
    · subst hm0
      obtain ⟨ad, cap, rfl, hcp, -⟩ := hv
      obtain ⟨ya, yc, rfl, -, -⟩ := hyv
      simp only [List.length_nil]
      obtain ⟨ny, hny'⟩ : ∃ ny, ys.length = ny := ⟨_, rfl⟩
      rw [hny']
      clear ih
      go_enter Tryd.func15, Tryd.ntmps15
      go_wp2_with fail
      go_ret
      exact ⟨_, rfl, NO.nil' (Nat.le_refl _), Below.refl _ _⟩
    · have HIH : Hid (∀ (l : List Nd), l.length ≤ f → Rsn l → l.length ≤ 2900000000000 → ∀ (v yv : Value) (w : World), NS w v l → YS w yv ys →
        Calls Tryd.prog 15 #[v, yv, .bool own] w fun e w' => ∃ v', e = .returned v' ∧ NO w.heap.size w' v' (wo (fun n => ys.any (fun y => hl n y)) own (f + 1) l) ∧ Below w.heap.size w w') := ih
      clear ih
      have HYS : Hid (YS w yv ys) := hyv
      have HNS : Hid (NS w v l) := hv
      have HR : Hid (Rsn l) := hr
      have HME : Hid (l ≠ []) := hm0
      have HY : Hid (∀ y ∈ ys, L32 y) := hys
      have HLF : Hid (l.length ≤ f + 1) := hlf
      obtain ⟨R, hRo⟩ : ∃ R, ovl l = R := ⟨_, rfl⟩
      have HRO : Hid (ovl l = R) := hRo
      have HRK : Hid R.Ok := by rw [← hRo]; exact (ov_ok hr hm0 _ (Nat.le_refl _)).1
      obtain ⟨ad, cap, rfl, hcp, hxx⟩ := hv
      obtain ⟨ya, yc, rfl, hyc, hyx⟩ := hyv
      have HYX : Hid (ys = [] ∧ (ya = none → yc = 0) ∨ ∃ b o, ya = some ⟨b, o, none⟩ ∧ b < w.heap.size ∧ ∀ (i : Nat) (x : List Int), ys[i]? = some x → w.rangeAt b (o + i * 32) (bv x)) := hyx
      obtain ⟨ny, hny'⟩ : ∃ ny, ys.length = ny := ⟨_, rfl⟩
      have HNY : Hid (ys.length = ny) := hny'
      obtain ⟨len, hln⟩ : ∃ len, l.length = len := ⟨_, rfl⟩
      have HLN : Hid (l.length = len) := hln
      have hl1 : 0 < len := by rw [← hln]; exact List.length_pos_iff.2 hm0
      have HOV : Hid (Calls Tryd.prog 29 #[.slice ad len cap] w fun e w' => e = .returned (.agg (nc R).toArray) ∧ Below w.heap.size w w') := by
        have := rover_any _ l (Nat.le_refl _) hr hm0 (by omega) _ w HNS.out
        rw [hRo, hln] at this; exact this
      have hz := zero_nd
      obtain ⟨Z, hZ⟩ : ∃ Z, (nc ndz).toArray = Z := ⟨_, rfl⟩
      have HZS : Hid (Z.size = 65) := by show Z.size = 65; rw [← hZ]; exact nc_size ndz_ok
      rw [hZ] at hz
      rw [hny'] at HYS hny hyc ⊢
      rw [hln] at HNS hlen hcp ⊢
      clear hr hm0 hys hlf hRo hxx hyx hny' hln hZ
      go_enter Tryd.func15, Tryd.ntmps15
      go_upto_region 4 with (first
        | (refine wpList_store_mid rfl 33 (.tmp 7) (.tmp 16) rfl w1.heap.size 0 (nc R).toArray rfl rfl (there_new w1 (by rw [nc_size HRK.out, HZS.out])) (by rw [List.size_toArray]; exact size_nc HRK.out) (nc_one _) ?_; simp only [List.toList_toArray])
        | (go_at_call 29; refine HOV.out.mono ?_; rintro e w1 ⟨rfl, g1⟩; have B1 : Hid (Below w.heap.size w w1) := g1; clear g1))
      obtain ⟨U, hU⟩ : ∃ U, (w1.alloc (.cells Z 33)).setCells w1.heap.size 0 (nc R) = U := ⟨_, rfl⟩
      rw [hU]
      obtain ⟨r1, r2, r3⟩ := laid_row (by rw [nc_length HRK.out, HZS.out]) (by rw [nc_length HRK.out]; omega) hU
      obtain ⟨E, hE⟩ : ∃ E, w1.heap.size = E := ⟨_, rfl⟩
      rw [hE] at r1 r3 ⊢
      have RE : Hid (U.rangeAt E 0 (nc R)) := r1
      have LE : Hid (E < U.heap.size) := r3
      have BU : Hid (Below w.heap.size w U) := Below.tr' B1.out r2
      clear r1 r2 r3 hU hE hz
      go_wp2_with fail
      go_loopw [8, 19] (fun hv i wr => ∃ (k : Nat) (hb : Bool), k ≤ ny ∧ i = .int .i64 (k : Int) ∧ hv = .bool hb ∧ hb = (ys.take k).any (fun y => hl R y) ∧ Below U.heap.size U wr) (fun _ i _ => ny - (intOf i).toNat)
      case atStart => exact ⟨0, false, Nat.zero_le _, rfl, rfl, rfl, Below.refl _ _⟩
      case round =>
        obtain ⟨k, hb, hkl, rfl, rfl, hhb, h5⟩ := hrel
        have H5 : Hid (Below U.heap.size U wr) := h5
        have HHB : Hid (hb = (ys.take k).any (fun y => hl R y)) := hhb
        clear h5 hhb
        by_cases hlt : k < ny
        · obtain ⟨z, hzk⟩ : ∃ z, ys[k]? = some z := ⟨ys[k]'(by have := HNY.out; omega), List.getElem?_eq_getElem _⟩
          have HTK : Hid ((ys.take (k + 1)).any (fun y => hl R y) = (hb || hl R z)) := by
            show _ = _
            obtain ⟨q1, rfl⟩ := List.getElem?_eq_some_iff.1 hzk
            rw [List.take_succ_eq_append_getElem q1, List.any_append, ← HHB.out]; simp
          cases hb with
          | true =>
            clear hzk
            go_upto_region 8 with (fail)
            refine RU.wp_rgn' [] (rw81f ya 0 0 ny yc k R [] true) (fun _ => 0) (gΩ wr) (by kernel_rfl) (by kernel_rfl) (show Below wr.heap.size wr _ from (Below.refl _ _).drew) ?_ ?_
            · refine ⟨?_, ?_, ?_, ?_, ?_, ?_, ?_, ?_, ?_, ?_, trivial⟩
              · refine RU.ObT.pure rfl rfl rfl (fun a V hf hp ev he hc W => ?_)
                have q8 : ev (.tmp 8) = .bool true := (he (.tmp 8)).trans (hf 8 rfl)
                simp only [List.getElem_toArray, List.getElem_cons_succ, List.getElem_cons_zero, execOp, Option.map_some, Option.map_none]; rw [q8]
                first | (go_simp; done) | (go_simp; rfl) | rfl
              · refine RU.ObT.pure rfl rfl rfl (fun a V hf hp ev he hc W => ?_)
                have q22 : ev (.tmp 22) = .bool true := (he (.tmp 22)).trans (hp 0 22 rfl)
                simp only [List.getElem_toArray, List.getElem_cons_succ, List.getElem_cons_zero, execOp, Option.map_some, Option.map_none]; rw [q22]
                first | (go_simp; done) | (go_simp; rfl) | rfl
              · exact RU.ObT.skip (g := 1) (d := 23) rfl rfl rfl rfl rfl rfl (fun U h => by cases h) rfl
              · exact RU.ObT.skip (g := 1) (d := 23) rfl rfl rfl rfl rfl rfl (fun U h => by cases h) rfl
              · exact RU.ObT.skip (g := 1) (d := 23) rfl rfl rfl rfl rfl rfl (fun U h => by cases h) rfl
              · exact RU.ObT.skip (g := 1) (d := 23) rfl rfl rfl rfl rfl rfl (fun U h => by cases h) rfl
              · exact RU.ObT.skip (g := 1) (d := 23) rfl rfl rfl rfl rfl rfl (fun U h => by cases h) rfl
              · exact RU.ObT.skip (g := 1) (d := 23) rfl rfl rfl rfl rfl rfl (fun U h => by cases h) rfl
              · refine RU.ObT.pure rfl rfl rfl (fun a V hf hp ev he hc W => ?_)
                have q23 : ev (.tmp 23) = .bool true := (he (.tmp 23)).trans (hp 1 23 rfl)
                have q29 : ev (.tmp 29) = undef := (he (.tmp 29)).trans (hp 7 29 rfl)
                simp only [List.getElem_toArray, List.getElem_cons_succ, List.getElem_cons_zero, execOp, Option.map_some, Option.map_none]; rw [q23, q29]
                try simp only [hc]
                first | (go_simp; done) | (go_simp; rfl) | rfl
              · refine RU.ObT.pure rfl rfl rfl (fun a V hf hp ev he hc W => ?_)
                have q30 : ev (.tmp 30) = .bool true := (he (.tmp 30)).trans (hp 8 30 rfl)
                simp only [List.getElem_toArray, List.getElem_cons_succ, List.getElem_cons_zero, execOp, Option.map_some, Option.map_none]; rw [q30]
                first | (go_simp; done) | (go_simp; rfl) | rfl
            intro W1 VW1 hOW1
            have BW1 : Hid (Below wr.heap.size wr W1) := hOW1
            clear hOW1
            simp only [RU.lay, RU.val, RU.at', rw81f, Act.put]
            simp only [List.setIfInBounds_toArray, List.set_cons_succ, List.set_cons_zero]
            go_wp2_with fail
            exact ⟨⟨k + 1, true, by omega, by go_num, rfl, by rw [HTK.out]; rfl, Below.tr' H5.out BW1.out⟩, by simp [intOf]; omega⟩
          | false =>
            rcases HYX.out with ⟨h0, _⟩ | ⟨yb, yo, rfl, hlb, hm⟩
            · have := HNY.out; rw [h0] at this; simp at this; omega
            have HZ : Hid (L32 z) := HY.out z (List.mem_of_getElem? hzk)
            have RZW : Hid (wr.rangeAt yb (yo + k * 32) (bv z)) := range_below (range_below (hm k z hzk) BU.out hlb) H5.out (Nat.lt_of_lt_of_le hlb BU.out.size)
            have LYW : Hid (yb < wr.heap.size) := Nat.lt_of_lt_of_le hlb (Nat.le_trans BU.out.size H5.out.size)
            have REW : Hid (wr.rangeAt E 0 (nc R)) := range_below RE.out H5.out LE.out
            have LEW : Hid (E < wr.heap.size) := Nat.lt_of_lt_of_le LE.out H5.out.size
            obtain ⟨g, hg⟩ : ∃ g, hl R z = g := ⟨_, rfl⟩
            have HHO : Hid (∀ W : World, Calls Tryd.prog 30 #[.agg (nc R).toArray, .agg (bv z).toArray] W fun e w' => e = .returned (.bool g) ∧ Below W.heap.size W w') := fun W => by rw [← hg]; exact rHolds_any R HRK.out z HZ.out W
            rw [hg, Bool.false_or] at HTK
            clear hm hlb hzk hg
            go_upto_region 8 with (fail)
            refine RU.wp_rgn' [] (rw80f (some ⟨yb, yo, none⟩) yb yo ny yc k R z g) (fun _ => 0) (gΩ wr) (by kernel_rfl) (by kernel_rfl) (show Below wr.heap.size wr _ from (Below.refl _ _).drew) ?_ ?_
            · refine ⟨?_, ?_, ?_, ?_, ?_, ?_, ?_, ?_, ?_, ?_, trivial⟩
              · refine RU.ObT.pure rfl rfl rfl (fun a V hf hp ev he hc W => ?_)
                have q8 : ev (.tmp 8) = .bool false := (he (.tmp 8)).trans (hf 8 rfl)
                simp only [List.getElem_toArray, List.getElem_cons_succ, List.getElem_cons_zero, execOp, Option.map_some, Option.map_none]; rw [q8]
                first | (go_simp; done) | (go_simp; rfl) | rfl
              · refine RU.ObT.pure rfl rfl rfl (fun a V hf hp ev he hc W => ?_)
                have q22 : ev (.tmp 22) = .bool false := (he (.tmp 22)).trans (hp 0 22 rfl)
                simp only [List.getElem_toArray, List.getElem_cons_succ, List.getElem_cons_zero, execOp, Option.map_some, Option.map_none]; rw [q22]
                first | (go_simp; done) | (go_simp; rfl) | rfl
              · refine RU.ObT.silent rfl (fun a W k0 V hO hf hp hk => ?_)
                have hg : a.eval (.tmp 23) = .bool false := hp 1 23 rfl
                have hO' : Below wr.heap.size wr W := hO
                have q7 : a.eval (.tmp 7) = .pointer (some ⟨E, 0, none⟩) := hf 7 rfl
                exact RU.ob_op rfl (RU.wanted_some rfl rfl rfl hg) (wp_load_mid 33 (.tmp 7) rfl (E) (0) q7 (nc R) _ (range_below REW.out hO' LEW.out) Tryd.underlying33 rfl (size_nc HRK.out) ⟨rfl, hO⟩)
              · refine RU.ObT.silent rfl (fun a W k0 V hO hf hp hk => ?_)
                have hg : a.eval (.tmp 23) = .bool false := hp 1 23 rfl
                refine RU.ob_val rfl (RU.wanted_some rfl rfl rfl hg) (fun ev he hc => ?_) ⟨rfl, hO⟩
                have q1 : ev (.tmp 1) = .slice (some ⟨yb, yo, none⟩) ny yc := (he (.tmp 1)).trans (hf 1 rfl)
                simp only [List.getElem_toArray, List.getElem_cons_succ, List.getElem_cons_zero, execOp, Option.map_some, Option.map_none]; rw [q1]
                first | (go_simp; done) | (go_simp; rfl) | rfl
              · refine RU.ObT.silent rfl (fun a W k0 V hO hf hp hk => ?_)
                have hg : a.eval (.tmp 23) = .bool false := hp 1 23 rfl
                refine RU.ob_val rfl (RU.wanted_some rfl rfl rfl hg) (fun ev he hc => ?_) ⟨rfl, hO⟩
                have q9 : ev (.tmp 9) = .int .i64 (k : Int) := (he (.tmp 9)).trans (hf 9 rfl)
                simp only [List.getElem_toArray, List.getElem_cons_succ, List.getElem_cons_zero, execOp, Option.map_some, Option.map_none]; rw [q9]
                first | (go_simp; done) | (go_simp; rfl) | rfl
              · refine RU.ObT.silent rfl (fun a W k0 V hO hf hp hk => ?_)
                have hg : a.eval (.tmp 23) = .bool false := hp 1 23 rfl
                refine RU.ob_val rfl (RU.wanted_some rfl rfl rfl hg) (fun ev he hc => ?_) ⟨rfl, hO⟩
                have q25 : ev (.tmp 25) = .slice (some ⟨yb, yo, none⟩) ny yc := (he (.tmp 25)).trans (hp 3 25 rfl)
                have q26 : ev (.tmp 26) = .int .i64 (k : Int) := (he (.tmp 26)).trans (hp 4 26 rfl)
                simp only [List.getElem_toArray, List.getElem_cons_succ, List.getElem_cons_zero, execOp, Option.map_some, Option.map_none]; rw [q25, q26]
                have hk9 : (k : Int) < (ny : Int) := by omega
                first | (go_simp; done) | (go_simp; rfl) | rfl
              · refine RU.ObT.silent rfl (fun a W k0 V hO hf hp hk => ?_)
                have hg : a.eval (.tmp 23) = .bool false := hp 1 23 rfl
                have hO' : Below wr.heap.size wr W := hO
                have q27 : a.eval (.tmp 27) = .pointer (some ⟨yb, yo + k * 32, none⟩) := hp 5 27 rfl
                exact RU.ob_op rfl (RU.wanted_some rfl rfl rfl hg) (wp_load_mid 25 (.tmp 27) rfl (yb) (yo + k * 32) q27 (bv z) _ (range_below RZW.out hO' LYW.out) Tryd.underlying25 rfl (size_l32 HZ.out) ⟨rfl, hO⟩)
              · refine RU.ObT.silent rfl (fun a W k0 V hO hf hp hk => ?_)
                have hg : a.eval (.tmp 23) = .bool false := hp 1 23 rfl
                have hO' : Below wr.heap.size wr W := hO
                have e24 : a.eval (.tmp 24) = .agg (nc R).toArray := hp 2 24 rfl
                have e28 : a.eval (.tmp 28) = .agg (bv z).toArray := hp 6 28 rfl
                refine RU.ob_call (g := 30) (args := #[.agg (nc R).toArray, .agg (bv z).toArray]) rfl (RU.wanted_some rfl rfl rfl hg) (fun ev he hc => ?_) ((HHO.out W).mono ?_)
                · have h24 := (he (.tmp 24)).trans e24
                  have h28 := (he (.tmp 28)).trans e28
                  have hfn := he (.func 30)
                  simp only [List.getElem_toArray, List.getElem_cons_succ, List.getElem_cons_zero, execOp, Option.map_some, Option.map_none]
                  simp only [resolve, invoke, Sem.run_bind, Sem.run_pure, Result.andThen_ok, List.map_toArray, List.map_cons, List.map_nil, h24, h28, hfn, Act.eval, hc]
                  rfl
                · rintro e' W9 ⟨rfl, hb2⟩
                  exact ⟨_, rfl, rfl, (hO'.trans (hb2.mono hO'.size) : Below wr.heap.size wr W9)⟩
              · refine RU.ObT.pure rfl rfl rfl (fun a V hf hp ev he hc W => ?_)
                have q23 : ev (.tmp 23) = .bool false := (he (.tmp 23)).trans (hp 1 23 rfl)
                have q29 : ev (.tmp 29) = .bool g := (he (.tmp 29)).trans (hp 7 29 rfl)
                simp only [List.getElem_toArray, List.getElem_cons_succ, List.getElem_cons_zero, execOp, Option.map_some, Option.map_none]; rw [q23, q29]
                try simp only [hc]
                first | (go_simp; done) | (go_simp; rfl) | rfl
              · refine RU.ObT.pure rfl rfl rfl (fun a V hf hp ev he hc W => ?_)
                have q30 : ev (.tmp 30) = .bool g := (he (.tmp 30)).trans (hp 8 30 rfl)
                simp only [List.getElem_toArray, List.getElem_cons_succ, List.getElem_cons_zero, execOp, Option.map_some, Option.map_none]; rw [q30]
                first | (go_simp; done) | (go_simp; rfl) | rfl
            intro W1 VW1 hOW1
            have BW1 : Hid (Below wr.heap.size wr W1) := hOW1
            clear hOW1
            simp only [RU.lay, RU.val, RU.at', rw80f, Act.put]
            simp only [List.setIfInBounds_toArray, List.set_cons_succ, List.set_cons_zero]
            go_wp2_with fail
            exact ⟨⟨k + 1, g, by omega, by go_num, rfl, HTK.out.symm, Below.tr' H5.out BW1.out⟩, by simp [intOf]; omega⟩
        · obtain rfl : k = ny := by omega
          have HAN : Hid (ys.any (fun y => hl (ovl l) y) = hb) := by
            show _ = hb
            rw [HHB.out, HRO.out, ← HNY.out, List.take_length]
          cases hb with
          | false =>
            have HWO := wo_held (hd := fun n => ys.any (fun y => hl n y)) (own := own) (f := f + 1) HME.out HAN.out
            rw [HRO.out] at HWO
            have HWO' : Hid (wo (fun n => ys.any (fun y => hl n y)) own (f + 1 + 1) l = [R]) := HWO
            clear HWO
            go_wp2_with (first
              | (refine ld 33 (.tmp 7) rfl rfl E 0 rfl (nc R) _ (range_below RE.out H5.out LE.out) Tryd.underlying33 rfl (size_nc HRK.out) ?_)
              | (refine wpList_onen rfl (.tmp 42) rfl R HRK.out rfl ?_))
            go_ret
            exact ⟨_, rfl, by rw [HWO'.out]; exact (one_own wr HRK.out).mono (by have h1 := BU.out.size; have h2 := H5.out.size; omega), (BU.out.trans (H5.out.mono BU.out.size)).alloc (by have h1 := BU.out.size; have h2 := H5.out.size; omega) _⟩
          | true =>
            by_cases h1 : len = 1
            · subst h1
              cases own with
              | true =>
                have HWO := wo_own (hd := fun n => ys.any (fun y => hl n y)) (f := f + 1) HLN.out
                rw [HRO.out] at HWO
                have HWO' : Hid (wo (fun n => ys.any (fun y => hl n y)) true (f + 1 + 1) l = [R]) := HWO
                clear HWO
                go_wp2_with (first
                  | (refine ld 33 (.tmp 7) rfl rfl E 0 rfl (nc R) _ (range_below RE.out H5.out LE.out) Tryd.underlying33 rfl (size_nc HRK.out) ?_)
                  | (refine wpList_onen rfl (.tmp 42) rfl R HRK.out rfl ?_))
                go_ret
                exact ⟨_, rfl, by rw [HWO'.out]; exact (one_own wr HRK.out).mono (by have h1 := BU.out.size; have h2 := H5.out.size; omega), (BU.out.trans (H5.out.mono BU.out.size)).alloc (by have h1 := BU.out.size; have h2 := H5.out.size; omega) _⟩
              | false =>
                have HWO : Hid (wo (fun n => ys.any (fun y => hl n y)) false (f + 1 + 1) l = []) := wo_none HLN.out HAN.out
                go_wp2_with fail
                go_ret
                exact ⟨_, rfl, by rw [HWO.out]; exact NO.nil' (by have h1 := BU.out.size; have h2 := H5.out.size; omega), BU.out.trans (H5.out.mono BU.out.size)⟩
            · have h2 : 2 ≤ l.length := by have := HLN.out; omega
              have HWO : Hid (wo (fun n => ys.any (fun y => hl n y)) own (f + 1 + 1) l = wo (fun n => ys.any (fun y => hl n y)) own (f + 1) (l.take (cut (cl l) l)) ++ wo (fun n => ys.any (fun y => hl n y)) own (f + 1) (l.drop (cut (cl l) l))) := wo_more h2 HAN.out
              have hrn := (ovl_two HR.out.ris h2).1
              rw [HRO.out] at hrn
              obtain ⟨c, hc⟩ : ∃ c, cl l = c := ⟨_, rfl⟩
              rw [hc] at hrn
              have hcl := HR.out.ris.cl_lt h2
              obtain ⟨k1, k2⟩ := HR.out.ris.cut_in h2
              rw [hc] at hcl k1 k2 HWO
              have HCE : Hid (E < wr.heap.size) := Nat.lt_of_lt_of_le LE.out H5.out.size
              have hcn := nc_n (range_below RE.out H5.out LE.out)
              rw [hrn] at hcn
              have BW : Hid (Below w.heap.size w wr) := BU.out.trans (H5.out.mono BU.out.size)
              have HHV : Hid (Calls Tryd.prog 31 #[.slice ad len cap, .int .i64 (c : Int)] wr fun e w' => ∃ v1 v2, e = .returned (.tuple #[v1, v2]) ∧ NS w' v1 (l.take (cut c l)) ∧ NS w' v2 (l.drop (cut c l)) ∧ Below wr.heap.size wr w') := rHalves_any l HR.out.ris.ok c hcl k2 _ wr (HNS.out.below BW.out) (by have := HLN.out; omega)
              obtain ⟨m1, hm1⟩ : ∃ m, l.take (cut c l) = m := ⟨_, rfl⟩
              obtain ⟨m2, hm2⟩ : ∃ m, l.drop (cut c l) = m := ⟨_, rfl⟩
              have q1 : Rsn m1 := by rw [← hm1]; exact HR.out.sub (List.take_sublist _ _)
              have q2 : Rsn m2 := by rw [← hm2]; exact HR.out.sub (List.drop_sublist _ _)
              have q3 : m1.length ≤ f ∧ m2.length ≤ f ∧ m1.length + m2.length ≤ 2900000000000 := by
                have e1 : m1.length = cut c l := by rw [← hm1, List.length_take]; omega
                have e2 : m2.length = l.length - cut c l := by rw [← hm2, List.length_drop]
                have := HLF.out; have := HLN.out
                omega
              rw [hm1, hm2] at HHV HWO
              have C1 : Hid (∀ (v1 : Value) (W : World), NS W v1 m1 → Below w.heap.size w W → Calls Tryd.prog 15 #[v1, .slice ya k yc, .bool own] W fun e w' => ∃ v', e = .returned v' ∧ NO W.heap.size w' v' (wo (fun n => ys.any (fun y => hl n y)) own (f + 1) m1) ∧ Below W.heap.size W w') := fun v1 W n1 n2 => HIH.out m1 q3.1 q1 (by omega) v1 _ W n1 (HYS.out.below n2)
              have C2 : Hid (∀ (v1 : Value) (W : World), NS W v1 m2 → Below w.heap.size w W → Calls Tryd.prog 15 #[v1, .slice ya k yc, .bool own] W fun e w' => ∃ v', e = .returned v' ∧ NO W.heap.size w' v' (wo (fun n => ys.any (fun y => hl n y)) own (f + 1) m2) ∧ Below W.heap.size W w') := fun v1 W n1 n2 => HIH.out m2 q3.2.1 q2 (by omega) v1 _ W n1 (HYS.out.below n2)
              obtain ⟨f1, f2⟩ := wo_fit (hd := fun n => ys.any (fun y => hl n y)) (own := own) (f + 1) m1 q1
              obtain ⟨f3, f4⟩ := wo_fit (hd := fun n => ys.any (fun y => hl n y)) (own := own) (f + 1) m2 q2
              obtain ⟨a1, ha1⟩ : ∃ a, wo (fun n => ys.any (fun y => hl n y)) own (f + 1) m1 = a := ⟨_, rfl⟩
              obtain ⟨a2, ha2⟩ : ∃ a, wo (fun n => ys.any (fun y => hl n y)) own (f + 1) m2 = a := ⟨_, rfl⟩
              rw [ha1] at C1 HWO f1 f2
              rw [ha2] at C2 HWO f3 f4
              have F1 : Hid (∀ x ∈ a1, x.Ok) := f1
              have F3 : Hid (∀ x ∈ a2, x.Ok) := f3
              have F2 : Hid (a1.length + a2.length ≤ 2900000000000) := by show _ ≤ _; omega
              clear f1 f2 f3 f4 q1 q2 q3 hm1 hm2 ha1 ha2 hrn hc h2 hcl k1 k2 HAN
              go_upto_region 15 with (go_at_call 31; refine HHV.out.mono ?_; rintro e w2 ⟨v1, v2, rfl, g1, g2, g3⟩; have N1 : Hid (NS w2 v1 m1) := g1; have N2 : Hid (NS w2 v2 m2) := g2; have B2 : Hid (Below w.heap.size w w2) := BW.out.trans (g3.mono BW.out.size); clear g1 g2 g3)
              have hli := lit_none w2
              have G0 : Hid (Below w2.heap.size w2 (w2.alloc (.cells #[] 33))) := (Below.refl _ w2).alloc (Nat.le_refl _) _
              have O0 : Hid (NO w2.heap.size (w2.alloc (.cells #[] 33)) (.slice (some ⟨w2.heap.size, 0, none⟩) 0 0) []) := lit_own w2
              go_wp2_with (first
                | (go_at_call 15; refine (C2.out v2 w5 N25.out B5.out).mono ?_; rintro e w6 ⟨v6, rfl, g1, g2⟩; have M6 : Hid (NS w6 v6 a2) := g1.ns; have G6 : Hid (Below w5.heap.size w5 w6) := g2; have O6 : Hid (NO w2.heap.size w6 v5 a1) := O5.out.below g2; clear g1 g2)
                | (go_at_call 15; refine (C1.out v1 (w2.alloc (.cells #[] 33)) (N1.out.below G0.out) (B2.out.trans (G0.out.mono B2.out.size))).mono ?_; rintro e w4 ⟨v4, rfl, g1, g2⟩; have M4 : Hid (NS w4 v4 a1) := g1.ns; have G4 : Hid (Below w2.heap.size w2 w4) := Below.tr' G0.out g2; have O4 : Hid (NO w2.heap.size w4 (.slice (some ⟨w2.heap.size, 0, none⟩) 0 0) []) := O0.out.below g2; clear g1 g2)
                | (at_builtin; refine wp_appn rfl (.tmp 59) (.tmp 63) rfl rfl w2.heap.size v5 v6 a1 a2 rfl rfl O6.out F3.out M6.out (by have := F2.out; omega) ?_; intro v7 w7 g1 g2; have O7 : Hid (NO w2.heap.size w7 v7 (a1 ++ a2)) := g1; have G7 : Hid (Below w2.heap.size w2 w7) := ((G5.out.trans (G6.out.mono G5.out.size))).trans g2; clear g1 g2)
                | (at_builtin; refine wp_appn rfl (.tmp 54) (.tmp 58) rfl rfl w2.heap.size (.slice (some ⟨w2.heap.size, 0, none⟩) 0 0) v4 [] a1 rfl rfl O4.out F1.out M4.out (by have := F2.out; simp only [List.length_nil]; omega) ?_; intro v5 w5 g1 g2; have O5 : Hid (NO w2.heap.size w5 v5 a1) := g1; have G5 : Hid (Below w2.heap.size w2 w5) := G4.out.trans g2; have B5 : Hid (Below w.heap.size w w5) := B2.out.trans ((G4.out.trans g2).mono B2.out.size); have N25 : Hid (NS w5 v2 m2) := N2.out.below (G4.out.trans g2); clear g1 g2))
              go_ret
              exact ⟨_, rfl, by rw [HWO.out]; exact O7.out.mono B2.out.size, B2.out.trans (G7.out.mono B2.out.size)⟩
end Go.Proofs.YtpojalbpekbfdabDoor
