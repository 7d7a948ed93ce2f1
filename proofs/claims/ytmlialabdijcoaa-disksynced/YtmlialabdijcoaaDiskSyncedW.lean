/- DiskSynced, walked. -/
import Derived.Test.YtmlialabdijcoaaDskN
namespace Go.Proofs.Ytmlialabdijcoaa
open Go Go.RowKit
set_option linter.unusedSimpArgs false
set_option linter.unusedVariables false
set_option maxRecDepth 100000

theorem Sl.kept {X : Nat → Prop} {w w' : World} {v : Value} {xs : List Int} (h : Sl w v xs) (k : Kept X w w') (d : ∀ b, v.ownBlock = some b → X b) : Sl w' v xs := by
  obtain ⟨ad, cap, rfl, hc, h⟩ := h
  refine ⟨ad, cap, rfl, hc, ?_⟩
  rcases h with h | ⟨b, o, rfl, hlt, hm⟩
  · exact .inl h
  · refine .inr ⟨b, o, rfl, Nat.lt_of_lt_of_le hlt k.size, fun i hi => ?_⟩
    rw [World.cell?_of_block (w := w) (w' := w') (a := ⟨b, o + i, none⟩) (k.same b (d b rfl))]; exact hm i hi
theorem Sl.lies {w : World} {ad : Option Addr} {n cap : Nat} {xs : List Int} (h : Sl w (.slice ad n cap) xs) {k : Nat} (hk : k < xs.length) : ∃ b o, ad = some ⟨b, o, none⟩ ∧ b < w.heap.size ∧ w.cell? ⟨b, o + k, none⟩ = some (.int .u8 (gi xs k)) := by
  obtain ⟨a1, c1, e1, -, h1⟩ := h
  cases e1
  rcases h1 with ⟨h1, -⟩ | ⟨b, o, h1, h2, h3⟩
  · rw [h1] at hk; simp at hk
  · exact ⟨b, o, h1, h2, h3 k hk⟩
theorem Sl.own {w : World} {v : Value} {xs : List Int} (h : Sl w v xs) : ∀ b, v.ownBlock = some b → b < w.heap.size ∨ xs = [] := by
  intro b hb
  obtain ⟨a1, c1, rfl, -, h1⟩ := h
  rcases h1 with ⟨h1, -⟩ | ⟨b', o, rfl, h2, h3⟩
  · exact .inr h1
  · simp [Value.ownBlock] at hb; subst hb; exact .inl h2
set_option maxHeartbeats 8000000 in
theorem diskSynced_walk (bs os cs : List Int) (v0 v1 v2 : Value) (w : World) (hb : Byt bs) (ho : Byt os) (h0 : Sl w v0 bs) (h1 : Sl w v1 os) (h2 : Sl w v2 cs) (h2b : ∀ b, v2.ownBlock = some b → b < w.heap.size) (l0 : bs.length ≤ 140737488355328) (l1 : os.length ≤ 140737488355328) (l2 : cs.length ≤ 140737488355328) :
    Calls Try.prog 4 #[v0, v1, v2] w fun e w' => e = .returned (.bool true) ∧ Below w.heap.size w w' := by
  have HB : Hid (Byt bs) := hb
  have HO : Hid (Byt os) := ho
  have H2 : Hid (Sl w v2 cs) := h2
  have H2B : Hid (∀ b, v2.ownBlock = some b → b < w.heap.size) := h2b
  obtain ⟨ad0, cap0, rfl, hc0, -⟩ := id h0
  obtain ⟨ad1, cap1, rfl, hc1, -⟩ := id h1
  have H0 : Hid (Sl w (.slice ad0 bs.length cap0) bs) := h0
  have H1 : Hid (Sl w (.slice ad1 os.length cap1) os) := h1
  clear hb ho h0 h1 h2 h2b hc0 hc1
  have hz := zero_sec
  have hbz := build_sec
  go_enter Try.func4, Try.ntmps4
  go_wp2_with fail
  refine (awake_any w).mono ?_
  rintro e w1 ⟨rfl, h1⟩
  have B1 : Hid (Below w.heap.size w w1) := h1
  clear h1
  go_wp2_with fail
  refine (new_any w1 64 (by decide) (by decide)).mono ?_
  rintro e w2 ⟨g, rfl, h2⟩
  have A2 : Hid (Ax (fun b => b < w.heap.size) w w2 g (s1 bs 0)) := h2.ax ⟨B1.out.os, B1.out.tape, B1.out.output, B1.out.size, fun c hc => B1.out.block c hc⟩ (fun c hc => Nat.lt_of_lt_of_le hc B1.out.size)
  clear h2
  go_wp2_with fail
  go_loopw [27] (fun c wr => ∃ k : Nat, k ≤ bs.length ∧ c = .int .i64 (k : Int) ∧ Hid (Ax (fun b => b < w.heap.size) w wr g (s1 bs k))) (fun c _ => bs.length - (intOf c).toNat)
  case atStart => exact ⟨0, Nat.zero_le _, rfl, A2⟩
  case round =>
    obtain ⟨k, hk, rfl, HK⟩ := hrel
    by_cases hlt : k < bs.length
    · by_cases h64 : k < 64
      · have h64' : (k : Int) < 64 := by omega
        obtain ⟨cb, co, rfl, hcl, hcc⟩ := H0.out.lies hlt
        have hc := (World.cell?_of_block (w := w) (w' := wr) (a := ⟨cb, co + k, none⟩) (HK.out.kept.same cb hcl)).trans hcc
        clear hcc hcl
        go_wp2_with fail
        refine (filled_any (gi bs k) (HB.out.get hlt) wr).mono ?_
        rintro e w4 ⟨rfl, h4⟩
        have A4 : Hid (Ax (fun b => b < w.heap.size) w w4 g (s1 bs k)) := HK.out.below h4
        clear h4
        go_wp2_with fail
        refine (A4.out.write (k : Int) (fill (gi bs k)) (fill_length _) (s1_step bs h64).2.2).mono ?_
        rintro e w5 ⟨rfl, h5⟩
        rw [(s1_step bs h64).2.1] at h5
        rw [(s1_step bs h64).1]
        have A5 : Hid (Ax (fun b => b < w.heap.size) w w5 g (s1 bs (k + 1))) := h5
        clear h5
        go_wp2_with fail
        exact ⟨⟨k + 1, hlt, by go_num, A5⟩, by simp [intOf]; omega⟩
      · have h64' : ¬ (k : Int) < 64 := by omega
        go_wp2_with fail
        exact ⟨⟨k + 1, hlt, by go_num, by rw [s1_stay bs h64]; exact HK⟩, by simp [intOf]; omega⟩
    · obtain rfl : k = bs.length := by omega
      go_wp2_with fail
      refine (HK.out.sync).mono ?_
      rintro e w6 ⟨rfl, h6⟩
      rw [(s1_sync bs).2] at h6
      rw [(s1_sync bs).1]
      have A6 : Hid (Ax (fun b => b < w.heap.size) w w6 g (s3 bs os 0)) := h6
      clear h6
      go_wp2_with fail
      go_loopw [49] (fun c wr => ∃ k : Nat, k ≤ os.length ∧ c = .int .i64 (k : Int) ∧ Hid (Ax (fun b => b < w.heap.size) w wr g (s3 bs os k))) (fun c _ => os.length - (intOf c).toNat)
      case atStart => exact ⟨0, Nat.zero_le _, rfl, A6⟩
      case round =>
        obtain ⟨k, hk, rfl, HK⟩ := hrel
        by_cases hlt : k < os.length
        · by_cases h64 : k < 64
          · have h64' : (k : Int) < 64 := by omega
            obtain ⟨cb, co, rfl, hcl, hcc⟩ := H1.out.lies hlt
            have hc := (World.cell?_of_block (w := w) (w' := wr) (a := ⟨cb, co + k, none⟩) (HK.out.kept.same cb hcl)).trans hcc
            clear hcc hcl
            go_wp2_with fail
            refine (filled_any (gi os k) (HO.out.get hlt) wr).mono ?_
            rintro e w4 ⟨rfl, h4⟩
            have A4 : Hid (Ax (fun b => b < w.heap.size) w w4 g (s3 bs os k)) := HK.out.below h4
            clear h4
            go_wp2_with fail
            refine (A4.out.write (63 - (k : Int)) (fill (gi os k)) (fill_length _) (s3_step bs os h64).2).mono ?_
            rintro e w5 ⟨rfl, h5⟩
            rw [(s3_step bs os h64).1] at h5
            have A5 : Hid (Ax (fun b => b < w.heap.size) w w5 g (s3 bs os (k + 1))) := h5
            clear h5
            go_wp2_with fail
            exact ⟨⟨k + 1, hlt, by go_num, A5⟩, by simp [intOf]; omega⟩
          · have h64' : ¬ (k : Int) < 64 := by omega
            go_wp2_with fail
            exact ⟨⟨k + 1, hlt, by go_num, by rw [s3_stay bs os h64]; exact HK⟩, by simp [intOf]; omega⟩
        · obtain rfl : k = os.length := by omega
          go_wp2_with fail
          refine (HK.out.restart cs v2 (H2.out.kept HK.out.kept H2B.out) H2B.out l2).mono ?_
          rintro e w7 ⟨rfl, h7⟩
          rw [s3_rest] at h7
          have A7 : Hid (Ax (fun b => b < w.heap.size) w w7 g (s4 bs os cs)) := h7
          clear h7
          go_wp2_with fail
          go_loopw [67] (fun c wr => ∃ k : Nat, k ≤ 64 ∧ c = .int .i64 (k : Int) ∧ Hid (Ax (fun b => b < w.heap.size) w wr g (s4 bs os cs))) (fun c _ => 64 - (intOf c).toNat)
          case atStart => exact ⟨0, Nat.zero_le _, rfl, A7⟩
          case round =>
            -- LAST
            obtain ⟨k, hk, rfl, HK⟩ := hrel
            by_cases hlt : k < 64
            · have F0 : Hid (Fx w wr g (s4 bs os cs) []) := HK.out.fx
              by_cases hkb : k < bs.length
              · obtain ⟨cb, co, rfl, hcl, hcc⟩ := H0.out.lies hkb
                have HC : Hid (cb < w.heap.size ∧ w.cell? ⟨cb, co + k, none⟩ = some (.int .u8 (gi bs k))) := ⟨hcl, hcc⟩
                have HWA : Hid (want bs k = fill (gi bs k)) := by show want bs k = _; unfold want; rw [if_pos hkb]
                clear hcl hcc
                go_wp2_with (refine wpList_store_mid rfl 35 _ _ rfl wr.heap.size 0 (bv z64).toArray rfl rfl (lay_there wr z64_length) (size_sec z64_length) (bv_one' _) ?_; generalize hW1 : World.setCells _ _ _ _ = W1; have F1 : Hid (Fx w W1 g (s4 bs os cs) [(wr.heap.size, z64)]) := F0.out.row z64_length hW1; clear hW1; generalize hbw : wr.heap.size = bw at F1 ⊢; clear hbw; have hc := (World.cell?_of_block (w := w) (w' := W1) (a := ⟨cb, co + k, none⟩) (F1.out.bel.block cb HC.out.1)).trans HC.out.2)
                refine (filled_any (gi bs k) (HB.out.get hkb) W1).mono ?_
                rintro e w4 ⟨rfl, h4⟩
                have F4 : Hid (Fx w w4 g (s4 bs os cs) [(bw, z64)]) := F1.out.below h4
                clear h4
                go_wp2_with (refine wpList_store_mid rfl 35 _ _ rfl bw 0 (bv (fill (gi bs k))).toArray rfl rfl ((F4.out.get (b := bw) (x := z64) (by simp)).ths (fill_length _)) (size_sec (fill_length _)) (bv_one' _) ?_; generalize hW2 : World.setCells _ _ _ _ = W2; have F2' : Hid (Fx w W2 g (s4 bs os cs) [(bw, fill (gi bs k))]) := F4.out.put (fill_length _) (fun p hp => by cases hp) hW2; clear hW2)
                have F2 : Hid (Fx w W2 g (s4 bs os cs) [(bw, want bs k)]) := by rw [HWA.out]; exact F2'
                refine (F2.out.read (k : Int)).mono ?_
                rintro e w5 ⟨rfl, h5⟩
                rw [(s4_read bs os cs hlt).1, (s4_read bs os cs hlt).2]
                have F5 : Hid (Fx w w5 g (s4 bs os cs) [(bw, want bs k)]) := h5
                clear h5
                have HL4 : Hid ((st4 bs os cs k).length = 64) := st4_length bs os cs hlt
                by_cases hov : os.length ≤ 63 - k
                · have hov' : (os.length : Int) ≤ 63 - (k : Int) := by omega
                  have hst : st4 bs os cs k = want bs k := by rw [st4_at bs os cs hlt, if_neg (by omega)]
                  rw [hst]
                  clear hst
                  have heq := eq_sec (want bs k) (want_length bs k)
                  go_wp2_with (first
                    | (refine wpList_store_mid rfl 35 _ _ rfl w5.heap.size 0 (bv (want bs k)).toArray rfl rfl (lay_there w5 (want_length bs k)) (size_sec (want_length bs k)) (bv_one' _) ?_; generalize hW3 : World.setCells _ _ _ _ = W3; have F6 : Hid (Fx w W3 g (s4 bs os cs) [(w5.heap.size, want bs k), (bw, want bs k)]) := F5.out.row (want_length bs k) hW3; clear hW3; generalize hbx : w5.heap.size = bx at F6 ⊢; clear hbx)
                    | (refine wpList_load_mid rfl 35 _ rfl bx 0 rfl (bv (want bs k)) _ (F6.out.get (b := bx) (x := want bs k) (by simp)).range Try.underlying35 rfl (by rw [bv_length, want_length]; exact size64) ?_)
                    | (refine wpList_load_mid rfl 35 _ rfl bw 0 rfl (bv (want bs k)) _ (F6.out.get (b := bw) (x := want bs k) (by simp)).range Try.underlying35 rfl (by rw [bv_length, want_length]; exact size64) ?_))
                  exact ⟨⟨k + 1, hlt, by go_num, F6.out.ax⟩, by simp [intOf]; omega⟩
                · have hov' : ¬ (os.length : Int) ≤ 63 - (k : Int) := by omega
                  have hol : 63 - k < os.length := by omega
                  obtain ⟨ob, oo, rfl, hol1, hol2⟩ := H1.out.lies hol
                  have HOC : Hid (ob < w.heap.size ∧ w.cell? ⟨ob, oo + (63 - k), none⟩ = some (.int .u8 (gi os (63 - k)))) := ⟨hol1, hol2⟩
                  clear hol1 hol2
                  have h63 : (63 - (k : Int)).toNat = 63 - k := by omega
                  go_wp2_with (refine wpList_store_mid rfl 35 _ _ rfl w5.heap.size 0 (bv (st4 bs os cs k)).toArray rfl rfl (lay_there w5 HL4.out) (size_sec HL4.out) (bv_one' _) ?_; generalize hW3 : World.setCells _ _ _ _ = W3; have F6 : Hid (Fx w W3 g (s4 bs os cs) [(w5.heap.size, st4 bs os cs k), (bw, want bs k)]) := F5.out.row HL4.out hW3; clear hW3; generalize hbx : w5.heap.size = bx at F6 ⊢; clear hbx; have hoc := (World.cell?_of_block (w := w) (w' := W3) (a := ⟨ob, oo + (63 - k), none⟩) (F6.out.bel.block ob HOC.out.1)).trans HOC.out.2)
                  refine (filled_any (gi os (63 - k)) (HO.out.get hol) W3).mono ?_
                  rintro e w7 ⟨rfl, h7⟩
                  have F7 : Hid (Fx w w7 g (s4 bs os cs) [(bx, st4 bs os cs k), (bw, want bs k)]) := F6.out.below h7
                  clear h7
                  go_wp2_with (refine wpList_store_mid rfl 35 _ _ rfl w7.heap.size 0 (bv (fill (gi os (63 - k)))).toArray rfl rfl (lay_there w7 (fill_length _)) (size_sec (fill_length _)) (bv_one' _) ?_; generalize hW8 : World.setCells _ _ _ _ = W8; have F8 : Hid (Fx w W8 g (s4 bs os cs) [(w7.heap.size, fill (gi os (63 - k))), (bx, st4 bs os cs k), (bw, want bs k)]) := F7.out.row (fill_length _) hW8; clear hW8; generalize hbn : w7.heap.size = bn at F8 ⊢; clear hbn)
                  go_loopw [102] (fun c wq => ∃ j : Nat, j ≤ 64 ∧ c = .int .i64 (j : Int) ∧ Hid (Fx w wq g (s4 bs os cs) [(bn, fill (gi os (63 - k))), (bx, st4 bs os cs k), (bw, want bs k)])) (fun c _ => 64 - (intOf c).toNat)
                  case atStart => exact ⟨0, Nat.zero_le _, rfl, F8⟩
                  case round =>
                    obtain ⟨j, hj, rfl, FK⟩ := hrel
                    by_cases hjl : j < 64
                    · have cx := (FK.out.get (b := bx) (x := st4 bs os cs k) (by simp)).cell hjl
                      have cw := (FK.out.get (b := bw) (x := want bs k) (by simp)).cell hjl
                      have cn := (FK.out.get (b := bn) (x := fill (gi os (63 - k))) (by simp)).cell hjl
                      have hor : gi (st4 bs os cs k) j = gi (want bs k) j ∨ gi (st4 bs os cs k) j = gi (fill (gi os (63 - k))) j := by
                        rw [st4_at bs os cs hlt, if_pos hol]
                        exact tear_get _ (want_length _ _) (fill_length _) j
                      generalize gi (st4 bs os cs k) j = vx at cx hor
                      generalize gi (want bs k) j = vw at cw hor
                      generalize gi (fill (gi os (63 - k))) j = vn at cn hor
                      by_cases hxw : vx = vw
                      · subst hxw
                        clear hor
                        go_wp2_with fail
                        go_quiet (fail)
                        go_wp2_with fail
                        exact ⟨⟨j + 1, hjl, by go_num, FK.out.below ⟨rfl, rfl, rfl, Nat.le_refl _, fun _ _ => rfl⟩⟩, by simp [intOf]; omega⟩
                      · obtain rfl : vx = vn := by rcases hor with h | h; exact absurd h hxw; exact h
                        have hdc : decide (vx = vw) = false := decide_eq_false hxw
                        clear hor
                        go_wp2_with fail
                        go_quiet (fail)
                        go_wp2_with fail
                        exact ⟨⟨j + 1, hjl, by go_num, FK.out.below ⟨rfl, rfl, rfl, Nat.le_refl _, fun _ _ => rfl⟩⟩, by simp [intOf]; omega⟩
                    · obtain rfl : j = 64 := by omega
                      go_wp2_with fail
                      exact ⟨⟨k + 1, hlt, by go_num, FK.out.ax⟩, by simp [intOf]; omega⟩
              · have HWA : Hid (want bs k = z64) := by show want bs k = _; unfold want; rw [if_neg hkb]
                have hkb' : ¬ (k : Int) < (bs.length : Int) := by omega
                go_wp2_with (refine wpList_store_mid rfl 35 _ _ rfl wr.heap.size 0 (bv z64).toArray rfl rfl (lay_there wr z64_length) (size_sec z64_length) (bv_one' _) ?_; generalize hW1 : World.setCells _ _ _ _ = W1; have F1 : Hid (Fx w W1 g (s4 bs os cs) [(wr.heap.size, z64)]) := F0.out.row z64_length hW1; clear hW1; generalize hbw : wr.heap.size = bw at F1 ⊢; clear hbw)
                have F2 : Hid (Fx w W1 g (s4 bs os cs) [(bw, want bs k)]) := by rw [HWA.out]; exact F1
                refine (F2.out.read (k : Int)).mono ?_
                rintro e w5 ⟨rfl, h5⟩
                rw [(s4_read bs os cs hlt).1, (s4_read bs os cs hlt).2]
                have F5 : Hid (Fx w w5 g (s4 bs os cs) [(bw, want bs k)]) := h5
                clear h5
                have HL4 : Hid ((st4 bs os cs k).length = 64) := st4_length bs os cs hlt
                by_cases hov : os.length ≤ 63 - k
                · have hov' : (os.length : Int) ≤ 63 - (k : Int) := by omega
                  have hst : st4 bs os cs k = want bs k := by rw [st4_at bs os cs hlt, if_neg (by omega)]
                  rw [hst]
                  clear hst
                  have heq := eq_sec (want bs k) (want_length bs k)
                  go_wp2_with (first
                    | (refine wpList_store_mid rfl 35 _ _ rfl w5.heap.size 0 (bv (want bs k)).toArray rfl rfl (lay_there w5 (want_length bs k)) (size_sec (want_length bs k)) (bv_one' _) ?_; generalize hW3 : World.setCells _ _ _ _ = W3; have F6 : Hid (Fx w W3 g (s4 bs os cs) [(w5.heap.size, want bs k), (bw, want bs k)]) := F5.out.row (want_length bs k) hW3; clear hW3; generalize hbx : w5.heap.size = bx at F6 ⊢; clear hbx)
                    | (refine wpList_load_mid rfl 35 _ rfl bx 0 rfl (bv (want bs k)) _ (F6.out.get (b := bx) (x := want bs k) (by simp)).range Try.underlying35 rfl (by rw [bv_length, want_length]; exact size64) ?_)
                    | (refine wpList_load_mid rfl 35 _ rfl bw 0 rfl (bv (want bs k)) _ (F6.out.get (b := bw) (x := want bs k) (by simp)).range Try.underlying35 rfl (by rw [bv_length, want_length]; exact size64) ?_))
                  exact ⟨⟨k + 1, hlt, by go_num, F6.out.ax⟩, by simp [intOf]; omega⟩
                · have hov' : ¬ (os.length : Int) ≤ 63 - (k : Int) := by omega
                  have hol : 63 - k < os.length := by omega
                  obtain ⟨ob, oo, rfl, hol1, hol2⟩ := H1.out.lies hol
                  have HOC : Hid (ob < w.heap.size ∧ w.cell? ⟨ob, oo + (63 - k), none⟩ = some (.int .u8 (gi os (63 - k)))) := ⟨hol1, hol2⟩
                  clear hol1 hol2
                  have h63 : (63 - (k : Int)).toNat = 63 - k := by omega
                  go_wp2_with (refine wpList_store_mid rfl 35 _ _ rfl w5.heap.size 0 (bv (st4 bs os cs k)).toArray rfl rfl (lay_there w5 HL4.out) (size_sec HL4.out) (bv_one' _) ?_; generalize hW3 : World.setCells _ _ _ _ = W3; have F6 : Hid (Fx w W3 g (s4 bs os cs) [(w5.heap.size, st4 bs os cs k), (bw, want bs k)]) := F5.out.row HL4.out hW3; clear hW3; generalize hbx : w5.heap.size = bx at F6 ⊢; clear hbx; have hoc := (World.cell?_of_block (w := w) (w' := W3) (a := ⟨ob, oo + (63 - k), none⟩) (F6.out.bel.block ob HOC.out.1)).trans HOC.out.2)
                  refine (filled_any (gi os (63 - k)) (HO.out.get hol) W3).mono ?_
                  rintro e w7 ⟨rfl, h7⟩
                  have F7 : Hid (Fx w w7 g (s4 bs os cs) [(bx, st4 bs os cs k), (bw, want bs k)]) := F6.out.below h7
                  clear h7
                  go_wp2_with (refine wpList_store_mid rfl 35 _ _ rfl w7.heap.size 0 (bv (fill (gi os (63 - k)))).toArray rfl rfl (lay_there w7 (fill_length _)) (size_sec (fill_length _)) (bv_one' _) ?_; generalize hW8 : World.setCells _ _ _ _ = W8; have F8 : Hid (Fx w W8 g (s4 bs os cs) [(w7.heap.size, fill (gi os (63 - k))), (bx, st4 bs os cs k), (bw, want bs k)]) := F7.out.row (fill_length _) hW8; clear hW8; generalize hbn : w7.heap.size = bn at F8 ⊢; clear hbn)
                  go_loopw [102] (fun c wq => ∃ j : Nat, j ≤ 64 ∧ c = .int .i64 (j : Int) ∧ Hid (Fx w wq g (s4 bs os cs) [(bn, fill (gi os (63 - k))), (bx, st4 bs os cs k), (bw, want bs k)])) (fun c _ => 64 - (intOf c).toNat)
                  case atStart => exact ⟨0, Nat.zero_le _, rfl, F8⟩
                  case round =>
                    obtain ⟨j, hj, rfl, FK⟩ := hrel
                    by_cases hjl : j < 64
                    · have cx := (FK.out.get (b := bx) (x := st4 bs os cs k) (by simp)).cell hjl
                      have cw := (FK.out.get (b := bw) (x := want bs k) (by simp)).cell hjl
                      have cn := (FK.out.get (b := bn) (x := fill (gi os (63 - k))) (by simp)).cell hjl
                      have hor : gi (st4 bs os cs k) j = gi (want bs k) j ∨ gi (st4 bs os cs k) j = gi (fill (gi os (63 - k))) j := by
                        rw [st4_at bs os cs hlt, if_pos hol]
                        exact tear_get _ (want_length _ _) (fill_length _) j
                      generalize gi (st4 bs os cs k) j = vx at cx hor
                      generalize gi (want bs k) j = vw at cw hor
                      generalize gi (fill (gi os (63 - k))) j = vn at cn hor
                      by_cases hxw : vx = vw
                      · subst hxw
                        clear hor
                        go_wp2_with fail
                        go_quiet (fail)
                        go_wp2_with fail
                        exact ⟨⟨j + 1, hjl, by go_num, FK.out.below ⟨rfl, rfl, rfl, Nat.le_refl _, fun _ _ => rfl⟩⟩, by simp [intOf]; omega⟩
                      · obtain rfl : vx = vn := by rcases hor with h | h; exact absurd h hxw; exact h
                        have hdc : decide (vx = vw) = false := decide_eq_false hxw
                        clear hor
                        go_wp2_with fail
                        go_quiet (fail)
                        go_wp2_with fail
                        exact ⟨⟨j + 1, hjl, by go_num, FK.out.below ⟨rfl, rfl, rfl, Nat.le_refl _, fun _ _ => rfl⟩⟩, by simp [intOf]; omega⟩
                    · obtain rfl : j = 64 := by omega
                      go_wp2_with fail
                      exact ⟨⟨k + 1, hlt, by go_num, FK.out.ax⟩, by simp [intOf]; omega⟩
            · obtain rfl : k = 64 := by omega
              go_wp2_with fail
              refine (HK.out.waiting).mono ?_
              rintro e w8 ⟨rfl, rfl⟩
              go_wp2_with fail
              refine (HK.out.down).mono ?_
              rintro e w9 ⟨rfl, rfl⟩
              go_wp2_with fail
              go_ret
              exact ⟨rfl, HK.out.kept.below (fun _ h => h)⟩
end Go.Proofs.Ytmlialabdijcoaa
