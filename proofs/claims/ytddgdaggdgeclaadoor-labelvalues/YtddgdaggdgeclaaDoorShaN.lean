/- 'Sum' where the number of bits wants a block of its own. -/
import Derived.Test.YtddgdaggdgeclaaDoorShaM
import Derived.Deep.CutRange
namespace Go.Proofs.YtddgdaggdgeclaaDoor.Sh
open Go Go.RowKit

set_option maxRecDepth 100000 in
set_option maxHeartbeats 1000000 in
theorem sum_two (K : Nat → BitVec 32) (s : St) (buf : Nat → BitVec 8) (hb N r : Nat) (hr : N % 64 = r) (h56 : 56 ≤ r) (hN : N < 1152921504606846976) (w : World) (hw : HRow w hb s buf N)
    (hK : ∀ i, i < 64 → w.cell? ⟨2, i, none⟩ = some (U (K i))) :
    Calls Tryd.prog 34 #[.pointer (some ⟨hb, 0, none⟩)] w fun e w' => e = .returned (.agg (srow (compress K (compress K s (lastF buf N r 128)) (fun i => lastF buf N r 128 (64 + i))))) ∧ Below w.heap.size w w' := by
  have hlt := hw.lt
  have HW : Hid (HRow w hb s buf N) := hw
  have HK : Hid (∀ i, i < 64 → w.cell? ⟨2, i, none⟩ = some (U (K i))) := hK
  have HR : Hid (N % 64 = r) := hr
  have hc := hw.len
  clear hw hK hr
  have g1 : (N : Int) < 1152921504606846976 := by omega
  have hz := zero_32
  have hz1 := zero_128
  have hr64 : r < 64 := by have := HR.out; omega
  have g2 : (r : Int) < 64 := by omega
  have sl0 := fun w1 => sliceAt_all w1 64 5 128 (w.heap.size + 1) 0 Tryd.underlying64 size_u8
  have sl1 := fun w1 => sliceAt_h w1 56 5 64 hb 8 (r : Int) r rfl Tryd.underlying56 size_u8 (by omega)
  have HB0 : Hid (Below w.heap.size w ((w.alloc (.cells z32 24)).alloc (.cells z128 64))) := ((Below.refl _ _).alloc (Nat.le_refl _) _).alloc (by simp) _
  have HRW : Hid (((w.alloc (.cells z32 24)).alloc (.cells z128 64)).heap[w.heap.size + 1]? = some (.cells (brow 128 (fun _ => 0)) 64 (0, 0))) := by
    have := heap_alloc2_new w (.cells z32 24) (.cells z128 64)
    rw [← z128_brow]; exact this
  have HS : Hid (∀ j v, ((List.range r).map fun i => B (buf i))[j]? = some v → ((w.alloc (.cells z32 24)).alloc (.cells z128 64)).cell? ((⟨hb, 8, none⟩ : Addr).add j) = some v) :=
    src_cells (n := r) (fun i hi => by rw [HB0.out.cell (p := ⟨hb, 8 + i, none⟩) hlt]; exact HW.out.bf i (by omega)) r (Nat.le_refl _)
  have HF : Hid (0 + ((List.range r).map fun i => B (buf i)).length ≤ (brow 128 (fun _ => 0)).size) := by
    show 0 + ((List.range r).map fun i => B (buf i)).length ≤ (brow 128 (fun _ => 0)).size
    rw [brow_size, List.length_map, List.length_range]; omega
  have HC : Hid (((w.alloc (.cells z32 24)).alloc (.cells z128 64)).cell? ⟨hb, 72, none⟩ = some (.int .u64 (N : Int))) := (HB0.out.cell (p := ⟨hb, 72, none⟩) hlt).trans hc
  have HN1 : Hid ((N : Int) < 4611686018427387904) := by show (N : Int) < 4611686018427387904; omega
  have HLE : Hid (((List.range r).map fun i => B (buf i)).length = Nat.min r 128) := by
    show _ = min r 128
    simp; omega
  go_enter Tryd.func34, Tryd.ntmps34
  go_wp2_with fail
  go_region_held3 (fun _ => True) (trivial) (first | (go_at_call 35; refine (held_at hb N r HR.out HN1.out _ ?_).mono ?_; exact HC.out; rintro e w' ⟨rfl, rfl⟩) | (refine step_copyL rfl (.tmp 10) (.tmp 16) 30 30 rfl 5 Tryd.underlying30 size_u8 (w.heap.size + 1) 0 128 128 ⟨hb, 8, none⟩ r 64 ?_ ?_ (brow 128 (fun _ => 0)) 64 ?_ ((List.range r).map fun i => B (buf i)) HLE.out ?_ HF.out (bytes_one r _) ?_; rfl; rfl; exact HRW.out; exact HS.out; intro w2 hg2 hz2 hr2))
  have HSR2 : Hid (SRow w w2 (bput (fun _ => 0) 0 r buf)) := by
    have h0 : Below w.heap.size w ((w.alloc (.cells z32 24)).alloc (.cells z128 64)).drew := HB0.out.drew
    refine ⟨h0.grown hg2 (by simp; omega) (fun k hk => by cases hk; omega), ?_, ?_, ?_⟩
    · rw [brow_splice 128 (fun _ => 0) 0 r buf (by omega)] at hr2; exact hr2
    · rw [hg2.block w.heap.size (by simp; omega) (by simp)]; exact heap_alloc2_old w (.cells z32 24) (.cells z128 64)
    · rw [hz2]; simp
  clear hr2 hg2 hz2 HRW HS HF HLE HC sl0 sl1
  have k1 := HSR2.out.cell r (by omega)
  have k2 := HSR2.out.froz r
  have g3 : (r : Int) < 128 := by omega
  have g4 : decide ((56 : Int) ≤ (r : Int)) = true := by simp; omega
  go_wp2_with fail
  generalize hW3 : w2.setCell ⟨w.heap.size + 1, r, none⟩ (.int .u8 128) = w3
  have HS3 : Hid (SRow w w3 (last1 buf r)) := by rw [← hW3]; exact HSR2.out.put1 hr64
  clear hW3 k1 k2
  have HX : Hid ((N : Int) * 8 = ul (BitVec.ofNat 64 (8 * N))) := by
    show (N : Int) * 8 = ((BitVec.ofNat 64 (8 * N)).toNat : Int)
    rw [BitVec.toNat_ofNat]; omega
  have HX2 : Hid (IntKind.u64.wrap ((N : Int) * 8) = ul (BitVec.ofNat 64 (8 * N))) := by
    show IntKind.u64.wrap ((N : Int) * 8) = _
    rw [← HX.out, IntKind.wrap_u64]; omega
  have wr8 : IntKind.i64.wrap 120 = 120 := by decide
  have c72 : w3.cell? ⟨hb, 72, none⟩ = some (.int .u64 (N : Int)) := (HS3.out.below.cell (p := ⟨hb, 72, none⟩) hlt).trans hc
  have sl2 : ∀ w1 : World, (Instr.sliceAt 64 (.pointer (some ⟨w.heap.size + 1, 0, none⟩)) (some (.int .i64 120)) (some (.int .i64 128)) none).run Tryd.prog w1 = .ok (.slice (some ⟨w.heap.size + 1, 120, none⟩) 8 8) w1 :=
    fun w1 => sliceAt_lh w1 64 5 128 (w.heap.size + 1) 0 120 128 120 128 rfl rfl Tryd.underlying64 size_u8 (by omega) (by omega) (by omega)
  have HTH : Hid (w3.there (w.heap.size + 1) 120 8) := there_of_row HS3.out.last 120 8 (by rw [brow_size]; omega)
  go_region_with (go_at_call 37; rw [HX2.out]; refine (putWord64_any (w.heap.size + 1) 120 _ (by omega) (BitVec.ofNat 64 (8 * N)) _ ?_).mono ?_; exact HTH.out; rintro e w4 ⟨rfl, hw4⟩)
  have HS4 : Hid (SRow w w4 (lastF buf N r 128)) := by
    rw [← hw4]
    have h3 : SRow w w3.drew (last1 buf r) := ⟨HS3.out.below.drew, HS3.out.last, HS3.out.res, HS3.out.size⟩
    exact h3.put8 (e := 128) (by omega)
  clear hw4 c72
  obtain ⟨p, hp⟩ : ∃ p, compress K s (lastF buf N r 128) = p := ⟨_, rfl⟩
  have hst := HW.out.st
  obtain ⟨sa, sb, sc, sd, se, sf, sg, sh⟩ := s
  obtain ⟨pa, pb, pc, pd, pe, pf, pg, ph⟩ := p
  have HP : Hid (compress K ⟨sa, sb, sc, sd, se, sf, sg, sh⟩ (lastF buf N r 128) = ⟨pa, pb, pc, pd, pe, pf, pg, ph⟩) := hp
  clear hp
  have c0 : w4.cell? ⟨hb, 0, none⟩ = some (U sa) := (HS4.out.below.cell (p := ⟨hb, 0, none⟩) hlt).trans (hst 0 (by omega))
  have c1 : w4.cell? ⟨hb, 1, none⟩ = some (U sb) := (HS4.out.below.cell (p := ⟨hb, 1, none⟩) hlt).trans (hst 1 (by omega))
  have c2 : w4.cell? ⟨hb, 2, none⟩ = some (U sc) := (HS4.out.below.cell (p := ⟨hb, 2, none⟩) hlt).trans (hst 2 (by omega))
  have c3 : w4.cell? ⟨hb, 3, none⟩ = some (U sd) := (HS4.out.below.cell (p := ⟨hb, 3, none⟩) hlt).trans (hst 3 (by omega))
  have c4 : w4.cell? ⟨hb, 4, none⟩ = some (U se) := (HS4.out.below.cell (p := ⟨hb, 4, none⟩) hlt).trans (hst 4 (by omega))
  have c5 : w4.cell? ⟨hb, 5, none⟩ = some (U sf) := (HS4.out.below.cell (p := ⟨hb, 5, none⟩) hlt).trans (hst 5 (by omega))
  have c6 : w4.cell? ⟨hb, 6, none⟩ = some (U sg) := (HS4.out.below.cell (p := ⟨hb, 6, none⟩) hlt).trans (hst 6 (by omega))
  have c7 : w4.cell? ⟨hb, 7, none⟩ = some (U sh) := (HS4.out.below.cell (p := ⟨hb, 7, none⟩) hlt).trans (hst 7 (by omega))
  clear hst
  have hklt : 2 < w.heap.size := block_lt_of_cell (HK.out 0 (by omega))
  have HMM : Hid (∀ i, i < 64 → w4.cell? ⟨w.heap.size + 1, 0 + i, none⟩ = some (B (lastF buf N r 128 i))) := fun i hi => by rw [Nat.zero_add]; exact HS4.out.cell i (by omega)
  have HKK : Hid (∀ i, i < 64 → w4.cell? ⟨2, i, none⟩ = some (U (K i))) := fun i hi => (HS4.out.below.cell (p := ⟨2, i, none⟩) hklt).trans (HK.out i hi)
  have sl3 : ∀ w1 : World, (Instr.sliceAt 64 (.pointer (some ⟨w.heap.size + 1, 0, none⟩)) none (some (.int .i64 64)) none).run Tryd.prog w1 = .ok (.slice (some ⟨w.heap.size + 1, 0, none⟩) 64 128) w1 :=
    fun w1 => sliceAt_h w1 64 5 128 (w.heap.size + 1) 0 64 64 rfl Tryd.underlying64 size_u8 (by omega)
  have HMM2 : Hid (∀ o : Obj, ∀ i, i < 64 → (w4.alloc o).cell? ⟨w.heap.size + 1, 0 + i, none⟩ = some (B (lastF buf N r 128 i))) := fun o i hi => by
    rw [((Below.refl w4.heap.size w4).alloc (Nat.le_refl _) o).cell (p := ⟨w.heap.size + 1, 0 + i, none⟩) (by have := HS4.out.size; show w.heap.size + 1 < _; omega)]; exact HMM.out i hi
  have HKK2 : Hid (∀ o : Obj, ∀ i, i < 64 → (w4.alloc o).cell? ⟨2, i, none⟩ = some (U (K i))) := fun o i hi => by
    rw [((Below.refl w4.heap.size w4).alloc (Nat.le_refl _) o).cell (p := ⟨2, i, none⟩) (by have := HS4.out.size; show 2 < _; omega)]; exact HKK.out i hi
  have hsz4 : w.heap.size + 2 ≤ w4.heap.size := HS4.out.size
  have hb4 : hb < w4.heap.size := by omega
  go_wp2_with fail
  go_cut [6] from 32 to 37 (fun s6 wx => ∃ q, s6 = .pointer (some ⟨q, 0, none⟩) ∧ PRel w wx (lastF buf N r 128) q ⟨pa, pb, pc, pd, pe, pf, pg, ph⟩)
  case first =>
    go_region_with (go_at_call 36; refine (mix_at K (lastF buf N r 128) sa sb sc sd se sf sg sh pa pb pc pd pe pf pg ph HP.out (w.heap.size + 1) 0 64 _ (Nat.le_refl _) (by omega) _ ?_ ?_).mono ?_; (first | exact HMM.out | exact HMM2.out _); (first | exact HKK.out | exact HKK2.out _); rintro e w5 ⟨rfl, hb5⟩; (first | (have hq := newblk hb5; have q0 := cell_of_row _ _ 0 _ _ _ hq; have q1 := cell_of_row _ _ 1 _ _ _ hq; have q2 := cell_of_row _ _ 2 _ _ _ hq; have q3 := cell_of_row _ _ 3 _ _ _ hq; have q4 := cell_of_row _ _ 4 _ _ _ hq; have q5 := cell_of_row _ _ 5 _ _ _ hq; have q6 := cell_of_row _ _ 6 _ _ _ hq; have q7 := cell_of_row _ _ 7 _ _ _ hq; have qf := frozen_of_row _ _ 0 _ _ hq; have qf1 := frozen_of_row _ _ 1 _ _ hq; have qf2 := frozen_of_row _ _ 2 _ _ hq; have qf3 := frozen_of_row _ _ 3 _ _ hq; have qf4 := frozen_of_row _ _ 4 _ _ hq; have qf5 := frozen_of_row _ _ 5 _ _ hq; have qf6 := frozen_of_row _ _ 6 _ _ hq; have qf7 := frozen_of_row _ _ 7 _ _ hq; clear hq) | skip); have HB5 := hb5; clear hb5)
    all_goals (go_wp2_with fail; go_meet; first | exact ⟨_, rfl, PRel.a HS4.out HB5 ⟨pa, pb, pc, pd, pe, pf, pg, ph⟩⟩ | exact ⟨_, rfl, PRel.b HS4.out HB5 ⟨pa, pb, pc, pd, pe, pf, pg, ph⟩⟩)
  case rest =>
    obtain ⟨q, rfl, hpr⟩ := hcut
    clear c0 c1 c2 c3 c4 c5 c6 c7 sl3 hb4
    obtain ⟨t, ht⟩ : ∃ t, compress K ⟨pa, pb, pc, pd, pe, pf, pg, ph⟩ (fun i => lastF buf N r 128 (64 + i)) = t := ⟨_, rfl⟩
    obtain ⟨ta, tb, tc, td, te, tf, tg, th⟩ := t
    have HQ : Hid (compress K ⟨pa, pb, pc, pd, pe, pf, pg, ph⟩ (fun i => lastF buf N r 128 (64 + i)) = ⟨ta, tb, tc, td, te, tf, tg, th⟩) := ht
    clear ht
    have c0 : wc.cell? ⟨q, 0, none⟩ = some (U pa) := cell_of_row _ _ 0 _ _ _ hpr.row
    have c1 : wc.cell? ⟨q, 1, none⟩ = some (U pb) := cell_of_row _ _ 1 _ _ _ hpr.row
    have c2 : wc.cell? ⟨q, 2, none⟩ = some (U pc) := cell_of_row _ _ 2 _ _ _ hpr.row
    have c3 : wc.cell? ⟨q, 3, none⟩ = some (U pd) := cell_of_row _ _ 3 _ _ _ hpr.row
    have c4 : wc.cell? ⟨q, 4, none⟩ = some (U pe) := cell_of_row _ _ 4 _ _ _ hpr.row
    have c5 : wc.cell? ⟨q, 5, none⟩ = some (U pf) := cell_of_row _ _ 5 _ _ _ hpr.row
    have c6 : wc.cell? ⟨q, 6, none⟩ = some (U pg) := cell_of_row _ _ 6 _ _ _ hpr.row
    have c7 : wc.cell? ⟨q, 7, none⟩ = some (U ph) := cell_of_row _ _ 7 _ _ _ hpr.row
    have sl4 : ∀ w1 : World, (Instr.sliceAt 64 (.pointer (some ⟨w.heap.size + 1, 0, none⟩)) (some (.int .i64 64)) none none).run Tryd.prog w1 = .ok (.slice (some ⟨w.heap.size + 1, 64, none⟩) 64 64) w1 :=
      fun w1 => sliceAt_l w1 64 5 128 (w.heap.size + 1) 0 64 64 rfl Tryd.underlying64 size_u8 (by omega)
    have HMM3 : Hid (∀ i, i < 64 → wc.cell? ⟨w.heap.size + 1, 64 + i, none⟩ = some (B (lastF buf N r 128 (64 + i)))) := fun i hi => hpr.srow.cell (64 + i) (by omega)
    have HKK3 : Hid (∀ i, i < 64 → wc.cell? ⟨2, i, none⟩ = some (U (K i))) := fun i hi => (hpr.srow.below.cell (p := ⟨2, i, none⟩) hklt).trans (HK.out i hi)
    have HPR1 : Hid (PRel w wc (lastF buf N r 128) q ⟨pa, pb, pc, pd, pe, pf, pg, ph⟩) := hpr
    clear hpr
    go_wp2_with fail
    go_region_with (go_at_call 36; refine (mix_at K (fun i => lastF buf N r 128 (64 + i)) pa pb pc pd pe pf pg ph ta tb tc td te tf tg th HQ.out (w.heap.size + 1) 64 64 _ (Nat.le_refl _) (by omega) _ ?_ ?_).mono ?_; exact HMM3.out; exact HKK3.out; rintro e w7 ⟨rfl, hb7⟩; have hq := PRel.after HPR1.out hb7; have q0 : w7.cell? ⟨q, 0, none⟩ = some (U pa) := cell_of_row _ _ 0 _ _ _ hq.row; have q1 : w7.cell? ⟨q, 1, none⟩ = some (U pb) := cell_of_row _ _ 1 _ _ _ hq.row; have q2 : w7.cell? ⟨q, 2, none⟩ = some (U pc) := cell_of_row _ _ 2 _ _ _ hq.row; have q3 : w7.cell? ⟨q, 3, none⟩ = some (U pd) := cell_of_row _ _ 3 _ _ _ hq.row; have q4 : w7.cell? ⟨q, 4, none⟩ = some (U pe) := cell_of_row _ _ 4 _ _ _ hq.row; have q5 : w7.cell? ⟨q, 5, none⟩ = some (U pf) := cell_of_row _ _ 5 _ _ _ hq.row; have q6 : w7.cell? ⟨q, 6, none⟩ = some (U pg) := cell_of_row _ _ 6 _ _ _ hq.row; have q7 : w7.cell? ⟨q, 7, none⟩ = some (U ph) := cell_of_row _ _ 7 _ _ _ hq.row; have qf : ∀ i, w7.frozen? ⟨q, i, none⟩ = false := fun i => frozen_of_row _ _ i _ _ hq.row; have HQ7 : Hid (PRel w w7 (lastF buf N r 128) q ⟨pa, pb, pc, pd, pe, pf, pg, ph⟩) := hq; clear hq hb7)
    generalize hW8 : ((((((((w7.setCell ⟨q, 0, none⟩ (U ta)).setCell ⟨q, 1, none⟩ (U tb)).setCell ⟨q, 2, none⟩ (U tc)).setCell ⟨q, 3, none⟩ (U td)).setCell ⟨q, 4, none⟩ (U te)).setCell ⟨q, 5, none⟩ (U tf)).setCell ⟨q, 6, none⟩ (U tg)).setCell ⟨q, 7, none⟩ (U th)) = w8
    have hpr : PRel w w8 (lastF buf N r 128) q ⟨ta, tb, tc, td, te, tf, tg, th⟩ := by rw [← hW8]; exact HQ7.out.put ⟨ta, tb, tc, td, te, tf, tg, th⟩
    clear hW8 c0 c1 c2 c3 c4 c5 c6 c7 q0 q1 q2 q3 q4 q5 q6 q7 qf
    have e0 : w8.cell? ⟨q, 0, none⟩ = some (U ta) := cell_of_row _ _ 0 _ _ _ hpr.row
    have e1 : w8.cell? ⟨q, 1, none⟩ = some (U tb) := cell_of_row _ _ 1 _ _ _ hpr.row
    have e2 : w8.cell? ⟨q, 2, none⟩ = some (U tc) := cell_of_row _ _ 2 _ _ _ hpr.row
    have e3 : w8.cell? ⟨q, 3, none⟩ = some (U td) := cell_of_row _ _ 3 _ _ _ hpr.row
    have e4 : w8.cell? ⟨q, 4, none⟩ = some (U te) := cell_of_row _ _ 4 _ _ _ hpr.row
    have e5 : w8.cell? ⟨q, 5, none⟩ = some (U tf) := cell_of_row _ _ 5 _ _ _ hpr.row
    have e6 : w8.cell? ⟨q, 6, none⟩ = some (U tg) := cell_of_row _ _ 6 _ _ _ hpr.row
    have e7 : w8.cell? ⟨q, 7, none⟩ = some (U th) := cell_of_row _ _ 7 _ _ _ hpr.row
    have HPR : Hid (SRow w w8 _) := hpr.srow
    clear hpr
    go_wp2_with fail
    refine (bytes256_any ⟨ta, tb, tc, td, te, tf, tg, th⟩ _).mono ?_
    rintro e w6 ⟨rfl, hb6⟩
    have HS6 : Hid (SRow w w6 _) := HPR.out.below' hb6
    have HT6 : Hid (w6.there w.heap.size 0 (srow ⟨ta, tb, tc, td, te, tf, tg, th⟩).size) := by rw [srow_size]; exact there_of_row HS6.out.res 0 32 (by rw [z32_size]; omega)
    clear hb6 e0 e1 e2 e3 e4 e5 e6 e7
    go_wp2_with (refine wpList_store_mid rfl 24 _ _ rfl w.heap.size 0 (srow ⟨ta, tb, tc, td, te, tf, tg, th⟩) rfl rfl HT6.out (by rw [srow_size]; kernel_rfl) (by exact srow_one _) ?_)
    rw [HP.out, HQ.out]
    refine bodyPost_ret (v := .agg (srow ⟨ta, tb, tc, td, te, tf, tg, th⟩)) ?_ rfl ⟨rfl, ?_⟩
    · exact results_mid Tryd.results34 _ _ w.heap.size 0 (srow ⟨ta, tb, tc, td, te, tf, tg, th⟩).toList _ rfl (World.rangeAt_setCells_same _ _ _ _ HT6.out) Tryd.underlying24 rfl (by rw [Array.length_toList, srow_size]; kernel_rfl)
    · exact below_setCells _ (Nat.le_refl _) _ _ _ HS6.out.below
end Go.Proofs.YtddgdaggdgeclaaDoor.Sh
