/- 'Sum' where the number of bits wants a block of its own. -/
import Derived.Test.YtpojalbpekbfdabDoorShaK
import Derived.Deep.CutRange
namespace Go.Proofs.YtpojalbpekbfdabDoor.Sh
open Go Go.RowKit

set_option maxRecDepth 100000 in
set_option maxHeartbeats 1000000 in
theorem sum_two (K : Nat → BitVec 32) (s : St) (buf : Nat → BitVec 8) (hb N r : Nat) (hr : N % 64 = r) (h56 : 56 ≤ r) (hN : N < 1152921504606846976) (w : World) (hw : HRow w hb s buf N)
    (hK : ∀ i, i < 64 → w.cell? ⟨2, i, none⟩ = some (U (K i))) :
    Calls Tryd.prog 64 #[.pointer (some ⟨hb, 0, none⟩)] w fun e w' => e = .returned (.agg (srow (compress K (compress K s (lastF buf N r 128)) (fun i => lastF buf N r 128 (64 + i))))) ∧ Below w.heap.size w w' := by
  have hlt := hw.lt
  have HW : Hid (HRow w hb s buf N) := hw
  have HK : Hid (∀ i, i < 64 → w.cell? ⟨2, i, none⟩ = some (U (K i))) := hK
  have HR : Hid (N % 64 = r) := hr
  have hc := hw.len
  clear hw hK hr
  have g1 : (N : Int) < 1152921504606846976 := by omega
  have hz := zero_32
  have hz1 := zero_128
  have hr64 : r < 64 := by have := HR.out; omega
  have g2 : (r : Int) < 64 := by omega
  have sl0 := fun w1 => sliceAt_all w1 114 5 128 (w.heap.size + 1) 0 Tryd.underlying114 size_u8
  have sl1 := fun w1 => sliceAt_h w1 90 5 64 hb 8 (r : Int) r rfl Tryd.underlying90 size_u8 (by omega)
  have HB0 : Hid (Below w.heap.size w ((w.alloc (.cells z32 25)).alloc (.cells z128 114))) := ((Below.refl _ _).alloc (Nat.le_refl _) _).alloc (by simp) _
  have HRW : Hid (((w.alloc (.cells z32 25)).alloc (.cells z128 114)).heap[w.heap.size + 1]? = some (.cells (brow 128 (fun _ => 0)) 114 (0, 0))) := by
    have := heap_alloc2_new w (.cells z32 25) (.cells z128 114)
    rw [← z128_brow]; exact this
  have HS : Hid (∀ j v, ((List.range r).map fun i => B (buf i))[j]? = some v → ((w.alloc (.cells z32 25)).alloc (.cells z128 114)).cell? ((⟨hb, 8, none⟩ : Addr).add j) = some v) :=
    src_cells (n := r) (fun i hi => by rw [HB0.out.cell (p := ⟨hb, 8 + i, none⟩) hlt]; exact HW.out.bf i (by omega)) r (Nat.le_refl _)
  have HF : Hid (0 + ((List.range r).map fun i => B (buf i)).length ≤ (brow 128 (fun _ => 0)).size) := by
    show 0 + ((List.range r).map fun i => B (buf i)).length ≤ (brow 128 (fun _ => 0)).size
    rw [brow_size, List.length_map, List.length_range]; omega
  have HC : Hid (((w.alloc (.cells z32 25)).alloc (.cells z128 114)).cell? ⟨hb, 72, none⟩ = some (.int .u64 (N : Int))) := (HB0.out.cell (p := ⟨hb, 72, none⟩) hlt).trans hc
  have HN1 : Hid ((N : Int) < 4611686018427387904) := by show (N : Int) < 4611686018427387904; omega
  have HLE : Hid (((List.range r).map fun i => B (buf i)).length = Nat.min r 128) := by
    show _ = min r 128
    simp; omega
  go_enter Tryd.func64, Tryd.ntmps64
  go_wp2_with fail
  go_region_held3 (fun _ => True) (trivial) (first | (go_at_call 77; refine (held_at hb N r HR.out HN1.out _ ?_).mono ?_; exact HC.out; rintro e w' ⟨rfl, rfl⟩) | (refine step_copyL rfl (.tmp 10) (.tmp 16) 51 51 rfl 5 Tryd.underlying51 size_u8 (w.heap.size + 1) 0 128 128 ⟨hb, 8, none⟩ r 64 ?_ ?_ (brow 128 (fun _ => 0)) 114 ?_ ((List.range r).map fun i => B (buf i)) HLE.out ?_ HF.out (bytes_one r _) ?_; rfl; rfl; exact HRW.out; exact HS.out; intro w2 hg2 hz2 hr2))
  have HSR2 : Hid (SRow w w2 (bput (fun _ => 0) 0 r buf)) := by
    have h0 : Below w.heap.size w ((w.alloc (.cells z32 25)).alloc (.cells z128 114)).drew := HB0.out.drew
    refine ⟨h0.grown hg2 (by simp; omega) (fun k hk => by cases hk; omega), ?_, ?_, ?_⟩
    · rw [brow_splice 128 (fun _ => 0) 0 r buf (by omega)] at hr2; exact hr2
    · rw [hg2.block w.heap.size (by simp; omega) (by simp)]; exact heap_alloc2_old w (.cells z32 25) (.cells z128 114)
    · rw [hz2]; simp
  clear hr2 hg2 hz2 HRW HS HF HLE HC sl0 sl1
  have k1 := HSR2.out.cell r (by omega)
  have k2 := HSR2.out.froz r
  have g3 : (r : Int) < 128 := by omega
  have g4 : decide ((56 : Int) ≤ (r : Int)) = true := by simp; omega
  go_wp2_with fail
  generalize hW3 : w2.setCell ⟨w.heap.size + 1, r, none⟩ (.int .u8 128) = w3
  have HS3 : Hid (SRow w w3 (last1 buf r)) := by rw [← hW3]; exact HSR2.out.put1 hr64
  clear hW3 k1 k2
  have HX : Hid ((N : Int) * 8 = ul (BitVec.ofNat 64 (8 * N))) := by
    show (N : Int) * 8 = ((BitVec.ofNat 64 (8 * N)).toNat : Int)
    rw [BitVec.toNat_ofNat]; omega
  have HX2 : Hid (IntKind.u64.wrap ((N : Int) * 8) = ul (BitVec.ofNat 64 (8 * N))) := by
    show IntKind.u64.wrap ((N : Int) * 8) = _
    rw [← HX.out, IntKind.wrap_u64]; omega
  have wr8 : IntKind.i64.wrap 120 = 120 := by decide
  have c72 : w3.cell? ⟨hb, 72, none⟩ = some (.int .u64 (N : Int)) := (HS3.out.below.cell (p := ⟨hb, 72, none⟩) hlt).trans hc
  have sl2 : ∀ w1 : World, (Instr.sliceAt 114 (.pointer (some ⟨w.heap.size + 1, 0, none⟩)) (some (.int .i64 120)) (some (.int .i64 128)) none).run Tryd.prog w1 = .ok (.slice (some ⟨w.heap.size + 1, 120, none⟩) 8 8) w1 :=
    fun w1 => sliceAt_lh w1 114 5 128 (w.heap.size + 1) 0 120 128 120 128 rfl rfl Tryd.underlying114 size_u8 (by omega) (by omega) (by omega)
  have HTH : Hid (w3.there (w.heap.size + 1) 120 8) := there_of_row HS3.out.last 120 8 (by rw [brow_size]; omega)
  go_region_with (go_at_call 79; rw [HX2.out]; refine (putWord64_any (w.heap.size + 1) 120 _ (by omega) (BitVec.ofNat 64 (8 * N)) _ ?_).mono ?_; exact HTH.out; rintro e w4 ⟨rfl, hw4⟩)
  have HS4 : Hid (SRow w w4 (lastF buf N r 128)) := by
    rw [← hw4]
    have h3 : SRow w w3.drew (last1 buf r) := ⟨HS3.out.below.drew, HS3.out.last, HS3.out.res, HS3.out.size⟩
    exact h3.put8 (e := 128) (by omega)
  clear hw4 c72
  obtain ⟨p, hp⟩ : ∃ p, compress K s (lastF buf N r 128) = p := ⟨_, rfl⟩
  have hst := HW.out.st
  obtain ⟨sa, sb, sc, sd, se, sf, sg, sh⟩ := s
  obtain ⟨pa, pb, pc, pd, pe, pf, pg, ph⟩ := p
  have HP : Hid (compress K ⟨sa, sb, sc, sd, se, sf, sg, sh⟩ (lastF buf N r 128) = ⟨pa, pb, pc, pd, pe, pf, pg, ph⟩) := hp
  clear hp
  have c0 : w4.cell? ⟨hb, 0, none⟩ = some (U sa) := (HS4.out.below.cell (p := ⟨hb, 0, none⟩) hlt).trans (hst 0 (by omega))
  have c1 : w4.cell? ⟨hb, 1, none⟩ = some (U sb) := (HS4.out.below.cell (p := ⟨hb, 1, none⟩) hlt).trans (hst 1 (by omega))
  have c2 : w4.cell? ⟨hb, 2, none⟩ = some (U sc) := (HS4.out.below.cell (p := ⟨hb, 2, none⟩) hlt).trans (hst 2 (by omega))
  have c3 : w4.cell? ⟨hb, 3, none⟩ = some (U sd) := (HS4.out.below.cell (p := ⟨hb, 3, none⟩) hlt).trans (hst 3 (by omega))
  have c4 : w4.cell? ⟨hb, 4, none⟩ = some (U se) := (HS4.out.below.cell (p := ⟨hb, 4, none⟩) hlt).trans (hst 4 (by omega))
  have c5 : w4.cell? ⟨hb, 5, none⟩ = some (U sf) := (HS4.out.below.cell (p := ⟨hb, 5, none⟩) hlt).trans (hst 5 (by omega))
  have c6 : w4.cell? ⟨hb, 6, none⟩ = some (U sg) := (HS4.out.below.cell (p := ⟨hb, 6, none⟩) hlt).trans (hst 6 (by omega))
  have c7 : w4.cell? ⟨hb, 7, none⟩ = some (U sh) := (HS4.out.below.cell (p := ⟨hb, 7, none⟩) hlt).trans (hst 7 (by omega))
  clear hst
  have hklt : 2 < w.heap.size := block_lt_of_cell (HK.out 0 (by omega))
  have HMM : Hid (∀ i, i < 64 → w4.cell? ⟨w.heap.size + 1, 0 + i, none⟩ = some (B (lastF buf N r 128 i))) := fun i hi => by rw [Nat.zero_add]; exact HS4.out.cell i (by omega)
  have HKK : Hid (∀ i, i < 64 → w4.cell? ⟨2, i, none⟩ = some (U (K i))) := fun i hi => (HS4.out.below.cell (p := ⟨2, i, none⟩) hklt).trans (HK.out i hi)
  have sl3 : ∀ w1 : World, (Instr.sliceAt 114 (.pointer (some ⟨w.heap.size + 1, 0, none⟩)) none (some (.int .i64 64)) none).run Tryd.prog w1 = .ok (.slice (some ⟨w.heap.size + 1, 0, none⟩) 64 128) w1 :=
    fun w1 => sliceAt_h w1 114 5 128 (w.heap.size + 1) 0 64 64 rfl Tryd.underlying114 size_u8 (by omega)
  have HMM2 : Hid (∀ o : Obj, ∀ i, i < 64 → (w4.alloc o).cell? ⟨w.heap.size + 1, 0 + i, none⟩ = some (B (lastF buf N r 128 i))) := fun o i hi => by
    rw [((Below.refl w4.heap.size w4).alloc (Nat.le_refl _) o).cell (p := ⟨w.heap.size + 1, 0 + i, none⟩) (by have := HS4.out.size; show w.heap.size + 1 < _; omega)]; exact HMM.out i hi
  have HKK2 : Hid (∀ o : Obj, ∀ i, i < 64 → (w4.alloc o).cell? ⟨2, i, none⟩ = some (U (K i))) := fun o i hi => by
    rw [((Below.refl w4.heap.size w4).alloc (Nat.le_refl _) o).cell (p := ⟨2, i, none⟩) (by have := HS4.out.size; show 2 < _; omega)]; exact HKK.out i hi
  have hsz4 : w.heap.size + 2 ≤ w4.heap.size := HS4.out.size
  have hb4 : hb < w4.heap.size := by omega
  go_wp2_with fail
  go_cut [6] from 32 to 37 (fun s6 wx => ∃ q, s6 = .pointer (some ⟨q, 0, none⟩) ∧ PRel w wx (lastF buf N r 128) q ⟨pa, pb, pc, pd, pe, pf, pg, ph⟩)
  case first =>
    go_region_with (go_at_call 78; refine (mix_at K (lastF buf N r 128) sa sb sc sd se sf sg sh pa pb pc pd pe pf pg ph HP.out (w.heap.size + 1) 0 64 _ (Nat.le_refl _) (by omega) _ ?_ ?_).mono ?_; (first | exact HMM.out | exact HMM2.out _); (first | exact HKK.out | exact HKK2.out _); rintro e w5 ⟨rfl, hb5⟩; (first | (have hq := newblk hb5; have q0 := cell_of_row _ _ 0 _ _ _ hq; have q1 := cell_of_row _ _ 1 _ _ _ hq; have q2 := cell_of_row _ _ 2 _ _ _ hq; have q3 := cell_of_row _ _ 3 _ _ _ hq; have q4 := cell_of_row _ _ 4 _ _ _ hq; have q5 := cell_of_row _ _ 5 _ _ _ hq; have q6 := cell_of_row _ _ 6 _ _ _ hq; have q7 := cell_of_row _ _ 7 _ _ _ hq; have qf := frozen_of_row _ _ 0 _ _ hq; have qf1 := frozen_of_row _ _ 1 _ _ hq; have qf2 := frozen_of_row _ _ 2 _ _ hq; have qf3 := frozen_of_row _ _ 3 _ _ hq; have qf4 := frozen_of_row _ _ 4 _ _ hq; have qf5 := frozen_of_row _ _ 5 _ _ hq; have qf6 := frozen_of_row _ _ 6 _ _ hq; have qf7 := frozen_of_row _ _ 7 _ _ hq; clear hq) | skip); have HB5 := hb5; clear hb5)
    all_goals (go_wp2_with fail; go_meet; first | exact ⟨_, rfl, PRel.a HS4.out HB5 ⟨pa, pb, pc, pd, pe, pf, pg, ph⟩⟩ | exact ⟨_, rfl, PRel.b HS4.out HB5 ⟨pa, pb, pc, pd, pe, pf, pg, ph⟩⟩)
  case rest =>
    obtain ⟨q, rfl, hpr⟩ := hcut
    clear c0 c1 c2 c3 c4 c5 c6 c7 sl3 hb4
    obtain ⟨t, ht⟩ : ∃ t, compress K ⟨pa, pb, pc, pd, pe, pf, pg, ph⟩ (fun i => lastF buf N r 128 (64 + i)) = t := ⟨_, rfl⟩
    obtain ⟨ta, tb, tc, td, te, tf, tg, th⟩ := t
    have HQ : Hid (compress K ⟨pa, pb, pc, pd, pe, pf, pg, ph⟩ (fun i => lastF buf N r 128 (64 + i)) = ⟨ta, tb, tc, td, te, tf, tg, th⟩) := ht
    clear ht
    have c0 : wc.cell? ⟨q, 0, none⟩ = some (U pa) := cell_of_row _ _ 0 _ _ _ hpr.row
    have c1 : wc.cell? ⟨q, 1, none⟩ = some (U pb) := cell_of_row _ _ 1 _ _ _ hpr.row
    have c2 : wc.cell? ⟨q, 2, none⟩ = some (U pc) := cell_of_row _ _ 2 _ _ _ hpr.row
    have c3 : wc.cell? ⟨q, 3, none⟩ = some (U pd) := cell_of_row _ _ 3 _ _ _ hpr.row
    have c4 : wc.cell? ⟨q, 4, none⟩ = some (U pe) := cell_of_row _ _ 4 _ _ _ hpr.row
    have c5 : wc.cell? ⟨q, 5, none⟩ = some (U pf) := cell_of_row _ _ 5 _ _ _ hpr.row
    have c6 : wc.cell? ⟨q, 6, none⟩ = some (U pg) := cell_of_row _ _ 6 _ _ _ hpr.row
    have c7 : wc.cell? ⟨q, 7, none⟩ = some (U ph) := cell_of_row _ _ 7 _ _ _ hpr.row
    have sl4 : ∀ w1 : World, (Instr.sliceAt 114 (.pointer (some ⟨w.heap.size + 1, 0, none⟩)) (some (.int .i64 64)) none none).run Tryd.prog w1 = .ok (.slice (some ⟨w.heap.size + 1, 64, none⟩) 64 64) w1 :=
      fun w1 => sliceAt_l w1 114 5 128 (w.heap.size + 1) 0 64 64 rfl Tryd.underlying114 size_u8 (by omega)
    have HMM3 : Hid (∀ i, i < 64 → wc.cell? ⟨w.heap.size + 1, 64 + i, none⟩ = some (B (lastF buf N r 128 (64 + i)))) := fun i hi => hpr.srow.cell (64 + i) (by omega)
    have HKK3 : Hid (∀ i, i < 64 → wc.cell? ⟨2, i, none⟩ = some (U (K i))) := fun i hi => (hpr.srow.below.cell (p := ⟨2, i, none⟩) hklt).trans (HK.out i hi)
    have HPR1 : Hid (PRel w wc (lastF buf N r 128) q ⟨pa, pb, pc, pd, pe, pf, pg, ph⟩) := hpr
    clear hpr
    go_wp2_with fail
    go_region_with (go_at_call 78; refine (mix_at K (fun i => lastF buf N r 128 (64 + i)) pa pb pc pd pe pf pg ph ta tb tc td te tf tg th HQ.out (w.heap.size + 1) 64 64 _ (Nat.le_refl _) (by omega) _ ?_ ?_).mono ?_; exact HMM3.out; exact HKK3.out; rintro e w7 ⟨rfl, hb7⟩; have hq := PRel.after HPR1.out hb7; have q0 : w7.cell? ⟨q, 0, none⟩ = some (U pa) := cell_of_row _ _ 0 _ _ _ hq.row; have q1 : w7.cell? ⟨q, 1, none⟩ = some (U pb) := cell_of_row _ _ 1 _ _ _ hq.row; have q2 : w7.cell? ⟨q, 2, none⟩ = some (U pc) := cell_of_row _ _ 2 _ _ _ hq.row; have q3 : w7.cell? ⟨q, 3, none⟩ = some (U pd) := cell_of_row _ _ 3 _ _ _ hq.row; have q4 : w7.cell? ⟨q, 4, none⟩ = some (U pe) := cell_of_row _ _ 4 _ _ _ hq.row; have q5 : w7.cell? ⟨q, 5, none⟩ = some (U pf) := cell_of_row _ _ 5 _ _ _ hq.row; have q6 : w7.cell? ⟨q, 6, none⟩ = some (U pg) := cell_of_row _ _ 6 _ _ _ hq.row; have q7 : w7.cell? ⟨q, 7, none⟩ = some (U ph) := cell_of_row _ _ 7 _ _ _ hq.row; have qf : ∀ i, w7.frozen? ⟨q, i, none⟩ = false := fun i => frozen_of_row _ _ i _ _ hq.row; have HQ7 : Hid (PRel w w7 (lastF buf N r 128) q ⟨pa, pb, pc, pd, pe, pf, pg, ph⟩) := hq; clear hq hb7)
    generalize hW8 : ((((((((w7.setCell ⟨q, 0, none⟩ (U ta)).setCell ⟨q, 1, none⟩ (U tb)).setCell ⟨q, 2, none⟩ (U tc)).setCell ⟨q, 3, none⟩ (U td)).setCell ⟨q, 4, none⟩ (U te)).setCell ⟨q, 5, none⟩ (U tf)).setCell ⟨q, 6, none⟩ (U tg)).setCell ⟨q, 7, none⟩ (U th)) = w8
    have hpr : PRel w w8 (lastF buf N r 128) q ⟨ta, tb, tc, td, te, tf, tg, th⟩ := by rw [← hW8]; exact HQ7.out.put ⟨ta, tb, tc, td, te, tf, tg, th⟩
    clear hW8 c0 c1 c2 c3 c4 c5 c6 c7 q0 q1 q2 q3 q4 q5 q6 q7 qf
    have e0 : w8.cell? ⟨q, 0, none⟩ = some (U ta) := cell_of_row _ _ 0 _ _ _ hpr.row
    have e1 : w8.cell? ⟨q, 1, none⟩ = some (U tb) := cell_of_row _ _ 1 _ _ _ hpr.row
    have e2 : w8.cell? ⟨q, 2, none⟩ = some (U tc) := cell_of_row _ _ 2 _ _ _ hpr.row
    have e3 : w8.cell? ⟨q, 3, none⟩ = some (U td) := cell_of_row _ _ 3 _ _ _ hpr.row
    have e4 : w8.cell? ⟨q, 4, none⟩ = some (U te) := cell_of_row _ _ 4 _ _ _ hpr.row
    have e5 : w8.cell? ⟨q, 5, none⟩ = some (U tf) := cell_of_row _ _ 5 _ _ _ hpr.row
    have e6 : w8.cell? ⟨q, 6, none⟩ = some (U tg) := cell_of_row _ _ 6 _ _ _ hpr.row
    have e7 : w8.cell? ⟨q, 7, none⟩ = some (U th) := cell_of_row _ _ 7 _ _ _ hpr.row
    have HPR : Hid (SRow w w8 _) := hpr.srow
    clear hpr
    go_wp2_with fail
    refine (bytes256_any ⟨ta, tb, tc, td, te, tf, tg, th⟩ _).mono ?_
    rintro e w6 ⟨rfl, hb6⟩
    have HS6 : Hid (SRow w w6 _) := HPR.out.below' hb6
    have HT6 : Hid (w6.there w.heap.size 0 (srow ⟨ta, tb, tc, td, te, tf, tg, th⟩).size) := by rw [srow_size]; exact there_of_row HS6.out.res 0 32 (by rw [z32_size]; omega)
    clear hb6 e0 e1 e2 e3 e4 e5 e6 e7
    go_wp2_with (refine wpList_store_mid rfl 25 _ _ rfl w.heap.size 0 (srow ⟨ta, tb, tc, td, te, tf, tg, th⟩) rfl rfl HT6.out (by rw [srow_size]; kernel_rfl) (by exact srow_one _) ?_)
    rw [HP.out, HQ.out]
    refine bodyPost_ret (v := .agg (srow ⟨ta, tb, tc, td, te, tf, tg, th⟩)) ?_ rfl ⟨rfl, ?_⟩
    · exact results_mid Tryd.results64 _ _ w.heap.size 0 (srow ⟨ta, tb, tc, td, te, tf, tg, th⟩).toList _ rfl (World.rangeAt_setCells_same _ _ _ _ HT6.out) Tryd.underlying25 rfl (by rw [Array.length_toList, srow_size]; kernel_rfl)
    · exact below_setCells _ (Nat.le_refl _) _ _ _ HS6.out.below
end Go.Proofs.YtpojalbpekbfdabDoor.Sh
/- 'Sum' of a Hash, and 'Sum256', at whatever bytes. -/
namespace Go.Proofs.YtpojalbpekbfdabDoor.Sh
open Go Go.RowKit

theorem lastF_val (buf : Nat → BitVec 8) (N r e i : Nat) : lastF buf N r e i = if e - 8 ≤ i ∧ i < e - 8 + 8 then lenByte N (i - (e - 8)) else if i = r then 128 else if i < r then buf i else 0 := by
  rw [lastF, bput, last1, bput]
  by_cases h1 : e - 8 ≤ i ∧ i < e - 8 + 8
  · rw [if_pos h1, if_pos h1]
  · rw [if_neg h1, if_neg h1]
    by_cases h2 : i = r
    · rw [if_pos h2, if_pos h2]
    · rw [if_neg h2, if_neg h2]
      by_cases h3 : i < r
      · rw [if_pos ⟨by omega, by omega⟩, if_pos h3]; rfl
      · have hne : ¬ (0 ≤ i ∧ i < 0 + r) := by omega
        rw [if_neg hne, if_neg h3]
theorem pad_last (M buf : Nat → BitVec 8) (N r e i k : Nat) (hk : N / 64 = k) (hr : N % 64 = r) (he : 64 * nblk N = 64 * k + e) (hei : i < e) (he8 : r < e - 8) (hbuf : ∀ i, i < r → buf i = M (64 * k + i)) :
    lastF buf N r e i = padM M N (64 * k + i) := by
  rw [lastF_val, padM, he]
  by_cases h1 : e - 8 ≤ i
  · have a1 : e - 8 ≤ i ∧ i < e - 8 + 8 := by omega
    have a2 : ¬ 64 * k + i < N := by omega
    have a3 : ¬ 64 * k + i = N := by omega
    have a4 : ¬ 64 * k + i < 64 * k + e - 8 := by omega
    rw [if_pos a1, if_neg a2, if_neg a3, if_neg a4, show 64 * k + i - (64 * k + e - 8) = i - (e - 8) by omega]
  · have a1 : ¬ (e - 8 ≤ i ∧ i < e - 8 + 8) := by omega
    rw [if_neg a1]
    by_cases h2 : i = r
    · have a2 : ¬ 64 * k + i < N := by omega
      have a3 : 64 * k + i = N := by omega
      rw [if_pos h2, if_neg a2, if_pos a3]
    · have a3 : ¬ 64 * k + i = N := by omega
      rw [if_neg h2]
      by_cases h3 : i < r
      · have a2 : 64 * k + i < N := by omega
        rw [if_pos h3, if_pos a2, hbuf i h3]
      · have a2 : ¬ 64 * k + i < N := by omega
        have a4 : 64 * k + i < 64 * k + e - 8 := by omega
        rw [if_neg h3, if_neg a2, if_neg a3, if_pos a4]
theorem blocks_pad (K : Nat → BitVec 32) (s0 : St) (M : Nat → BitVec 8) (N : Nat) : blocks K s0 (padM M N) (N / 64) = blocks K s0 M (N / 64) :=
  blocks_congr K s0 _ _ _ (fun i hi => by rw [padM, if_pos (by omega)])

theorem sum_any (K : Nat → BitVec 32) (s0 : St) (M : Nat → BitVec 8) (hb N : Nat) (hN : N < 1152921504606846976) (w : World) (hw : HInv K s0 M w hb N)
    (hK : ∀ i, i < 64 → w.cell? ⟨2, i, none⟩ = some (U (K i))) :
    Calls Tryd.prog 64 #[.pointer (some ⟨hb, 0, none⟩)] w fun e w' => e = .returned (.agg (srow (sumSt K s0 M N))) ∧ Below w.heap.size w w' := by
  obtain ⟨buf, hw, hbuf⟩ := hw
  by_cases h56 : N % 64 < 56
  · refine (sum_one K _ buf hb N (N % 64) rfl h56 hN w hw hK).mono fun e w' ⟨h1, h2⟩ => ⟨h1.trans ?_, h2⟩
    have hn : nblk N = N / 64 + 1 := by unfold nblk; omega
    rw [sumSt, hn, blocks, blocks_pad, compress_congr K _ _ (fun i => padM M N (64 * (N / 64) + i)) (fun i hi => pad_last M buf N (N % 64) 64 i (N / 64) rfl rfl (by rw [hn]; omega) hi (by omega) hbuf)]
  · refine (sum_two K _ buf hb N (N % 64) rfl (by omega) hN w hw hK).mono fun e w' ⟨h1, h2⟩ => ⟨h1.trans ?_, h2⟩
    have hn : nblk N = N / 64 + 1 + 1 := by unfold nblk; omega
    rw [sumSt, hn, blocks, blocks, blocks_pad, compress_congr K _ (lastF buf N (N % 64) 128) (fun i => padM M N (64 * (N / 64) + i)) (fun i hi => pad_last M buf N (N % 64) 128 i (N / 64) rfl rfl (by rw [hn]; omega) (by omega) (by omega) hbuf),
      compress_congr K _ (fun i => lastF buf N (N % 64) 128 (64 + i)) (fun i => padM M N (64 * (N / 64 + 1) + i)) (fun i hi => by
        rw [pad_last M buf N (N % 64) 128 (64 + i) (N / 64) rfl rfl (by rw [hn]; omega) (by omega) (by omega) hbuf, show 64 * (N / 64) + (64 + i) = 64 * (N / 64 + 1) + i by omega])]

/-- A new Hash has taken nothing. -/
theorem HInv.new (K : Nat → BitVec 32) (s0 : St) (M : Nat → BitVec 8) (w : World) (hb : Nat) (h : HRow w hb s0 z8 0) : HInv K s0 M w hb 0 := ⟨z8, h, fun i hi => by omega⟩
theorem HInv.grown {K : Nat → BitVec 32} {s0 : St} {M : Nat → BitVec 8} {w w' : World} {hb N : Nat} (h : HInv K s0 M w hb N) (hg : w'.heap[hb]? = w.heap[hb]?) : HInv K s0 M w' hb N := by
  obtain ⟨buf, h1, h2⟩ := h
  exact ⟨buf, hg.trans h1, h2⟩
theorem Bytes.mono {w w' : World} {v : Value} {n hb hb' : Nat} {m : Nat → BitVec 8} (h : Bytes w v n m hb) (hb1 : Below w.heap.size w w') (hb2 : w.heap.size ≤ hb') : Bytes w' v n m hb' := by
  rcases h with ⟨⟨ad, rfl⟩, rfl⟩ | ⟨b, off, cap, rfl, hnc, hlt, hne, hm⟩
  · exact Or.inl ⟨⟨ad, rfl⟩, rfl⟩
  · exact Or.inr ⟨b, off, cap, rfl, hnc, Nat.lt_of_lt_of_le hlt hb1.size, by omega, fun i hi => (hb1.cell (p := ⟨b, off + i, none⟩) hlt).trans (hm i hi)⟩

/-- The program's tables, in memory. -/
structure Tabs (w : World) (K : Nat → BitVec 32) (s0 : St) : Prop where
  sq : ∀ i, i < 8 → w.cell? ⟨1, i, none⟩ = some (U (s0.at i))
  cu : ∀ i, i < 64 → w.cell? ⟨2, i, none⟩ = some (U (K i))
theorem Tabs.below {w w' : World} {K : Nat → BitVec 32} {s0 : St} {B0 : Nat} (h : Tabs w K s0) (hb : Below B0 w w') (h0 : 1 < B0) (h1 : 2 < B0) : Tabs w' K s0 :=
  ⟨fun i hi => (hb.cell (p := ⟨_, i, none⟩) h0).trans (h.sq i hi), fun i hi => (hb.cell (p := ⟨_, i, none⟩) h1).trans (h.cu i hi)⟩
theorem Tabs.lt {w : World} {K : Nat → BitVec 32} {s0 : St} (h : Tabs w K s0) : 1 < w.heap.size ∧ 2 < w.heap.size :=
  ⟨block_lt_of_cell (h.sq 0 (by omega)), block_lt_of_cell (h.cu 0 (by omega))⟩

theorem hrow_lay {w1 : World} {cs : Array Value} (hs : cs.size = 73) (s : St) (buf : Nat → BitVec 8) (N : Nat) : HRow ((w1.alloc (.cells cs 92)).setCells w1.heap.size 0 (hrow s buf N).toList) w1.heap.size s buf N := by
  refine heap_setCells (heap_alloc_new _ _) 0 _ (by rw [Array.length_toList, hrow_size, hs]; omega) (fun i => ?_)
  rw [Array.length_toList, hrow_size, Array.getElem?_toList]
  by_cases h1 : i < 73
  · rw [if_pos (by omega)]; rfl
  · have hne : ¬ (0 ≤ i ∧ i < 0 + 73) := by omega
    rw [if_neg hne, Array.getElem?_eq_none (by rw [hrow_size]; omega), Array.getElem?_eq_none (by omega)]
theorem below_of_grown {B0 : Nat} {a w w' : World} {q : Nat} (h : Below B0 a w) (hg : w.grownBy w' (some q)) (hB : B0 ≤ w.heap.size) (hq : B0 ≤ q) : Below B0 a w' := h.grown hg hB (fun k hk => by cases hk; exact hq)

set_option maxRecDepth 100000 in
set_option maxHeartbeats 400000 in
theorem sum256_any (K : Nat → BitVec 32) (s0 : St) (m : Nat → BitVec 8) (n : Nat) (v : Value) (hn : n < 1152921504606846976) (w : World) (hT : Tabs w K s0) (hv : Bytes w v n m w.heap.size) :
    Calls Tryd.prog 37 #[v] w fun e w' => e = .returned (.agg (srow (sumSt K s0 m n))) ∧ Below w.heap.size w w' := by
  have HT : Hid (Tabs w K s0) := hT
  have HV : Hid (Bytes w v n m w.heap.size) := hv
  clear hT hv
  have hz := zero_32
  have hzh := zero_hash
  have HB0 : Hid (Below w.heap.size w (w.alloc (.cells z32 25))) := (Below.refl _ _).alloc (Nat.le_refl _) _
  go_enter Tryd.func37, Tryd.ntmps37
  go_wp2_with fail
  refine (begin_any s0 _ (HT.out.below HB0.out HT.out.lt.1 HT.out.lt.2).sq).mono ?_
  rintro e w1 ⟨rfl, hb1⟩
  have hs1 := hb1.size
  have hsz : (w.alloc (.cells z32 25)).heap.size = w.heap.size + 1 := by simp
  rw [hsz] at hs1 hb1
  have HB1 : Hid (Below (w.heap.size + 1) (w.alloc (.cells z32 25)) w1) := hb1
  clear hb1 hsz
  have hrs := hrow_size s0 z8 0
  have HTH : Hid ((w1.alloc (.cells (hrow St.zero z8 0) 92)).there w1.heap.size 0 (hrow s0 z8 0).size) := there_of_row (heap_alloc_new _ _) 0 _ (by rw [hrow_size, hrow_size]; omega)
  go_wp2_with (refine wpList_store_midL rfl 92 _ _ rfl w1.heap.size 0 (hrow s0 z8 0) rfl rfl HTH.out (by rw [hrow_size]; kernel_rfl) (by exact hrow_one _ _ _) ?_; intro w2 hw2; have HH : Hid (HRow w2 w1.heap.size s0 z8 0) := (by rw [hw2]; exact hrow_lay (hrow_size _ _ _) s0 z8 0); have HB2 : Hid (Below w1.heap.size w1 w2) := (by rw [hw2]; exact below_setCells _ (Nat.le_refl _) _ _ _ ((Below.refl _ _).alloc (Nat.le_refl _) _)); clear hw2)
  have B02 : Below (w.heap.size + 1) (w.alloc (.cells z32 25)) w2 := HB1.out.trans (HB2.out.mono hs1)
  have BW2 : Below w.heap.size w w2 := HB0.out.trans (B02.mono (by omega))
  have hT2 := HT.out.below BW2 HT.out.lt.1 HT.out.lt.2
  have hlt := HT.out.lt
  have hv2 : Bytes w2 v n (fun i => m (0 + i)) w1.heap.size := by simp only [Nat.zero_add]; exact HV.out.mono BW2 (by omega)
  have hz2 : w1.heap.size < w2.heap.size := HH.out.lt
  refine (write_any K s0 m w1.heap.size 0 n v (by omega) (by omega) w2 (HInv.new K s0 m w2 _ HH.out) hv2 hT2.cu).mono ?_
  rintro e w3 ⟨rfl, hg3, hinv3⟩
  rw [Nat.zero_add] at hinv3
  have B03 : Below (w.heap.size + 1) (w.alloc (.cells z32 25)) w3 := below_of_grown B02 hg3 (by omega) hs1
  have hs3 := hg3.size
  have HI3 : Hid (HInv K s0 m w3 w1.heap.size n) := hinv3
  have HB3 : Hid (Below (w.heap.size + 1) (w.alloc (.cells z32 25)) w3) := B03
  clear hv2 hT2 B02 BW2 hg3 hinv3 B03 hrs
  go_wp2_with fail
  refine (sum_any K s0 m w1.heap.size n hn w3 HI3.out (HT.out.below (HB0.out.trans (HB3.out.mono (by omega))) hlt.1 hlt.2).cu).mono ?_
  rintro e w4 ⟨rfl, hb4⟩
  have HB4 : Hid (Below (w.heap.size + 1) (w.alloc (.cells z32 25)) w4) := HB3.out.trans (hb4.mono (by omega))
  have HR4 : Hid (w4.heap[w.heap.size]? = some (.cells z32 25 (0, 0))) := by
    show w4.heap[w.heap.size]? = _
    rw [HB4.out.block w.heap.size (by omega)]; exact heap_alloc_new _ _
  have HT4 : Hid (w4.there w.heap.size 0 (srow (sumSt K s0 m n)).size) := by rw [srow_size]; exact there_of_row HR4.out 0 32 (by rw [z32_size]; omega)
  clear hb4
  go_wp2_with (refine wpList_store_mid rfl 25 _ _ rfl w.heap.size 0 (srow (sumSt K s0 m n)) rfl rfl HT4.out (by rw [srow_size]; kernel_rfl) (by exact srow_one _) ?_)
  refine bodyPost_ret (v := .agg (srow (sumSt K s0 m n))) ?_ rfl ⟨rfl, ?_⟩
  · exact results_mid Tryd.results37 _ _ w.heap.size 0 (srow (sumSt K s0 m n)).toList _ rfl (World.rangeAt_setCells_same _ _ _ _ HT4.out) Tryd.underlying25 rfl (by rw [Array.length_toList, srow_size]; kernel_rfl)
  · exact below_setCells _ (Nat.le_refl _) _ _ _ (HB0.out.trans (HB4.out.mono (by omega)))
end Go.Proofs.YtpojalbpekbfdabDoor.Sh
