/- The reference's Sum256, walked. -/
import Derived.Test.YtpojalbpekbfdabDoorRefB
namespace Go.Proofs.YtpojalbpekbfdabDoor.Sh
open Go Go.RowKit
attribute [local go_sem] u_xor u_and u_or u_add u_shr3 u_shr10 u_shr24 u_shr16 u_shr8 u_shl24 u_shl16 u_shl8 u_of_b b_of_u u_not u_not'
attribute [local go_sem ↓] Go.wp_at_zero Go.wp_at_succ

set_option maxRecDepth 100000 in
set_option maxHeartbeats 2000000 in
theorem rsum_walk (m : Nat → BitVec 8) (ad : Option Addr) (n cap : Nat) (hn : n < 140737488350000) (w : World) (hm : Src w ad n cap m) :
    Calls Tryd.prog 44 #[.slice ad n cap] w fun e w' => e = .returned (.agg (srow (sumSt K256 H256 m n))) ∧ Below w.heap.size w w' := by
  have HM : Hid (Src w ad n cap m) := hm
  clear hm
  have hz := zero_32
  have HB0 : Hid (∀ o1 o2 : Obj, Below w.heap.size w ((w.alloc o1).alloc o2)) := fun o1 o2 => ((Below.refl _ _).alloc (Nat.le_refl _) _).alloc (by simp) _
  go_enter Tryd.func44, Tryd.ntmps44
  go_wp2_with fail
  refine (k256_any _).mono ?_
  rintro e w1 ⟨rfl, hb1⟩
  have hs1 : w.heap.size + 2 ≤ w1.heap.size := Nat.le_trans (by simp) hb1.size
  have HB1 : Hid (Below (w.heap.size + 2) ((w.alloc (.cells z32 25)).alloc (.cells H256.row 89)) w1) := hb1.mono (by simp)
  clear hb1
  go_wp2_with (refine wpList_store_midL rfl 99 _ _ rfl w1.heap.size 0 (rowW K256 64) rfl rfl (by rw [rowW_size]; exact there_of_row (heap_alloc_new _ _) 0 64 (by simp)) (by rw [rowW_size]; kernel_rfl) (by exact rowW_one _ 64) ?_; intro w2 hw2; have HW2 : Hid (∃ C : Array Value, C.size = 64 ∧ w2 = (w1.alloc (.cells C 99)).setCells w1.heap.size 0 (rowW K256 64).toList) := ⟨_, rfl, hw2⟩; clear hw2)
  have BW2 : Below w.heap.size w w2 := by
    obtain ⟨C, _, hw2⟩ := HW2.out
    rw [hw2]
    exact (HB0.out _ _).trans ((HB1.out.mono (by omega)).trans (below_setCells _ (by omega) _ _ _ ((Below.refl _ _).alloc (by omega) _)))
  refine (padded_any m ad n cap hn w2 (HM.out.below BW2 (Nat.le_refl _))).mono ?_
  rintro e w3 ⟨v, rfl, ho⟩
  obtain ⟨Z, hZ⟩ : ∃ Z, Z = 64 * nblk n := ⟨_, rfl⟩
  rw [← hZ] at ho
  have hZ0 : 0 < Z := by rw [hZ]; unfold nblk; omega
  obtain ⟨g, c, hv, -, -, hgc, -⟩ := ho.form hZ0
  have HOR : Hid (ORel w w3 w1.heap.size g Z (padM m n) H256) := by
    obtain ⟨C, hC, hw2⟩ := HW2.out
    exact ORel.start C hC HB1.out hw2 ho hZ0 hv
  rw [hv]
  have HZ : Hid (Z = 64 * nblk n) := hZ
  have hZ1 : (Z : Int) < 140737488355000 := by rw [hZ]; unfold nblk; omega
  clear hZ ho hv BW2 HW2 HB1 hz HM
  generalize w1.heap.size = kb at HOR ⊢
  clear hs1
  go_wp2_with fail
  go_loopw [6] (fun i wr => ∃ j : Nat, 64 * j ≤ Z ∧ i = .int .i64 (64 * (j : Int)) ∧ ORel w wr kb g Z (padM m n) (blocks K256 H256 (padM m n) j)) (fun i _ => Z - (intOf i).toNat)
  case atStart => exact ⟨0, by omega, rfl, HOR.out⟩
  case round =>
    obtain ⟨j, hj, rfl, hr⟩ := hrel
    have HRR : Hid (ORel w _ kb g Z (padM m n) (blocks K256 H256 (padM m n) j)) := hr
    clear hr HOR
    by_cases hlt : 64 * j < Z
    · have hlt1 : 64 * (j : Int) < (Z : Int) := by omega
      have hdvd : 64 * j + 64 ≤ Z := by have := HZ.out; omega
      obtain ⟨st, hst⟩ : ∃ st, st = blocks K256 H256 (padM m n) j := ⟨_, rfl⟩
      rw [← hst] at HRR
      have HST : Hid (st = blocks K256 H256 (padM m n) j) := hst
      clear hst
      obtain ⟨W, hW⟩ : ∃ W, W = schedW (fun i => padM m n (64 * j + i)) := ⟨_, rfl⟩
      have HSC : Hid (Sched (fun i => padM m n (64 * j + i)) W) := by rw [hW]; exact schedW_ok _
      have HWD : Hid (W = schedW (fun i => padM m n (64 * j + i))) := hW
      clear hW
      have HW0 : Hid (WRel w (wr.alloc (.cells (List.replicate 64 (Value.int .u32 0)).toArray 99)) kb g Z (padM m n) st wr.heap.size W 0) := WRel.start HRR.out W
      go_wp2_with fail
      generalize wr.heap.size = qb at HW0 ⊢
      go_loopw [8, 31] (fun _ i wq => ∃ k : Nat, k ≤ 16 ∧ i = .int .i64 k ∧ WRel w wq kb g Z (padM m n) st qb W k) (fun _ i _ => 16 - (intOf i).toNat)
      case atStart => exact ⟨0, by omega, rfl, HW0.out⟩
      case round =>
        obtain ⟨k, hk, rfl, hr⟩ := hrel
        have HR : Hid (WRel w _ kb g Z (padM m n) st qb W k) := hr
        clear HW0
        by_cases hlk : k < 16
        · have d0 := hr.base.msg (64 * j + 4 * k) (by omega)
          have d1 := hr.base.msg (64 * j + 4 * k + 1) (by omega)
          have d2 := hr.base.msg (64 * j + 4 * k + 2) (by omega)
          have d3 := hr.base.msg (64 * j + 4 * k + 3) (by omega)
          have c1 := hr.cell k (by omega)
          have f1 := hr.froz k
          have hgq : g ≠ qb := by have := hr.pos; omega
          clear hr
          have x0 : (k : Int) < 16 := by omega
          have x64 : (k : Int) < 64 := by omega
          have x1 : (0 : Int) ≤ 64 * (j : Int) + 4 * (k : Int) := by omega
          have y0 : 64 * (j : Int) + 4 * (k : Int) < (Z : Int) := by omega
          have y1 : 64 * (j : Int) + 4 * (k : Int) + 1 < (Z : Int) := by omega
          have y2 : 64 * (j : Int) + 4 * (k : Int) + 2 < (Z : Int) := by omega
          have y3 : 64 * (j : Int) + 4 * (k : Int) + 3 < (Z : Int) := by omega
          have z0 : (0 : Int) ≤ 64 * (j : Int) + 4 * (k : Int) + 1 := by omega
          have z1 : (0 : Int) ≤ 64 * (j : Int) + 4 * (k : Int) + 2 := by omega
          have z2 : (0 : Int) ≤ 64 * (j : Int) + 4 * (k : Int) + 3 := by omega
          have w0 : IntKind.i64.wrap (4 * (k : Int)) = 4 * (k : Int) := by simp [IntKind.wrap, IntKind.bits, IntKind.signed]; omega
          have w1 : IntKind.i64.wrap (64 * (j : Int) + 4 * (k : Int)) = 64 * (j : Int) + 4 * (k : Int) := by simp [IntKind.wrap, IntKind.bits, IntKind.signed]; omega
          have w2' : IntKind.i64.wrap (64 * (j : Int) + 4 * (k : Int) + 1) = 64 * (j : Int) + 4 * (k : Int) + 1 := by simp [IntKind.wrap, IntKind.bits, IntKind.signed]; omega
          have w3' : IntKind.i64.wrap (64 * (j : Int) + 4 * (k : Int) + 2) = 64 * (j : Int) + 4 * (k : Int) + 2 := by simp [IntKind.wrap, IntKind.bits, IntKind.signed]; omega
          have w4 : IntKind.i64.wrap (64 * (j : Int) + 4 * (k : Int) + 3) = 64 * (j : Int) + 4 * (k : Int) + 3 := by simp [IntKind.wrap, IntKind.bits, IntKind.signed]; omega
          have t0 : (64 * (j : Int) + 4 * (k : Int)).toNat = 64 * j + 4 * k := by omega
          have t1 : (64 * (j : Int) + 4 * (k : Int) + 1).toNat = 64 * j + 4 * k + 1 := by omega
          have t2 : (64 * (j : Int) + 4 * (k : Int) + 2).toNat = 64 * j + 4 * k + 2 := by omega
          have t3 : (64 * (j : Int) + 4 * (k : Int) + 3).toNat = 64 * j + 4 * k + 3 := by omega
          go_wp2_with fail
          go_region_held3 (fun w' => w'.cell? ⟨g, 64 * j + 4 * k, none⟩ = some (B (padM m n (64 * j + 4 * k))) ∧ w'.cell? ⟨g, 64 * j + 4 * k + 1, none⟩ = some (B (padM m n (64 * j + 4 * k + 1))) ∧ w'.cell? ⟨g, 64 * j + 4 * k + 2, none⟩ = some (B (padM m n (64 * j + 4 * k + 2))) ∧ w'.cell? ⟨g, 64 * j + 4 * k + 3, none⟩ = some (B (padM m n (64 * j + 4 * k + 3)))) (first | exact ⟨d0, d1, d2, d3⟩ | exact ⟨(cell_set_other _ _ _ _ _ _ hgq).trans d0, (cell_set_other _ _ _ _ _ _ hgq).trans d1, (cell_set_other _ _ _ _ _ _ hgq).trans d2, (cell_set_other _ _ _ _ _ _ hgq).trans d3⟩)
            (fail)
          have hl : BitVec.setWidth 32 (padM m n (64 * j + 4 * k)) <<< 24 ||| BitVec.setWidth 32 (padM m n (64 * j + 4 * k + 1)) <<< 16 ||| BitVec.setWidth 32 (padM m n (64 * j + 4 * k + 2)) <<< 8 ||| BitVec.setWidth 32 (padM m n (64 * j + 4 * k + 3)) = W k := (HSC.out.first k hlk).symm
          rw [hl]
          clear hl
          go_wp2
          go_roundw
          case rel =>
            first | exact ⟨k + 1, by omega, by go_num, (HR.out.set).drewN 1⟩ | ((repeat apply Exists.intro); exact ⟨⟨k + 1, by omega, by go_num, (HR.out.set).drewN 1⟩, rfl⟩)
          case measure => simp [intOf]; omega
        · obtain rfl : k = 16 := by omega
          clear hr
          go_wp2_with fail
          go_loopw [9] (fun i wq => ∃ k : Nat, 16 ≤ k ∧ k ≤ 64 ∧ i = .int .i64 k ∧ WRel w wq kb g Z (padM m n) st qb W k) (fun i _ => 64 - (intOf i).toNat)
          case atStart => exact ⟨16, by omega, by omega, rfl, HR.out⟩
          case round =>
            obtain ⟨k, hk1, hk, rfl, hr⟩ := hrel
            have HR2 : Hid (WRel w _ kb g Z (padM m n) st qb W k) := hr
            clear HR
            by_cases hlk2 : k < 64
            · have e1 : (2 : Int) ≤ (k : Int) := by omega
              have e2 : (7 : Int) ≤ (k : Int) := by omega
              have e3 : (15 : Int) ≤ (k : Int) := by omega
              have e4 : (16 : Int) ≤ (k : Int) := by omega
              have l0 : (k : Int) < 64 := by omega
              have l1 : (k : Int) - 2 < 64 := by omega
              have l2 : (k : Int) - 7 < 64 := by omega
              have l3 : (k : Int) - 15 < 64 := by omega
              have l4 : (k : Int) - 16 < 64 := by omega
              have w1' : IntKind.i64.wrap ((k : Int) - 2) = (k : Int) - 2 := by simp [IntKind.wrap, IntKind.bits, IntKind.signed]; omega
              have w2' : IntKind.i64.wrap ((k : Int) - 7) = (k : Int) - 7 := by simp [IntKind.wrap, IntKind.bits, IntKind.signed]; omega
              have w3' : IntKind.i64.wrap ((k : Int) - 15) = (k : Int) - 15 := by simp [IntKind.wrap, IntKind.bits, IntKind.signed]; omega
              have w4 : IntKind.i64.wrap ((k : Int) - 16) = (k : Int) - 16 := by simp [IntKind.wrap, IntKind.bits, IntKind.signed]; omega
              have n1 : k - 2 ≠ k := by omega
              have n2 : k - 7 ≠ k := by omega
              have n3 : k - 15 ≠ k := by omega
              have n4 : k - 16 ≠ k := by omega
              have t1 : ((k : Int) - 2).toNat = k - 2 := by omega
              have t2 : ((k : Int) - 7).toNat = k - 7 := by omega
              have t3 : ((k : Int) - 15).toNat = k - 15 := by omega
              have t4 : ((k : Int) - 16).toNat = k - 16 := by omega
              have c1 := hr.cell k (by omega)
              have f1 := hr.froz k
              have d1 := hr.cell (k - 2) (by omega)
              have d2 := hr.cell (k - 7) (by omega)
              have d3 := hr.cell (k - 15) (by omega)
              have d4 := hr.cell (k - 16) (by omega)
              rw [upto, if_pos (by omega)] at d1 d2 d3 d4
              clear hr
              go_wp2_with fail
              go_quiet ((go_at_call 70; exact Calls.quiet_of_same (rrotr _ _ (by decide) (by decide) _)))
              go_wp2_with fail
              obtain ⟨wq, hwq⟩ : ∃ wq, wq = wr.drewN nq := ⟨_, rfl⟩
              rw [← hwq]
              have HR3 : Hid (WRel w wq kb g Z (padM m n) st qb W k) := by rw [hwq]; exact HR2.out.drewN nq
              clear hwq c1 f1 d1 d2 d3 d4
              have c1 := HR3.out.cell k (by omega)
              have f1 := HR3.out.froz k
              have d1 := HR3.out.cell (k - 2) (by omega)
              have d2 := HR3.out.cell (k - 7) (by omega)
              have d3 := HR3.out.cell (k - 15) (by omega)
              have d4 := HR3.out.cell (k - 16) (by omega)
              rw [upto, if_pos (by omega)] at d1 d2 d3 d4
              go_quiet ((go_at_call 70; exact Calls.quiet_of_same (rrotr _ _ (by decide) (by decide) _)))
              go_wp2_with fail
              go_region_held3 (fun w' => w'.cell? ⟨qb, k - 7, none⟩ = some (U (W (k - 7))) ∧ w'.cell? ⟨qb, k - 16, none⟩ = some (U (W (k - 16)))) (first | exact ⟨d2, d4⟩ | exact ⟨(keep_ne _ _ _ _ _ n2).trans d2, (keep_ne _ _ _ _ _ n4).trans d4⟩) (fail)
              have hl : (rotr (W (k - 2)) 17 ^^^ rotr (W (k - 2)) 19 ^^^ W (k - 2) >>> 10) + W (k - 7) + (rotr (W (k - 15)) 7 ^^^ rotr (W (k - 15)) 18 ^^^ W (k - 15) >>> 3) + W (k - 16) = W k := (HSC.out.later k hk1 hlk2).symm
              rw [hl]
              clear hl
              go_wp2
              go_roundw
              case rel =>
                first | exact ⟨k + 1, by omega, by omega, by go_num, (HR3.out.drewN _).set⟩ | ((repeat apply Exists.intro); exact ⟨⟨k + 1, by omega, by omega, by go_num, (HR3.out.drewN _).set⟩, rfl⟩)
              case measure => simp [intOf]; omega
            · obtain rfl : k = 64 := by omega
              clear hr
              obtain ⟨sa, sb, sc, sd, se, sf, sg, sh⟩ := st
              have c0 : wr.cell? ⟨w.heap.size + 1, 0, none⟩ = some (U sa) := cell_of_row _ _ 0 _ _ _ HR2.out.base.hrow
              have c1 : wr.cell? ⟨w.heap.size + 1, 1, none⟩ = some (U sb) := cell_of_row _ _ 1 _ _ _ HR2.out.base.hrow
              have c2 : wr.cell? ⟨w.heap.size + 1, 2, none⟩ = some (U sc) := cell_of_row _ _ 2 _ _ _ HR2.out.base.hrow
              have c3 : wr.cell? ⟨w.heap.size + 1, 3, none⟩ = some (U sd) := cell_of_row _ _ 3 _ _ _ HR2.out.base.hrow
              have c4 : wr.cell? ⟨w.heap.size + 1, 4, none⟩ = some (U se) := cell_of_row _ _ 4 _ _ _ HR2.out.base.hrow
              have c5 : wr.cell? ⟨w.heap.size + 1, 5, none⟩ = some (U sf) := cell_of_row _ _ 5 _ _ _ HR2.out.base.hrow
              have c6 : wr.cell? ⟨w.heap.size + 1, 6, none⟩ = some (U sg) := cell_of_row _ _ 6 _ _ _ HR2.out.base.hrow
              have c7 : wr.cell? ⟨w.heap.size + 1, 7, none⟩ = some (U sh) := cell_of_row _ _ 7 _ _ _ HR2.out.base.hrow
              have HRS : Hid (RRel w (wr.alloc (.cells (St.row ⟨sa, sb, sc, sd, se, sf, sg, sh⟩) 89)) kb g Z (padM m n) ⟨sa, sb, sc, sd, se, sf, sg, sh⟩ qb W wr.heap.size ⟨sa, sb, sc, sd, se, sf, sg, sh⟩) := RRel.start HR2.out _
              go_wp2_with fail
              generalize wr.heap.size = pb at HRS ⊢
              clear c0 c1 c2 c3 c4 c5 c6 c7 HR2
              go_loopw [132] (fun i wq => ∃ (k : Nat) (r : St), k ≤ 64 ∧ i = .int .i64 k ∧ r = rounds K256 W ⟨sa, sb, sc, sd, se, sf, sg, sh⟩ k ∧ RRel w wq kb g Z (padM m n) ⟨sa, sb, sc, sd, se, sf, sg, sh⟩ qb W pb r) (fun i _ => 64 - (intOf i).toNat)
              case atStart => exact ⟨0, _, by omega, rfl, rfl, HRS.out⟩
              case round =>
                obtain ⟨k, r, hk, rfl, hrr, hr⟩ := hrel
                obtain ⟨ra, rb, rc, rd, re, rf, rg, rh⟩ := r
                have HRD : Hid (⟨ra, rb, rc, rd, re, rf, rg, rh⟩ = rounds K256 W ⟨sa, sb, sc, sd, se, sf, sg, sh⟩ k) := hrr
                have HR4 : Hid (RRel w _ kb g Z (padM m n) ⟨sa, sb, sc, sd, se, sf, sg, sh⟩ qb W pb ⟨ra, rb, rc, rd, re, rf, rg, rh⟩) := hr
                clear hr hrr HRS
                by_cases hlk3 : k < 64
                · have x64 : (k : Int) < 64 := by omega
                  have e0 : wr.cell? ⟨pb, 0, none⟩ = some (U ra) := HR4.out.scell 0 (by omega)
                  have e1 : wr.cell? ⟨pb, 1, none⟩ = some (U rb) := HR4.out.scell 1 (by omega)
                  have e2 : wr.cell? ⟨pb, 2, none⟩ = some (U rc) := HR4.out.scell 2 (by omega)
                  have e3 : wr.cell? ⟨pb, 3, none⟩ = some (U rd) := HR4.out.scell 3 (by omega)
                  have e4 : wr.cell? ⟨pb, 4, none⟩ = some (U re) := HR4.out.scell 4 (by omega)
                  have e5 : wr.cell? ⟨pb, 5, none⟩ = some (U rf) := HR4.out.scell 5 (by omega)
                  have e6 : wr.cell? ⟨pb, 6, none⟩ = some (U rg) := HR4.out.scell 6 (by omega)
                  have e7 : wr.cell? ⟨pb, 7, none⟩ = some (U rh) := HR4.out.scell 7 (by omega)
                  have kt := HR4.out.base.base.ktab k hlk3
                  have wt := HR4.out.wcell k hlk3
                  go_wp2_with fail
                  go_quiet (fail)
                  go_wp2_with fail
                  obtain ⟨v1, hqv1⟩ : ∃ x, x = wr.drewN nq := ⟨_, rfl⟩
                  rw [← hqv1]
                  have HR5 : Hid (RRel w v1 kb g Z (padM m n) ⟨sa, sb, sc, sd, se, sf, sg, sh⟩ qb W pb ⟨ra, rb, rc, rd, re, rf, rg, rh⟩) := by rw [hqv1]; exact HR4.out.drewN nq
                  clear hqv1 e0 e1 e2 e3 e4 e5 e6 e7 kt wt
                  have e0 : v1.cell? ⟨pb, 0, none⟩ = some (U ra) := HR5.out.scell 0 (by omega)
                  have e1 : v1.cell? ⟨pb, 1, none⟩ = some (U rb) := HR5.out.scell 1 (by omega)
                  have e2 : v1.cell? ⟨pb, 2, none⟩ = some (U rc) := HR5.out.scell 2 (by omega)
                  have e3 : v1.cell? ⟨pb, 3, none⟩ = some (U rd) := HR5.out.scell 3 (by omega)
                  have e4 : v1.cell? ⟨pb, 4, none⟩ = some (U re) := HR5.out.scell 4 (by omega)
                  have e5 : v1.cell? ⟨pb, 5, none⟩ = some (U rf) := HR5.out.scell 5 (by omega)
                  have e6 : v1.cell? ⟨pb, 6, none⟩ = some (U rg) := HR5.out.scell 6 (by omega)
                  have e7 : v1.cell? ⟨pb, 7, none⟩ = some (U rh) := HR5.out.scell 7 (by omega)
                  have kt := HR5.out.base.base.ktab k hlk3
                  have wt := HR5.out.wcell k hlk3
                  go_quiet ((go_at_call 70; exact Calls.quiet_of_same (rrotr _ _ (by decide) (by decide) _)))
                  go_wp2_with fail
                  obtain ⟨v2, hqv2⟩ : ∃ x, x = v1.drewN nq := ⟨_, rfl⟩
                  rw [← hqv2]
                  have HR6 : Hid (RRel w v2 kb g Z (padM m n) ⟨sa, sb, sc, sd, se, sf, sg, sh⟩ qb W pb ⟨ra, rb, rc, rd, re, rf, rg, rh⟩) := by rw [hqv2]; exact HR5.out.drewN nq
                  clear hqv2 e0 e1 e2 e3 e4 e5 e6 e7 kt wt
                  have e0 : v2.cell? ⟨pb, 0, none⟩ = some (U ra) := HR6.out.scell 0 (by omega)
                  have e1 : v2.cell? ⟨pb, 1, none⟩ = some (U rb) := HR6.out.scell 1 (by omega)
                  have e2 : v2.cell? ⟨pb, 2, none⟩ = some (U rc) := HR6.out.scell 2 (by omega)
                  have e3 : v2.cell? ⟨pb, 3, none⟩ = some (U rd) := HR6.out.scell 3 (by omega)
                  have e4 : v2.cell? ⟨pb, 4, none⟩ = some (U re) := HR6.out.scell 4 (by omega)
                  have e5 : v2.cell? ⟨pb, 5, none⟩ = some (U rf) := HR6.out.scell 5 (by omega)
                  have e6 : v2.cell? ⟨pb, 6, none⟩ = some (U rg) := HR6.out.scell 6 (by omega)
                  have e7 : v2.cell? ⟨pb, 7, none⟩ = some (U rh) := HR6.out.scell 7 (by omega)
                  have kt := HR6.out.base.base.ktab k hlk3
                  have wt := HR6.out.wcell k hlk3
                  go_quiet ((go_at_call 70; exact Calls.quiet_of_same (rrotr _ _ (by decide) (by decide) _)))
                  have k0 : v2.frozen? ⟨pb, 0, none⟩ = false := frozen_of_row _ _ _ _ _ HR6.out.row
                  have k1 : v2.frozen? ⟨pb, 1, none⟩ = false := frozen_of_row _ _ _ _ _ HR6.out.row
                  have k2 : v2.frozen? ⟨pb, 2, none⟩ = false := frozen_of_row _ _ _ _ _ HR6.out.row
                  have k3 : v2.frozen? ⟨pb, 3, none⟩ = false := frozen_of_row _ _ _ _ _ HR6.out.row
                  have k4 : v2.frozen? ⟨pb, 4, none⟩ = false := frozen_of_row _ _ _ _ _ HR6.out.row
                  have k5 : v2.frozen? ⟨pb, 5, none⟩ = false := frozen_of_row _ _ _ _ _ HR6.out.row
                  have k6 : v2.frozen? ⟨pb, 6, none⟩ = false := frozen_of_row _ _ _ _ _ HR6.out.row
                  have k7 : v2.frozen? ⟨pb, 7, none⟩ = false := frozen_of_row _ _ _ _ _ HR6.out.row
                  go_wp2
                  go_roundw
                  case rel =>
                    first | exact ⟨k + 1, step ⟨ra, rb, rc, rd, re, rf, rg, rh⟩ (K256 k) (W k), by omega, by go_num, by rw [HRD.out]; rfl, (HR6.out.drewN _).put (step ⟨ra, rb, rc, rd, re, rf, rg, rh⟩ (K256 k) (W k))⟩ | ((repeat apply Exists.intro); exact ⟨⟨k + 1, step ⟨ra, rb, rc, rd, re, rf, rg, rh⟩ (K256 k) (W k), by omega, by go_num, by rw [HRD.out]; rfl, (HR6.out.drewN _).put (step ⟨ra, rb, rc, rd, re, rf, rg, rh⟩ (K256 k) (W k))⟩, rfl⟩)
                  case measure => simp [intOf]; omega
                · obtain rfl : k = 64 := by omega
                  go_wp2_with fail
                  have HR0 : Hid (RRel w _ kb g Z (padM m n) (part ⟨sa, sb, sc, sd, se, sf, sg, sh⟩ ⟨ra, rb, rc, rd, re, rf, rg, rh⟩ 0) qb W pb ⟨ra, rb, rc, rd, re, rf, rg, rh⟩) := (by rw [part_zero]; exact HR4.out)
                  go_loopw [18, 214] (fun _ i wq => ∃ k : Nat, k ≤ 8 ∧ i = .int .i64 k ∧ RRel w wq kb g Z (padM m n) (part ⟨sa, sb, sc, sd, se, sf, sg, sh⟩ ⟨ra, rb, rc, rd, re, rf, rg, rh⟩ k) qb W pb ⟨ra, rb, rc, rd, re, rf, rg, rh⟩) (fun _ i _ => 8 - (intOf i).toNat)
                  case atStart => exact ⟨0, by omega, rfl, HR0.out⟩
                  case round =>
                    obtain ⟨k, hk, rfl, hr⟩ := hrel
                    have HR7 : Hid (RRel w _ kb g Z (padM m n) (part ⟨sa, sb, sc, sd, se, sf, sg, sh⟩ ⟨ra, rb, rc, rd, re, rf, rg, rh⟩ k) qb W pb ⟨ra, rb, rc, rd, re, rf, rg, rh⟩) := hr
                    clear HR0 hr
                    by_cases hlk4 : k < 8
                    · have x8 : (k : Int) < 8 := by omega
                      have e0 := HR7.out.scell k hlk4
                      have e1 := HR7.out.hcell k hlk4
                      rw [part_at _ _ _ _ hlk4, if_neg (Nat.lt_irrefl _)] at e1
                      have f1 : wr.frozen? ⟨w.heap.size + 1, k, none⟩ = false := frozen_of_row _ _ _ _ _ HR7.out.base.base.hrow
                      generalize hA : St.at ⟨sa, sb, sc, sd, se, sf, sg, sh⟩ k = A at e1
                      generalize hB : St.at ⟨ra, rb, rc, rd, re, rf, rg, rh⟩ k = C at e0
                      have HN : Hid (RRel w (wr.setCell ⟨w.heap.size + 1, k, none⟩ (U (A + C))) kb g Z (padM m n) (part ⟨sa, sb, sc, sd, se, sf, sg, sh⟩ ⟨ra, rb, rc, rd, re, rf, rg, rh⟩ (k + 1)) qb W pb ⟨ra, rb, rc, rd, re, rf, rg, rh⟩) := by rw [← hA, ← hB]; exact HR7.out.seth
                      clear hA hB
                      go_wp2_with fail
                      go_region
                      go_wp2
                      go_roundw
                      case rel =>
                        first | exact ⟨k + 1, by omega, by go_num, HN.out⟩ | exact ⟨k + 1, by omega, by go_num, HN.out.drewN 1⟩ | ((repeat apply Exists.intro); exact ⟨⟨k + 1, by omega, by go_num, HN.out.drewN 1⟩, rfl⟩)
                      case measure => simp [intOf]; omega
                    · obtain rfl : k = 8 := by omega
                      have HFIN : Hid (ORel w wr kb g Z (padM m n) (blocks K256 H256 (padM m n) (j + 1))) := by
                        have e := HR7.out.base.base
                        rw [part_eight, HRD.out, HST.out, HWD.out] at e
                        exact e
                      go_wp2
                      go_roundw
                      case rel =>
                        first | exact ⟨j + 1, by omega, by go_num, HFIN.out⟩ | ((repeat apply Exists.intro); exact ⟨⟨j + 1, by omega, by go_num, HFIN.out⟩, rfl⟩)
                      case measure => simp [intOf]; omega




    · 
      obtain ⟨st, hst⟩ : ∃ st, st = blocks K256 H256 (padM m n) j := ⟨_, rfl⟩
      rw [← hst] at HRR
      have hres : sumSt K256 H256 m n = st := by
        have e := HZ.out
        rw [hst, sumSt, show nblk n = j by omega]
      have HRES : Hid (sumSt K256 H256 m n = st) := hres
      clear hst hres
      have hz := zero_32
      have hge : decide (64 * (j : Int) < (Z : Int)) = false := by simp; omega
      have HX0 : Hid (XRel w (wr.alloc (.cells z32 25)) kb g Z (padM m n) st wr.heap.size 0) := XRel.start HRR.out
      go_wp2_with fail
      generalize wr.heap.size = qb at HX0 ⊢
      go_loopw [20, 227] (fun _ i wq => ∃ k : Nat, k ≤ 32 ∧ i = .int .i64 k ∧ XRel w wq kb g Z (padM m n) st qb k) (fun _ i _ => 32 - (intOf i).toNat)
      case atStart => exact ⟨0, by omega, rfl, HX0.out⟩
      case round =>
        obtain ⟨k, hk, rfl, hr⟩ := hrel
        have HR : Hid (XRel w _ kb g Z (padM m n) st qb k) := hr
        clear HX0
        by_cases hlk : k < 32
        · obtain ⟨q, hq⟩ : ∃ q, q = k / 4 := ⟨_, rfl⟩
          obtain ⟨r, hr4⟩ : ∃ r, r = k % 4 := ⟨_, rfl⟩
          have c1 := hr.cell k hlk
          have f1 := hr.froz k
          have hq8 : q < 8 := by omega
          have hc := hr.hcell q hq8
          have x1 : (k : Int) / 4 = (q : Int) := by omega
          have x2 : (q : Int) < 8 := by omega
          have x3 : (k : Int) < 32 := by omega
          have HQ : Hid (q = k / 4) := hq
          have HB : Hid (∀ r', r' = k % 4 → B ((st.at q >>> (24 - 8 * r')).setWidth 8) = B (sbyte st k)) := fun r' h => by rw [sbyte, hq, h]
          clear hr hq
          obtain rfl | rfl | rfl | rfl : r = 0 ∨ r = 1 ∨ r = 2 ∨ r = 3 := by omega
          · have x4 : (k : Int) % 4 = 0 := by omega
            have HV : Hid (B ((st.at q >>> 24).setWidth 8) = B (sbyte st k)) := HB.out 0 hr4
            clear hr4 HB
            have HP : Hid (XRel w (wr.setCell ⟨qb, k, none⟩ (B ((st.at q >>> 24).setWidth 8))) kb g Z (padM m n) st qb (k + 1)) := by rw [HV.out]; exact HR.out.put hlk
            go_wp2
            exact ⟨⟨k + 1, by omega, by go_num, HP.out⟩, by simp [intOf]; omega⟩
          · have x4 : (k : Int) % 4 = 1 := by omega
            have HV : Hid (B ((st.at q >>> 16).setWidth 8) = B (sbyte st k)) := HB.out 1 hr4
            clear hr4 HB
            have HP : Hid (XRel w (wr.setCell ⟨qb, k, none⟩ (B ((st.at q >>> 16).setWidth 8))) kb g Z (padM m n) st qb (k + 1)) := by rw [HV.out]; exact HR.out.put hlk
            go_wp2
            exact ⟨⟨k + 1, by omega, by go_num, HP.out⟩, by simp [intOf]; omega⟩
          · have x4 : (k : Int) % 4 = 2 := by omega
            have HV : Hid (B ((st.at q >>> 8).setWidth 8) = B (sbyte st k)) := HB.out 2 hr4
            clear hr4 HB
            have HP : Hid (XRel w (wr.setCell ⟨qb, k, none⟩ (B ((st.at q >>> 8).setWidth 8))) kb g Z (padM m n) st qb (k + 1)) := by rw [HV.out]; exact HR.out.put hlk
            go_wp2
            exact ⟨⟨k + 1, by omega, by go_num, HP.out⟩, by simp [intOf]; omega⟩
          · have x4 : (k : Int) % 4 = 3 := by omega
            have HV : Hid (B ((st.at q).setWidth 8) = B (sbyte st k)) := (by have := HB.out 3 hr4; show B _ = B _; simpa using this)
            clear hr4 HB
            have HP : Hid (XRel w (wr.setCell ⟨qb, k, none⟩ (B ((st.at q).setWidth 8))) kb g Z (padM m n) st qb (k + 1)) := by rw [HV.out]; exact HR.out.put hlk
            go_wp2
            exact ⟨⟨k + 1, by omega, by go_num, HP.out⟩, by simp [intOf]; omega⟩
        · obtain rfl : k = 32 := by omega
          have HC : Hid (wr.rangeAt qb 0 (srow st).toList) := by
            have := range_of_cells (w := wr) (g := qb) (o := 0) (n := 32) (fun i => B (sbyte st i)) (fun i hi => by rw [Nat.zero_add, hr.cell i hi, if_pos hi])
            exact this
          have HT : Hid (wr.there w.heap.size 0 (srow st).size) := by rw [srow_size]; exact there_of_row hr.base.res 0 32 (by rw [z32_size]; omega)
          clear hr
          go_wp2_with (first | (refine wpList_load_mid rfl 25 _ rfl qb 0 rfl (srow st).toList _ HC.out Tryd.underlying25 rfl (by rw [Array.length_toList, srow_size]; kernel_rfl) ?_) | (refine wpList_store_mid rfl 25 _ _ rfl w.heap.size 0 (srow st) rfl rfl HT.out (by rw [srow_size]; kernel_rfl) (by exact srow_one _) ?_))
          rw [HRES.out]
          refine bodyPost_ret (v := .agg (srow st)) ?_ rfl ⟨rfl, ?_⟩
          · exact results_mid Tryd.results44 _ _ w.heap.size 0 (srow st).toList _ rfl (World.rangeAt_setCells_same _ _ _ _ HT.out) Tryd.underlying25 rfl (by rw [Array.length_toList, srow_size]; kernel_rfl)
          · exact below_setCells _ (Nat.le_refl _) _ _ _ HR.out.base.below

end Go.Proofs.YtpojalbpekbfdabDoor.Sh
