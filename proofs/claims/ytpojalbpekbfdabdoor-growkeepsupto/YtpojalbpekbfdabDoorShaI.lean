/- 'Write', behind its parts. -/
import Derived.Test.YtpojalbpekbfdabDoorShaE
namespace Go.Proofs.YtpojalbpekbfdabDoor.Sh
open Go Go.RowKit

set_option maxRecDepth 100000 in
set_option maxHeartbeats 400000 in
theorem write_short (hb : Nat) (s : St) (buf m : Nat → BitVec 8) (N r b off n cap : Nat) (hr : N % 64 = r) (h0 : 0 < r) (hrn : r + n < 64) (hN : N + n < 4611686018427387904) (hbb : b ≠ hb) (w : World)
    (hw : HRow w hb s buf N) (hm : ∀ i, i < n → w.cell? ⟨b, off + i, none⟩ = some (B (m i))) :
    Calls Tryd.prog 63 #[.pointer (some ⟨hb, 0, none⟩), .slice (some ⟨b, off, none⟩) n cap] w fun e w' => e = .returned (.tuple #[]) ∧ w.grownBy w' (some hb) ∧ w'.heap.size = w.heap.size ∧ HRow w' hb s (bput buf r n m) (N + n) := by
  have hc := hw.len
  have hf := hw.froz 72
  have HW : Hid (HRow w hb s buf N) := hw
  have HM : Hid (∀ i, i < n → w.cell? ⟨b, off + i, none⟩ = some (B (m i))) := hm
  have HR : Hid (N % 64 = r) := hr
  have hr64 : r < 64 := by omega
  clear hw hm hr
  have g1 : (0 : Int) < (r : Int) := by omega
  have g2 : (r : Int) < 64 := by omega
  have g3 : (r : Int) + (n : Int) < 64 := by omega
  have g4 : (N : Int) + (n : Int) < 4611686018427387904 := by omega
  have sl := fun w1 => sliceAt_l w1 90 5 64 hb 8 (r : Int) r rfl Tryd.underlying90 size_u8 (by omega)
  have HRW : Hid ((w.setCell ⟨hb, 72, none⟩ (.int .u64 ((N : Int) + (n : Int)))).heap[hb]? = some (.cells (hrow s buf (N + n)) 92 (0, 0))) := by
    have := HW.out.setLen (N + n)
    rw [Int.natCast_add] at this
    exact this
  have HS : Hid (∀ j v, ((List.range n).map fun i => B (m i))[j]? = some v → (w.setCell ⟨hb, 72, none⟩ (.int .u64 ((N : Int) + (n : Int)))).cell? ((⟨b, off, none⟩ : Addr).add j) = some v) :=
    src_cells (fun i hi => by rw [cell_set_other _ _ _ _ _ _ hbb]; exact HM.out i hi) n (Nat.le_refl _)
  have HF : Hid (8 + r + ((List.range n).map fun i => B (m i)).length ≤ (hrow s buf (N + n)).size) := by
    show 8 + r + ((List.range n).map fun i => B (m i)).length ≤ (hrow s buf (N + n)).size
    rw [hrow_size, List.length_map, List.length_range]; omega
  have HL : Hid (((List.range n).map fun i => B (m i)).length = Nat.min n (64 - r)) := by
    show _ = min n (64 - r)
    simp; omega
  go_enter Tryd.func63, Tryd.ntmps63
  go_wp2_with fail
  refine (held_at hb N r HR.out (by omega) _ hc).mono ?_
  rintro e w' ⟨rfl, rfl⟩
  go_wp2_with (refine wpList_copyL rfl _ _ 51 51 rfl 5 Tryd.underlying51 size_u8 hb (8 + r) (64 - r) (64 - r) ⟨b, off, none⟩ n cap rfl rfl (hrow s buf (N + n)) 92 HRW.out ((List.range n).map fun i => B (m i)) HL.out HS.out HF.out (bytes_one n m) ?_; intro w2 hg2 hz2 hr2; rw [hrow_splice s buf (N + n) r n m (by omega)] at hr2; have HG : Hid (HRow w2 hb s (bput buf r n m) (N + n)) := hr2; rw [show (((List.range n).map fun i => B (m i)).length : Int) = (n : Int) by simp]; clear hr2)
  exact bodyPost_ret (v := .tuple #[]) (by simp [results, Tryd.results63]) rfl ⟨rfl, gtrans (grownBy_setCell0 _ _ _ _) hg2, hz2.trans (size_setCell _ _ _), HG.out⟩

def lenOf : Value → Nat | .slice _ n _ => n | _ => 0
/-- What the loop over whole blocks holds when j bytes have been taken into the state. -/
structure LRel (K : Nat → BitVec 32) (s0 : St) (M : Nat → BitVec 8) (w wr : World) (hb N n j : Nat) (buf : Nat → BitVec 8) : Prop where
  grown : w.grownBy wr (some hb)
  row : HRow wr hb (blocks K s0 M ((N + j) / 64)) buf (N + n)
theorem cell_grown {w w' : World} {row : Option Nat} (h : w.grownBy w' row) (b o : Nat) (hlt : b < w.heap.size) (hne : some b ≠ row) : w'.cell? ⟨b, o, none⟩ = w.cell? ⟨b, o, none⟩ := World.cell?_of_block (w := w) (h.block b hlt hne)
theorem grownBy_setCells (b : Nat) : ∀ (vs : List Value) (o : Nat) (a w : World), a.grownBy w (some b) → a.grownBy (w.setCells b o vs) (some b)
  | [], _, _, _, h => h
  | v :: r, o, a, w, h => by
    rw [World.setCells]
    exact grownBy_setCells b r (o + 1) a _ (gtrans h (grownBy_setCell0 _ _ _ _))
theorem HRow.below {w w' : World} {hb : Nat} {s : St} {buf : Nat → BitVec 8} {N : Nat} (h : HRow w hb s buf N) (hb' : Below w.heap.size w w') : HRow w' hb s buf N := by
  unfold HRow; rw [hb'.block hb h.lt]; exact h
theorem blocks_next (K : Nat → BitVec 32) (s0 : St) (M : Nat → BitVec 8) (N : Nat) (h : N % 64 = 0) : blocks K s0 M ((N + 64) / 64) = compress K (blocks K s0 M (N / 64)) (fun i => M (N + i)) := by
  have e1 : (N + 64) / 64 = N / 64 + 1 := by omega
  have e2 : 64 * (N / 64) = N := by omega
  rw [e1, blocks, e2]
/-- The step of the loop, said of worlds. -/
theorem LRel.next {K : Nat → BitVec 32} {s0 : St} {M : Nat → BitVec 8} {w wr w1 : World} {hb N n j : Nat} {buf : Nat → BitVec 8} (h : LRel K s0 M w wr hb N n j buf) (hz : (N + j) % 64 = 0) (hb1 : Below wr.heap.size wr w1)
    (s' : St) (hs : compress K (blocks K s0 M ((N + j) / 64)) (fun i => M (N + j + i)) = s') : LRel K s0 M w (w1.setCells hb 0 s'.row.toList) hb N n (j + 64) buf := by
  refine ⟨grownBy_setCells _ _ _ _ _ (gtrans h.grown (gbelow hb1 _)), ?_⟩
  have e := blocks_next K s0 M (N + j) hz
  rw [hs] at e
  rw [← Nat.add_assoc, e]
  exact (h.row.below hb1).setSt s'
theorem LRel.drewN {K : Nat → BitVec 32} {s0 : St} {M : Nat → BitVec 8} {w wr : World} {hb N n j : Nat} {buf : Nat → BitVec 8} (h : LRel K s0 M w wr hb N n j buf) (k : Nat) : LRel K s0 M w (wr.drewN k) hb N n j buf :=
  ⟨⟨h.grown.os, h.grown.tape, h.grown.output, h.grown.size, h.grown.block⟩, h.row⟩

theorem mix_at (K : Nat → BitVec 32) (m : Nat → BitVec 8) (sa sb sc sd se sf sg sh pa pb pc pd pe pf pg ph : BitVec 32) (hp : compress K ⟨sa, sb, sc, sd, se, sf, sg, sh⟩ m = ⟨pa, pb, pc, pd, pe, pf, pg, ph⟩) (b off n cap : Nat) (hn : 64 ≤ n) (hcap : n ≤ cap) (w : World) (hm : ∀ i, i < 64 → w.cell? ⟨b, off + i, none⟩ = some (B (m i)))
    (hK : ∀ i, i < 64 → w.cell? ⟨2, i, none⟩ = some (U (K i))) :
    Calls Tryd.prog 78 #[.agg #[U sa, U sb, U sc, U sd, U se, U sf, U sg, U sh], .slice (some ⟨b, off, none⟩) n cap] w fun e w' => e = .returned (.agg #[U pa, U pb, U pc, U pd, U pe, U pf, U pg, U ph]) ∧ Below w.heap.size w w' := by
  refine (mix_walk K m (schedW m) (schedW_ok m) ⟨sa, sb, sc, sd, se, sf, sg, sh⟩ b off n cap hn hcap w hm hK).mono ?_
  rintro e w' ⟨rfl, h⟩
  exact ⟨congrArg (fun s : St => Ending.returned (.agg s.row)) hp, h⟩
set_option maxRecDepth 100000 in
set_option maxHeartbeats 1000000 in
theorem write_whole (K : Nat → BitVec 32) (s0 : St) (M : Nat → BitVec 8) (hb : Nat) (buf : Nat → BitVec 8) (N b off n cap : Nat) (hr : N % 64 = 0) (hnc : n ≤ cap) (hN : N + n < 4611686018427387904) (hbb : b ≠ hb) (hkb : 2 ≠ hb) (w : World) (hblt : b < w.heap.size)
    (hw : HRow w hb (blocks K s0 M (N / 64)) buf N) (hm : ∀ i, i < n → w.cell? ⟨b, off + i, none⟩ = some (B (M (N + i)))) (hK : ∀ i, i < 64 → w.cell? ⟨2, i, none⟩ = some (U (K i))) :
    Calls Tryd.prog 63 #[.pointer (some ⟨hb, 0, none⟩), .slice (some ⟨b, off, none⟩) n cap] w fun e w' => e = .returned (.tuple #[]) ∧ w.grownBy w' (some hb) ∧ ∃ buf', HRow w' hb (blocks K s0 M ((N + n) / 64)) buf' (N + n) ∧ ∀ i, i < (N + n) % 64 → buf' i = M (64 * ((N + n) / 64) + i) := by
  have hklt : 2 < w.heap.size := block_lt_of_cell (hK 0 (by omega))
  have hc := hw.len
  have hf := hw.froz 72
  have HW : Hid (HRow w hb (blocks K s0 M (N / 64)) buf N) := hw
  have HM : Hid (∀ i, i < n → w.cell? ⟨b, off + i, none⟩ = some (B (M (N + i)))) := hm
  have HK : Hid (∀ i, i < 64 → w.cell? ⟨2, i, none⟩ = some (U (K i))) := hK
  have HR : Hid (N % 64 = 0) := hr
  clear hw hm hr hK
  have g4 : (N : Int) + (n : Int) < 4611686018427387904 := by omega
  have HL : Hid (LRel K s0 M w (w.setCell ⟨hb, 72, none⟩ (.int .u64 ((N : Int) + (n : Int)))) hb N n 0 buf) := by
    have := HW.out.setLen (N + n)
    rw [Int.natCast_add] at this
    exact ⟨grownBy_setCell0 _ _ _ _, this⟩
  go_enter Tryd.func63, Tryd.ntmps63
  go_wp2_with fail
  refine (held_at hb N 0 HR.out (by omega) _ hc).mono ?_
  rintro e w' ⟨rfl, rfl⟩
  go_wp2_with fail
  go_loopw [1] (fun x wr => ∃ j o2 q c2 : Nat, q + j = n ∧ q ≤ c2 ∧ (N + j) % 64 = 0 ∧ x = .slice (some ⟨b, o2, none⟩) q c2 ∧ (0 < q → o2 = off + j) ∧ ∃ buf2, LRel K s0 M w wr hb N n j buf2) (fun x _ => lenOf x)
  case atStart => exact ⟨0, off, n, cap, rfl, hnc, HR.out, rfl, fun _ => rfl, buf, HL.out⟩
  case round =>
    obtain ⟨j, o2, q, c2, hj, hqc, hz, rfl, ho, buf2, hl⟩ := hrel
    have HLR : Hid (LRel K s0 M w _ hb N n j buf2) := hl
    have HZ : Hid ((N + j) % 64 = 0) := hz
    have HJ : Hid (q + j = n) := hj
    clear hl hz hj
    by_cases hge : 64 ≤ q
    · have HO : Hid (o2 = off + j) := ho (by omega)
      have hge1 : (64 : Int) ≤ (q : Int) := by omega
      have hge2 : (64 : Int) ≤ (c2 : Int) := by omega
      clear ho
      obtain ⟨s, hs⟩ : ∃ s, s = blocks K s0 M ((N + j) / 64) := ⟨_, rfl⟩
      obtain ⟨p, hp⟩ : ∃ p, compress K s (fun i => M (N + j + i)) = p := ⟨_, rfl⟩
      have hrow := HLR.out.row
      rw [← hs] at hrow
      have HS : Hid (s = blocks K s0 M ((N + j) / 64)) := hs
      clear hs
      obtain ⟨sa, sb, sc, sd, se, sf, sg, sh⟩ := s
      obtain ⟨pa, pb, pc, pd, pe, pf, pg, ph⟩ := p
      have HP : Hid (compress K ⟨sa, sb, sc, sd, se, sf, sg, sh⟩ (fun i => M (N + j + i)) = ⟨pa, pb, pc, pd, pe, pf, pg, ph⟩) := hp
      clear hp
      have c0 : wr.cell? ⟨hb, 0, none⟩ = some (U sa) := hrow.st 0 (by omega)
      have c1 : wr.cell? ⟨hb, 1, none⟩ = some (U sb) := hrow.st 1 (by omega)
      have c2' : wr.cell? ⟨hb, 2, none⟩ = some (U sc) := hrow.st 2 (by omega)
      have c3 : wr.cell? ⟨hb, 3, none⟩ = some (U sd) := hrow.st 3 (by omega)
      have c4 : wr.cell? ⟨hb, 4, none⟩ = some (U se) := hrow.st 4 (by omega)
      have c5 : wr.cell? ⟨hb, 5, none⟩ = some (U sf) := hrow.st 5 (by omega)
      have c6 : wr.cell? ⟨hb, 6, none⟩ = some (U sg) := hrow.st 6 (by omega)
      have c7 : wr.cell? ⟨hb, 7, none⟩ = some (U sh) := hrow.st 7 (by omega)
      have HRO : Hid (HRow wr hb ⟨sa, sb, sc, sd, se, sf, sg, sh⟩ buf2 (N + n)) := hrow
      clear hrow
      have HMM : Hid (∀ i, i < 64 → wr.cell? ⟨b, o2 + i, none⟩ = some (B (M (N + j + i)))) := by
        intro i hi
        have hj := HJ.out
        rw [HO.out, cell_grown HLR.out.grown b _ hblt (by simpa using hbb), Nat.add_assoc off, HM.out (j + i) (by omega), Nat.add_assoc]
      have HKK : Hid (∀ i, i < 64 → wr.cell? ⟨2, i, none⟩ = some (U (K i))) := by
        intro i hi
        rw [cell_grown HLR.out.grown _ _ hklt (by simpa using hkb), HK.out i hi]
      go_wp2_with fail
      go_region_with (go_at_call 78; refine (mix_at K (fun i => M (N + j + i)) sa sb sc sd se sf sg sh pa pb pc pd pe pf pg ph HP.out b o2 64 _ (Nat.le_refl _) (by omega) _ (by exact HMM.out) (by exact HKK.out)).mono ?_; rintro e w1 ⟨rfl, hb1⟩; have hro : HRow w1 hb ⟨sa, sb, sc, sd, se, sf, sg, sh⟩ buf2 (N + n) := HRow.below (w := wr.drew) HRO.out hb1; have d0 : w1.cell? ⟨hb, 0, none⟩ = some (U sa) := hro.st 0 (by omega); have d1 : w1.cell? ⟨hb, 1, none⟩ = some (U sb) := hro.st 1 (by omega); have d2 : w1.cell? ⟨hb, 2, none⟩ = some (U sc) := hro.st 2 (by omega); have d3 : w1.cell? ⟨hb, 3, none⟩ = some (U sd) := hro.st 3 (by omega); have d4 : w1.cell? ⟨hb, 4, none⟩ = some (U se) := hro.st 4 (by omega); have d5 : w1.cell? ⟨hb, 5, none⟩ = some (U sf) := hro.st 5 (by omega); have d6 : w1.cell? ⟨hb, 6, none⟩ = some (U sg) := hro.st 6 (by omega); have d7 : w1.cell? ⟨hb, 7, none⟩ = some (U sh) := hro.st 7 (by omega); have df := hro.froz; have HB1 : Hid (Below wr.drew.heap.size wr.drew w1) := hb1; clear hro hb1)
      have HN : Hid (LRel K s0 M w (w1.setCells hb 0 (St.row ⟨pa, pb, pc, pd, pe, pf, pg, ph⟩).toList) hb N n (j + 64) buf2) :=
        LRel.next (wr := wr.drew) (HLR.out.drewN 1) HZ.out HB1.out _ (by rw [← HS.out]; exact HP.out)
      obtain ⟨o3, ho3⟩ : ∃ o3, o3 = if c2 = 64 then o2 else o2 + 64 := ⟨_, rfl⟩
      have sl := fun w1 => slice_l w1 51 5 b o2 q c2 64 64 rfl Tryd.underlying51 size_u8 hge
      rw [← ho3] at sl
      have HO3 : Hid (o3 = if c2 = 64 then o2 else o2 + 64) := ho3
      clear ho3 c0 c1 c2' c3 c4 c5 c6 c7 d0 d1 d2 d3 d4 d5 d6 d7 df
      go_wp2
      go_roundw
      case rel =>
        exact ⟨j + 64, o3, q - 64, c2 - 64, by have := HJ.out; omega, by omega, by have := HZ.out; omega, rfl, fun h => by rw [HO3.out, if_neg (by omega), HO.out, Nat.add_assoc], buf2, HN.out⟩
      case measure => simp [lenOf]; omega
    · have hlt1 : (q : Int) < 64 := by omega
      have hge' : decide ((64 : Int) ≤ (q : Int)) = false := by simpa using hlt1
      have HMM : Hid (∀ i, i < q → wr.cell? ⟨b, o2 + i, none⟩ = some (B (M (N + j + i)))) := by
        intro i hi
        have hj := HJ.out
        rw [ho (by omega), cell_grown HLR.out.grown b _ hblt (by simpa using hbb), Nat.add_assoc off, HM.out (j + i) (by omega), Nat.add_assoc]
      have sl := fun w1 => sliceAt_all w1 90 5 64 hb 8 Tryd.underlying90 size_u8
      have HRW : Hid (wr.heap[hb]? = some (.cells (hrow (blocks K s0 M ((N + j) / 64)) buf2 (N + n)) 92 (0, 0))) := HLR.out.row
      have HSC : Hid (∀ i v, ((List.range q).map fun i => B (M (N + j + i)))[i]? = some v → wr.cell? ((⟨b, o2, none⟩ : Addr).add i) = some v) := src_cells HMM.out q (Nat.le_refl _)
      have HF : Hid (8 + ((List.range q).map fun i => B (M (N + j + i))).length ≤ (hrow (blocks K s0 M ((N + j) / 64)) buf2 (N + n)).size) := by
        show 8 + ((List.range q).map fun i => B (M (N + j + i))).length ≤ (hrow (blocks K s0 M ((N + j) / 64)) buf2 (N + n)).size
        rw [hrow_size, List.length_map, List.length_range]; omega
      have HLE : Hid (((List.range q).map fun i => B (M (N + j + i))).length = Nat.min q 64) := by
        show _ = min q 64
        simp; omega
      clear ho
      go_wp2_with (refine wpList_copyL rfl _ _ 51 51 rfl 5 Tryd.underlying51 size_u8 hb 8 64 64 ⟨b, o2, none⟩ q c2 rfl rfl (hrow (blocks K s0 M ((N + j) / 64)) buf2 (N + n)) 92 HRW.out ((List.range q).map fun i => B (M (N + j + i))) HLE.out HSC.out HF.out (bytes_one q _) ?_; intro w2 hg2 hz2 hr2; have HG : Hid (HRow w2 hb (blocks K s0 M ((N + j) / 64)) (bput buf2 0 q (fun i => M (N + j + i))) (N + n)) := (by have e := hrow_splice (blocks K s0 M ((N + j) / 64)) buf2 (N + n) 0 q (fun i => M (N + j + i)) (by omega); rw [Nat.add_zero] at e; rw [e] at hr2; exact hr2); rw [show (((List.range q).map fun i => B (M (N + j + i))).length : Int) = (q : Int) by simp]; clear hr2)
      go_end0
      refine ⟨rfl, gtrans HLR.out.grown hg2, bput buf2 0 q (fun i => M (N + j + i)), ?_, ?_⟩
      · have h1 := HJ.out
        have h2 := HZ.out
        rw [show (N + n) / 64 = (N + j) / 64 by omega]
        exact HG.out
      · intro i hi
        have h1 := HJ.out
        have h2 := HZ.out
        rw [bput, if_pos (by omega), show 64 * ((N + n) / 64) + i = N + j + (i - 0) by omega]
end Go.Proofs.YtpojalbpekbfdabDoor.Sh
/- 'Write' where a block was begun before: what waits is filled up first. -/
namespace Go.Proofs.YtpojalbpekbfdabDoor.Sh
open Go Go.RowKit

set_option maxRecDepth 100000 in
set_option maxHeartbeats 1000000 in
theorem write_mid (K : Nat → BitVec 32) (s0 : St) (M : Nat → BitVec 8) (hb : Nat) (buf : Nat → BitVec 8) (N r t b off n cap : Nat) (hr : N % 64 = r) (h0 : 0 < r) (ht : r + t = 64) (htn : t ≤ n) (hnc : n ≤ cap) (hN : N + n < 4611686018427387904) (hbb : b ≠ hb) (hkb : 2 ≠ hb) (w : World) (hblt : b < w.heap.size)
    (hw : HRow w hb (blocks K s0 M (N / 64)) buf N) (hbuf : ∀ i, i < r → buf i = M (64 * (N / 64) + i)) (hm : ∀ i, i < n → w.cell? ⟨b, off + i, none⟩ = some (B (M (N + i)))) (hK : ∀ i, i < 64 → w.cell? ⟨2, i, none⟩ = some (U (K i))) :
    Calls Tryd.prog 63 #[.pointer (some ⟨hb, 0, none⟩), .slice (some ⟨b, off, none⟩) n cap] w fun e w' => e = .returned (.tuple #[]) ∧ w.grownBy w' (some hb) ∧ ∃ buf', HRow w' hb (blocks K s0 M ((N + n) / 64)) buf' (N + n) ∧ ∀ i, i < (N + n) % 64 → buf' i = M (64 * ((N + n) / 64) + i) := by
  have hklt : 2 < w.heap.size := block_lt_of_cell (hK 0 (by omega))
  have hc := hw.len
  have hf := hw.froz 72
  have HW : Hid (HRow w hb (blocks K s0 M (N / 64)) buf N) := hw
  have HM : Hid (∀ i, i < n → w.cell? ⟨b, off + i, none⟩ = some (B (M (N + i)))) := hm
  have HK : Hid (∀ i, i < 64 → w.cell? ⟨2, i, none⟩ = some (U (K i))) := hK
  have HR : Hid (N % 64 = r) := hr
  have HT : Hid (r + t = 64) := ht
  have HB : Hid (∀ i, i < r → buf i = M (64 * (N / 64) + i)) := hbuf
  have g1 : (0 : Int) < (r : Int) := by omega
  have g2 : (r : Int) < 64 := by omega
  have g3 : decide ((r : Int) + (t : Int) < 64) = false := by simp; omega
  have g4 : (N : Int) + (n : Int) < 4611686018427387904 := by omega
  have g5 : (t : Int) ≤ (n : Int) := by omega
  have sl0 := fun w1 => sliceAt_l w1 90 5 64 hb 8 (r : Int) r rfl Tryd.underlying90 size_u8 (by omega)
  rw [show 64 - r = t by omega] at sl0
  have sl1 := fun w1 => sliceAt_all w1 90 5 64 hb 8 Tryd.underlying90 size_u8
  have HLEN : Hid (((List.range t).map fun i => B (M (N + i))).length = Nat.min n t) := by
    show _ = min n t
    simp; omega
  have HF : Hid (8 + r + ((List.range t).map fun i => B (M (N + i))).length ≤ (hrow (blocks K s0 M (N / 64)) buf (N + n)).size) := by
    show 8 + r + ((List.range t).map fun i => B (M (N + i))).length ≤ (hrow (blocks K s0 M (N / 64)) buf (N + n)).size
    rw [hrow_size, List.length_map, List.length_range]; omega
  have HSP : Hid (r + t ≤ 64) := by show r + t ≤ 64; omega
  clear hw hm hr hK ht hbuf
  have HRW : Hid ((w.setCell ⟨hb, 72, none⟩ (.int .u64 ((N : Int) + (n : Int)))).heap[hb]? = some (.cells (hrow (blocks K s0 M (N / 64)) buf (N + n)) 92 (0, 0))) := by
    have := HW.out.setLen (N + n)
    rw [Int.natCast_add] at this
    exact this
  have HS0 : Hid (∀ j v, ((List.range t).map fun i => B (M (N + i)))[j]? = some v → (w.setCell ⟨hb, 72, none⟩ (.int .u64 ((N : Int) + (n : Int)))).cell? ((⟨b, off, none⟩ : Addr).add j) = some v) :=
    src_cells (fun i hi => by rw [cell_set_other _ _ _ _ _ _ hbb]; exact HM.out i hi) t htn
  go_enter Tryd.func63, Tryd.ntmps63
  go_wp2_with fail
  refine (held_at hb N r HR.out (by omega) _ hc).mono ?_
  rintro e w' ⟨rfl, rfl⟩
  go_wp2_with (refine wpList_copyL rfl _ _ 51 51 rfl 5 Tryd.underlying51 size_u8 hb (8 + r) t t ⟨b, off, none⟩ n cap rfl rfl (hrow (blocks K s0 M (N / 64)) buf (N + n)) 92 HRW.out ((List.range t).map fun i => B (M (N + i))) HLEN.out HS0.out HF.out (bytes_one t _) ?_; intro w2 hg2 hz2 hr2; rw [hrow_splice (blocks K s0 M (N / 64)) buf (N + n) r t (fun i => M (N + i)) HSP.out] at hr2; have HG : Hid (HRow w2 hb (blocks K s0 M (N / 64)) (bput buf r t (fun i => M (N + i))) (N + n)) := hr2; have HGR : Hid (w.grownBy w2 (some hb)) := gtrans (grownBy_setCell0 _ _ _ _) hg2; rw [show (((List.range t).map fun i => B (M (N + i))).length : Int) = (t : Int) by simp]; clear hr2 hg2 hz2)
  obtain ⟨s, hs⟩ : ∃ s, s = blocks K s0 M (N / 64) := ⟨_, rfl⟩
  obtain ⟨p, hp⟩ : ∃ p, compress K s (fun i => M (64 * (N / 64) + i)) = p := ⟨_, rfl⟩
  have hrow := HG.out
  rw [← hs] at hrow
  have HS : Hid (s = blocks K s0 M (N / 64)) := hs
  clear hs
  obtain ⟨sa, sb, sc, sd, se, sf, sg, sh⟩ := s
  obtain ⟨pa, pb, pc, pd, pe, pf, pg, ph⟩ := p
  have HP : Hid (compress K ⟨sa, sb, sc, sd, se, sf, sg, sh⟩ (fun i => M (64 * (N / 64) + i)) = ⟨pa, pb, pc, pd, pe, pf, pg, ph⟩) := hp
  clear hp
  have c0 : w2.cell? ⟨hb, 0, none⟩ = some (U sa) := hrow.st 0 (by omega)
  have c1 : w2.cell? ⟨hb, 1, none⟩ = some (U sb) := hrow.st 1 (by omega)
  have c2 : w2.cell? ⟨hb, 2, none⟩ = some (U sc) := hrow.st 2 (by omega)
  have c3 : w2.cell? ⟨hb, 3, none⟩ = some (U sd) := hrow.st 3 (by omega)
  have c4 : w2.cell? ⟨hb, 4, none⟩ = some (U se) := hrow.st 4 (by omega)
  have c5 : w2.cell? ⟨hb, 5, none⟩ = some (U sf) := hrow.st 5 (by omega)
  have c6 : w2.cell? ⟨hb, 6, none⟩ = some (U sg) := hrow.st 6 (by omega)
  have c7 : w2.cell? ⟨hb, 7, none⟩ = some (U sh) := hrow.st 7 (by omega)
  have HRO : Hid (HRow w2 hb ⟨sa, sb, sc, sd, se, sf, sg, sh⟩ (bput buf r t (fun i => M (N + i))) (N + n)) := hrow
  clear hrow
  have HMM : Hid (∀ i, i < 64 → w2.cell? ⟨hb, 8 + i, none⟩ = some (B (M (64 * (N / 64) + i)))) := by
    intro i hi
    have e1 := HR.out
    have e2 := HT.out
    rw [HRO.out.bf i hi, bput]
    by_cases h : r ≤ i
    · rw [if_pos ⟨h, by omega⟩, show N + (i - r) = 64 * (N / 64) + i by omega]
    · rw [if_neg (fun e => h e.1), HB.out i (by omega)]
  have HKK : Hid (∀ i, i < 64 → w2.cell? ⟨2, i, none⟩ = some (U (K i))) := by
    intro i hi
    rw [cell_grown HGR.out _ _ hklt (by simpa using hkb), HK.out i hi]
  go_wp2_with fail
  go_region_with (go_at_call 78; refine (mix_at K (fun i => M (64 * (N / 64) + i)) sa sb sc sd se sf sg sh pa pb pc pd pe pf pg ph HP.out hb 8 64 _ (Nat.le_refl _) (by omega) _ (by exact HMM.out) (by exact HKK.out)).mono ?_; rintro e w1 ⟨rfl, hb1⟩; have hro : HRow w1 hb ⟨sa, sb, sc, sd, se, sf, sg, sh⟩ (bput buf r t (fun i => M (N + i))) (N + n) := HRow.below (w := w2.drew) HRO.out hb1; have d0 : w1.cell? ⟨hb, 0, none⟩ = some (U sa) := hro.st 0 (by omega); have d1 : w1.cell? ⟨hb, 1, none⟩ = some (U sb) := hro.st 1 (by omega); have d2 : w1.cell? ⟨hb, 2, none⟩ = some (U sc) := hro.st 2 (by omega); have d3 : w1.cell? ⟨hb, 3, none⟩ = some (U sd) := hro.st 3 (by omega); have d4 : w1.cell? ⟨hb, 4, none⟩ = some (U se) := hro.st 4 (by omega); have d5 : w1.cell? ⟨hb, 5, none⟩ = some (U sf) := hro.st 5 (by omega); have d6 : w1.cell? ⟨hb, 6, none⟩ = some (U sg) := hro.st 6 (by omega); have d7 : w1.cell? ⟨hb, 7, none⟩ = some (U sh) := hro.st 7 (by omega); have df := hro.froz; have HB1 : Hid (Below w2.drew.heap.size w2.drew w1) := hb1; clear hro hb1)
  have HN0 : Hid (LRel K s0 M w (w1.setCells hb 0 (St.row ⟨pa, pb, pc, pd, pe, pf, pg, ph⟩).toList) hb N n t (bput buf r t (fun i => M (N + i)))) := by
    have e1 := HR.out
    have e2 := HT.out
    have hx : blocks K s0 M ((N + t) / 64) = ⟨pa, pb, pc, pd, pe, pf, pg, ph⟩ := by
      rw [show (N + t) / 64 = N / 64 + 1 by omega, blocks, ← HS.out]; exact HP.out
    refine ⟨grownBy_setCells _ _ _ _ _ (gtrans (b := w2.drew) ⟨HGR.out.os, HGR.out.tape, HGR.out.output, HGR.out.size, HGR.out.block⟩ (gbelow HB1.out _)), ?_⟩
    rw [hx]
    exact (HRow.below (w := w2.drew) HRO.out HB1.out).setSt _
  obtain ⟨o0, ho0⟩ : ∃ o0, o0 = if cap = t then off else off + t := ⟨_, rfl⟩
  obtain ⟨q0, hq0⟩ : ∃ q0, q0 = n - t := ⟨_, rfl⟩
  obtain ⟨c0', hc0'⟩ : ∃ c0', c0' = cap - t := ⟨_, rfl⟩
  have sl := fun w1 => slice_l w1 51 5 b off n cap (t : Int) t rfl Tryd.underlying51 size_u8 htn
  rw [← ho0, ← hq0, ← hc0'] at sl
  have HO0 : Hid (o0 = if cap = t then off else off + t) := ho0
  have HQ : Hid (q0 = n - t) := hq0
  have HC0 : q0 ≤ c0' := by omega
  clear ho0 hq0 hc0' c0 c1 c2 c3 c4 c5 c6 c7 d0 d1 d2 d3 d4 d5 d6 d7 df sl0
  go_wp2_with fail
  go_loopw [1] (fun x wr => ∃ j o2 q c2 : Nat, q + j = n ∧ q ≤ c2 ∧ (N + j) % 64 = 0 ∧ x = .slice (some ⟨b, o2, none⟩) q c2 ∧ (0 < q → o2 = off + j) ∧ ∃ buf2, LRel K s0 M w wr hb N n j buf2) (fun x _ => lenOf x)
  case atStart => exact ⟨t, o0, q0, c0', by have := HQ.out; omega, by omega, by have := HR.out; have := HT.out; omega, rfl, fun h => by have := HQ.out; rw [HO0.out, if_neg (by omega)], _, HN0.out⟩
  case round =>
    obtain ⟨j, o2, q, c2, hj, hqc, hz, rfl, ho, buf2, hl⟩ := hrel
    have HLR : Hid (LRel K s0 M w _ hb N n j buf2) := hl
    have HZ : Hid ((N + j) % 64 = 0) := hz
    have HJ : Hid (q + j = n) := hj
    clear hl hz hj
    by_cases hge : 64 ≤ q
    · have HO : Hid (o2 = off + j) := ho (by omega)
      have hge1 : (64 : Int) ≤ (q : Int) := by omega
      have hge2 : (64 : Int) ≤ (c2 : Int) := by omega
      clear ho
      obtain ⟨s, hs⟩ : ∃ s, s = blocks K s0 M ((N + j) / 64) := ⟨_, rfl⟩
      obtain ⟨p, hp⟩ : ∃ p, compress K s (fun i => M (N + j + i)) = p := ⟨_, rfl⟩
      have hrow := HLR.out.row
      rw [← hs] at hrow
      have HS : Hid (s = blocks K s0 M ((N + j) / 64)) := hs
      clear hs
      obtain ⟨sa, sb, sc, sd, se, sf, sg, sh⟩ := s
      obtain ⟨pa, pb, pc, pd, pe, pf, pg, ph⟩ := p
      have HP : Hid (compress K ⟨sa, sb, sc, sd, se, sf, sg, sh⟩ (fun i => M (N + j + i)) = ⟨pa, pb, pc, pd, pe, pf, pg, ph⟩) := hp
      clear hp
      have c0 : wr.cell? ⟨hb, 0, none⟩ = some (U sa) := hrow.st 0 (by omega)
      have c1 : wr.cell? ⟨hb, 1, none⟩ = some (U sb) := hrow.st 1 (by omega)
      have c2' : wr.cell? ⟨hb, 2, none⟩ = some (U sc) := hrow.st 2 (by omega)
      have c3 : wr.cell? ⟨hb, 3, none⟩ = some (U sd) := hrow.st 3 (by omega)
      have c4 : wr.cell? ⟨hb, 4, none⟩ = some (U se) := hrow.st 4 (by omega)
      have c5 : wr.cell? ⟨hb, 5, none⟩ = some (U sf) := hrow.st 5 (by omega)
      have c6 : wr.cell? ⟨hb, 6, none⟩ = some (U sg) := hrow.st 6 (by omega)
      have c7 : wr.cell? ⟨hb, 7, none⟩ = some (U sh) := hrow.st 7 (by omega)
      have HRO : Hid (HRow wr hb ⟨sa, sb, sc, sd, se, sf, sg, sh⟩ buf2 (N + n)) := hrow
      clear hrow
      have HMM : Hid (∀ i, i < 64 → wr.cell? ⟨b, o2 + i, none⟩ = some (B (M (N + j + i)))) := by
        intro i hi
        have hj := HJ.out
        rw [HO.out, cell_grown HLR.out.grown b _ hblt (by simpa using hbb), Nat.add_assoc off, HM.out (j + i) (by omega), Nat.add_assoc]
      have HKK : Hid (∀ i, i < 64 → wr.cell? ⟨2, i, none⟩ = some (U (K i))) := by
        intro i hi
        rw [cell_grown HLR.out.grown _ _ hklt (by simpa using hkb), HK.out i hi]
      go_wp2_with fail
      go_region_with (go_at_call 78; refine (mix_at K (fun i => M (N + j + i)) sa sb sc sd se sf sg sh pa pb pc pd pe pf pg ph HP.out b o2 64 _ (Nat.le_refl _) (by omega) _ (by exact HMM.out) (by exact HKK.out)).mono ?_; rintro e w1 ⟨rfl, hb1⟩; have hro : HRow w1 hb ⟨sa, sb, sc, sd, se, sf, sg, sh⟩ buf2 (N + n) := HRow.below (w := wr.drew) HRO.out hb1; have d0 : w1.cell? ⟨hb, 0, none⟩ = some (U sa) := hro.st 0 (by omega); have d1 : w1.cell? ⟨hb, 1, none⟩ = some (U sb) := hro.st 1 (by omega); have d2 : w1.cell? ⟨hb, 2, none⟩ = some (U sc) := hro.st 2 (by omega); have d3 : w1.cell? ⟨hb, 3, none⟩ = some (U sd) := hro.st 3 (by omega); have d4 : w1.cell? ⟨hb, 4, none⟩ = some (U se) := hro.st 4 (by omega); have d5 : w1.cell? ⟨hb, 5, none⟩ = some (U sf) := hro.st 5 (by omega); have d6 : w1.cell? ⟨hb, 6, none⟩ = some (U sg) := hro.st 6 (by omega); have d7 : w1.cell? ⟨hb, 7, none⟩ = some (U sh) := hro.st 7 (by omega); have df := hro.froz; have HB1 : Hid (Below wr.drew.heap.size wr.drew w1) := hb1; clear hro hb1)
      have HN : Hid (LRel K s0 M w (w1.setCells hb 0 (St.row ⟨pa, pb, pc, pd, pe, pf, pg, ph⟩).toList) hb N n (j + 64) buf2) :=
        LRel.next (wr := wr.drew) (HLR.out.drewN 1) HZ.out HB1.out _ (by rw [← HS.out]; exact HP.out)
      obtain ⟨o3, ho3⟩ : ∃ o3, o3 = if c2 = 64 then o2 else o2 + 64 := ⟨_, rfl⟩
      have sl := fun w1 => slice_l w1 51 5 b o2 q c2 64 64 rfl Tryd.underlying51 size_u8 hge
      rw [← ho3] at sl
      have HO3 : Hid (o3 = if c2 = 64 then o2 else o2 + 64) := ho3
      clear ho3 c0 c1 c2' c3 c4 c5 c6 c7 d0 d1 d2 d3 d4 d5 d6 d7 df
      go_wp2
      go_roundw
      case rel =>
        exact ⟨j + 64, o3, q - 64, c2 - 64, by have := HJ.out; omega, by omega, by have := HZ.out; omega, rfl, fun h => by rw [HO3.out, if_neg (by omega), HO.out, Nat.add_assoc], buf2, HN.out⟩
      case measure => simp [lenOf]; omega
    · have hlt1 : (q : Int) < 64 := by omega
      have hge' : decide ((64 : Int) ≤ (q : Int)) = false := by simpa using hlt1
      have HMM : Hid (∀ i, i < q → wr.cell? ⟨b, o2 + i, none⟩ = some (B (M (N + j + i)))) := by
        intro i hi
        have hj := HJ.out
        rw [ho (by omega), cell_grown HLR.out.grown b _ hblt (by simpa using hbb), Nat.add_assoc off, HM.out (j + i) (by omega), Nat.add_assoc]
      have sl := fun w1 => sliceAt_all w1 90 5 64 hb 8 Tryd.underlying90 size_u8
      have HRW : Hid (wr.heap[hb]? = some (.cells (hrow (blocks K s0 M ((N + j) / 64)) buf2 (N + n)) 92 (0, 0))) := HLR.out.row
      have HSC : Hid (∀ i v, ((List.range q).map fun i => B (M (N + j + i)))[i]? = some v → wr.cell? ((⟨b, o2, none⟩ : Addr).add i) = some v) := src_cells HMM.out q (Nat.le_refl _)
      have HF : Hid (8 + ((List.range q).map fun i => B (M (N + j + i))).length ≤ (hrow (blocks K s0 M ((N + j) / 64)) buf2 (N + n)).size) := by
        show 8 + ((List.range q).map fun i => B (M (N + j + i))).length ≤ (hrow (blocks K s0 M ((N + j) / 64)) buf2 (N + n)).size
        rw [hrow_size, List.length_map, List.length_range]; omega
      have HLE : Hid (((List.range q).map fun i => B (M (N + j + i))).length = Nat.min q 64) := by
        show _ = min q 64
        simp; omega
      clear ho
      go_wp2_with (refine wpList_copyL rfl _ _ 51 51 rfl 5 Tryd.underlying51 size_u8 hb 8 64 64 ⟨b, o2, none⟩ q c2 rfl rfl (hrow (blocks K s0 M ((N + j) / 64)) buf2 (N + n)) 92 HRW.out ((List.range q).map fun i => B (M (N + j + i))) HLE.out HSC.out HF.out (bytes_one q _) ?_; intro w2 hg2 hz2 hr2; have HG : Hid (HRow w2 hb (blocks K s0 M ((N + j) / 64)) (bput buf2 0 q (fun i => M (N + j + i))) (N + n)) := (by have e := hrow_splice (blocks K s0 M ((N + j) / 64)) buf2 (N + n) 0 q (fun i => M (N + j + i)) (by omega); rw [Nat.add_zero] at e; rw [e] at hr2; exact hr2); rw [show (((List.range q).map fun i => B (M (N + j + i))).length : Int) = (q : Int) by simp]; clear hr2)
      go_end0
      refine ⟨rfl, gtrans HLR.out.grown hg2, bput buf2 0 q (fun i => M (N + j + i)), ?_, ?_⟩
      · have h1 := HJ.out
        have h2 := HZ.out
        rw [show (N + n) / 64 = (N + j) / 64 by omega]
        exact HG.out
      · intro i hi
        have h1 := HJ.out
        have h2 := HZ.out
        rw [bput, if_pos (by omega), show 64 * ((N + n) / 64) + i = N + j + (i - 0) by omega]
end Go.Proofs.YtpojalbpekbfdabDoor.Sh
