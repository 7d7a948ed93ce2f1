/- The schedule of SHA-256: what 'schedule256' answers. -/
import Derived.Test.YtddgdaggdgeclaaDoorShaB
import Derived.Test.YtddgdaggdgeclaaDoorShaH
import Derived.Deep.RegionHeld3
import Derived.Deep.MidRow
import Derived.Deep.DrawnRows
namespace Go.Proofs.YtddgdaggdgeclaaDoor.Sh
open Go Go.RowKit
attribute [local go_sem] u_xor u_and u_or u_add
attribute [local go_sem ↓] Go.wp_at_zero Go.wp_at_succ

/-- The schedule's words follow from the block's bytes. -/
structure Sched (m : Nat → BitVec 8) (W : Nat → BitVec 32) : Prop where
  first : ∀ t, t < 16 → W t = word (m (4 * t)) (m (4 * t + 1)) (m (4 * t + 2)) (m (4 * t + 3))
  later : ∀ t, 16 ≤ t → t < 64 → W t = lo1 (W (t - 2)) + W (t - 7) + lo0 (W (t - 15)) + W (t - 16)
/-- The words up to k, noughts behind. -/
def upto (W : Nat → BitVec 32) (k i : Nat) : BitVec 32 := if i < k then W i else 0

/-- Row of 64 words in memory. -/
def rowW (W : Nat → BitVec 32) (k : Nat) : Array Value := ((List.range 64).map fun i => U (upto W k i)).toArray
theorem rowW_get (W : Nat → BitVec 32) (k i : Nat) (h : i < 64) : (rowW W k)[i]? = some (U (upto W k i)) := by
  simp [rowW, h]
theorem rowW_size (W : Nat → BitVec 32) (k : Nat) : (rowW W k).size = 64 := by simp [rowW]
theorem rowW_set (W : Nat → BitVec 32) (k : Nat) : (rowW W k).setIfInBounds k (U (W k)) = rowW W (k + 1) := by
  apply Array.ext_getElem?
  intro i
  by_cases hi : i < 64
  · rw [rowW_get W (k + 1) i hi, Array.getElem?_setIfInBounds]
    by_cases e : k = i
    · subst e; simp [rowW_size, hi, upto]
    · rw [if_neg e, rowW_get W k i hi]
      have : upto W k i = upto W (k + 1) i := by
        unfold upto
        by_cases h1 : i < k
        · rw [if_pos h1, if_pos (by omega)]
        · rw [if_neg h1, if_neg (by omega)]
      rw [this]
  · rw [Array.getElem?_eq_none (by simp [rowW_size]; omega), Array.getElem?_eq_none (by simp [rowW_size]; omega)]
theorem rowW_one (W : Nat → BitVec 32) (k : Nat) : (rowW W k).all (·.oneCell') = true :=
  all_oneCell_toArray (fun v hv => by
    obtain ⟨i, _, rfl⟩ := List.mem_map.1 hv
    rfl)
/-- What the loops hold: the row is filled up to k, the result's place is empty, nothing old has turned. -/
structure SRel (w wr : World) (W : Nat → BitVec 32) (k : Nat) : Prop where
  below : Below w.heap.size w wr
  size : wr.heap.size = w.heap.size + 2
  row : wr.heap[w.heap.size + 1]? = some (.cells (rowW W k) 46 (0, 0))
  res : wr.heap[w.heap.size]? = some (.cells (rowW W 0) 46 (0, 0))
theorem SRel.start (w : World) (W : Nat → BitVec 32) : SRel w ((w.alloc (.cells (rowW W 0) 46)).alloc (.cells (rowW W 0) 46)) W 0 :=
  ⟨((Below.refl _ _).alloc (Nat.le_refl _) _).alloc (by simp) _, by simp, heap_alloc2_new _ _ _, heap_alloc2_old _ _ _⟩
theorem SRel.cell {w wr : World} {W : Nat → BitVec 32} {k : Nat} (h : SRel w wr W k) (i : Nat) (hi : i < 64) : wr.cell? ⟨w.heap.size + 1, i, none⟩ = some (U (upto W k i)) := by
  rw [cell_of_row wr _ i _ _ _ h.row]; exact rowW_get W k i hi
theorem SRel.frozen {w wr : World} {W : Nat → BitVec 32} {k : Nat} (h : SRel w wr W k) (i : Nat) : wr.frozen? ⟨w.heap.size + 1, i, none⟩ = false := frozen_of_row _ _ _ _ _ h.row
theorem SRel.drewN {w wr : World} {W : Nat → BitVec 32} {k : Nat} (h : SRel w wr W k) (n : Nat) : SRel w (wr.drewN n) W k := by
  induction n with
  | zero => exact h
  | succ n ih => exact ⟨ih.below.drew, ih.size, ih.row, ih.res⟩
theorem SRel.set {w wr : World} {W : Nat → BitVec 32} {k : Nat} (h : SRel w wr W k) : SRel w (wr.setCell ⟨w.heap.size + 1, k, none⟩ (U (W k))) W (k + 1) :=
  ⟨h.below.setCell (by simp) _, by simp [World.setCell]; exact h.size, by rw [heap_setCell_same _ _ _ _ _ _ h.row, rowW_set], by rw [heap_setCell_other _ _ _ _ (by simp)]; exact h.res⟩
theorem rowW_zero (W : Nat → BitVec 32) : rowW W 0 = (List.replicate 64 (Value.int .u32 0)).toArray := by
  apply Array.ext_getElem?
  intro i
  by_cases hi : i < 64
  · rw [rowW_get W 0 i hi, List.getElem?_toArray, List.getElem?_replicate, if_pos hi, upto, if_neg (Nat.not_lt_zero i)]; rfl
  · rw [Array.getElem?_eq_none (by rw [rowW_size]; omega), Array.getElem?_eq_none (by rw [List.size_toArray, List.length_replicate]; omega)]

theorem keep_ne (wr : World) (g k i : Nat) (v : Value) (h : i ≠ k) : ((wr.setCell ⟨g, k, none⟩ v).drew).cell? ⟨g, i, none⟩ = wr.cell? ⟨g, i, none⟩ :=
  World.cell?_setCell_other _ _ _ _ (fun e => h (by cases e; rfl))
set_option maxHeartbeats 400000 in
theorem sched_walk (m : Nat → BitVec 8) (W : Nat → BitVec 32) (hW : Sched m W) (b off n cap : Nat) (hn : 64 ≤ n) (hcap : n ≤ cap) (w : World) (hm : ∀ i, i < 64 → w.cell? ⟨b, off + i, none⟩ = some (B (m i))) :
    Calls Tryd.prog 39 #[.slice (some ⟨b, off, none⟩) n cap] w fun e w' => e = .returned (.agg (rowW W 64)) ∧ Below w.heap.size w w' := by
  have HM : Hid (∀ i, i < 64 → w.cell? ⟨b, off + i, none⟩ = some (B (m i))) := hm
  have hb : b < w.heap.size := block_lt_of_cell (hm 0 (by omega))
  clear hm
  have hst := SRel.start w W
  rw [rowW_zero] at hst
  have HST : Hid (SRel w ((w.alloc (.cells (List.replicate 64 (Value.int .u32 0)).toArray 46)).alloc (.cells (List.replicate 64 (Value.int .u32 0)).toArray 46)) W 0) := hst
  clear hst
  go_enter Tryd.func39, Tryd.ntmps39
  go_wp2
  go_loopw [4, 6] (fun _ i wr => ∃ k : Nat, k ≤ 16 ∧ i = .int .i64 k ∧ SRel w wr W k) (fun _ i _ => 16 - (intOf i).toNat)
  case atStart => exact ⟨0, by omega, rfl, HST.out⟩
  case round =>
    obtain ⟨k, hk, rfl, hr⟩ := hrel
    by_cases hlt : k < 16
    · have s1 := (hr.below.cell (p := ⟨b, off + 4 * k, none⟩) hb).trans (HM.out (4 * k) (by omega))
      have s2 := (hr.below.cell (p := ⟨b, off + 4 * k + 1, none⟩) hb).trans (HM.out (4 * k + 1) (by omega))
      have s3 := (hr.below.cell (p := ⟨b, off + 4 * k + 2, none⟩) hb).trans (HM.out (4 * k + 2) (by omega))
      have s4 := (hr.below.cell (p := ⟨b, off + 4 * k + 3, none⟩) hb).trans (HM.out (4 * k + 3) (by omega))
      have c1 := hr.cell k (by omega)
      have f1 := hr.frozen k
      have HR : Hid (SRel w _ W k) := hr
      clear hr
      go_wp2_with fail
      refine (word32_any b (off + 4 * k) _ _ _ _ _ _ s1 s2 s3 s4).mono ?_
      rintro e w' ⟨rfl, nq, rfl⟩
      rw [← hW.first k hlt]
      go_wp2
      go_roundw
      case rel => exact ⟨k + 1, by omega, by go_num, (HR.out.drewN nq).set⟩
      case measure => simp [intOf]; omega
    · obtain rfl : k = 16 := by omega
      have HR : Hid (SRel w wr W 16) := hr
      clear hr
      go_wp2
      go_loopw [5] (fun i wr => ∃ k : Nat, 16 ≤ k ∧ k ≤ 64 ∧ i = .int .i64 k ∧ SRel w wr W k) (fun i _ => 64 - (intOf i).toNat)
      case atStart => exact ⟨16, by omega, by omega, rfl, HR.out⟩
      case round =>
        obtain ⟨k, hk1, hk, rfl, hr⟩ := hrel
        by_cases hlt : k < 64
        · have e1 : (2 : Int) ≤ (k : Int) := by omega
          have e2 : (7 : Int) ≤ (k : Int) := by omega
          have e3 : (15 : Int) ≤ (k : Int) := by omega
          have e4 : (16 : Int) ≤ (k : Int) := by omega
          have l0 : (k : Int) < 64 := by omega
          have l1 : (k : Int) - 2 < 64 := by omega
          have l2 : (k : Int) - 7 < 64 := by omega
          have l3 : (k : Int) - 15 < 64 := by omega
          have l4 : (k : Int) - 16 < 64 := by omega
          have w1 : IntKind.i64.wrap ((k : Int) - 2) = (k : Int) - 2 := by simp [IntKind.wrap, IntKind.bits, IntKind.signed]; omega
          have w2 : IntKind.i64.wrap ((k : Int) - 7) = (k : Int) - 7 := by simp [IntKind.wrap, IntKind.bits, IntKind.signed]; omega
          have w3 : IntKind.i64.wrap ((k : Int) - 15) = (k : Int) - 15 := by simp [IntKind.wrap, IntKind.bits, IntKind.signed]; omega
          have w4 : IntKind.i64.wrap ((k : Int) - 16) = (k : Int) - 16 := by simp [IntKind.wrap, IntKind.bits, IntKind.signed]; omega
          have n1 : k - 2 ≠ k := by omega
          have n2 : k - 7 ≠ k := by omega
          have n3 : k - 15 ≠ k := by omega
          have n4 : k - 16 ≠ k := by omega
          have t1 : ((k : Int) - 2).toNat = k - 2 := by omega
          have t2 : ((k : Int) - 7).toNat = k - 7 := by omega
          have t3 : ((k : Int) - 15).toNat = k - 15 := by omega
          have t4 : ((k : Int) - 16).toNat = k - 16 := by omega
          have c1 := hr.cell k (by omega)
          have f1 := hr.frozen k
          have d1 := hr.cell (k - 2) (by omega)
          have d2 := hr.cell (k - 7) (by omega)
          have d3 := hr.cell (k - 15) (by omega)
          have d4 := hr.cell (k - 16) (by omega)
          rw [upto, if_pos (by omega)] at d1 d2 d3 d4
          have HR : Hid (SRel w _ W k) := hr
          clear hr
          go_wp2_with fail
          go_region_held3 (fun w' => w'.cell? ⟨w.heap.size + 1, k - 2, none⟩ = some (U (W (k - 2))) ∧ w'.cell? ⟨w.heap.size + 1, k - 7, none⟩ = some (U (W (k - 7))) ∧ w'.cell? ⟨w.heap.size + 1, k - 15, none⟩ = some (U (W (k - 15))) ∧ w'.cell? ⟨w.heap.size + 1, k - 16, none⟩ = some (U (W (k - 16)))) (first | exact ⟨d1, d2, d3, d4⟩ | exact ⟨(keep_ne _ _ _ _ _ n1).trans d1, (keep_ne _ _ _ _ _ n2).trans d2, (keep_ne _ _ _ _ _ n3).trans d3, (keep_ne _ _ _ _ _ n4).trans d4⟩)
            (first | (go_at_call 44; refine (lo1_any _ _).mono ?_; rintro e w' ⟨rfl, rfl⟩) | (go_at_call 45; refine (lo0_any _ _).mono ?_; rintro e w' ⟨rfl, rfl⟩))
          have hl : lo1 (W (k - 2)) + W (k - 7) + lo0 (W (k - 15)) + W (k - 16) = W k := (hW.later k hk1 hlt).symm
          rw [hl]
          clear hl
          go_wp2
          go_roundw
          case rel =>
            (repeat apply Exists.intro)
            exact ⟨⟨k + 1, by omega, by omega, by go_num, (HR.out.set).drewN 1⟩, rfl⟩
          case measure => simp [intOf]; omega
        · obtain rfl : k = 64 := by omega
          have HR : Hid (SRel w _ W 64) := hr
          have hrow := hr.row
          clear hr
          have hres := HR.out.res
          have ht : wr.there w.heap.size 0 (rowW W 64).size := by rw [rowW_size]; exact there_of_row hres 0 64 (by rw [rowW_size]; omega)
          have HT : Hid (wr.there w.heap.size 0 (rowW W 64).size) := ht
          clear ht hres
          go_wp2_with (first | (refine wpList_load_row rfl 46 _ rfl _ rfl _ _ _ _ hrow Tryd.underlying46 rfl (by rw [rowW_size]; kernel_rfl) ?_) | (refine wpList_store_mid rfl 46 _ _ rfl w.heap.size 0 (rowW W 64) rfl rfl HT.out (by rw [rowW_size]; kernel_rfl) (by exact rowW_one W 64) ?_))
          refine bodyPost_ret (v := .agg (rowW W 64)) ?_ rfl ⟨rfl, ?_⟩
          · exact results_mid Tryd.results39 _ _ w.heap.size 0 (rowW W 64).toList _ rfl (World.rangeAt_setCells_same _ _ _ _ HT.out) Tryd.underlying46 rfl (by rw [Array.length_toList, rowW_size]; kernel_rfl)
          · exact below_setCells _ (Nat.le_refl _) _ _ _ HR.out.below
end Go.Proofs.YtddgdaggdgeclaaDoor.Sh
