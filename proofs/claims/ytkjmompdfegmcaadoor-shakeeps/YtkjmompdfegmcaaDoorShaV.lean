/- 'keyed'. -/
import Derived.Test.YtkjmompdfegmcaaDoorShaCopiesW
namespace Go.Proofs.YtkjmompdfegmcaaDoor
open Go Go.RowKit
set_option linter.unusedSimpArgs false
set_option linter.unusedVariables false

theorem b_ofInt (x : BitVec 8) : BitVec.ofInt 8 (ub x) = x := by
  apply BitVec.eq_of_toNat_eq; unfold ub; rw [BitVec.ofInt_natCast, BitVec.toNat_ofNat]; exact Nat.mod_eq_of_lt x.isLt
theorem b_wrap (x : BitVec 8) : IntKind.u8.wrap (ub x) = ub x := by
  rw [IntKind.wrap_u8]; exact Int.emod_eq_of_lt (ub_nonneg x) (ub_lt x)
theorem b_xor (a b : BitVec 8) : bits .xor .u8 (ub a) (ub b) = ub (a ^^^ b) := by
  show IntKind.u8.wrap ((BitVec.ofInt 8 (ub a) ^^^ BitVec.ofInt 8 (ub b)).toNat : Int) = _
  rw [b_ofInt, b_ofInt]; exact b_wrap _
attribute [local go_sem] b_xor
/-- The key, k bytes of it with the mask. -/
def mfun (f : Nat → BitVec 8) (mk : BitVec 8) (k i : Nat) : BitVec 8 := if i < k then f i ^^^ mk else f i
structure KRel (w wr : World) (f : Nat → BitVec 8) (mk : BitVec 8) (k : Nat) : Prop where
  below : Below w.heap.size w wr
  row : wr.heap[w.heap.size]? = some (.cells (brow 64 (mfun f mk k)) 26 (0, 0))
  res : wr.heap[w.heap.size + 1]? = some (.cells z32 24 (0, 0))
theorem mfun_zero (f : Nat → BitVec 8) (mk : BitVec 8) : mfun f mk 0 = f := by funext i; rw [mfun, if_neg (by omega)]
theorem KRel.cell {w wr : World} {f : Nat → BitVec 8} {mk : BitVec 8} {k : Nat} (h : KRel w wr f mk k) (i : Nat) (hi : i < 64) : wr.cell? ⟨w.heap.size, i, none⟩ = some (B (mfun f mk k i)) := by
  rw [cell_of_row wr _ i _ _ _ h.row, brow_get, if_pos hi]
theorem KRel.keep {w wr wr' : World} {f : Nat → BitVec 8} {mk : BitVec 8} {k : Nat} (h : KRel w wr f mk k) (hb : Below w.heap.size w wr') (hk : ∀ b, b < w.heap.size + 2 → wr'.heap[b]? = wr.heap[b]?) : KRel w wr' f mk k :=
  ⟨hb, (hk _ (by omega)).trans h.row, (hk _ (by omega)).trans h.res⟩
theorem KRel.size {w wr : World} {f : Nat → BitVec 8} {mk : BitVec 8} {k : Nat} (h : KRel w wr f mk k) : w.heap.size + 2 ≤ wr.heap.size := (Array.getElem?_eq_some_iff.1 h.res).1
theorem KRel.put {w wr : World} {f : Nat → BitVec 8} {mk : BitVec 8} {k : Nat} (h : KRel w wr f mk k) (hk : k < 64) : KRel w (wr.setCell ⟨w.heap.size, k, none⟩ (B (f k ^^^ mk))) f mk (k + 1) := by
  refine ⟨?_, ?_, ?_⟩
  · have := below_setCells (B0 := w.heap.size) (a := w) w.heap.size (Nat.le_refl _) [B (f k ^^^ mk)] k wr h.below
    rw [World.setCells, World.setCells] at this; exact this
  · rw [heap_setCell_same _ _ _ _ _ _ h.row]
    refine congrArg (fun cs => some (Obj.cells cs 26 (0, 0))) ?_
    apply Array.ext_getElem?
    intro i
    rw [Array.getElem?_setIfInBounds, brow_get, brow_get, brow_size]
    by_cases e : k = i
    · subst e
      rw [if_pos rfl, if_pos hk, if_pos hk, mfun, if_pos (by omega)]
    · rw [if_neg e]
      by_cases h1 : i < 64
      · rw [if_pos h1, if_pos h1, mfun, mfun]
        by_cases h2 : i < k
        · rw [if_pos h2, if_pos (by omega)]
        · rw [if_neg h2, if_neg (by omega)]
      · rw [if_neg h1, if_neg h1]
  · rw [heap_setCell_other _ _ _ _ (by simp)]; exact h.res
set_option maxRecDepth 100000 in
set_option maxHeartbeats 1000000 in
theorem keyed_any (S : St) (f m : Nat → BitVec 8) (mk : BitVec 8) (n : Nat) (v : Value) (hS : sumSt K256 H256 (cat 64 (fun i => f i ^^^ mk) m) (64 + n) = S) (hn : n < 1125899906842624) (w : World) (hT : Tabs w K256 H256) (hv : Bytes w v n m w.heap.size) :
    Calls Tryd.prog 28 #[.agg (brow 64 f), B mk, v] w fun e w' => e = .returned (.agg (srow S)) ∧ Below w.heap.size w w' := by
  have HT : Hid (Tabs w K256 H256) := hT
  have HV : Hid (Bytes w v n m w.heap.size) := hv
  have HS : Hid (sumSt K256 H256 (cat 64 (fun i => f i ^^^ mk) m) (64 + n) = S) := hS
  clear hT hv hS
  have hz := zero_32
  have hzh := zero_hash
  have hbs := brow_size 64 f
  have hl : Hid (1 < w.heap.size ∧ 3 < w.heap.size) := HT.out.lt
  obtain ⟨M, hM⟩ : ∃ M, M = cat 64 (fun i => f i ^^^ mk) m := ⟨_, rfl⟩
  have HP : Hid (∀ i, i < 64 → mfun f mk 64 i = M i) := fun i hi => by rw [hM, cat_lo _ _ _ _ hi, mfun, if_pos hi]
  have HM : Hid (∀ i, m i = M (64 + i)) := fun i => by rw [hM, cat_hi]
  have HS2 : Hid (sumSt K256 H256 M (64 + n) = S) := by show sumSt K256 H256 M (64 + n) = S; rw [hM]; exact HS.out
  clear hM HS
  have sl0 := fun w1 => sliceAt_all w1 26 5 64 w.heap.size 0 Tryd.underlying26 size_u8
  go_enter Tryd.func28, Tryd.ntmps28
  go_wp2_with fail
  have HK : Hid (KRel w ((w.alloc (.cells (brow 64 f) 26)).alloc (.cells z32 24)) f mk 0) :=
    ⟨((Below.refl _ _).alloc (Nat.le_refl _) _).alloc (by simp) _, by rw [mfun_zero]; exact heap_alloc2_old _ _ _, heap_alloc2_new _ _ _⟩
  go_loopw [7, 9] (fun _ i wr => ∃ k : Nat, k ≤ 64 ∧ i = .int .i64 (k : Int) ∧ KRel w wr f mk k) (fun _ i _ => 64 - (intOf i).toNat)
  case atStart => exact ⟨0, by omega, rfl, HK.out⟩
  case round =>
    obtain ⟨k, hk, rfl, hrel⟩ := hrel
    have HQ : Hid (KRel w _ f mk k) := hrel
    clear hrel HK
    by_cases hk64 : k = 64
    · subst hk64
      go_wp2_with fail
      refine (begin_any H256 wr (HT.out.below HQ.out.below hl.out.1 hl.out.2).sq).mono ?_
      rintro e w1 ⟨rfl, hb1⟩
      have hs1 := hb1.size
      have hs0 := HQ.out.size
      have HQ1 : Hid (KRel w w1 f mk 64) := HQ.out.keep (HQ.out.below.trans (hb1.mono HQ.out.below.size)) (fun b hb => hb1.block b (by omega))
      clear hb1 HQ
      have hrs := hrow_size H256 z8 0
      have HTH : Hid ((w1.alloc (.cells (hrow St.zero z8 0) 40)).there w1.heap.size 0 (hrow H256 z8 0).size) := there_of_row (heap_alloc_new _ _) 0 _ (by rw [hrow_size, hrow_size]; omega)
      go_wp2_with (refine wpList_store_midL rfl 40 _ _ rfl w1.heap.size 0 (hrow H256 z8 0) rfl rfl HTH.out (by rw [hrow_size]; kernel_rfl) (by exact hrow_one _ _ _) ?_; intro w2 hw2; have HH : Hid (HRow w2 w1.heap.size H256 z8 0) := (by rw [hw2]; exact hrow_lay (hrow_size _ _ _) H256 z8 0); have HB2 : Hid (Below w1.heap.size w1 w2) := (by rw [hw2]; exact below_setCells _ (Nat.le_refl _) _ _ _ ((Below.refl _ _).alloc (Nat.le_refl _) _)); clear hw2)
      have hle : Hid (w.heap.size + 2 ≤ w1.heap.size) := by show w.heap.size + 2 ≤ w1.heap.size; omega
      have HQ2 : Hid (KRel w w2 f mk 64) := HQ1.out.keep (HQ1.out.below.trans (HB2.out.mono HQ1.out.below.size)) (fun b hb => HB2.out.block b (by have := hle.out; omega))
      obtain ⟨hb, hhb⟩ : ∃ hb, hb = w1.heap.size := ⟨_, rfl⟩
      rw [← hhb] at HH hle
      rw [← hhb]
      have I2 : Hid (HInv K256 H256 M w2 hb 0) := HInv.new _ _ _ _ _ HH.out
      have V2 : Hid (Bytes w2 (.slice (some ⟨w.heap.size, 0, none⟩) 64 64) 64 (fun i => M (0 + i)) hb) := .inr ⟨_, 0, 64, rfl, Nat.le_refl _, by have := HQ2.out.size; omega, by have := hle.out; omega, fun i hi => by
        show _ = some (B (M (0 + i)))
        rw [Nat.zero_add, HQ2.out.cell i hi, HP.out i hi]⟩
      clear HTH hrs HB2 HQ1 HH hhb hs1 hs0
      refine (write_any K256 H256 M hb 0 64 _ (by omega) (by have h := hl.out.2; have h' := hle.out; omega) w2 I2.out V2.out (HT.out.below HQ2.out.below hl.out.1 hl.out.2).cu).mono ?_
      rintro e w3 ⟨rfl, hg3, hi3⟩
      rw [Nat.zero_add] at hi3
      have HQ3 : Hid (KRel w w3 f mk 64) := HQ2.out.keep (below_of_grown HQ2.out.below hg3 HQ2.out.below.size (by have := hle.out; omega)) (fun b hb => hg3.block b (by have := HQ2.out.size; omega) (by have := hle.out; intro h; cases h; omega))
      have I3 : Hid (HInv K256 H256 M w3 hb 64) := hi3
      clear hg3 hi3 HQ2 I2 V2
      go_wp2_with fail
      refine (write_any K256 H256 M hb 64 n _ (by omega) (by have h := hl.out.2; have h' := hle.out; omega) w3 I3.out ((HV.out.mono HQ3.out.below (by have := hle.out; omega)).congr fun i _ => HM.out i) (HT.out.below HQ3.out.below hl.out.1 hl.out.2).cu).mono ?_
      rintro e w4 ⟨rfl, hg4, hi4⟩
      have HQ4 : Hid (KRel w w4 f mk 64) := HQ3.out.keep (below_of_grown HQ3.out.below hg4 HQ3.out.below.size (by have := hle.out; omega)) (fun b hb => hg4.block b (by have := HQ3.out.size; omega) (by have := hle.out; intro h; cases h; omega))
      have I4 : Hid (HInv K256 H256 M w4 hb (64 + n)) := hi4
      clear hg4 hi4 HQ3 I3
      go_wp2_with fail
      refine (sum_at S K256 H256 M hb (64 + n) HS2.out (by omega) w4 I4.out (HT.out.below HQ4.out.below hl.out.1 hl.out.2).cu).mono ?_
      rintro e w5 ⟨rfl, hb5⟩
      have HQ5 : Hid (KRel w w5 f mk 64) := HQ4.out.keep (HQ4.out.below.trans (hb5.mono HQ4.out.below.size)) (fun b hb => hb5.block b (by have := HQ4.out.size; omega))
      have HT4 : Hid (w5.there (w.heap.size + 1) 0 (srow S).size) := by rw [srow_size]; exact there_of_row HQ5.out.res 0 32 (by rw [z32_size]; omega)
      clear hb5 HQ4 I4
      go_wp2_with (refine wpList_store_mid rfl 24 _ _ rfl (w.heap.size + 1) 0 (srow S) rfl rfl HT4.out (by rw [srow_size]; kernel_rfl) (by exact srow_one _) ?_)
      refine bodyPost_ret (v := .agg (srow S)) ?_ rfl ⟨rfl, ?_⟩
      · exact results_mid Tryd.results28 _ _ (w.heap.size + 1) 0 (srow S).toList _ rfl (World.rangeAt_setCells_same _ _ _ _ HT4.out) Tryd.underlying24 rfl (by rw [Array.length_toList, srow_size]; kernel_rfl)
      · exact below_setCells _ (by omega) _ _ _ HQ5.out.below
    · have hlt : k < 64 := by omega
      have g : (k : Int) < 64 := by omega
      have hc := HQ.out.cell k hlt
      rw [mfun, if_neg (Nat.lt_irrefl k)] at hc
      have hf : wr.frozen? ⟨w.heap.size, k, none⟩ = false := frozen_of_row _ _ _ _ _ HQ.out.row
      go_wp2
      go_roundw
      case rel => exact ⟨k + 1, hlt, by simp, HQ.out.put hlt⟩
      case measure => simp [intOf]; omega
end Go.Proofs.YtkjmompdfegmcaaDoor
