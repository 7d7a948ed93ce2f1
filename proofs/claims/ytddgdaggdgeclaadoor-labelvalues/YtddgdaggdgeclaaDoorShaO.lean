/- 'Sum' of a Hash, and 'Sum256', at whatever bytes. -/
import Derived.Test.YtddgdaggdgeclaaDoorShaN
namespace Go.Proofs.YtddgdaggdgeclaaDoor.Sh
open Go Go.RowKit

theorem lastF_val (buf : Nat → BitVec 8) (N r e i : Nat) : lastF buf N r e i = if e - 8 ≤ i ∧ i < e - 8 + 8 then lenByte N (i - (e - 8)) else if i = r then 128 else if i < r then buf i else 0 := by
  rw [lastF, bput, last1, bput]
  by_cases h1 : e - 8 ≤ i ∧ i < e - 8 + 8
  · rw [if_pos h1, if_pos h1]
  · rw [if_neg h1, if_neg h1]
    by_cases h2 : i = r
    · rw [if_pos h2, if_pos h2]
    · rw [if_neg h2, if_neg h2]
      by_cases h3 : i < r
      · rw [if_pos ⟨by omega, by omega⟩, if_pos h3]; rfl
      · have hne : ¬ (0 ≤ i ∧ i < 0 + r) := by omega
        rw [if_neg hne, if_neg h3]
theorem pad_last (M buf : Nat → BitVec 8) (N r e i k : Nat) (hk : N / 64 = k) (hr : N % 64 = r) (he : 64 * nblk N = 64 * k + e) (hei : i < e) (he8 : r < e - 8) (hbuf : ∀ i, i < r → buf i = M (64 * k + i)) :
    lastF buf N r e i = padM M N (64 * k + i) := by
  rw [lastF_val, padM, he]
  by_cases h1 : e - 8 ≤ i
  · have a1 : e - 8 ≤ i ∧ i < e - 8 + 8 := by omega
    have a2 : ¬ 64 * k + i < N := by omega
    have a3 : ¬ 64 * k + i = N := by omega
    have a4 : ¬ 64 * k + i < 64 * k + e - 8 := by omega
    rw [if_pos a1, if_neg a2, if_neg a3, if_neg a4, show 64 * k + i - (64 * k + e - 8) = i - (e - 8) by omega]
  · have a1 : ¬ (e - 8 ≤ i ∧ i < e - 8 + 8) := by omega
    rw [if_neg a1]
    by_cases h2 : i = r
    · have a2 : ¬ 64 * k + i < N := by omega
      have a3 : 64 * k + i = N := by omega
      rw [if_pos h2, if_neg a2, if_pos a3]
    · have a3 : ¬ 64 * k + i = N := by omega
      rw [if_neg h2]
      by_cases h3 : i < r
      · have a2 : 64 * k + i < N := by omega
        rw [if_pos h3, if_pos a2, hbuf i h3]
      · have a2 : ¬ 64 * k + i < N := by omega
        have a4 : 64 * k + i < 64 * k + e - 8 := by omega
        rw [if_neg h3, if_neg a2, if_neg a3, if_pos a4]
theorem blocks_pad (K : Nat → BitVec 32) (s0 : St) (M : Nat → BitVec 8) (N : Nat) : blocks K s0 (padM M N) (N / 64) = blocks K s0 M (N / 64) :=
  blocks_congr K s0 _ _ _ (fun i hi => by rw [padM, if_pos (by omega)])

theorem sum_any (K : Nat → BitVec 32) (s0 : St) (M : Nat → BitVec 8) (hb N : Nat) (hN : N < 1152921504606846976) (w : World) (hw : HInv K s0 M w hb N)
    (hK : ∀ i, i < 64 → w.cell? ⟨2, i, none⟩ = some (U (K i))) :
    Calls Tryd.prog 34 #[.pointer (some ⟨hb, 0, none⟩)] w fun e w' => e = .returned (.agg (srow (sumSt K s0 M N))) ∧ Below w.heap.size w w' := by
  obtain ⟨buf, hw, hbuf⟩ := hw
  by_cases h56 : N % 64 < 56
  · refine (sum_one K _ buf hb N (N % 64) rfl h56 hN w hw hK).mono fun e w' ⟨h1, h2⟩ => ⟨h1.trans ?_, h2⟩
    have hn : nblk N = N / 64 + 1 := by unfold nblk; omega
    rw [sumSt, hn, blocks, blocks_pad, compress_congr K _ _ (fun i => padM M N (64 * (N / 64) + i)) (fun i hi => pad_last M buf N (N % 64) 64 i (N / 64) rfl rfl (by rw [hn]; omega) hi (by omega) hbuf)]
  · refine (sum_two K _ buf hb N (N % 64) rfl (by omega) hN w hw hK).mono fun e w' ⟨h1, h2⟩ => ⟨h1.trans ?_, h2⟩
    have hn : nblk N = N / 64 + 1 + 1 := by unfold nblk; omega
    rw [sumSt, hn, blocks, blocks, blocks_pad, compress_congr K _ (lastF buf N (N % 64) 128) (fun i => padM M N (64 * (N / 64) + i)) (fun i hi => pad_last M buf N (N % 64) 128 i (N / 64) rfl rfl (by rw [hn]; omega) (by omega) (by omega) hbuf),
      compress_congr K _ (fun i => lastF buf N (N % 64) 128 (64 + i)) (fun i => padM M N (64 * (N / 64 + 1) + i)) (fun i hi => by
        rw [pad_last M buf N (N % 64) 128 (64 + i) (N / 64) rfl rfl (by rw [hn]; omega) (by omega) (by omega) hbuf, show 64 * (N / 64) + (64 + i) = 64 * (N / 64 + 1) + i by omega])]

/-- A new Hash has taken nothing. -/
theorem HInv.new (K : Nat → BitVec 32) (s0 : St) (M : Nat → BitVec 8) (w : World) (hb : Nat) (h : HRow w hb s0 z8 0) : HInv K s0 M w hb 0 := ⟨z8, h, fun i hi => by omega⟩
theorem HInv.grown {K : Nat → BitVec 32} {s0 : St} {M : Nat → BitVec 8} {w w' : World} {hb N : Nat} (h : HInv K s0 M w hb N) (hg : w'.heap[hb]? = w.heap[hb]?) : HInv K s0 M w' hb N := by
  obtain ⟨buf, h1, h2⟩ := h
  exact ⟨buf, hg.trans h1, h2⟩
theorem Bytes.mono {w w' : World} {v : Value} {n hb hb' : Nat} {m : Nat → BitVec 8} (h : Bytes w v n m hb) (hb1 : Below w.heap.size w w') (hb2 : w.heap.size ≤ hb') : Bytes w' v n m hb' := by
  rcases h with ⟨⟨ad, rfl⟩, rfl⟩ | ⟨b, off, cap, rfl, hnc, hlt, hne, hm⟩
  · exact Or.inl ⟨⟨ad, rfl⟩, rfl⟩
  · exact Or.inr ⟨b, off, cap, rfl, hnc, Nat.lt_of_lt_of_le hlt hb1.size, by omega, fun i hi => (hb1.cell (p := ⟨b, off + i, none⟩) hlt).trans (hm i hi)⟩

/-- The program's tables, in memory. -/
structure Tabs (w : World) (K : Nat → BitVec 32) (s0 : St) : Prop where
  sq : ∀ i, i < 8 → w.cell? ⟨1, i, none⟩ = some (U (s0.at i))
  cu : ∀ i, i < 64 → w.cell? ⟨2, i, none⟩ = some (U (K i))
theorem Tabs.below {w w' : World} {K : Nat → BitVec 32} {s0 : St} {B0 : Nat} (h : Tabs w K s0) (hb : Below B0 w w') (h0 : 1 < B0) (h1 : 2 < B0) : Tabs w' K s0 :=
  ⟨fun i hi => (hb.cell (p := ⟨_, i, none⟩) h0).trans (h.sq i hi), fun i hi => (hb.cell (p := ⟨_, i, none⟩) h1).trans (h.cu i hi)⟩
theorem Tabs.lt {w : World} {K : Nat → BitVec 32} {s0 : St} (h : Tabs w K s0) : 1 < w.heap.size ∧ 2 < w.heap.size :=
  ⟨block_lt_of_cell (h.sq 0 (by omega)), block_lt_of_cell (h.cu 0 (by omega))⟩

theorem hrow_lay {w1 : World} {cs : Array Value} (hs : cs.size = 73) (s : St) (buf : Nat → BitVec 8) (N : Nat) : HRow ((w1.alloc (.cells cs 58)).setCells w1.heap.size 0 (hrow s buf N).toList) w1.heap.size s buf N := by
  refine heap_setCells (heap_alloc_new _ _) 0 _ (by rw [Array.length_toList, hrow_size, hs]; omega) (fun i => ?_)
  rw [Array.length_toList, hrow_size, Array.getElem?_toList]
  by_cases h1 : i < 73
  · rw [if_pos (by omega)]; rfl
  · have hne : ¬ (0 ≤ i ∧ i < 0 + 73) := by omega
    rw [if_neg hne, Array.getElem?_eq_none (by rw [hrow_size]; omega), Array.getElem?_eq_none (by omega)]
theorem below_of_grown {B0 : Nat} {a w w' : World} {q : Nat} (h : Below B0 a w) (hg : w.grownBy w' (some q)) (hB : B0 ≤ w.heap.size) (hq : B0 ≤ q) : Below B0 a w' := h.grown hg hB (fun k hk => by cases hk; exact hq)

set_option maxRecDepth 100000 in
set_option maxHeartbeats 400000 in
theorem sum256_any (K : Nat → BitVec 32) (s0 : St) (m : Nat → BitVec 8) (n : Nat) (v : Value) (hn : n < 1152921504606846976) (w : World) (hT : Tabs w K s0) (hv : Bytes w v n m w.heap.size) :
    Calls Tryd.prog 21 #[v] w fun e w' => e = .returned (.agg (srow (sumSt K s0 m n))) ∧ Below w.heap.size w w' := by
  have HT : Hid (Tabs w K s0) := hT
  have HV : Hid (Bytes w v n m w.heap.size) := hv
  clear hT hv
  have hz := zero_32
  have hzh := zero_hash
  have HB0 : Hid (Below w.heap.size w (w.alloc (.cells z32 24))) := (Below.refl _ _).alloc (Nat.le_refl _) _
  go_enter Tryd.func21, Tryd.ntmps21
  go_wp2_with fail
  refine (begin_any s0 _ (HT.out.below HB0.out HT.out.lt.1 HT.out.lt.2).sq).mono ?_
  rintro e w1 ⟨rfl, hb1⟩
  have hs1 := hb1.size
  have hsz : (w.alloc (.cells z32 24)).heap.size = w.heap.size + 1 := by simp
  rw [hsz] at hs1 hb1
  have HB1 : Hid (Below (w.heap.size + 1) (w.alloc (.cells z32 24)) w1) := hb1
  clear hb1 hsz
  have hrs := hrow_size s0 z8 0
  have HTH : Hid ((w1.alloc (.cells (hrow St.zero z8 0) 58)).there w1.heap.size 0 (hrow s0 z8 0).size) := there_of_row (heap_alloc_new _ _) 0 _ (by rw [hrow_size, hrow_size]; omega)
  go_wp2_with (refine wpList_store_midL rfl 58 _ _ rfl w1.heap.size 0 (hrow s0 z8 0) rfl rfl HTH.out (by rw [hrow_size]; kernel_rfl) (by exact hrow_one _ _ _) ?_; intro w2 hw2; have HH : Hid (HRow w2 w1.heap.size s0 z8 0) := (by rw [hw2]; exact hrow_lay (hrow_size _ _ _) s0 z8 0); have HB2 : Hid (Below w1.heap.size w1 w2) := (by rw [hw2]; exact below_setCells _ (Nat.le_refl _) _ _ _ ((Below.refl _ _).alloc (Nat.le_refl _) _)); clear hw2)
  have B02 : Below (w.heap.size + 1) (w.alloc (.cells z32 24)) w2 := HB1.out.trans (HB2.out.mono hs1)
  have BW2 : Below w.heap.size w w2 := HB0.out.trans (B02.mono (by omega))
  have hT2 := HT.out.below BW2 HT.out.lt.1 HT.out.lt.2
  have hlt := HT.out.lt
  have hv2 : Bytes w2 v n (fun i => m (0 + i)) w1.heap.size := by simp only [Nat.zero_add]; exact HV.out.mono BW2 (by omega)
  have hz2 : w1.heap.size < w2.heap.size := HH.out.lt
  refine (write_any K s0 m w1.heap.size 0 n v (by omega) (by omega) w2 (HInv.new K s0 m w2 _ HH.out) hv2 hT2.cu).mono ?_
  rintro e w3 ⟨rfl, hg3, hinv3⟩
  rw [Nat.zero_add] at hinv3
  have B03 : Below (w.heap.size + 1) (w.alloc (.cells z32 24)) w3 := below_of_grown B02 hg3 (by omega) hs1
  have hs3 := hg3.size
  have HI3 : Hid (HInv K s0 m w3 w1.heap.size n) := hinv3
  have HB3 : Hid (Below (w.heap.size + 1) (w.alloc (.cells z32 24)) w3) := B03
  clear hv2 hT2 B02 BW2 hg3 hinv3 B03 hrs
  go_wp2_with fail
  refine (sum_any K s0 m w1.heap.size n hn w3 HI3.out (HT.out.below (HB0.out.trans (HB3.out.mono (by omega))) hlt.1 hlt.2).cu).mono ?_
  rintro e w4 ⟨rfl, hb4⟩
  have HB4 : Hid (Below (w.heap.size + 1) (w.alloc (.cells z32 24)) w4) := HB3.out.trans (hb4.mono (by omega))
  have HR4 : Hid (w4.heap[w.heap.size]? = some (.cells z32 24 (0, 0))) := by
    show w4.heap[w.heap.size]? = _
    rw [HB4.out.block w.heap.size (by omega)]; exact heap_alloc_new _ _
  have HT4 : Hid (w4.there w.heap.size 0 (srow (sumSt K s0 m n)).size) := by rw [srow_size]; exact there_of_row HR4.out 0 32 (by rw [z32_size]; omega)
  clear hb4
  go_wp2_with (refine wpList_store_mid rfl 24 _ _ rfl w.heap.size 0 (srow (sumSt K s0 m n)) rfl rfl HT4.out (by rw [srow_size]; kernel_rfl) (by exact srow_one _) ?_)
  refine bodyPost_ret (v := .agg (srow (sumSt K s0 m n))) ?_ rfl ⟨rfl, ?_⟩
  · exact results_mid Tryd.results21 _ _ w.heap.size 0 (srow (sumSt K s0 m n)).toList _ rfl (World.rangeAt_setCells_same _ _ _ _ HT4.out) Tryd.underlying24 rfl (by rw [Array.length_toList, srow_size]; kernel_rfl)
  · exact below_setCells _ (Nat.le_refl _) _ _ _ (HB0.out.trans (HB4.out.mono (by omega)))
end Go.Proofs.YtddgdaggdgeclaaDoor.Sh
