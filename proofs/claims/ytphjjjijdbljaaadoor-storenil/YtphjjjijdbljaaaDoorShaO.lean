/- 'Sum' of a Hash, and 'Sum256', at whatever bytes. -/
import Derived.Test.YtphjjjijdbljaaaDoorShaN
namespace Go.Proofs.YtphjjjijdbljaaaDoor.Sh
open Go Go.RowKit

theorem lastF_val (buf : Nat → BitVec 8) (N r e i : Nat) : lastF buf N r e i = if e - 8 ≤ i ∧ i < e - 8 + 8 then lenByte N (i - (e - 8)) else if i = r then 128 else if i < r then buf i else 0 := by
  rw [lastF, bput, last1, bput]
  by_cases h1 : e - 8 ≤ i ∧ i < e - 8 + 8
  · rw [if_pos h1, if_pos h1]
  · rw [if_neg h1, if_neg h1]
    by_cases h2 : i = r
    · rw [if_pos h2, if_pos h2]
    · rw [if_neg h2, if_neg h2]
      by_cases h3 : i < r
      · rw [if_pos ⟨by omega, by omega⟩, if_pos h3]; rfl
      · have hne : ¬ (0 ≤ i ∧ i < 0 + r) := by omega
        rw [if_neg hne, if_neg h3]
theorem pad_last (M buf : Nat → BitVec 8) (N r e i k : Nat) (hk : N / 64 = k) (hr : N % 64 = r) (he : 64 * nblk N = 64 * k + e) (hei : i < e) (he8 : r < e - 8) (hbuf : ∀ i, i < r → buf i = M (64 * k + i)) :
    lastF buf N r e i = padM M N (64 * k + i) := by
  rw [lastF_val, padM, he]
  by_cases h1 : e - 8 ≤ i
  · have a1 : e - 8 ≤ i ∧ i < e - 8 + 8 := by omega
    have a2 : ¬ 64 * k + i < N := by omega
    have a3 : ¬ 64 * k + i = N := by omega
    have a4 : ¬ 64 * k + i < 64 * k + e - 8 := by omega
    rw [if_pos a1, if_neg a2, if_neg a3, if_neg a4, show 64 * k + i - (64 * k + e - 8) = i - (e - 8) by omega]
  · have a1 : ¬ (e - 8 ≤ i ∧ i < e - 8 + 8) := by omega
    rw [if_neg a1]
    by_cases h2 : i = r
    · have a2 : ¬ 64 * k + i < N := by omega
      have a3 : 64 * k + i = N := by omega
      rw [if_pos h2, if_neg a2, if_pos a3]
    · have a3 : ¬ 64 * k + i = N := by omega
      rw [if_neg h2]
      by_cases h3 : i < r
      · have a2 : 64 * k + i < N := by omega
        rw [if_pos h3, if_pos a2, hbuf i h3]
      · have a2 : ¬ 64 * k + i < N := by omega
        have a4 : 64 * k + i < 64 * k + e - 8 := by omega
        rw [if_neg h3, if_neg a2, if_neg a3, if_pos a4]
theorem blocks_pad (K : Nat → BitVec 32) (s0 : St) (M : Nat → BitVec 8) (N : Nat) : blocks K s0 (padM M N) (N / 64) = blocks K s0 M (N / 64) :=
  blocks_congr K s0 _ _ _ (fun i hi => by rw [padM, if_pos (by omega)])

theorem sum_any (K : Nat → BitVec 32) (s0 : St) (M : Nat → BitVec 8) (hb N : Nat) (hN : N < 1152921504606846976) (w : World) (hw : HInv K s0 M w hb N)
    (hK : ∀ i, i < 64 → w.cell? ⟨2, i, none⟩ = some (U (K i))) :
    Calls Tryd.prog 81 #[.pointer (some ⟨hb, 0, none⟩)] w fun e w' => e = .returned (.agg (srow (sumSt K s0 M N))) ∧ Below w.heap.size w w' := by
  obtain ⟨buf, hw, hbuf⟩ := hw
  by_cases h56 : N % 64 < 56
  · refine (sum_one K _ buf hb N (N % 64) rfl h56 hN w hw hK).mono fun e w' ⟨h1, h2⟩ => ⟨h1.trans ?_, h2⟩
    have hn : nblk N = N / 64 + 1 := by unfold nblk; omega
    rw [sumSt, hn, blocks, blocks_pad, compress_congr K _ _ (fun i => padM M N (64 * (N / 64) + i)) (fun i hi => pad_last M buf N (N % 64) 64 i (N / 64) rfl rfl (by rw [hn]; omega) hi (by omega) hbuf)]
  · refine (sum_two K _ buf hb N (N % 64) rfl (by omega) hN w hw hK).mono fun e w' ⟨h1, h2⟩ => ⟨h1.trans ?_, h2⟩
    have hn : nblk N = N / 64 + 1 + 1 := by unfold nblk; omega
    rw [sumSt, hn, blocks, blocks, blocks_pad, compress_congr K _ (lastF buf N (N % 64) 128) (fun i => padM M N (64 * (N / 64) + i)) (fun i hi => pad_last M buf N (N % 64) 128 i (N / 64) rfl rfl (by rw [hn]; omega) (by omega) (by omega) hbuf),
      compress_congr K _ (fun i => lastF buf N (N % 64) 128 (64 + i)) (fun i => padM M N (64 * (N / 64 + 1) + i)) (fun i hi => by
        rw [pad_last M buf N (N % 64) 128 (64 + i) (N / 64) rfl rfl (by rw [hn]; omega) (by omega) (by omega) hbuf, show 64 * (N / 64) + (64 + i) = 64 * (N / 64 + 1) + i by omega])]

/-- A new Hash has taken nothing. -/
theorem HInv.new (K : Nat → BitVec 32) (s0 : St) (M : Nat → BitVec 8) (w : World) (hb : Nat) (h : HRow w hb s0 z8 0) : HInv K s0 M w hb 0 := ⟨z8, h, fun i hi => by omega⟩
theorem HInv.grown {K : Nat → BitVec 32} {s0 : St} {M : Nat → BitVec 8} {w w' : World} {hb N : Nat} (h : HInv K s0 M w hb N) (hg : w'.heap[hb]? = w.heap[hb]?) : HInv K s0 M w' hb N := by
  obtain ⟨buf, h1, h2⟩ := h
  exact ⟨buf, hg.trans h1, h2⟩
theorem Bytes.mono {w w' : World} {v : Value} {n hb hb' : Nat} {m : Nat → BitVec 8} (h : Bytes w v n m hb) (hb1 : Below w.heap.size w w') (hb2 : w.heap.size ≤ hb') : Bytes w' v n m hb' := by
  rcases h with ⟨⟨ad, rfl⟩, rfl⟩ | ⟨b, off, cap, rfl, hnc, hlt, hne, hm⟩
  · exact Or.inl ⟨⟨ad, rfl⟩, rfl⟩
  · exact Or.inr ⟨b, off, cap, rfl, hnc, Nat.lt_of_lt_of_le hlt hb1.size, by omega, fun i hi => (hb1.cell (p := ⟨b, off + i, none⟩) hlt).trans (hm i hi)⟩

/-- The program's tables, in memory. -/
structure Tabs (w : World) (K : Nat → BitVec 32) (s0 : St) : Prop where
  sq : ∀ i, i < 8 → w.cell? ⟨1, i, none⟩ = some (U (s0.at i))
  cu : ∀ i, i < 64 → w.cell? ⟨2, i, none⟩ = some (U (K i))
theorem Tabs.below {w w' : World} {K : Nat → BitVec 32} {s0 : St} {B0 : Nat} (h : Tabs w K s0) (hb : Below B0 w w') (h0 : 1 < B0) (h1 : 2 < B0) : Tabs w' K s0 :=
  ⟨fun i hi => (hb.cell (p := ⟨_, i, none⟩) h0).trans (h.sq i hi), fun i hi => (hb.cell (p := ⟨_, i, none⟩) h1).trans (h.cu i hi)⟩
theorem Tabs.lt {w : World} {K : Nat → BitVec 32} {s0 : St} (h : Tabs w K s0) : 1 < w.heap.size ∧ 2 < w.heap.size :=
  ⟨block_lt_of_cell (h.sq 0 (by omega)), block_lt_of_cell (h.cu 0 (by omega))⟩

theorem hrow_lay {w1 : World} {cs : Array Value} (hs : cs.size = 73) (s : St) (buf : Nat → BitVec 8) (N : Nat) : HRow ((w1.alloc (.cells cs 128)).setCells w1.heap.size 0 (hrow s buf N).toList) w1.heap.size s buf N := by
  refine heap_setCells (heap_alloc_new _ _) 0 _ (by rw [Array.length_toList, hrow_size, hs]; omega) (fun i => ?_)
  rw [Array.length_toList, hrow_size, Array.getElem?_toList]
  by_cases h1 : i < 73
  · rw [if_pos (by omega)]; rfl
  · have hne : ¬ (0 ≤ i ∧ i < 0 + 73) := by omega
    rw [if_neg hne, Array.getElem?_eq_none (by rw [hrow_size]; omega), Array.getElem?_eq_none (by omega)]
theorem below_of_grown {B0 : Nat} {a w w' : World} {q : Nat} (h : Below B0 a w) (hg : w.grownBy w' (some q)) (hB : B0 ≤ w.heap.size) (hq : B0 ≤ q) : Below B0 a w' := h.grown hg hB (fun k hk => by cases hk; exact hq)

set_option maxRecDepth 100000 in
set_option maxHeartbeats 400000 in
theorem sum256_any (K : Nat → BitVec 32) (s0 : St) (m : Nat → BitVec 8) (n : Nat) (v : Value) (hn : n < 1152921504606846976) (w : World) (hT : Tabs w K s0) (hv : Bytes w v n m w.heap.size) :
    Calls Tryd.prog 72 #[v] w fun e w' => e = .returned (.agg (srow (sumSt K s0 m n))) ∧ Below w.heap.size w w' := by
  have HT : Hid (Tabs w K s0) := hT
  have HV : Hid (Bytes w v n m w.heap.size) := hv
  clear hT hv
  have hz := zero_32
  have hzh := zero_hash
  have HB0 : Hid (Below w.heap.size w (w.alloc (.cells z32 117))) := (Below.refl _ _).alloc (Nat.le_refl _) _
  go_enter Tryd.func72, Tryd.ntmps72
  go_wp2_with fail
  refine (begin_any s0 _ (HT.out.below HB0.out HT.out.lt.1 HT.out.lt.2).sq).mono ?_
  rintro e w1 ⟨rfl, hb1⟩
  have hs1 := hb1.size
  have hsz : (w.alloc (.cells z32 117)).heap.size = w.heap.size + 1 := by simp
  rw [hsz] at hs1 hb1
  have HB1 : Hid (Below (w.heap.size + 1) (w.alloc (.cells z32 117)) w1) := hb1
  clear hb1 hsz
  have hrs := hrow_size s0 z8 0
  have HTH : Hid ((w1.alloc (.cells (hrow St.zero z8 0) 128)).there w1.heap.size 0 (hrow s0 z8 0).size) := there_of_row (heap_alloc_new _ _) 0 _ (by rw [hrow_size, hrow_size]; omega)
  go_wp2_with (refine wpList_store_midL rfl 128 _ _ rfl w1.heap.size 0 (hrow s0 z8 0) rfl rfl HTH.out (by rw [hrow_size]; kernel_rfl) (by exact hrow_one _ _ _) ?_; intro w2 hw2; have HH : Hid (HRow w2 w1.heap.size s0 z8 0) := (by rw [hw2]; exact hrow_lay (hrow_size _ _ _) s0 z8 0); have HB2 : Hid (Below w1.heap.size w1 w2) := (by rw [hw2]; exact below_setCells _ (Nat.le_refl _) _ _ _ ((Below.refl _ _).alloc (Nat.le_refl _) _)); clear hw2)
  have B02 : Below (w.heap.size + 1) (w.alloc (.cells z32 117)) w2 := HB1.out.trans (HB2.out.mono hs1)
  have BW2 : Below w.heap.size w w2 := HB0.out.trans (B02.mono (by omega))
  have hT2 := HT.out.below BW2 HT.out.lt.1 HT.out.lt.2
  have hlt := HT.out.lt
  have hv2 : Bytes w2 v n (fun i => m (0 + i)) w1.heap.size := by simp only [Nat.zero_add]; exact HV.out.mono BW2 (by omega)
  have hz2 : w1.heap.size < w2.heap.size := HH.out.lt
  refine (write_any K s0 m w1.heap.size 0 n v (by omega) (by omega) w2 (HInv.new K s0 m w2 _ HH.out) hv2 hT2.cu).mono ?_
  rintro e w3 ⟨rfl, hg3, hinv3⟩
  rw [Nat.zero_add] at hinv3
  have B03 : Below (w.heap.size + 1) (w.alloc (.cells z32 117)) w3 := below_of_grown B02 hg3 (by omega) hs1
  have hs3 := hg3.size
  have HI3 : Hid (HInv K s0 m w3 w1.heap.size n) := hinv3
  have HB3 : Hid (Below (w.heap.size + 1) (w.alloc (.cells z32 117)) w3) := B03
  clear hv2 hT2 B02 BW2 hg3 hinv3 B03 hrs
  go_wp2_with fail
  refine (sum_any K s0 m w1.heap.size n hn w3 HI3.out (HT.out.below (HB0.out.trans (HB3.out.mono (by omega))) hlt.1 hlt.2).cu).mono ?_
  rintro e w4 ⟨rfl, hb4⟩
  have HB4 : Hid (Below (w.heap.size + 1) (w.alloc (.cells z32 117)) w4) := HB3.out.trans (hb4.mono (by omega))
  have HR4 : Hid (w4.heap[w.heap.size]? = some (.cells z32 117 (0, 0))) := by
    show w4.heap[w.heap.size]? = _
    rw [HB4.out.block w.heap.size (by omega)]; exact heap_alloc_new _ _
  have HT4 : Hid (w4.there w.heap.size 0 (srow (sumSt K s0 m n)).size) := by rw [srow_size]; exact there_of_row HR4.out 0 32 (by rw [z32_size]; omega)
  clear hb4
  go_wp2_with (refine wpList_store_mid rfl 117 _ _ rfl w.heap.size 0 (srow (sumSt K s0 m n)) rfl rfl HT4.out (by rw [srow_size]; kernel_rfl) (by exact srow_one _) ?_)
  refine bodyPost_ret (v := .agg (srow (sumSt K s0 m n))) ?_ rfl ⟨rfl, ?_⟩
  · exact results_mid Tryd.results72 _ _ w.heap.size 0 (srow (sumSt K s0 m n)).toList _ rfl (World.rangeAt_setCells_same _ _ _ _ HT4.out) Tryd.underlying117 rfl (by rw [Array.length_toList, srow_size]; kernel_rfl)
  · exact below_setCells _ (Nat.le_refl _) _ _ _ (HB0.out.trans (HB4.out.mono (by omega)))
end Go.Proofs.YtphjjjijdbljaaaDoor.Sh
/- The constants of SHA-256, and its value at the bytes of abc, checked by the kernel step by step over tables. No dump is read here. -/
namespace Go.Proofs.YtphjjjijdbljaaaDoor.Sh
open Go Go.RowKit

def tabK : List (BitVec 32) := [1116352408, 1899447441, 3049323471, 3921009573, 961987163, 1508970993, 2453635748, 2870763221, 3624381080, 310598401, 607225278, 1426881987, 1925078388, 2162078206, 2614888103, 3248222580, 3835390401, 4022224774, 264347078, 604807628, 770255983, 1249150122, 1555081692, 1996064986, 2554220882, 2821834349, 2952996808, 3210313671, 3336571891, 3584528711, 113926993, 338241895, 666307205, 773529912, 1294757372, 1396182291, 1695183700, 1986661051, 2177026350, 2456956037, 2730485921, 2820302411, 3259730800, 3345764771, 3516065817, 3600352804, 4094571909, 275423344, 430227734, 506948616, 659060556, 883997877, 958139571, 1322822218, 1537002063, 1747873779, 1955562222, 2024104815, 2227730452, 2361852424, 2428436474, 2756734187, 3204031479, 3329325298]
def K256 (t : Nat) : BitVec 32 := tabK.getD t 0
def H256 : St := ⟨1779033703, 3144134277, 1013904242, 2773480762, 1359893119, 2600822924, 528734635, 1541459225⟩
def abcM (i : Nat) : BitVec 8 := [97, 98, 99].getD i 0
def tabW : List (BitVec 32) := [1633837952, 0, 0, 0, 0, 0, 0, 0, 0, 0, 0, 0, 0, 0, 0, 24, 1633837952, 983040, 2108187653, 1610613702, 1050508152, 25426944, 316456923, 3806512014, 3357629466, 3073800610, 3854317833, 845560923, 2636160359, 3968280267, 1881225380, 3552024379, 2482346367, 996719219, 2952069057, 4043988066, 176896406, 1924104970, 2483675966, 610538786, 2672279444, 4037431130, 1042573945, 657669027, 206005234, 2215296807, 2049510749, 106709978, 4215179723, 3430291419, 3118885940, 2845390439, 2226839261, 3256115900, 344409900, 2987358873, 4015503821, 3957764664, 2682456414, 2025622859, 2755645205, 1720397816, 4004225740, 313650667]
def abcW (t : Nat) : BitVec 32 := tabW.getD t 0
def tabS : List St := [⟨1779033703, 3144134277, 1013904242, 2773480762, 1359893119, 2600822924, 528734635, 1541459225⟩, ⟨1567288269, 1779033703, 3144134277, 1013904242, 4197074466, 1359893119, 2600822924, 528734635⟩, ⟨1516951981, 1567288269, 1779033703, 3144134277, 2026797449, 4197074466, 1359893119, 2600822924⟩, ⟨3368241063, 1516951981, 1567288269, 1779033703, 4180228587, 2026797449, 4197074466, 1359893119⟩, ⟨3578852966, 3368241063, 1516951981, 1567288269, 618661968, 4180228587, 2026797449, 4197074466⟩, ⟨71342698, 3578852966, 3368241063, 1516951981, 1135452741, 618661968, 4180228587, 2026797449⟩, ⟨725748213, 71342698, 3578852966, 3368241063, 1900175533, 1135452741, 618661968, 4180228587⟩, ⟨3842179968, 725748213, 71342698, 3578852966, 2603066369, 1900175533, 1135452741, 618661968⟩, ⟨2241887071, 3842179968, 725748213, 71342698, 207977081, 2603066369, 1900175533, 1135452741⟩, ⟨2382687417, 2241887071, 3842179968, 725748213, 852110732, 207977081, 2603066369, 1900175533⟩, ⟨2357671019, 2382687417, 2241887071, 3842179968, 482944406, 852110732, 207977081, 2603066369⟩, ⟨1201185780, 2357671019, 2382687417, 2241887071, 1131095016, 482944406, 852110732, 207977081⟩, ⟨4146054569, 1201185780, 2357671019, 2382687417, 2171590377, 1131095016, 482944406, 852110732⟩, ⟨2274437520, 4146054569, 1201185780, 2357671019, 509051416, 2171590377, 1131095016, 482944406⟩, ⟨3643992854, 2274437520, 4146054569, 1201185780, 1952073950, 509051416, 2171590377, 1131095016⟩, ⟨3227803614, 3643992854, 2274437520, 4146054569, 194179596, 1952073950, 509051416, 2171590377⟩, ⟨2969183118, 3227803614, 3643992854, 2274437520, 123276749, 194179596, 1952073950, 509051416⟩, ⟨567974555, 2969183118, 3227803614, 3643992854, 2150900380, 123276749, 194179596, 1952073950⟩, ⟨3271285201, 567974555, 2969183118, 3227803614, 2221859924, 2150900380, 123276749, 194179596⟩, ⟨4269243327, 3271285201, 567974555, 2969183118, 3431569761, 2221859924, 2150900380, 123276749⟩, ⟨3790736435, 4269243327, 3271285201, 567974555, 2959311225, 3431569761, 2221859924, 2150900380⟩, ⟨2647034723, 3790736435, 4269243327, 3271285201, 2329577776, 2959311225, 3431569761, 2221859924⟩, ⟨3261099373, 2647034723, 3790736435, 4269243327, 3777329520, 2329577776, 2959311225, 3431569761⟩, ⟨2812502591, 3261099373, 2647034723, 3790736435, 1240797514, 3777329520, 2329577776, 2959311225⟩, ⟨3319086477, 2812502591, 3261099373, 2647034723, 2856829767, 1240797514, 3777329520, 2329577776⟩, ⟨472655928, 3319086477, 2812502591, 3261099373, 673443729, 2856829767, 1240797514, 3777329520⟩, ⟨3454534525, 472655928, 3319086477, 2812502591, 339230094, 673443729, 2856829767, 1240797514⟩, ⟨3056518332, 3454534525, 472655928, 3319086477, 3343672598, 339230094, 673443729, 2856829767⟩, ⟨2010346792, 3056518332, 3454534525, 472655928, 3992961016, 3343672598, 339230094, 673443729⟩, ⟨909411017, 2010346792, 3056518332, 3454534525, 1628611511, 3992961016, 3343672598, 339230094⟩, ⟨2684750640, 909411017, 2010346792, 3056518332, 2917635127, 1628611511, 3992961016, 3343672598⟩, ⟨3935906338, 2684750640, 909411017, 2010346792, 17410874, 2917635127, 1628611511, 3992961016⟩, ⟨1941126133, 3935906338, 2684750640, 909411017, 3126399250, 17410874, 2917635127, 1628611511⟩, ⟨2564891911, 1941126133, 3935906338, 2684750640, 2631529974, 3126399250, 17410874, 2917635127⟩, ⟨4267724277, 2564891911, 1941126133, 3935906338, 1495571923, 2631529974, 3126399250, 17410874⟩, ⟨2846323596, 4267724277, 2564891911, 1941126133, 140458035, 1495571923, 2631529974, 3126399250⟩, ⟨1705037796, 2846323596, 4267724277, 2564891911, 4105175766, 140458035, 1495571923, 2631529974⟩, ⟨1101421745, 1705037796, 2846323596, 4267724277, 124953195, 4105175766, 140458035, 1495571923⟩, ⟨887035396, 1101421745, 1705037796, 2846323596, 2768741693, 124953195, 4105175766, 140458035⟩, ⟨1841658506, 887035396, 1101421745, 1705037796, 4034403272, 2768741693, 124953195, 4105175766⟩, ⟨2045405306, 1841658506, 887035396, 1101421745, 519815328, 4034403272, 2768741693, 124953195⟩, ⟨3597076326, 2045405306, 1841658506, 887035396, 641019235, 519815328, 4034403272, 2768741693⟩, ⟨3745932591, 3597076326, 2045405306, 1841658506, 2206934801, 641019235, 519815328, 4034403272⟩, ⟨397020670, 3745932591, 3597076326, 2045405306, 3737995029, 2206934801, 641019235, 519815328⟩, ⟨2638983059, 397020670, 3745932591, 3597076326, 4255271982, 3737995029, 2206934801, 641019235⟩, ⟨643991573, 2638983059, 397020670, 3745932591, 2819559920, 4255271982, 3737995029, 2206934801⟩, ⟨1923828625, 643991573, 2638983059, 397020670, 3077922209, 2819559920, 4255271982, 3737995029⟩, ⟨2706117808, 1923828625, 643991573, 2638983059, 3581645993, 3077922209, 2819559920, 4255271982⟩, ⟨1098003085, 2706117808, 1923828625, 643991573, 4274981830, 3581645993, 3077922209, 2819559920⟩, ⟨91585771, 1098003085, 2706117808, 1923828625, 3178315832, 4274981830, 3581645993, 3077922209⟩, ⟨4045142696, 91585771, 1098003085, 2706117808, 1851537676, 3178315832, 4274981830, 3581645993⟩, ⟨2047150241, 4045142696, 91585771, 1098003085, 1391578359, 1851537676, 3178315832, 4274981830⟩, ⟨2288941602, 2047150241, 4045142696, 91585771, 1227037726, 1391578359, 1851537676, 3178315832⟩, ⟨270520975, 2288941602, 2047150241, 4045142696, 1386118400, 1227037726, 1391578359, 1851537676⟩, ⟨4117770203, 270520975, 2288941602, 2047150241, 2672265155, 1386118400, 1227037726, 1391578359⟩, ⟨1053056219, 4117770203, 270520975, 2288941602, 3842906959, 2672265155, 1386118400, 1227037726⟩, ⟨952932627, 1053056219, 4117770203, 270520975, 1422599787, 3842906959, 2672265155, 1386118400⟩, ⟨4241590395, 952932627, 1053056219, 4117770203, 2606665836, 1422599787, 3842906959, 2672265155⟩, ⟨3227702383, 4241590395, 952932627, 1053056219, 2118385806, 2606665836, 1422599787, 3842906959⟩, ⟨4290184306, 3227702383, 4241590395, 952932627, 1837350854, 2118385806, 2606665836, 1422599787⟩, ⟨3064893439, 4290184306, 3227702383, 4241590395, 2988158269, 1837350854, 2118385806, 2606665836⟩, ⟨3093179625, 3064893439, 4290184306, 3227702383, 2518632596, 2988158269, 1837350854, 2118385806⟩, ⟨80891244, 3093179625, 3064893439, 4290184306, 2492278198, 2518632596, 2988158269, 1837350854⟩, ⟨3550093669, 80891244, 3093179625, 3064893439, 4212265488, 2492278198, 2518632596, 2988158269⟩, ⟨1349398616, 3550093669, 80891244, 3093179625, 1593118500, 4212265488, 2492278198, 2518632596⟩]
def abcS (t : Nat) : St := tabS.getD t H256
def St.eqb (s t : St) : Bool := s.a == t.a && s.b == t.b && s.c == t.c && s.d == t.d && s.e == t.e && s.f == t.f && s.g == t.g && s.h == t.h
theorem St.eq_of_eqb {s t : St} (h : s.eqb t = true) : s = t := by
  cases s; cases t
  simp only [St.eqb, Bool.and_eq_true, beq_iff_eq] at h
  obtain ⟨⟨⟨⟨⟨⟨⟨h1, h2⟩, h3⟩, h4⟩, h5⟩, h6⟩, h7⟩, h8⟩ := h
  subst h1 h2 h3 h4 h5 h6 h7 h8
  rfl
theorem sched_unique {m : Nat → BitVec 8} {W W' : Nat → BitVec 32} (h : Sched m W) (h' : Sched m W') : ∀ t, t < 64 → W t = W' t := by
  intro t
  induction t using Nat.strongRecOn with
  | _ t ih =>
    intro ht
    by_cases h1 : t < 16
    · rw [h.first t h1, h'.first t h1]
    · rw [h.later t (by omega) ht, h'.later t (by omega) ht, ih (t - 2) (by omega) (by omega), ih (t - 7) (by omega) (by omega), ih (t - 15) (by omega) (by omega), ih (t - 16) (by omega) (by omega)]
theorem abc_first : ∀ t : Fin 16, abcW t.val = word (padM abcM 3 (4 * t.val)) (padM abcM 3 (4 * t.val + 1)) (padM abcM 3 (4 * t.val + 2)) (padM abcM 3 (4 * t.val + 3)) := by decide +kernel
theorem abc_later : ∀ t : Fin 48, abcW (16 + t.val) = lo1 (abcW (14 + t.val)) + abcW (9 + t.val) + lo0 (abcW (1 + t.val)) + abcW t.val := by decide +kernel
theorem abc_steps : ∀ t : Fin 64, (step (abcS t.val) (K256 t.val) (abcW t.val)).eqb (abcS (t.val + 1)) = true := by decide +kernel
theorem abc_sched : Sched (padM abcM 3) abcW where
  first t h := abc_first ⟨t, h⟩
  later t h1 h2 := by
    have := abc_later ⟨t - 16, by omega⟩
    simp only at this
    rw [show 16 + (t - 16) = t by omega, show 14 + (t - 16) = t - 2 by omega, show 9 + (t - 16) = t - 7 by omega, show 1 + (t - 16) = t - 15 by omega] at this
    exact this
theorem abc_rounds : ∀ n, n ≤ 64 → rounds K256 abcW H256 n = abcS n
  | 0, _ => rfl
  | n + 1, h => by
    rw [rounds, abc_rounds n (by omega)]
    exact St.eq_of_eqb (abc_steps ⟨n, by omega⟩)
theorem abc_sum : sumSt K256 H256 abcM 3 = ⟨3128432319, 2399260650, 1094795486, 1571693091, 2953011619, 2518121116, 3021012833, 4060091821⟩ := by
  have hn : nblk 3 = 0 + 1 := rfl
  rw [sumSt, hn, blocks, blocks, compress, rounds_congr K256 _ abcW H256 64 (fun t ht => by
    have e : (fun i => padM abcM 3 (64 * 0 + i)) = padM abcM 3 := funext fun i => by rw [Nat.mul_zero, Nat.zero_add]
    rw [e]; exact sched_unique (schedW_ok _) abc_sched t ht), abc_rounds 64 (Nat.le_refl _)]
  exact St.eq_of_eqb (by decide +kernel)
theorem abc_bytes : sbyte (sumSt K256 H256 abcM 3) 0 = 186 ∧ sbyte (sumSt K256 H256 abcM 3) 1 = 120 ∧ sbyte (sumSt K256 H256 abcM 3) 31 = 173 := by
  rw [abc_sum]; decide +kernel
end Go.Proofs.YtphjjjijdbljaaaDoor.Sh
