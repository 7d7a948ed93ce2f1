/- 'Sum': what a Hash answers. -/
import Derived.Test.YtddgdaggdgeclaaDoorShaK
namespace Go.Proofs.YtddgdaggdgeclaaDoor.Sh
open Go Go.RowKit

theorem schedW_congr (m m' : Nat → BitVec 8) (h : ∀ i, i < 64 → m i = m' i) : ∀ t, t < 64 → schedW m t = schedW m' t := by
  intro t
  induction t using Nat.strongRecOn with
  | _ t ih =>
    intro ht
    by_cases h1 : t < 16
    · rw [(schedW_ok m).first t h1, (schedW_ok m').first t h1, h _ (by omega), h _ (by omega), h _ (by omega), h _ (by omega)]
    · rw [(schedW_ok m).later t (by omega) ht, (schedW_ok m').later t (by omega) ht, ih (t - 2) (by omega) (by omega), ih (t - 7) (by omega) (by omega), ih (t - 15) (by omega) (by omega), ih (t - 16) (by omega) (by omega)]
theorem rounds_congr (K W W' : Nat → BitVec 32) (s : St) : ∀ n, (∀ t, t < n → W t = W' t) → rounds K W s n = rounds K W' s n
  | 0, _ => rfl
  | n + 1, h => by rw [rounds, rounds, rounds_congr K W W' s n (fun t ht => h t (by omega)), h n (by omega)]
theorem compress_congr (K : Nat → BitVec 32) (s : St) (m m' : Nat → BitVec 8) (h : ∀ i, i < 64 → m i = m' i) : compress K s m = compress K s m' := by
  rw [compress, compress, rounds_congr K _ _ s 64 (schedW_congr m m' h)]
theorem blocks_congr (K : Nat → BitVec 32) (s0 : St) (M M' : Nat → BitVec 8) : ∀ k, (∀ i, i < 64 * k → M i = M' i) → blocks K s0 M k = blocks K s0 M' k
  | 0, _ => rfl
  | k + 1, h => by rw [blocks, blocks, blocks_congr K s0 M M' k (fun i hi => h i (by omega)), compress_congr K _ _ _ (fun i hi => h (64 * k + i) (by omega))]

/-- How many blocks N bytes take, with what is laid behind them. -/
def nblk (N : Nat) : Nat := (N + 8) / 64 + 1
/-- Byte j of the number of bits. -/
def lenByte (N j : Nat) : BitVec 8 := (BitVec.ofNat 64 (8 * N) >>> (56 - 8 * j)).setWidth 8
/-- The message with what is laid behind it. -/
def padM (M : Nat → BitVec 8) (N i : Nat) : BitVec 8 := if i < N then M i else if i = N then 128 else if i < 64 * nblk N - 8 then 0 else lenByte N (i - (64 * nblk N - 8))
/-- The state behind the whole message. -/
def sumSt (K : Nat → BitVec 32) (s0 : St) (M : Nat → BitVec 8) (N : Nat) : St := blocks K s0 (padM M N) (nblk N)

def z32 : Array Value := (List.replicate 32 (Value.int .u8 0)).toArray
def z128 : Array Value := (List.replicate 128 (Value.int .u8 0)).toArray
theorem z32_size : z32.size = 32 := by simp [z32]
theorem z128_size : z128.size = 128 := by simp [z128]
theorem zero_32 (w : World) : (zeroValue 24).run Tryd.prog w = .ok (.agg z32) w := by kernel_rfl
theorem zero_128 (w : World) : (zeroValue 64).run Tryd.prog w = .ok (.agg z128) w := by kernel_rfl
theorem z32_one : z32.all (·.oneCell') = true := all_oneCell_toArray (fun v hv => by rw [(List.mem_replicate.1 hv).2]; rfl)
set_option maxHeartbeats 400000 in
theorem sum_nil (w : World) : Calls Tryd.prog 34 #[.pointer none] w fun e w' => e = .returned (.agg z32) ∧ Below w.heap.size w w' := by
  have hz := zero_32
  have HT : Hid ((w.alloc (.cells z32 24)).there w.heap.size 0 z32.size) := there_of_row (heap_alloc_new _ _) 0 _ (by omega)
  go_enter Tryd.func34, Tryd.ntmps34
  go_wp2_with (refine wpList_store_mid rfl 24 _ _ rfl w.heap.size 0 z32 rfl rfl HT.out (by rw [z32_size]; kernel_rfl) (by exact z32_one) ?_)
  refine bodyPost_ret (v := .agg z32) ?_ rfl ⟨rfl, ?_⟩
  · exact results_mid Tryd.results34 _ _ w.heap.size 0 z32.toList _ rfl (World.rangeAt_setCells_same _ _ _ _ HT.out) Tryd.underlying24 rfl (by rw [Array.length_toList, z32_size]; kernel_rfl)
  · exact below_setCells _ (Nat.le_refl _) _ _ _ ((Below.refl _ _).alloc (Nat.le_refl _) _)
set_option maxHeartbeats 400000 in
/-- A row of n bytes. -/
def brow (n : Nat) (f : Nat → BitVec 8) : Array Value := ((List.range n).map fun i => B (f i)).toArray
theorem brow_size (n : Nat) (f : Nat → BitVec 8) : (brow n f).size = n := by simp [brow]
theorem brow_get (n : Nat) (f : Nat → BitVec 8) (i : Nat) : (brow n f)[i]? = if i < n then some (B (f i)) else none := by
  rw [brow, List.getElem?_toArray, List.getElem?_map]
  by_cases h : i < n
  · rw [List.getElem?_range h, if_pos h]; rfl
  · rw [if_neg h, List.getElem?_eq_none (by simpa using h)]; rfl
theorem brow_splice (k : Nat) (f : Nat → BitVec 8) (r n : Nat) (c : Nat → BitVec 8) (hn : r + n ≤ k) :
    ((brow k f).toList.take r ++ (((List.range n).map fun i => B (c i)) ++ (brow k f).toList.drop (r + ((List.range n).map fun i => B (c i)).length))).toArray = brow k (bput f r n c) := by
  apply Array.ext_getElem?
  intro i
  have hs : (brow k f).toList.length = k := by rw [Array.length_toList, brow_size]
  have hc : (((List.range n).map fun i => B (c i))).length = n := by simp
  rw [hc, List.getElem?_toArray, brow_get]
  by_cases h1 : i < r
  · have hne : ¬ (r ≤ i ∧ i < r + n) := by omega
    rw [List.getElem?_append_left (by rw [List.length_take, hs]; omega), List.getElem?_take, if_pos h1, Array.getElem?_toList, brow_get, bput, if_neg hne]
  · rw [List.getElem?_append_right (by rw [List.length_take, hs]; omega), List.length_take, hs, show min r k = r by omega]
    by_cases h2 : i < r + n
    · rw [List.getElem?_append_left (by rw [hc]; omega), List.getElem?_map, List.getElem?_range (by omega), if_pos (by omega), bput, if_pos ⟨by omega, h2⟩]; rfl
    · have hne : ¬ (r ≤ i ∧ i < r + n) := by omega
      rw [List.getElem?_append_right (by rw [hc]; omega), hc, List.getElem?_drop, show r + n + (i - r - n) = i by omega, Array.getElem?_toList, brow_get, bput, if_neg hne]
theorem z128_brow : z128 = brow 128 (fun _ => 0) := by
  apply Array.ext_getElem?
  intro i
  rw [brow_get, z128, List.getElem?_toArray, List.getElem?_replicate]
  rfl

theorem hi_byte (x : BitVec 64) (k : Nat) (hk : k ≤ 24) : (((x >>> 32).setWidth 32) >>> k).setWidth 8 = (x >>> (32 + k)).setWidth 8 := by
  apply BitVec.eq_of_getLsbD_eq
  intro i hi
  simp only [BitVec.getLsbD_setWidth, BitVec.getLsbD_ushiftRight]
  have h1 : k + i < 32 := by omega
  simp [hi, h1, Nat.add_assoc]
theorem lo_byte (x : BitVec 64) (k : Nat) (hk : k ≤ 24) : ((x.setWidth 32) >>> k).setWidth 8 = (x >>> k).setWidth 8 := by
  apply BitVec.eq_of_getLsbD_eq
  intro i hi
  simp only [BitVec.getLsbD_setWidth, BitVec.getLsbD_ushiftRight]
  have h1 : k + i < 32 := by omega
  simp [hi, h1]
theorem bytes8_get (x : BitVec 64) (j : Nat) (h : j < 8) : (bytes8 x)[j]? = some (B ((x >>> (56 - 8 * j)).setWidth 8)) := by
  have e0 : ∀ y : BitVec 32, y.setWidth 8 = (y >>> 0).setWidth 8 := fun y => by simp
  match j, h with
  | 0, _ => exact congrArg (fun y => some (B y)) (hi_byte x 24 (by omega))
  | 1, _ => exact congrArg (fun y => some (B y)) (hi_byte x 16 (by omega))
  | 2, _ => exact congrArg (fun y => some (B y)) (hi_byte x 8 (by omega))
  | 3, _ => exact congrArg (fun y => some (B y)) ((e0 _).trans (hi_byte x 0 (by omega)))
  | 4, _ => exact congrArg (fun y => some (B y)) (lo_byte x 24 (by omega))
  | 5, _ => exact congrArg (fun y => some (B y)) (lo_byte x 16 (by omega))
  | 6, _ => exact congrArg (fun y => some (B y)) (lo_byte x 8 (by omega))
  | 7, _ => exact congrArg (fun y => some (B y)) ((e0 _).trans (lo_byte x 0 (by omega)))
/-- The last block or two: what waits, 128, noughts, the number of bits. -/
def last1 (buf : Nat → BitVec 8) (r i : Nat) : BitVec 8 := if i = r then 128 else bput (fun _ => 0) 0 r buf i
def lastF (buf : Nat → BitVec 8) (N r e : Nat) : Nat → BitVec 8 := bput (last1 buf r) (e - 8) 8 (lenByte N)
/-- What 'Sum' holds while the last blocks are laid. -/
structure SRow (w W : World) (f : Nat → BitVec 8) : Prop where
  below : Below w.heap.size w W
  last : W.heap[w.heap.size + 1]? = some (.cells (brow 128 f) 64 (0, 0))
  res : W.heap[w.heap.size]? = some (.cells z32 24 (0, 0))
  size : w.heap.size + 2 ≤ W.heap.size
theorem SRow.cell {w W : World} {f : Nat → BitVec 8} (h : SRow w W f) (i : Nat) (hi : i < 128) : W.cell? ⟨w.heap.size + 1, i, none⟩ = some (B (f i)) := by
  rw [cell_of_row W _ i _ _ _ h.last, brow_get, if_pos hi]
theorem SRow.froz {w W : World} {f : Nat → BitVec 8} (h : SRow w W f) (i : Nat) : W.frozen? ⟨w.heap.size + 1, i, none⟩ = false := frozen_of_row _ _ _ _ _ h.last
theorem SRow.set {w W : World} {f f' : Nat → BitVec 8} (h : SRow w W f) (o : Nat) (vs : List Value) (hn : o + vs.length ≤ 128) (hf : ∀ i, i < 128 → some (B (f' i)) = if o ≤ i ∧ i < o + vs.length then vs[i - o]? else some (B (f i))) :
    SRow w (W.setCells (w.heap.size + 1) o vs) f' := by
  refine ⟨below_setCells _ (by omega) _ _ _ h.below, ?_, ?_, ?_⟩
  · refine heap_setCells h.last o vs (by rw [brow_size]; exact hn) (fun i => ?_)
    rw [brow_get, brow_get]
    by_cases h1 : i < 128
    · rw [if_pos h1, if_pos h1]; exact hf i h1
    · rw [if_neg h1, if_neg h1]
      have hne : ¬ (o ≤ i ∧ i < o + vs.length) := by omega
      rw [if_neg hne]
  · have hh := (below_setCells (B0 := w.heap.size + 1) (a := W) (w.heap.size + 1) (Nat.le_refl _) vs o W (Below.refl _ _)).block w.heap.size (by omega)
    rw [hh]; exact h.res
  · have hh := (below_setCells (B0 := 0) (a := W) (w.heap.size + 1) (Nat.zero_le _) vs o W (Below.refl _ _)).size
    exact Nat.le_trans h.size hh
theorem SRow.put1 {w W : World} {buf : Nat → BitVec 8} {r : Nat} (h : SRow w W (bput (fun _ => 0) 0 r buf)) (hr : r < 64) : SRow w (W.setCell ⟨w.heap.size + 1, r, none⟩ (.int .u8 128)) (last1 buf r) :=
  h.set r [B 128] (by simp; omega) (fun i hi => by
    simp only [List.length_singleton, last1]
    by_cases e : i = r
    · subst e; rw [if_pos rfl, if_pos (by omega)]; simp
    · rw [if_neg e]
      have hne : ¬ (r ≤ i ∧ i < r + 1) := by omega
      rw [if_neg hne])
theorem SRow.put8 {w W : World} {buf : Nat → BitVec 8} {N r e : Nat} (h : SRow w W (last1 buf r)) (he2 : 8 ≤ e ∧ e ≤ 128) : SRow w (W.setCells (w.heap.size + 1) (e - 8) (bytes8 (BitVec.ofNat 64 (8 * N)))) (lastF buf N r e) :=
  h.set (e - 8) _ (by simp [bytes8, bytes4]; omega) (fun i hi => by
    have hl : (bytes8 (BitVec.ofNat 64 (8 * N))).length = 8 := rfl
    rw [hl, lastF, bput]
    by_cases h1 : e - 8 ≤ i ∧ i < e - 8 + 8
    · rw [if_pos h1, if_pos h1, bytes8_get _ _ (by omega)]; rfl
    · rw [if_neg h1, if_neg h1])

theorem SRow.below' {w W W' : World} {f : Nat → BitVec 8} (h : SRow w W f) (hb : Below W.heap.size W W') : SRow w W' f := by
  have h1 := h.size
  refine ⟨h.below.trans (hb.mono (by omega)), ?_, ?_, Nat.le_trans h.size hb.size⟩
  · rw [hb.block _ (by omega)]; exact h.last
  · rw [hb.block _ (by omega)]; exact h.res
/-- What 'Sum' holds behind a mixing: a state p in block q. -/
structure PRel (w W : World) (f : Nat → BitVec 8) (q : Nat) (p : St) : Prop where
  srow : SRow w W f
  pos : w.heap.size + 2 ≤ q
  row : W.heap[q]? = some (.cells p.row 45 (0, 0))
def zeros8 : Array Value := (List.replicate 8 (Value.int .u32 0)).toArray
theorem PRel.a {w w4 w5 : World} {f : Nat → BitVec 8} (h : SRow w w4 f) (hb : Below w4.drew.heap.size w4.drew w5) (p : St) : PRel w (w5.alloc (.cells p.row 45)) f w5.heap.size p := by
  have h4 : SRow w w4.drew f := ⟨h.below.drew, h.last, h.res, h.size⟩
  have h5 := h4.below' hb
  exact ⟨h5.below' ((Below.refl _ _).alloc (Nat.le_refl _) _), h5.size, heap_alloc_new _ _⟩
theorem newblk {w4 w5 : World} {Z : Obj} (hb : Below (w4.alloc Z).drew.heap.size (w4.alloc Z).drew w5) : w5.heap[w4.heap.size]? = some Z := by
  have hs : (w4.alloc Z).drew.heap.size = w4.heap.size + 1 := by
    show (w4.alloc Z).heap.size = _
    simp
  rw [hb.block w4.heap.size (by rw [hs]; omega)]
  exact heap_alloc_new _ _
theorem row_setCells {W : World} {q : Nat} {cs : Array Value} (hq : W.heap[q]? = some (.cells cs 45 (0, 0))) (hs : cs.size = 8) (p : St) : (W.setCells q 0 p.row.toList).heap[q]? = some (.cells p.row 45 (0, 0)) := by
  refine heap_setCells hq 0 _ (by rw [hs]; simp [St.row]) (fun i => ?_)
  have hl : p.row.toList.length = 8 := rfl
  rw [hl, Array.getElem?_toList]
  by_cases h1 : i < 8
  · rw [if_pos (by omega)]; rfl
  · have hne : ¬ (0 ≤ i ∧ i < 0 + 8) := by omega
    rw [if_neg hne, Array.getElem?_eq_none (by simp [St.row]; omega), Array.getElem?_eq_none (by omega)]
theorem SRow.setAbove {w W : World} {f : Nat → BitVec 8} (h : SRow w W f) (q o : Nat) (hq : w.heap.size + 2 ≤ q) (vs : List Value) : SRow w (W.setCells q o vs) f := by
  have hh := below_setCells (B0 := w.heap.size + 2) (a := W) q hq vs o W (Below.refl _ _)
  refine ⟨h.below.trans (hh.mono (by omega)), ?_, ?_, Nat.le_trans h.size hh.size⟩
  · rw [hh.block _ (by omega)]; exact h.last
  · rw [hh.block _ (by omega)]; exact h.res
theorem PRel.b {w w4 w5 : World} {f : Nat → BitVec 8} (h : SRow w w4 f) (hb : Below (w4.alloc (.cells zeros8 45)).drew.heap.size (w4.alloc (.cells zeros8 45)).drew w5) (p : St) :
    PRel w (w5.setCells w4.heap.size 0 p.row.toList) f w4.heap.size p := by
  have h4 : SRow w (w4.alloc (.cells zeros8 45)).drew f := by
    have := h.below' ((Below.refl w4.heap.size w4).alloc (Nat.le_refl _) (.cells zeros8 45))
    exact ⟨this.below.drew, this.last, this.res, this.size⟩
  have h5 := h4.below' hb
  exact ⟨h5.setAbove _ _ h.size _, h.size, row_setCells (newblk hb) rfl p⟩
theorem PRel.after {w W W' : World} {f : Nat → BitVec 8} {q : Nat} {p : St} (h : PRel w W f q p) (hb : Below W.drew.heap.size W.drew W') : PRel w W' f q p := by
  have h4 : SRow w W.drew f := ⟨h.srow.below.drew, h.srow.last, h.srow.res, h.srow.size⟩
  exact ⟨h4.below' hb, h.pos, by rw [hb.block q (Array.getElem?_eq_some_iff.1 h.row).1]; exact h.row⟩
theorem PRel.put {w W : World} {f : Nat → BitVec 8} {q : Nat} {p : St} (h : PRel w W f q p) (t : St) : PRel w (W.setCells q 0 t.row.toList) f q t :=
  ⟨h.srow.setAbove _ _ h.pos _, h.pos, row_setCells h.row rfl t⟩
end Go.Proofs.YtddgdaggdgeclaaDoor.Sh
