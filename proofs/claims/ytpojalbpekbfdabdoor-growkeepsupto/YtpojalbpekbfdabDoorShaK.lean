/- 'Write' at whatever bytes: one contract. -/
import Derived.Test.YtpojalbpekbfdabDoorShaI
import Derived.Deep.CutRange
namespace Go.Proofs.YtpojalbpekbfdabDoor.Sh
open Go Go.RowKit

/-- A Hash that has taken N bytes of M lies in block hb. -/
def HInv (K : Nat → BitVec 32) (s0 : St) (M : Nat → BitVec 8) (w : World) (hb N : Nat) : Prop :=
  ∃ buf, HRow w hb (blocks K s0 M (N / 64)) buf N ∧ ∀ i, i < N % 64 → buf i = M (64 * (N / 64) + i)
/-- A slice of n bytes m: one of no bytes and no room, wherever it points, or one in some block. -/
def Bytes (w : World) (v : Value) (n : Nat) (m : Nat → BitVec 8) (hb : Nat) : Prop :=
  ((∃ ad, v = .slice ad 0 0) ∧ n = 0) ∨ ∃ b off cap, v = .slice (some ⟨b, off, none⟩) n cap ∧ n ≤ cap ∧ b < w.heap.size ∧ b ≠ hb ∧ ∀ i, i < n → w.cell? ⟨b, off + i, none⟩ = some (B (m i))

set_option maxRecDepth 100000 in
set_option maxHeartbeats 400000 in
theorem write_nilb (ad : Option Addr) (hb : Nat) (s : St) (buf : Nat → BitVec 8) (N r : Nat) (hr : N % 64 = r) (hN : N < 4611686018427387904) (w : World) (hw : HRow w hb s buf N) :
    Calls Tryd.prog 63 #[.pointer (some ⟨hb, 0, none⟩), .slice ad 0 0] w fun e w' => e = .returned (.tuple #[]) ∧ w.grownBy w' (some hb) ∧ HRow w' hb s buf N := by
  have hc := hw.len
  have hf := hw.froz 72
  have HW : Hid (HRow (w.setCell ⟨hb, 72, none⟩ (.int .u64 (N : Int))) hb s buf N) := hw.setLen N
  have HR : Hid (N % 64 = r) := hr
  have hr64 : r < 64 := by omega
  clear hw hr
  have g4 : (N : Int) < 4611686018427387904 := by omega
  have g2 : (r : Int) < 64 := by omega
  have HMIN : Hid (Nat.min 0 (64 - r) = 0) := by
    show min 0 (64 - r) = 0
    omega
  have sl1 := fun w1 => sliceAt_all w1 90 5 64 hb 8 Tryd.underlying90 size_u8
  by_cases h0 : r = 0
  · subst h0
    go_enter Tryd.func63, Tryd.ntmps63
    go_wp2_with fail
    refine (held_at hb N 0 HR.out (by omega) _ hc).mono ?_
    rintro e w' ⟨rfl, rfl⟩
    go_wp2_with fail
    go_loopw [1] (fun x wr => x = .slice ad 0 0 ∧ wr = w.setCell ⟨hb, 72, none⟩ (.int .u64 (N : Int))) (fun _ _ => 0)
    case atStart => exact ⟨rfl, rfl⟩
    case round =>
      obtain ⟨rfl, rfl⟩ := hrel
      go_wp2_with (refine wpList_copy_nothing rfl _ _ 51 51 rfl 5 Tryd.underlying51 size_u8 _ _ _ _ _ _ rfl rfl (by decide) ?_)
      go_end0
      exact ⟨rfl, grownBy_setCell0 _ _ _ _, HW.out⟩
  · have g1 : (0 : Int) < (r : Int) := by omega
    have sl0 := fun w1 => sliceAt_l w1 90 5 64 hb 8 (r : Int) r rfl Tryd.underlying90 size_u8 (by omega)
    have g3 : (r : Int) + 0 < 64 := by omega
    have h0' : 0 < r := by omega
    clear h0
    go_enter Tryd.func63, Tryd.ntmps63
    go_wp2_with fail
    refine (held_at hb N r HR.out (by omega) _ hc).mono ?_
    rintro e w' ⟨rfl, rfl⟩
    go_wp2_with (refine wpList_copy_nothing rfl _ _ 51 51 rfl 5 Tryd.underlying51 size_u8 _ _ _ _ _ _ rfl rfl HMIN.out ?_)
    exact bodyPost_ret (v := .tuple #[]) (by simp [results, Tryd.results63]) rfl ⟨rfl, grownBy_setCell0 _ _ _ _, HW.out⟩

theorem write_any (K : Nat → BitVec 32) (s0 : St) (M : Nat → BitVec 8) (hb N n : Nat) (v : Value) (hN : N + n < 4611686018427387904) (hkb : 2 ≠ hb) (w : World)
    (hw : HInv K s0 M w hb N) (hv : Bytes w v n (fun i => M (N + i)) hb) (hK : ∀ i, i < 64 → w.cell? ⟨2, i, none⟩ = some (U (K i))) :
    Calls Tryd.prog 63 #[.pointer (some ⟨hb, 0, none⟩), v] w fun e w' => e = .returned (.tuple #[]) ∧ w.grownBy w' (some hb) ∧ HInv K s0 M w' hb (N + n) := by
  obtain ⟨buf, hw, hbuf⟩ := hw
  rcases hv with ⟨⟨ad, rfl⟩, rfl⟩ | ⟨b, off, cap, rfl, hnc, hblt, hbb, hm⟩
  · exact (write_nilb ad hb _ buf N _ rfl hN w hw).mono fun e w' ⟨h1, h2, h3⟩ => ⟨h1, h2, buf, h3, hbuf⟩
  · by_cases h0 : N % 64 = 0
    · exact (write_whole K s0 M hb buf N b off n cap h0 hnc hN hbb hkb w hblt hw hm hK).mono fun e w' ⟨h1, h2, h3⟩ => ⟨h1, h2, h3⟩
    · by_cases h1 : N % 64 + n < 64
      · refine (write_short hb _ buf (fun i => M (N + i)) N (N % 64) b off n cap rfl (by omega) h1 hN hbb w hw hm).mono fun e w' ⟨h1', h2, _, h4⟩ => ⟨h1', h2, bput buf (N % 64) n (fun i => M (N + i)), ?_, ?_⟩
        · rw [show (N + n) / 64 = N / 64 by omega]; exact h4
        · intro i hi
          rw [bput]
          by_cases h : N % 64 ≤ i
          · rw [if_pos ⟨h, by omega⟩, show N + (i - N % 64) = 64 * ((N + n) / 64) + i by omega]
          · rw [if_neg (fun e => h e.1), hbuf i (by omega), show 64 * (N / 64) + i = 64 * ((N + n) / 64) + i by omega]
      · exact (write_mid K s0 M hb buf N (N % 64) (64 - N % 64) b off n cap rfl (by omega) (by omega) (by omega) hnc hN hbb hkb w hblt hw hbuf hm hK).mono fun e w' ⟨h1, h2, h3⟩ => ⟨h1, h2, h3⟩
end Go.Proofs.YtpojalbpekbfdabDoor.Sh
/- 'Sum': what a Hash answers. -/
namespace Go.Proofs.YtpojalbpekbfdabDoor.Sh
open Go Go.RowKit

theorem schedW_congr (m m' : Nat → BitVec 8) (h : ∀ i, i < 64 → m i = m' i) : ∀ t, t < 64 → schedW m t = schedW m' t := by
  intro t
  induction t using Nat.strongRecOn with
  | _ t ih =>
    intro ht
    by_cases h1 : t < 16
    · rw [(schedW_ok m).first t h1, (schedW_ok m').first t h1, h _ (by omega), h _ (by omega), h _ (by omega), h _ (by omega)]
    · rw [(schedW_ok m).later t (by omega) ht, (schedW_ok m').later t (by omega) ht, ih (t - 2) (by omega) (by omega), ih (t - 7) (by omega) (by omega), ih (t - 15) (by omega) (by omega), ih (t - 16) (by omega) (by omega)]
theorem rounds_congr (K W W' : Nat → BitVec 32) (s : St) : ∀ n, (∀ t, t < n → W t = W' t) → rounds K W s n = rounds K W' s n
  | 0, _ => rfl
  | n + 1, h => by rw [rounds, rounds, rounds_congr K W W' s n (fun t ht => h t (by omega)), h n (by omega)]
theorem compress_congr (K : Nat → BitVec 32) (s : St) (m m' : Nat → BitVec 8) (h : ∀ i, i < 64 → m i = m' i) : compress K s m = compress K s m' := by
  rw [compress, compress, rounds_congr K _ _ s 64 (schedW_congr m m' h)]
theorem blocks_congr (K : Nat → BitVec 32) (s0 : St) (M M' : Nat → BitVec 8) : ∀ k, (∀ i, i < 64 * k → M i = M' i) → blocks K s0 M k = blocks K s0 M' k
  | 0, _ => rfl
  | k + 1, h => by rw [blocks, blocks, blocks_congr K s0 M M' k (fun i hi => h i (by omega)), compress_congr K _ _ _ (fun i hi => h (64 * k + i) (by omega))]

/-- How many blocks N bytes take, with what is laid behind them. -/
def nblk (N : Nat) : Nat := (N + 8) / 64 + 1
/-- Byte j of the number of bits. -/
def lenByte (N j : Nat) : BitVec 8 := (BitVec.ofNat 64 (8 * N) >>> (56 - 8 * j)).setWidth 8
/-- The message with what is laid behind it. -/
def padM (M : Nat → BitVec 8) (N i : Nat) : BitVec 8 := if i < N then M i else if i = N then 128 else if i < 64 * nblk N - 8 then 0 else lenByte N (i - (64 * nblk N - 8))
/-- The state behind the whole message. -/
def sumSt (K : Nat → BitVec 32) (s0 : St) (M : Nat → BitVec 8) (N : Nat) : St := blocks K s0 (padM M N) (nblk N)

def z32 : Array Value := (List.replicate 32 (Value.int .u8 0)).toArray
def z128 : Array Value := (List.replicate 128 (Value.int .u8 0)).toArray
theorem z32_size : z32.size = 32 := by simp [z32]
theorem z128_size : z128.size = 128 := by simp [z128]
theorem zero_32 (w : World) : (zeroValue 25).run Tryd.prog w = .ok (.agg z32) w := by kernel_rfl
theorem zero_128 (w : World) : (zeroValue 114).run Tryd.prog w = .ok (.agg z128) w := by kernel_rfl
theorem z32_one : z32.all (·.oneCell') = true := all_oneCell_toArray (fun v hv => by rw [(List.mem_replicate.1 hv).2]; rfl)
set_option maxHeartbeats 400000 in
theorem sum_nil (w : World) : Calls Tryd.prog 64 #[.pointer none] w fun e w' => e = .returned (.agg z32) ∧ Below w.heap.size w w' := by
  have hz := zero_32
  have HT : Hid ((w.alloc (.cells z32 25)).there w.heap.size 0 z32.size) := there_of_row (heap_alloc_new _ _) 0 _ (by omega)
  go_enter Tryd.func64, Tryd.ntmps64
  go_wp2_with (refine wpList_store_mid rfl 25 _ _ rfl w.heap.size 0 z32 rfl rfl HT.out (by rw [z32_size]; kernel_rfl) (by exact z32_one) ?_)
  refine bodyPost_ret (v := .agg z32) ?_ rfl ⟨rfl, ?_⟩
  · exact results_mid Tryd.results64 _ _ w.heap.size 0 z32.toList _ rfl (World.rangeAt_setCells_same _ _ _ _ HT.out) Tryd.underlying25 rfl (by rw [Array.length_toList, z32_size]; kernel_rfl)
  · exact below_setCells _ (Nat.le_refl _) _ _ _ ((Below.refl _ _).alloc (Nat.le_refl _) _)
set_option maxHeartbeats 400000 in
/-- A row of n bytes. -/
def brow (n : Nat) (f : Nat → BitVec 8) : Array Value := ((List.range n).map fun i => B (f i)).toArray
theorem brow_size (n : Nat) (f : Nat → BitVec 8) : (brow n f).size = n := by simp [brow]
theorem brow_get (n : Nat) (f : Nat → BitVec 8) (i : Nat) : (brow n f)[i]? = if i < n then some (B (f i)) else none := by
  rw [brow, List.getElem?_toArray, List.getElem?_map]
  by_cases h : i < n
  · rw [List.getElem?_range h, if_pos h]; rfl
  · rw [if_neg h, List.getElem?_eq_none (by simpa using h)]; rfl
theorem brow_splice (k : Nat) (f : Nat → BitVec 8) (r n : Nat) (c : Nat → BitVec 8) (hn : r + n ≤ k) :
    ((brow k f).toList.take r ++ (((List.range n).map fun i => B (c i)) ++ (brow k f).toList.drop (r + ((List.range n).map fun i => B (c i)).length))).toArray = brow k (bput f r n c) := by
  apply Array.ext_getElem?
  intro i
  have hs : (brow k f).toList.length = k := by rw [Array.length_toList, brow_size]
  have hc : (((List.range n).map fun i => B (c i))).length = n := by simp
  rw [hc, List.getElem?_toArray, brow_get]
  by_cases h1 : i < r
  · have hne : ¬ (r ≤ i ∧ i < r + n) := by omega
    rw [List.getElem?_append_left (by rw [List.length_take, hs]; omega), List.getElem?_take, if_pos h1, Array.getElem?_toList, brow_get, bput, if_neg hne]
  · rw [List.getElem?_append_right (by rw [List.length_take, hs]; omega), List.length_take, hs, show min r k = r by omega]
    by_cases h2 : i < r + n
    · rw [List.getElem?_append_left (by rw [hc]; omega), List.getElem?_map, List.getElem?_range (by omega), if_pos (by omega), bput, if_pos ⟨by omega, h2⟩]; rfl
    · have hne : ¬ (r ≤ i ∧ i < r + n) := by omega
      rw [List.getElem?_append_right (by rw [hc]; omega), hc, List.getElem?_drop, show r + n + (i - r - n) = i by omega, Array.getElem?_toList, brow_get, bput, if_neg hne]
theorem z128_brow : z128 = brow 128 (fun _ => 0) := by
  apply Array.ext_getElem?
  intro i
  rw [brow_get, z128, List.getElem?_toArray, List.getElem?_replicate]
  rfl

theorem hi_byte (x : BitVec 64) (k : Nat) (hk : k ≤ 24) : (((x >>> 32).setWidth 32) >>> k).setWidth 8 = (x >>> (32 + k)).setWidth 8 := by
  apply BitVec.eq_of_getLsbD_eq
  intro i hi
  simp only [BitVec.getLsbD_setWidth, BitVec.getLsbD_ushiftRight]
  have h1 : k + i < 32 := by omega
  simp [hi, h1, Nat.add_assoc]
theorem lo_byte (x : BitVec 64) (k : Nat) (hk : k ≤ 24) : ((x.setWidth 32) >>> k).setWidth 8 = (x >>> k).setWidth 8 := by
  apply BitVec.eq_of_getLsbD_eq
  intro i hi
  simp only [BitVec.getLsbD_setWidth, BitVec.getLsbD_ushiftRight]
  have h1 : k + i < 32 := by omega
  simp [hi, h1]
theorem bytes8_get (x : BitVec 64) (j : Nat) (h : j < 8) : (bytes8 x)[j]? = some (B ((x >>> (56 - 8 * j)).setWidth 8)) := by
  have e0 : ∀ y : BitVec 32, y.setWidth 8 = (y >>> 0).setWidth 8 := fun y => by simp
  match j, h with
  | 0, _ => exact congrArg (fun y => some (B y)) (hi_byte x 24 (by omega))
  | 1, _ => exact congrArg (fun y => some (B y)) (hi_byte x 16 (by omega))
  | 2, _ => exact congrArg (fun y => some (B y)) (hi_byte x 8 (by omega))
  | 3, _ => exact congrArg (fun y => some (B y)) ((e0 _).trans (hi_byte x 0 (by omega)))
  | 4, _ => exact congrArg (fun y => some (B y)) (lo_byte x 24 (by omega))
  | 5, _ => exact congrArg (fun y => some (B y)) (lo_byte x 16 (by omega))
  | 6, _ => exact congrArg (fun y => some (B y)) (lo_byte x 8 (by omega))
  | 7, _ => exact congrArg (fun y => some (B y)) ((e0 _).trans (lo_byte x 0 (by omega)))
/-- The last block or two: what waits, 128, noughts, the number of bits. -/
def last1 (buf : Nat → BitVec 8) (r i : Nat) : BitVec 8 := if i = r then 128 else bput (fun _ => 0) 0 r buf i
def lastF (buf : Nat → BitVec 8) (N r e : Nat) : Nat → BitVec 8 := bput (last1 buf r) (e - 8) 8 (lenByte N)
/-- What 'Sum' holds while the last blocks are laid. -/
structure SRow (w W : World) (f : Nat → BitVec 8) : Prop where
  below : Below w.heap.size w W
  last : W.heap[w.heap.size + 1]? = some (.cells (brow 128 f) 114 (0, 0))
  res : W.heap[w.heap.size]? = some (.cells z32 25 (0, 0))
  size : w.heap.size + 2 ≤ W.heap.size
theorem SRow.cell {w W : World} {f : Nat → BitVec 8} (h : SRow w W f) (i : Nat) (hi : i < 128) : W.cell? ⟨w.heap.size + 1, i, none⟩ = some (B (f i)) := by
  rw [cell_of_row W _ i _ _ _ h.last, brow_get, if_pos hi]
theorem SRow.froz {w W : World} {f : Nat → BitVec 8} (h : SRow w W f) (i : Nat) : W.frozen? ⟨w.heap.size + 1, i, none⟩ = false := frozen_of_row _ _ _ _ _ h.last
theorem SRow.set {w W : World} {f f' : Nat → BitVec 8} (h : SRow w W f) (o : Nat) (vs : List Value) (hn : o + vs.length ≤ 128) (hf : ∀ i, i < 128 → some (B (f' i)) = if o ≤ i ∧ i < o + vs.length then vs[i - o]? else some (B (f i))) :
    SRow w (W.setCells (w.heap.size + 1) o vs) f' := by
  refine ⟨below_setCells _ (by omega) _ _ _ h.below, ?_, ?_, ?_⟩
  · refine heap_setCells h.last o vs (by rw [brow_size]; exact hn) (fun i => ?_)
    rw [brow_get, brow_get]
    by_cases h1 : i < 128
    · rw [if_pos h1, if_pos h1]; exact hf i h1
    · rw [if_neg h1, if_neg h1]
      have hne : ¬ (o ≤ i ∧ i < o + vs.length) := by omega
      rw [if_neg hne]
  · have hh := (below_setCells (B0 := w.heap.size + 1) (a := W) (w.heap.size + 1) (Nat.le_refl _) vs o W (Below.refl _ _)).block w.heap.size (by omega)
    rw [hh]; exact h.res
  · have hh := (below_setCells (B0 := 0) (a := W) (w.heap.size + 1) (Nat.zero_le _) vs o W (Below.refl _ _)).size
    exact Nat.le_trans h.size hh
theorem SRow.put1 {w W : World} {buf : Nat → BitVec 8} {r : Nat} (h : SRow w W (bput (fun _ => 0) 0 r buf)) (hr : r < 64) : SRow w (W.setCell ⟨w.heap.size + 1, r, none⟩ (.int .u8 128)) (last1 buf r) :=
  h.set r [B 128] (by simp; omega) (fun i hi => by
    simp only [List.length_singleton, last1]
    by_cases e : i = r
    · subst e; rw [if_pos rfl, if_pos (by omega)]; simp
    · rw [if_neg e]
      have hne : ¬ (r ≤ i ∧ i < r + 1) := by omega
      rw [if_neg hne])
theorem SRow.put8 {w W : World} {buf : Nat → BitVec 8} {N r e : Nat} (h : SRow w W (last1 buf r)) (he2 : 8 ≤ e ∧ e ≤ 128) : SRow w (W.setCells (w.heap.size + 1) (e - 8) (bytes8 (BitVec.ofNat 64 (8 * N)))) (lastF buf N r e) :=
  h.set (e - 8) _ (by simp [bytes8, bytes4]; omega) (fun i hi => by
    have hl : (bytes8 (BitVec.ofNat 64 (8 * N))).length = 8 := rfl
    rw [hl, lastF, bput]
    by_cases h1 : e - 8 ≤ i ∧ i < e - 8 + 8
    · rw [if_pos h1, if_pos h1, bytes8_get _ _ (by omega)]; rfl
    · rw [if_neg h1, if_neg h1])

theorem SRow.below' {w W W' : World} {f : Nat → BitVec 8} (h : SRow w W f) (hb : Below W.heap.size W W') : SRow w W' f := by
  have h1 := h.size
  refine ⟨h.below.trans (hb.mono (by omega)), ?_, ?_, Nat.le_trans h.size hb.size⟩
  · rw [hb.block _ (by omega)]; exact h.last
  · rw [hb.block _ (by omega)]; exact h.res
/-- What 'Sum' holds behind a mixing: a state p in block q. -/
structure PRel (w W : World) (f : Nat → BitVec 8) (q : Nat) (p : St) : Prop where
  srow : SRow w W f
  pos : w.heap.size + 2 ≤ q
  row : W.heap[q]? = some (.cells p.row 89 (0, 0))
def zeros8 : Array Value := (List.replicate 8 (Value.int .u32 0)).toArray
theorem PRel.a {w w4 w5 : World} {f : Nat → BitVec 8} (h : SRow w w4 f) (hb : Below w4.drew.heap.size w4.drew w5) (p : St) : PRel w (w5.alloc (.cells p.row 89)) f w5.heap.size p := by
  have h4 : SRow w w4.drew f := ⟨h.below.drew, h.last, h.res, h.size⟩
  have h5 := h4.below' hb
  exact ⟨h5.below' ((Below.refl _ _).alloc (Nat.le_refl _) _), h5.size, heap_alloc_new _ _⟩
theorem newblk {w4 w5 : World} {Z : Obj} (hb : Below (w4.alloc Z).drew.heap.size (w4.alloc Z).drew w5) : w5.heap[w4.heap.size]? = some Z := by
  have hs : (w4.alloc Z).drew.heap.size = w4.heap.size + 1 := by
    show (w4.alloc Z).heap.size = _
    simp
  rw [hb.block w4.heap.size (by rw [hs]; omega)]
  exact heap_alloc_new _ _
theorem row_setCells {W : World} {q : Nat} {cs : Array Value} (hq : W.heap[q]? = some (.cells cs 89 (0, 0))) (hs : cs.size = 8) (p : St) : (W.setCells q 0 p.row.toList).heap[q]? = some (.cells p.row 89 (0, 0)) := by
  refine heap_setCells hq 0 _ (by rw [hs]; simp [St.row]) (fun i => ?_)
  have hl : p.row.toList.length = 8 := rfl
  rw [hl, Array.getElem?_toList]
  by_cases h1 : i < 8
  · rw [if_pos (by omega)]; rfl
  · have hne : ¬ (0 ≤ i ∧ i < 0 + 8) := by omega
    rw [if_neg hne, Array.getElem?_eq_none (by simp [St.row]; omega), Array.getElem?_eq_none (by omega)]
theorem SRow.setAbove {w W : World} {f : Nat → BitVec 8} (h : SRow w W f) (q o : Nat) (hq : w.heap.size + 2 ≤ q) (vs : List Value) : SRow w (W.setCells q o vs) f := by
  have hh := below_setCells (B0 := w.heap.size + 2) (a := W) q hq vs o W (Below.refl _ _)
  refine ⟨h.below.trans (hh.mono (by omega)), ?_, ?_, Nat.le_trans h.size hh.size⟩
  · rw [hh.block _ (by omega)]; exact h.last
  · rw [hh.block _ (by omega)]; exact h.res
theorem PRel.b {w w4 w5 : World} {f : Nat → BitVec 8} (h : SRow w w4 f) (hb : Below (w4.alloc (.cells zeros8 89)).drew.heap.size (w4.alloc (.cells zeros8 89)).drew w5) (p : St) :
    PRel w (w5.setCells w4.heap.size 0 p.row.toList) f w4.heap.size p := by
  have h4 : SRow w (w4.alloc (.cells zeros8 89)).drew f := by
    have := h.below' ((Below.refl w4.heap.size w4).alloc (Nat.le_refl _) (.cells zeros8 89))
    exact ⟨this.below.drew, this.last, this.res, this.size⟩
  have h5 := h4.below' hb
  exact ⟨h5.setAbove _ _ h.size _, h.size, row_setCells (newblk hb) rfl p⟩
theorem PRel.after {w W W' : World} {f : Nat → BitVec 8} {q : Nat} {p : St} (h : PRel w W f q p) (hb : Below W.drew.heap.size W.drew W') : PRel w W' f q p := by
  have h4 : SRow w W.drew f := ⟨h.srow.below.drew, h.srow.last, h.srow.res, h.srow.size⟩
  exact ⟨h4.below' hb, h.pos, by rw [hb.block q (Array.getElem?_eq_some_iff.1 h.row).1]; exact h.row⟩
theorem PRel.put {w W : World} {f : Nat → BitVec 8} {q : Nat} {p : St} (h : PRel w W f q p) (t : St) : PRel w (W.setCells q 0 t.row.toList) f q t :=
  ⟨h.srow.setAbove _ _ h.pos _, h.pos, row_setCells h.row rfl t⟩
end Go.Proofs.YtpojalbpekbfdabDoor.Sh
/- 'Sum' where there is room for the number of bits in the block that was begun. -/
namespace Go.Proofs.YtpojalbpekbfdabDoor.Sh
open Go Go.RowKit

set_option maxRecDepth 100000 in
set_option maxHeartbeats 1000000 in
theorem sum_one (K : Nat → BitVec 32) (s : St) (buf : Nat → BitVec 8) (hb N r : Nat) (hr : N % 64 = r) (h56 : r < 56) (hN : N < 1152921504606846976) (w : World) (hw : HRow w hb s buf N)
    (hK : ∀ i, i < 64 → w.cell? ⟨2, i, none⟩ = some (U (K i))) :
    Calls Tryd.prog 64 #[.pointer (some ⟨hb, 0, none⟩)] w fun e w' => e = .returned (.agg (srow (compress K s (lastF buf N r 64)))) ∧ Below w.heap.size w w' := by
  have hlt := hw.lt
  have HW : Hid (HRow w hb s buf N) := hw
  have HK : Hid (∀ i, i < 64 → w.cell? ⟨2, i, none⟩ = some (U (K i))) := hK
  have HR : Hid (N % 64 = r) := hr
  have hc := hw.len
  clear hw hK hr
  have g1 : (N : Int) < 1152921504606846976 := by omega
  have hz := zero_32
  have hz1 := zero_128
  have hr64 : r < 64 := by have := HR.out; omega
  have g2 : (r : Int) < 64 := by omega
  have sl0 := fun w1 => sliceAt_all w1 114 5 128 (w.heap.size + 1) 0 Tryd.underlying114 size_u8
  have sl1 := fun w1 => sliceAt_h w1 90 5 64 hb 8 (r : Int) r rfl Tryd.underlying90 size_u8 (by omega)
  have HB0 : Hid (Below w.heap.size w ((w.alloc (.cells z32 25)).alloc (.cells z128 114))) := ((Below.refl _ _).alloc (Nat.le_refl _) _).alloc (by simp) _
  have HRW : Hid (((w.alloc (.cells z32 25)).alloc (.cells z128 114)).heap[w.heap.size + 1]? = some (.cells (brow 128 (fun _ => 0)) 114 (0, 0))) := by
    have := heap_alloc2_new w (.cells z32 25) (.cells z128 114)
    rw [← z128_brow]; exact this
  have HS : Hid (∀ j v, ((List.range r).map fun i => B (buf i))[j]? = some v → ((w.alloc (.cells z32 25)).alloc (.cells z128 114)).cell? ((⟨hb, 8, none⟩ : Addr).add j) = some v) :=
    src_cells (n := r) (fun i hi => by rw [HB0.out.cell (p := ⟨hb, 8 + i, none⟩) hlt]; exact HW.out.bf i (by omega)) r (Nat.le_refl _)
  have HF : Hid (0 + ((List.range r).map fun i => B (buf i)).length ≤ (brow 128 (fun _ => 0)).size) := by
    show 0 + ((List.range r).map fun i => B (buf i)).length ≤ (brow 128 (fun _ => 0)).size
    rw [brow_size, List.length_map, List.length_range]; omega
  have HC : Hid (((w.alloc (.cells z32 25)).alloc (.cells z128 114)).cell? ⟨hb, 72, none⟩ = some (.int .u64 (N : Int))) := (HB0.out.cell (p := ⟨hb, 72, none⟩) hlt).trans hc
  have HN1 : Hid ((N : Int) < 4611686018427387904) := by show (N : Int) < 4611686018427387904; omega
  have HLE : Hid (((List.range r).map fun i => B (buf i)).length = Nat.min r 128) := by
    show _ = min r 128
    simp; omega
  go_enter Tryd.func64, Tryd.ntmps64
  go_wp2_with fail
  go_region_held3 (fun _ => True) (trivial) (first | (go_at_call 77; refine (held_at hb N r HR.out HN1.out _ ?_).mono ?_; exact HC.out; rintro e w' ⟨rfl, rfl⟩) | (refine step_copyL rfl (.tmp 10) (.tmp 16) 51 51 rfl 5 Tryd.underlying51 size_u8 (w.heap.size + 1) 0 128 128 ⟨hb, 8, none⟩ r 64 ?_ ?_ (brow 128 (fun _ => 0)) 114 ?_ ((List.range r).map fun i => B (buf i)) HLE.out ?_ HF.out (bytes_one r _) ?_; rfl; rfl; exact HRW.out; exact HS.out; intro w2 hg2 hz2 hr2))
  have HSR2 : Hid (SRow w w2 (bput (fun _ => 0) 0 r buf)) := by
    have h0 : Below w.heap.size w ((w.alloc (.cells z32 25)).alloc (.cells z128 114)).drew := HB0.out.drew
    refine ⟨h0.grown hg2 (by simp; omega) (fun k hk => by cases hk; omega), ?_, ?_, ?_⟩
    · rw [brow_splice 128 (fun _ => 0) 0 r buf (by omega)] at hr2; exact hr2
    · rw [hg2.block w.heap.size (by simp; omega) (by simp)]; exact heap_alloc2_old w (.cells z32 25) (.cells z128 114)
    · rw [hz2]; simp
  clear hr2 hg2 hz2 HRW HS HF HLE HC sl0 sl1
  have k1 := HSR2.out.cell r (by omega)
  have k2 := HSR2.out.froz r
  have g3 : (r : Int) < 128 := by omega
  have g4 : decide ((56 : Int) ≤ (r : Int)) = false := by simp; omega
  go_wp2_with fail
  generalize hW3 : w2.setCell ⟨w.heap.size + 1, r, none⟩ (.int .u8 128) = w3
  have HS3 : Hid (SRow w w3 (last1 buf r)) := by rw [← hW3]; exact HSR2.out.put1 hr64
  clear hW3 k1 k2
  have HX : Hid ((N : Int) * 8 = ul (BitVec.ofNat 64 (8 * N))) := by
    show (N : Int) * 8 = ((BitVec.ofNat 64 (8 * N)).toNat : Int)
    rw [BitVec.toNat_ofNat]; omega
  have HX2 : Hid (IntKind.u64.wrap ((N : Int) * 8) = ul (BitVec.ofNat 64 (8 * N))) := by
    show IntKind.u64.wrap ((N : Int) * 8) = _
    rw [← HX.out, IntKind.wrap_u64]; omega
  have wr8 : IntKind.i64.wrap 56 = 56 := by decide
  have c72 : w3.cell? ⟨hb, 72, none⟩ = some (.int .u64 (N : Int)) := (HS3.out.below.cell (p := ⟨hb, 72, none⟩) hlt).trans hc
  have sl2 : ∀ w1 : World, (Instr.sliceAt 114 (.pointer (some ⟨w.heap.size + 1, 0, none⟩)) (some (.int .i64 56)) (some (.int .i64 64)) none).run Tryd.prog w1 = .ok (.slice (some ⟨w.heap.size + 1, 56, none⟩) 8 72) w1 :=
    fun w1 => sliceAt_lh w1 114 5 128 (w.heap.size + 1) 0 56 64 56 64 rfl rfl Tryd.underlying114 size_u8 (by omega) (by omega) (by omega)
  have HTH : Hid (w3.there (w.heap.size + 1) 56 8) := there_of_row HS3.out.last 56 8 (by rw [brow_size]; omega)
  go_region_with (go_at_call 79; rw [HX2.out]; refine (putWord64_any (w.heap.size + 1) 56 _ (by omega) (BitVec.ofNat 64 (8 * N)) _ ?_).mono ?_; exact HTH.out; rintro e w4 ⟨rfl, hw4⟩)
  have HS4 : Hid (SRow w w4 (lastF buf N r 64)) := by
    rw [← hw4]
    have h3 : SRow w w3.drew (last1 buf r) := ⟨HS3.out.below.drew, HS3.out.last, HS3.out.res, HS3.out.size⟩
    exact h3.put8 (e := 64) (by omega)
  clear hw4 c72
  obtain ⟨p, hp⟩ : ∃ p, compress K s (lastF buf N r 64) = p := ⟨_, rfl⟩
  have hst := HW.out.st
  obtain ⟨sa, sb, sc, sd, se, sf, sg, sh⟩ := s
  obtain ⟨pa, pb, pc, pd, pe, pf, pg, ph⟩ := p
  have HP : Hid (compress K ⟨sa, sb, sc, sd, se, sf, sg, sh⟩ (lastF buf N r 64) = ⟨pa, pb, pc, pd, pe, pf, pg, ph⟩) := hp
  clear hp
  have c0 : w4.cell? ⟨hb, 0, none⟩ = some (U sa) := (HS4.out.below.cell (p := ⟨hb, 0, none⟩) hlt).trans (hst 0 (by omega))
  have c1 : w4.cell? ⟨hb, 1, none⟩ = some (U sb) := (HS4.out.below.cell (p := ⟨hb, 1, none⟩) hlt).trans (hst 1 (by omega))
  have c2 : w4.cell? ⟨hb, 2, none⟩ = some (U sc) := (HS4.out.below.cell (p := ⟨hb, 2, none⟩) hlt).trans (hst 2 (by omega))
  have c3 : w4.cell? ⟨hb, 3, none⟩ = some (U sd) := (HS4.out.below.cell (p := ⟨hb, 3, none⟩) hlt).trans (hst 3 (by omega))
  have c4 : w4.cell? ⟨hb, 4, none⟩ = some (U se) := (HS4.out.below.cell (p := ⟨hb, 4, none⟩) hlt).trans (hst 4 (by omega))
  have c5 : w4.cell? ⟨hb, 5, none⟩ = some (U sf) := (HS4.out.below.cell (p := ⟨hb, 5, none⟩) hlt).trans (hst 5 (by omega))
  have c6 : w4.cell? ⟨hb, 6, none⟩ = some (U sg) := (HS4.out.below.cell (p := ⟨hb, 6, none⟩) hlt).trans (hst 6 (by omega))
  have c7 : w4.cell? ⟨hb, 7, none⟩ = some (U sh) := (HS4.out.below.cell (p := ⟨hb, 7, none⟩) hlt).trans (hst 7 (by omega))
  clear hst
  have hklt : 2 < w.heap.size := block_lt_of_cell (HK.out 0 (by omega))
  have HMM : Hid (∀ i, i < 64 → w4.cell? ⟨w.heap.size + 1, 0 + i, none⟩ = some (B (lastF buf N r 64 i))) := fun i hi => by rw [Nat.zero_add]; exact HS4.out.cell i (by omega)
  have HKK : Hid (∀ i, i < 64 → w4.cell? ⟨2, i, none⟩ = some (U (K i))) := fun i hi => (HS4.out.below.cell (p := ⟨2, i, none⟩) hklt).trans (HK.out i hi)
  have sl3 : ∀ w1 : World, (Instr.sliceAt 114 (.pointer (some ⟨w.heap.size + 1, 0, none⟩)) none (some (.int .i64 64)) none).run Tryd.prog w1 = .ok (.slice (some ⟨w.heap.size + 1, 0, none⟩) 64 128) w1 :=
    fun w1 => sliceAt_h w1 114 5 128 (w.heap.size + 1) 0 64 64 rfl Tryd.underlying114 size_u8 (by omega)
  have HMM2 : Hid (∀ o : Obj, ∀ i, i < 64 → (w4.alloc o).cell? ⟨w.heap.size + 1, 0 + i, none⟩ = some (B (lastF buf N r 64 i))) := fun o i hi => by
    rw [((Below.refl w4.heap.size w4).alloc (Nat.le_refl _) o).cell (p := ⟨w.heap.size + 1, 0 + i, none⟩) (by have := HS4.out.size; show w.heap.size + 1 < _; omega)]; exact HMM.out i hi
  have HKK2 : Hid (∀ o : Obj, ∀ i, i < 64 → (w4.alloc o).cell? ⟨2, i, none⟩ = some (U (K i))) := fun o i hi => by
    rw [((Below.refl w4.heap.size w4).alloc (Nat.le_refl _) o).cell (p := ⟨2, i, none⟩) (by have := HS4.out.size; show 2 < _; omega)]; exact HKK.out i hi
  have hsz4 : w.heap.size + 2 ≤ w4.heap.size := HS4.out.size
  have hb4 : hb < w4.heap.size := by omega
  go_wp2_with fail
  go_cut [6] from 32 to 37 (fun s6 wx => ∃ q, s6 = .pointer (some ⟨q, 0, none⟩) ∧ PRel w wx (lastF buf N r 64) q ⟨pa, pb, pc, pd, pe, pf, pg, ph⟩)
  case first =>
    go_region_with (go_at_call 78; refine (mix_at K (lastF buf N r 64) sa sb sc sd se sf sg sh pa pb pc pd pe pf pg ph HP.out (w.heap.size + 1) 0 64 _ (Nat.le_refl _) (by omega) _ ?_ ?_).mono ?_; (first | exact HMM.out | exact HMM2.out _); (first | exact HKK.out | exact HKK2.out _); rintro e w5 ⟨rfl, hb5⟩; (first | (have hq := newblk hb5; have q0 := cell_of_row _ _ 0 _ _ _ hq; have q1 := cell_of_row _ _ 1 _ _ _ hq; have q2 := cell_of_row _ _ 2 _ _ _ hq; have q3 := cell_of_row _ _ 3 _ _ _ hq; have q4 := cell_of_row _ _ 4 _ _ _ hq; have q5 := cell_of_row _ _ 5 _ _ _ hq; have q6 := cell_of_row _ _ 6 _ _ _ hq; have q7 := cell_of_row _ _ 7 _ _ _ hq; have qf := frozen_of_row _ _ 0 _ _ hq; have qf1 := frozen_of_row _ _ 1 _ _ hq; have qf2 := frozen_of_row _ _ 2 _ _ hq; have qf3 := frozen_of_row _ _ 3 _ _ hq; have qf4 := frozen_of_row _ _ 4 _ _ hq; have qf5 := frozen_of_row _ _ 5 _ _ hq; have qf6 := frozen_of_row _ _ 6 _ _ hq; have qf7 := frozen_of_row _ _ 7 _ _ hq; clear hq) | skip); have HB5 := hb5; clear hb5)
    all_goals (go_wp2_with fail; go_meet; first | exact ⟨_, rfl, PRel.a HS4.out HB5 ⟨pa, pb, pc, pd, pe, pf, pg, ph⟩⟩ | exact ⟨_, rfl, PRel.b HS4.out HB5 ⟨pa, pb, pc, pd, pe, pf, pg, ph⟩⟩)
  case rest =>
    obtain ⟨q, rfl, hpr⟩ := hcut
    clear c0 c1 c2 c3 c4 c5 c6 c7 sl3 hb4
    have e0 : wc.cell? ⟨q, 0, none⟩ = some (U pa) := cell_of_row _ _ 0 _ _ _ hpr.row
    have e1 : wc.cell? ⟨q, 1, none⟩ = some (U pb) := cell_of_row _ _ 1 _ _ _ hpr.row
    have e2 : wc.cell? ⟨q, 2, none⟩ = some (U pc) := cell_of_row _ _ 2 _ _ _ hpr.row
    have e3 : wc.cell? ⟨q, 3, none⟩ = some (U pd) := cell_of_row _ _ 3 _ _ _ hpr.row
    have e4 : wc.cell? ⟨q, 4, none⟩ = some (U pe) := cell_of_row _ _ 4 _ _ _ hpr.row
    have e5 : wc.cell? ⟨q, 5, none⟩ = some (U pf) := cell_of_row _ _ 5 _ _ _ hpr.row
    have e6 : wc.cell? ⟨q, 6, none⟩ = some (U pg) := cell_of_row _ _ 6 _ _ _ hpr.row
    have e7 : wc.cell? ⟨q, 7, none⟩ = some (U ph) := cell_of_row _ _ 7 _ _ _ hpr.row
    have HPR : Hid (SRow w wc _) := hpr.srow
    clear hpr
    go_wp2_with fail
    refine (bytes256_any ⟨pa, pb, pc, pd, pe, pf, pg, ph⟩ _).mono ?_
    rintro e w6 ⟨rfl, hb6⟩
    have HS6 : Hid (SRow w w6 _) := HPR.out.below' hb6
    have HT6 : Hid (w6.there w.heap.size 0 (srow ⟨pa, pb, pc, pd, pe, pf, pg, ph⟩).size) := by rw [srow_size]; exact there_of_row HS6.out.res 0 32 (by rw [z32_size]; omega)
    clear hb6 e0 e1 e2 e3 e4 e5 e6 e7
    go_wp2_with (refine wpList_store_mid rfl 25 _ _ rfl w.heap.size 0 (srow ⟨pa, pb, pc, pd, pe, pf, pg, ph⟩) rfl rfl HT6.out (by rw [srow_size]; kernel_rfl) (by exact srow_one _) ?_)
    rw [HP.out]
    refine bodyPost_ret (v := .agg (srow ⟨pa, pb, pc, pd, pe, pf, pg, ph⟩)) ?_ rfl ⟨rfl, ?_⟩
    · exact results_mid Tryd.results64 _ _ w.heap.size 0 (srow ⟨pa, pb, pc, pd, pe, pf, pg, ph⟩).toList _ rfl (World.rangeAt_setCells_same _ _ _ _ HT6.out) Tryd.underlying25 rfl (by rw [Array.length_toList, srow_size]; kernel_rfl)
    · exact below_setCells _ (Nat.le_refl _) _ _ _ HS6.out.below
end Go.Proofs.YtpojalbpekbfdabDoor.Sh
