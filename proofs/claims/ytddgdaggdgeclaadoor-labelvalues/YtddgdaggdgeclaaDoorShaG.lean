/- A Hash that takes bytes: 'Write'. -/
import Derived.Test.YtddgdaggdgeclaaDoorShaF
import Derived.Deep.RegionWith
namespace Go.Proofs.YtddgdaggdgeclaaDoor.Sh
open Go Go.RowKit

/-- The schedule of a block. -/
def schedW (m : Nat → BitVec 8) (t : Nat) : BitVec 32 :=
  if _h : t < 16 then word (m (4 * t)) (m (4 * t + 1)) (m (4 * t + 2)) (m (4 * t + 3))
  else lo1 (schedW m (t - 2)) + schedW m (t - 7) + lo0 (schedW m (t - 15)) + schedW m (t - 16)
theorem schedW_ok (m : Nat → BitVec 8) : Sched m (schedW m) where
  first t h := by rw [schedW, dif_pos h]
  later t h _ := by rw [schedW, dif_neg (by omega)]
/-- One block taken into a state. -/
def compress (K : Nat → BitVec 32) (s : St) (m : Nat → BitVec 8) : St := plus s (rounds K (schedW m) s 64)
/-- The state behind k whole blocks of M. -/
def blocks (K : Nat → BitVec 32) (s0 : St) (M : Nat → BitVec 8) : Nat → St
  | 0 => s0
  | k + 1 => compress K (blocks K s0 M k) (fun i => M (64 * k + i))

theorem hrow_get (s : St) (buf : Nat → BitVec 8) (N i : Nat) : (hrow s buf N)[i]? = if i < 8 then some (U (s.at i)) else if i < 72 then some (B (buf (i - 8))) else if i = 72 then some (.int .u64 (N : Int)) else none := by
  rw [hrow, List.getElem?_toArray]
  by_cases h1 : i < 8
  · rw [if_pos h1, List.append_assoc, List.getElem?_append_left (by simpa [St.row] using h1)]
    match i, h1 with
    | 0, _ => rfl
    | 1, _ => rfl
    | 2, _ => rfl
    | 3, _ => rfl
    | 4, _ => rfl
    | 5, _ => rfl
    | 6, _ => rfl
    | 7, _ => rfl
  · rw [if_neg h1]
    by_cases h2 : i < 72
    · rw [if_pos h2, List.getElem?_append_left (by simp [St.row]; omega), List.getElem?_append_right (by simp [St.row]; omega)]
      have : i - s.row.toList.length = i - 8 := by simp [St.row]
      rw [this, List.getElem?_map, List.getElem?_range (by omega)]
      rfl
    · rw [if_neg h2]
      by_cases h3 : i = 72
      · subst h3
        rw [if_pos rfl, List.getElem?_append_right (by simp [St.row])]
        simp [St.row]
      · rw [if_neg h3, List.getElem?_eq_none (by simp [St.row]; omega)]

/-- A Hash lies in block hb. -/
def HRow (w : World) (hb : Nat) (s : St) (buf : Nat → BitVec 8) (N : Nat) : Prop := w.heap[hb]? = some (.cells (hrow s buf N) 58 (0, 0))
theorem HRow.lt {w : World} {hb : Nat} {s : St} {buf : Nat → BitVec 8} {N : Nat} (h : HRow w hb s buf N) : hb < w.heap.size := (Array.getElem?_eq_some_iff.1 h).1
theorem HRow.st {w : World} {hb : Nat} {s : St} {buf : Nat → BitVec 8} {N : Nat} (h : HRow w hb s buf N) (i : Nat) (hi : i < 8) : w.cell? ⟨hb, i, none⟩ = some (U (s.at i)) := by
  rw [cell_of_row w hb i _ _ _ h, hrow_get, if_pos hi]
theorem HRow.bf {w : World} {hb : Nat} {s : St} {buf : Nat → BitVec 8} {N : Nat} (h : HRow w hb s buf N) (i : Nat) (hi : i < 64) : w.cell? ⟨hb, 8 + i, none⟩ = some (B (buf i)) := by
  rw [cell_of_row w hb _ _ _ _ h, hrow_get, if_neg (by omega), if_pos (by omega), show 8 + i - 8 = i by omega]
theorem HRow.len {w : World} {hb : Nat} {s : St} {buf : Nat → BitVec 8} {N : Nat} (h : HRow w hb s buf N) : w.cell? ⟨hb, 72, none⟩ = some (.int .u64 (N : Int)) := by
  rw [cell_of_row w hb _ _ _ _ h, hrow_get]; rfl
theorem HRow.froz {w : World} {hb : Nat} {s : St} {buf : Nat → BitVec 8} {N : Nat} (h : HRow w hb s buf N) (i : Nat) : w.frozen? ⟨hb, i, none⟩ = false := frozen_of_row _ _ _ _ _ h
theorem HRow.setLen {w : World} {hb : Nat} {s : St} {buf : Nat → BitVec 8} {N : Nat} (h : HRow w hb s buf N) (N' : Nat) : HRow (w.setCell ⟨hb, 72, none⟩ (.int .u64 (N' : Int))) hb s buf N' := by
  unfold HRow
  rw [heap_setCell_same _ _ _ _ _ _ h]
  refine congrArg (fun cs => some (Obj.cells cs 58 (0, 0))) ?_
  apply Array.ext_getElem?
  intro i
  rw [Array.getElem?_setIfInBounds, hrow_get, hrow_get, hrow_size]
  by_cases e : 72 = i
  · subst e; rfl
  · rw [if_neg e]
    by_cases h1 : i < 8
    · rw [if_pos h1, if_pos h1]
    · rw [if_neg h1, if_neg h1]
      by_cases h2 : i < 72
      · rw [if_pos h2, if_pos h2]
      · rw [if_neg h2, if_neg h2, if_neg (by omega), if_neg (by omega)]
theorem row_get (s : St) : ∀ i, i < 8 → s.row[i]? = some (U (s.at i))
  | 0, _ => rfl
  | 1, _ => rfl
  | 2, _ => rfl
  | 3, _ => rfl
  | 4, _ => rfl
  | 5, _ => rfl
  | 6, _ => rfl
  | 7, _ => rfl
theorem HRow.there {w : World} {hb : Nat} {s : St} {buf : Nat → BitVec 8} {N : Nat} (h : HRow w hb s buf N) (o n : Nat) (hn : o + n ≤ 73) : w.there hb o n := there_of_row h o n (by rw [hrow_size]; exact hn)
/-- A block known whole behind a row stored there. -/
theorem heap_setCells {w : World} {g : Nat} {cs cs' : Array Value} {t : TypeId} (hg : w.heap[g]? = some (.cells cs t (0, 0))) (o : Nat) (vs : List Value) (hn : o + vs.length ≤ cs.size)
    (h : ∀ i, cs'[i]? = if o ≤ i ∧ i < o + vs.length then vs[i - o]? else cs[i]?) : (w.setCells g o vs).heap[g]? = some (.cells cs' t (0, 0)) := by
  induction vs generalizing w cs o with
  | nil =>
    have : cs' = cs := Array.ext_getElem? (fun i => by
      have hne : ¬ (o ≤ i ∧ i < o + ([] : List Value).length) := by simp
      rw [h i, if_neg hne])
    rw [this]; exact hg
  | cons v r ih =>
    rw [World.setCells]
    refine ih (heap_setCell_same _ _ _ _ _ _ hg) (o + 1) (by simp at hn ⊢; omega) (fun i => ?_)
    rw [h i, Array.getElem?_setIfInBounds]
    simp only [List.length_cons] at hn ⊢
    by_cases h1 : i = o
    · subst h1
      rw [if_pos (by omega), if_neg (by omega), if_pos rfl, if_pos (by omega), Nat.sub_self]; rfl
    · by_cases h2 : o + 1 ≤ i ∧ i < o + 1 + r.length
      · rw [if_pos (by omega), if_pos h2, show i - o = (i - (o + 1)) + 1 by omega]; rfl
      · rw [if_neg (by omega), if_neg h2, if_neg (by omega)]
theorem HRow.setSt {w : World} {hb : Nat} {s : St} {buf : Nat → BitVec 8} {N : Nat} (h : HRow w hb s buf N) (s' : St) : HRow (w.setCells hb 0 s'.row.toList) hb s' buf N := by
  refine heap_setCells h 0 _ (by rw [hrow_size]; simp [St.row]) (fun i => ?_)
  have hl : s'.row.toList.length = 8 := rfl
  rw [hrow_get, hrow_get, hl]
  by_cases h1 : i < 8
  · rw [if_pos h1, if_pos (by omega), Array.getElem?_toList]
    exact (row_get s' i h1).symm
  · have hne : ¬ (0 ≤ i ∧ i < 0 + 8) := by omega
    rw [if_neg h1, if_neg hne, if_neg h1]
/-- Bytes c put into the waiting bytes from r on. -/
def bput (buf : Nat → BitVec 8) (r n : Nat) (c : Nat → BitVec 8) (i : Nat) : BitVec 8 := if r ≤ i ∧ i < r + n then c (i - r) else buf i
theorem hrow_splice (s : St) (buf : Nat → BitVec 8) (N r n : Nat) (c : Nat → BitVec 8) (hn : r + n ≤ 64) :
    ((hrow s buf N).toList.take (8 + r) ++ (((List.range n).map fun i => B (c i)) ++ (hrow s buf N).toList.drop (8 + r + ((List.range n).map fun i => B (c i)).length))).toArray = hrow s (bput buf r n c) N := by
  apply Array.ext_getElem?
  intro i
  have hs : (hrow s buf N).toList.length = 73 := by rw [Array.length_toList, hrow_size]
  have hc : (((List.range n).map fun i => B (c i))).length = n := by simp
  rw [hc, List.getElem?_toArray, hrow_get]
  by_cases h1 : i < 8 + r
  · rw [List.getElem?_append_left (by rw [List.length_take, hs]; omega), List.getElem?_take, if_pos h1, Array.getElem?_toList, hrow_get]
    by_cases h2 : i < 8
    · rw [if_pos h2, if_pos h2]
    · rw [if_neg h2, if_neg h2, if_pos (by omega), if_pos (by omega), bput, if_neg (by omega)]
  · rw [List.getElem?_append_right (by rw [List.length_take, hs]; omega), List.length_take, hs, show min (8 + r) 73 = 8 + r by omega]
    by_cases h2 : i < 8 + r + n
    · rw [List.getElem?_append_left (by rw [hc]; omega), List.getElem?_map, List.getElem?_range (by omega), if_neg (by omega), if_pos (by omega), bput, if_pos (by omega), show i - 8 - r = i - (8 + r) by omega]; rfl
    · rw [List.getElem?_append_right (by rw [hc]; omega), hc, List.getElem?_drop, show 8 + r + n + (i - (8 + r) - n) = i by omega, Array.getElem?_toList, hrow_get]
      have h8 : ¬ i < 8 := by omega
      rw [if_neg h8, if_neg h8]
      by_cases h3 : i < 72
      · rw [if_pos h3, if_pos h3, bput, if_neg (by omega)]
      · rw [if_neg h3, if_neg h3]

set_option maxHeartbeats 400000 in
theorem write_nilh (v : Value) (w : World) : Calls Tryd.prog 33 #[.pointer none, v] w fun e w' => e = .returned (.tuple #[]) ∧ w' = w := by
  go_enter Tryd.func33, Tryd.ntmps33
  go_wp2
  exact bodyPost_ret (v := .tuple #[]) (by simp [results, Tryd.results33]) rfl ⟨rfl, rfl⟩
theorem held_at (hb N r : Nat) (hr : N % 64 = r) (hN : (N : Int) < 4611686018427387904) (w : World) (hc : w.cell? ⟨hb, 72, none⟩ = some (.int .u64 (N : Int))) :
    Calls Tryd.prog 35 #[.pointer (some ⟨hb, 0, none⟩)] w fun e w' => e = .returned (.int .i64 (r : Int)) ∧ w = w' := by
  subst hr; exact (held_any hb N hN w hc).mono fun e w' ⟨h1, h2⟩ => ⟨h1, h2.symm⟩
theorem src_cells {W : World} {b off n : Nat} {m : Nat → BitVec 8} (hm : ∀ i, i < n → W.cell? ⟨b, off + i, none⟩ = some (B (m i))) (k : Nat) (hk : k ≤ n) : ∀ j v, ((List.range k).map fun i => B (m i))[j]? = some v → W.cell? ((⟨b, off, none⟩ : Addr).add j) = some v := by
  intro j v hv
  obtain ⟨hj, hv'⟩ := List.getElem?_eq_some_iff.1 hv
  simp at hj hv'
  rw [addr_add0, hm j (by omega), hv']
theorem cell_set_other (W : World) (hb i : Nat) (v : Value) (b o : Nat) (h : b ≠ hb) : (W.setCell ⟨hb, i, none⟩ v).cell? ⟨b, o, none⟩ = W.cell? ⟨b, o, none⟩ :=
  World.cell?_setCell_other _ _ _ _ (fun e => h (by cases e; rfl))
theorem bytes_one (n : Nat) (m : Nat → BitVec 8) : ∀ v ∈ (List.range n).map fun i => B (m i), v.oneCell' = true := by
  intro v hv
  obtain ⟨i, _, rfl⟩ := List.mem_map.1 hv
  rfl
theorem grownBy_setCell0 (w : World) (hb i : Nat) (v : Value) : w.grownBy (w.setCell ⟨hb, i, none⟩ v) (some hb) :=
  ⟨rfl, rfl, rfl, by simp [World.setCell], fun k _ hk => heap_setCell_other _ _ _ _ (fun e => hk (by rw [e]))⟩
theorem gtrans {a b c : World} {row : Option Nat} (h : a.grownBy b row) (k : b.grownBy c row) : a.grownBy c row :=
  ⟨k.os.trans h.os, k.tape.trans h.tape, k.output.trans h.output, Nat.le_trans h.size k.size, fun i hi hr => (k.block i (Nat.lt_of_lt_of_le hi h.size) hr).trans (h.block i hi hr)⟩
theorem gbelow {w w' : World} (h : Below w.heap.size w w') (row : Option Nat) : w.grownBy w' row := ⟨h.os, h.tape, h.output, h.size, fun k hk _ => h.block k hk⟩
theorem size_setCell (w : World) (a : Addr) (v : Value) : (w.setCell a v).heap.size = w.heap.size := by simp [World.setCell]
end Go.Proofs.YtddgdaggdgeclaaDoor.Sh
