/- Words into bytes, the sum's bytes, a Hash in memory: 'putWord64', 'bytes256', 'held', 'begin'. -/
import Derived.Test.YtpojalbpekbfdabDoorShaC
import Derived.Deep.RegionWith
namespace Go.Proofs.YtpojalbpekbfdabDoor.Sh
open Go Go.RowKit
attribute [local go_sem] u_xor u_and u_or u_add ul_shr32 u_of_l

theorem putWord32_any (b off cap : Nat) (x : BitVec 32) (w : World) (ht : w.there b off 4) :
    Calls Tryd.prog 88 #[.slice (some ⟨b, off, none⟩) 4 cap, U x] w fun e w' => e = .returned (.tuple #[]) ∧ w.setCells b off (bytes4 x) = w' := by
  obtain ⟨v0, h0⟩ := Option.isSome_iff_exists.1 (ht 0 (by omega)).1
  obtain ⟨v1, h1⟩ := Option.isSome_iff_exists.1 (ht 1 (by omega)).1
  obtain ⟨v2, h2⟩ := Option.isSome_iff_exists.1 (ht 2 (by omega)).1
  obtain ⟨v3, h3⟩ := Option.isSome_iff_exists.1 (ht 3 (by omega)).1
  refine (putWord32_walk b off cap x w v0 v1 v2 v3 h0 h1 h2 h3 (ht 0 (by omega)).2 (ht 1 (by omega)).2 (ht 2 (by omega)).2 (ht 3 (by omega)).2).mono ?_
  rintro e w' ⟨rfl, rfl⟩
  exact ⟨rfl, rfl⟩

set_option maxHeartbeats 400000 in
theorem putWord64_any (b off cap : Nat) (hcap : 8 ≤ cap) (x : BitVec 64) (w : World) (ht : w.there b off 8) :
    Calls Tryd.prog 79 #[.slice (some ⟨b, off, none⟩) 8 cap, L x] w fun e w' => e = .returned (.tuple #[]) ∧ w.setCells b off (bytes8 x) = w' := by
  have HT : Hid (w.there b off 4) := fun j hj => ht j (by omega)
  have HT2 : Hid ((w.setCells b off (bytes4 ((x >>> 32).setWidth 32))).there b (off + 4) 4) := World.there_setCells (fun j hj => by have := ht (4 + j) (by omega); rwa [← Nat.add_assoc] at this) _ _ _
  clear ht
  go_enter Tryd.func79, Tryd.ntmps79
  go_wp2_with fail
  refine (putWord32_any b off _ ((x >>> 32).setWidth 32) _ HT.out).mono ?_
  rintro e w' ⟨rfl, rfl⟩
  go_wp2_with fail
  refine (putWord32_any b (off + 4) _ (x.setWidth 32) _ HT2.out).mono ?_
  rintro e w' ⟨rfl, rfl⟩
  go_wp2
  go_end0
  exact ⟨rfl, (setCells_append b (bytes4 ((x >>> 32).setWidth 32)) off w (bytes4 (x.setWidth 32))).symm⟩

set_option maxHeartbeats 400000 in
theorem held_any (hb : Nat) (N : Nat) (hN : (N : Int) < 4611686018427387904) (w : World) (hc : w.cell? ⟨hb, 72, none⟩ = some (.int .u64 (N : Int))) :
    Calls Tryd.prog 77 #[.pointer (some ⟨hb, 0, none⟩)] w fun e w' => e = .returned (.int .i64 ((N % 64 : Nat) : Int)) ∧ w' = w := by
  go_enter Tryd.func77, Tryd.ntmps77
  go_wp2
  go_ret
  exact ⟨congrArg (fun n => Ending.returned (.int .i64 n)) (by omega), rfl⟩
/-- A Hash in memory: the state, the waiting bytes, the length. -/
def hrow (s : St) (buf : Nat → BitVec 8) (N : Nat) : Array Value := (s.row.toList ++ ((List.range 64).map fun i => B (buf i)) ++ [Value.int .u64 (N : Int)]).toArray
def St.zero : St := ⟨0, 0, 0, 0, 0, 0, 0, 0⟩
def z8 : Nat → BitVec 8 := fun _ => 0
theorem hrow_size (s : St) (buf : Nat → BitVec 8) (N : Nat) : (hrow s buf N).size = 73 := by simp [hrow, St.row]
theorem zero_hash (w : World) : (zeroValue 92).run Tryd.prog w = .ok (.agg (hrow St.zero z8 0)) w := by kernel_rfl
theorem hrow_set (sa sb sc sd se sf sg sh : BitVec 32) : (((((((((hrow St.zero z8 0).setIfInBounds 0 (U sa)).setIfInBounds 1 (U sb)).setIfInBounds 2 (U sc)).setIfInBounds 3 (U sd)).setIfInBounds 4 (U se)).setIfInBounds 5 (U sf)).setIfInBounds 6 (U sg)).setIfInBounds 7 (U sh)) = hrow ⟨sa, sb, sc, sd, se, sf, sg, sh⟩ z8 0 := by kernel_rfl
theorem hrow_one (s : St) (buf : Nat → BitVec 8) (N : Nat) : (hrow s buf N).all (·.oneCell') = true :=
  all_oneCell_toArray (fun v hv => by
    simp only [List.mem_append, List.mem_map, List.mem_singleton] at hv
    rcases hv with (h | ⟨i, _, rfl⟩) | rfl
    · simp only [St.row, List.mem_cons, List.not_mem_nil, or_false] at h
      rcases h with h | h | h | h | h | h | h | h <;> (subst h; rfl)
    · rfl
    · rfl)
/-- The words of a state, in order. -/
def St.at (s : St) (i : Nat) : BitVec 32 := [s.a, s.b, s.c, s.d, s.e, s.f, s.g, s.h].getD i 0
set_option maxHeartbeats 400000 in
theorem begin_any (s : St) (w : World) (hg : ∀ i, i < 8 → w.cell? ⟨1, i, none⟩ = some (U (s.at i))) :
    Calls Tryd.prog 62 #[] w fun e w' => e = .returned (.agg (hrow s z8 0)) ∧ Below w.heap.size w w' := by
  have hz := zero_hash
  have hlt : 1 < w.heap.size := block_lt_of_cell (hg 0 (by omega))
  obtain ⟨sa, sb, sc, sd, se, sf, sg, sh⟩ := s
  have c0 : w.cell? ⟨1, 0, none⟩ = some (U sa) := hg 0 (by omega)
  have c1 : w.cell? ⟨1, 1, none⟩ = some (U sb) := hg 1 (by omega)
  have c2 : w.cell? ⟨1, 2, none⟩ = some (U sc) := hg 2 (by omega)
  have c3 : w.cell? ⟨1, 3, none⟩ = some (U sd) := hg 3 (by omega)
  have c4 : w.cell? ⟨1, 4, none⟩ = some (U se) := hg 4 (by omega)
  have c5 : w.cell? ⟨1, 5, none⟩ = some (U sf) := hg 5 (by omega)
  have c6 : w.cell? ⟨1, 6, none⟩ = some (U sg) := hg 6 (by omega)
  have c7 : w.cell? ⟨1, 7, none⟩ = some (U sh) := hg 7 (by omega)
  clear hg
  have hs := hrow_size St.zero z8 0
  have hset := hrow_set sa sb sc sd se sf sg sh
  go_enter Tryd.func62, Tryd.ntmps62
  have HT : Hid ((w.alloc (.cells (hrow St.zero z8 0) 92)).there w.heap.size 0 (hrow ⟨sa, sb, sc, sd, se, sf, sg, sh⟩ z8 0).size) := there_of_row (heap_alloc_new _ _) 0 _ (by rw [hrow_size, hrow_size]; omega)
  go_wp2_with (refine wpList_store_mid rfl 92 _ _ rfl w.heap.size 0 (hrow ⟨sa, sb, sc, sd, se, sf, sg, sh⟩ z8 0) rfl rfl HT.out (by rw [hrow_size]; kernel_rfl) (by exact hrow_one _ _ _) ?_)
  refine bodyPost_ret (v := .agg (hrow ⟨sa, sb, sc, sd, se, sf, sg, sh⟩ z8 0)) ?_ rfl ⟨rfl, ?_⟩
  · exact results_mid Tryd.results62 _ _ w.heap.size 0 (hrow ⟨sa, sb, sc, sd, se, sf, sg, sh⟩ z8 0).toList _ rfl (World.rangeAt_setCells_same _ _ _ _ HT.out) Tryd.underlying92 rfl (by rw [Array.length_toList, hrow_size]; kernel_rfl)
  · exact below_setCells _ (Nat.le_refl _) _ _ _ ((Below.refl _ _).alloc (Nat.le_refl _) _)
end Go.Proofs.YtpojalbpekbfdabDoor.Sh
/- The sum's 32 bytes: what 'bytes256' answers. -/
namespace Go.Proofs.YtpojalbpekbfdabDoor.Sh
open Go Go.RowKit

/-- Byte i of a state. -/
def sbyte (s : St) (i : Nat) : BitVec 8 := ((s.at (i / 4)) >>> (24 - 8 * (i % 4))).setWidth 8
theorem bytes4_get (x : BitVec 32) (j : Nat) (h : j < 4) : (bytes4 x)[j]? = some (B ((x >>> (24 - 8 * j)).setWidth 8)) := by
  match j, h with
  | 0, _ => rfl
  | 1, _ => rfl
  | 2, _ => rfl
  | 3, _ => simp [bytes4]
def srow (s : St) : Array Value := ((List.range 32).map fun i => B (sbyte s i)).toArray
theorem srow_size (s : St) : (srow s).size = 32 := by simp [srow]
theorem srow_one (s : St) : (srow s).all (·.oneCell') = true :=
  all_oneCell_toArray (fun v hv => by
    obtain ⟨i, _, rfl⟩ := List.mem_map.1 hv
    rfl)
/-- The bytes written up to word k. -/
def obyte (s : St) (k i : Nat) : Value := if i < 4 * k then B (sbyte s i) else B 0

structure BRel (w wr : World) (s : St) (k : Nat) : Prop where
  below : Below w.heap.size w wr
  cell : ∀ i, i < 32 → wr.cell? ⟨w.heap.size + 2, i, none⟩ = some (obyte s k i)
  froz : ∀ i, wr.frozen? ⟨w.heap.size + 2, i, none⟩ = false
  res : wr.there (w.heap.size + 1) 0 32
theorem BRel.start (w : World) (s : St) (A C : Obj) : BRel w (((w.alloc A).alloc (.cells (List.replicate 32 (Value.int .u8 0)).toArray 25)).alloc (.cells (List.replicate 32 (Value.int .u8 0)).toArray 25)) s 0 := by
  have hn : ((w.alloc A).alloc C).heap.size = w.heap.size + 2 := by simp
  refine ⟨(((Below.refl _ _).alloc (Nat.le_refl _) _).alloc (by simp) _).alloc (by simp; omega) _, ?_, ?_, ?_⟩
  · intro i hi
    rw [World.cell?_alloc_at _ _ _ _ (by simp), List.getElem?_toArray, List.getElem?_replicate, if_pos hi, obyte, if_neg (by omega)]; rfl
  · intro i
    rw [World.frozen?_alloc_at _ _ _ _ (by simp)]
  · intro j hj
    rw [World.cell?_alloc_past _ _ _ (by simp), World.frozen?_alloc_past _ _ _ (by simp), World.cell?_alloc_at _ _ _ _ (by simp), World.frozen?_alloc_at _ _ _ _ (by simp), List.getElem?_toArray, List.getElem?_replicate, if_pos (by omega)]
    exact ⟨rfl, rfl⟩
theorem BRel.put {w wr : World} {s : St} {k : Nat} (h : BRel w wr s k) (hk : k < 8) : BRel w (wr.setCells (w.heap.size + 2) (4 * k) (bytes4 (s.at k))) s (k + 1) := by
  have ht : wr.there (w.heap.size + 2) (4 * k) (bytes4 (s.at k)).length := there_of_cells (fun i => obyte s k (4 * k + i)) (fun i hi => h.cell _ (by simp [bytes4] at hi; omega)) h.froz
  refine ⟨below_setCells _ (by omega) _ _ _ h.below, ?_, ?_, World.there_setCells h.res _ _ _⟩
  · intro i hi
    rw [cell_setCells _ _ _ _ _ ht]
    have hl : (bytes4 (s.at k)).length = 4 := rfl
    rw [hl]
    split
    · rename_i hi2
      rw [bytes4_get _ _ (by omega), obyte, if_pos (by omega), sbyte, show i / 4 = k by omega, show i % 4 = i - 4 * k by omega]
    · rename_i hi2
      rw [h.cell i hi, obyte, obyte]
      by_cases h1 : i < 4 * k
      · rw [if_pos h1, if_pos (by omega)]
      · rw [if_neg h1, if_neg (by omega)]
  · intro i
    rw [World.frozen?_setCells]; exact h.froz i

theorem st_index (s : St) : ∀ k : Nat, k < 8 → ∀ w : World, (Instr.index 89 (.agg s.row) (.int .i64 (k : Int))).run Tryd.prog w = .ok (U (s.at k)) w
  | 0, _, _ => by kernel_rfl
  | 1, _, _ => by kernel_rfl
  | 2, _, _ => by kernel_rfl
  | 3, _, _ => by kernel_rfl
  | 4, _, _ => by kernel_rfl
  | 5, _, _ => by kernel_rfl
  | 6, _, _ => by kernel_rfl
  | 7, _, _ => by kernel_rfl
theorem size_u8 : (Tryd.prog.info? 5).map (·.size) = some 1 := by kernel_rfl
set_option maxRecDepth 100000 in
set_option maxHeartbeats 400000 in
theorem bytes256_any (s : St) (w : World) :
    Calls Tryd.prog 80 #[.agg s.row] w fun e w' => e = .returned (.agg (srow s)) ∧ Below w.heap.size w w' := by
  have HI : Hid (∀ k : Nat, k < 8 → ∀ w : World, (Instr.index 89 (.agg s.row) (.int .i64 (k : Int))).run Tryd.prog w = .ok (U (s.at k)) w) := st_index s
  have HS : Hid (∀ A C, BRel w (((w.alloc A).alloc (.cells (List.replicate 32 (Value.int .u8 0)).toArray 25)).alloc (.cells (List.replicate 32 (Value.int .u8 0)).toArray 25)) s 0) := BRel.start w s
  obtain ⟨sa, sb, sc, sd, se, sf, sg, sh⟩ := s
  unfold St.row at *
  go_enter Tryd.func80, Tryd.ntmps80
  go_wp2
  go_loopw [4, 5, 7] (fun _ _ i wr => ∃ k : Nat, k ≤ 8 ∧ i = .int .i64 k ∧ BRel w wr ⟨sa, sb, sc, sd, se, sf, sg, sh⟩ k) (fun _ _ i _ => 8 - (intOf i).toNat)
  case atStart => exact ⟨0, by omega, rfl, HS.out _ (.cells #[] 0)⟩
  case round =>
    obtain ⟨k, hk, rfl, hr⟩ := hrel
    have HR : Hid (BRel w _ ⟨sa, sb, sc, sd, se, sf, sg, sh⟩ k) := hr
    clear hr
    by_cases hlt : k < 8
    · have hi := HI.out k hlt
      have sl := fun w1 => sliceAt_lh w1 25 5 32 (w.heap.size + 1 + 1) 0 (4 * (k : Int)) (4 * (k : Int) + 4) (4 * k) (4 * k + 4) (by omega) (by omega) Tryd.underlying25 size_u8 (by omega) (by omega) (by omega)
      rw [show 4 * k + 4 - 4 * k = 4 by omega] at sl
      go_wp2_with fail
      refine (putWord32_any (w.heap.size + 1 + 1) (4 * k) _ _ _ ?_).mono ?_
      · exact there_of_cells (fun i => obyte ⟨sa, sb, sc, sd, se, sf, sg, sh⟩ k (4 * k + i)) (fun i hi => HR.out.cell _ (by omega)) HR.out.froz
      rintro e w' ⟨rfl, rfl⟩
      go_wp2
      go_roundw
      case rel => exact ⟨k + 1, by omega, by go_num, HR.out.put hlt⟩
      case measure => simp [intOf]; omega
    · obtain rfl : k = 8 := by omega
      have HC : Hid (wr.rangeAt (w.heap.size + 1 + 1) 0 (srow ⟨sa, sb, sc, sd, se, sf, sg, sh⟩).toList) := by
        have := range_of_cells (w := wr) (g := w.heap.size + 2) (o := 0) (n := 32) (fun i => B (sbyte ⟨sa, sb, sc, sd, se, sf, sg, sh⟩ i)) (fun i hi => by rw [Nat.zero_add, HR.out.cell i hi, obyte, if_pos (by omega)])
        exact this
      have HT : Hid (wr.there (w.heap.size + 1) 0 (srow ⟨sa, sb, sc, sd, se, sf, sg, sh⟩).size) := by rw [srow_size]; exact HR.out.res
      go_wp2_with (first | (refine wpList_load_mid rfl 25 _ rfl (w.heap.size + 1 + 1) 0 rfl (srow ⟨sa, sb, sc, sd, se, sf, sg, sh⟩).toList _ HC.out Tryd.underlying25 rfl (by rw [Array.length_toList, srow_size]; kernel_rfl) ?_) | (refine wpList_store_mid rfl 25 _ _ rfl (w.heap.size + 1) 0 (srow ⟨sa, sb, sc, sd, se, sf, sg, sh⟩) rfl rfl HT.out (by rw [srow_size]; kernel_rfl) (by exact srow_one _) ?_))
      refine bodyPost_ret (v := .agg (srow ⟨sa, sb, sc, sd, se, sf, sg, sh⟩)) ?_ rfl ⟨rfl, ?_⟩
      · exact results_mid Tryd.results80 _ _ (w.heap.size + 1) 0 (srow ⟨sa, sb, sc, sd, se, sf, sg, sh⟩).toList _ rfl (World.rangeAt_setCells_same _ _ _ _ HT.out) Tryd.underlying25 rfl (by rw [Array.length_toList, srow_size]; kernel_rfl)
      · exact below_setCells _ (by omega) _ _ _ HR.out.below
end Go.Proofs.YtpojalbpekbfdabDoor.Sh
/- A Hash that takes bytes: 'Write'. -/
namespace Go.Proofs.YtpojalbpekbfdabDoor.Sh
open Go Go.RowKit

/-- The schedule of a block. -/
def schedW (m : Nat → BitVec 8) (t : Nat) : BitVec 32 :=
  if _h : t < 16 then word (m (4 * t)) (m (4 * t + 1)) (m (4 * t + 2)) (m (4 * t + 3))
  else lo1 (schedW m (t - 2)) + schedW m (t - 7) + lo0 (schedW m (t - 15)) + schedW m (t - 16)
theorem schedW_ok (m : Nat → BitVec 8) : Sched m (schedW m) where
  first t h := by rw [schedW, dif_pos h]
  later t h _ := by rw [schedW, dif_neg (by omega)]
/-- One block taken into a state. -/
def compress (K : Nat → BitVec 32) (s : St) (m : Nat → BitVec 8) : St := plus s (rounds K (schedW m) s 64)
/-- The state behind k whole blocks of M. -/
def blocks (K : Nat → BitVec 32) (s0 : St) (M : Nat → BitVec 8) : Nat → St
  | 0 => s0
  | k + 1 => compress K (blocks K s0 M k) (fun i => M (64 * k + i))

theorem hrow_get (s : St) (buf : Nat → BitVec 8) (N i : Nat) : (hrow s buf N)[i]? = if i < 8 then some (U (s.at i)) else if i < 72 then some (B (buf (i - 8))) else if i = 72 then some (.int .u64 (N : Int)) else none := by
  rw [hrow, List.getElem?_toArray]
  by_cases h1 : i < 8
  · rw [if_pos h1, List.append_assoc, List.getElem?_append_left (by simpa [St.row] using h1)]
    match i, h1 with
    | 0, _ => rfl
    | 1, _ => rfl
    | 2, _ => rfl
    | 3, _ => rfl
    | 4, _ => rfl
    | 5, _ => rfl
    | 6, _ => rfl
    | 7, _ => rfl
  · rw [if_neg h1]
    by_cases h2 : i < 72
    · rw [if_pos h2, List.getElem?_append_left (by simp [St.row]; omega), List.getElem?_append_right (by simp [St.row]; omega)]
      have : i - s.row.toList.length = i - 8 := by simp [St.row]
      rw [this, List.getElem?_map, List.getElem?_range (by omega)]
      rfl
    · rw [if_neg h2]
      by_cases h3 : i = 72
      · subst h3
        rw [if_pos rfl, List.getElem?_append_right (by simp [St.row])]
        simp [St.row]
      · rw [if_neg h3, List.getElem?_eq_none (by simp [St.row]; omega)]

/-- A Hash lies in block hb. -/
def HRow (w : World) (hb : Nat) (s : St) (buf : Nat → BitVec 8) (N : Nat) : Prop := w.heap[hb]? = some (.cells (hrow s buf N) 92 (0, 0))
theorem HRow.lt {w : World} {hb : Nat} {s : St} {buf : Nat → BitVec 8} {N : Nat} (h : HRow w hb s buf N) : hb < w.heap.size := (Array.getElem?_eq_some_iff.1 h).1
theorem HRow.st {w : World} {hb : Nat} {s : St} {buf : Nat → BitVec 8} {N : Nat} (h : HRow w hb s buf N) (i : Nat) (hi : i < 8) : w.cell? ⟨hb, i, none⟩ = some (U (s.at i)) := by
  rw [cell_of_row w hb i _ _ _ h, hrow_get, if_pos hi]
theorem HRow.bf {w : World} {hb : Nat} {s : St} {buf : Nat → BitVec 8} {N : Nat} (h : HRow w hb s buf N) (i : Nat) (hi : i < 64) : w.cell? ⟨hb, 8 + i, none⟩ = some (B (buf i)) := by
  rw [cell_of_row w hb _ _ _ _ h, hrow_get, if_neg (by omega), if_pos (by omega), show 8 + i - 8 = i by omega]
theorem HRow.len {w : World} {hb : Nat} {s : St} {buf : Nat → BitVec 8} {N : Nat} (h : HRow w hb s buf N) : w.cell? ⟨hb, 72, none⟩ = some (.int .u64 (N : Int)) := by
  rw [cell_of_row w hb _ _ _ _ h, hrow_get]; rfl
theorem HRow.froz {w : World} {hb : Nat} {s : St} {buf : Nat → BitVec 8} {N : Nat} (h : HRow w hb s buf N) (i : Nat) : w.frozen? ⟨hb, i, none⟩ = false := frozen_of_row _ _ _ _ _ h
theorem HRow.setLen {w : World} {hb : Nat} {s : St} {buf : Nat → BitVec 8} {N : Nat} (h : HRow w hb s buf N) (N' : Nat) : HRow (w.setCell ⟨hb, 72, none⟩ (.int .u64 (N' : Int))) hb s buf N' := by
  unfold HRow
  rw [heap_setCell_same _ _ _ _ _ _ h]
  refine congrArg (fun cs => some (Obj.cells cs 92 (0, 0))) ?_
  apply Array.ext_getElem?
  intro i
  rw [Array.getElem?_setIfInBounds, hrow_get, hrow_get, hrow_size]
  by_cases e : 72 = i
  · subst e; rfl
  · rw [if_neg e]
    by_cases h1 : i < 8
    · rw [if_pos h1, if_pos h1]
    · rw [if_neg h1, if_neg h1]
      by_cases h2 : i < 72
      · rw [if_pos h2, if_pos h2]
      · rw [if_neg h2, if_neg h2, if_neg (by omega), if_neg (by omega)]
theorem row_get (s : St) : ∀ i, i < 8 → s.row[i]? = some (U (s.at i))
  | 0, _ => rfl
  | 1, _ => rfl
  | 2, _ => rfl
  | 3, _ => rfl
  | 4, _ => rfl
  | 5, _ => rfl
  | 6, _ => rfl
  | 7, _ => rfl
theorem HRow.there {w : World} {hb : Nat} {s : St} {buf : Nat → BitVec 8} {N : Nat} (h : HRow w hb s buf N) (o n : Nat) (hn : o + n ≤ 73) : w.there hb o n := there_of_row h o n (by rw [hrow_size]; exact hn)
/-- A block known whole behind a row stored there. -/
theorem heap_setCells {w : World} {g : Nat} {cs cs' : Array Value} {t : TypeId} (hg : w.heap[g]? = some (.cells cs t (0, 0))) (o : Nat) (vs : List Value) (hn : o + vs.length ≤ cs.size)
    (h : ∀ i, cs'[i]? = if o ≤ i ∧ i < o + vs.length then vs[i - o]? else cs[i]?) : (w.setCells g o vs).heap[g]? = some (.cells cs' t (0, 0)) := by
  induction vs generalizing w cs o with
  | nil =>
    have : cs' = cs := Array.ext_getElem? (fun i => by
      have hne : ¬ (o ≤ i ∧ i < o + ([] : List Value).length) := by simp
      rw [h i, if_neg hne])
    rw [this]; exact hg
  | cons v r ih =>
    rw [World.setCells]
    refine ih (heap_setCell_same _ _ _ _ _ _ hg) (o + 1) (by simp at hn ⊢; omega) (fun i => ?_)
    rw [h i, Array.getElem?_setIfInBounds]
    simp only [List.length_cons] at hn ⊢
    by_cases h1 : i = o
    · subst h1
      rw [if_pos (by omega), if_neg (by omega), if_pos rfl, if_pos (by omega), Nat.sub_self]; rfl
    · by_cases h2 : o + 1 ≤ i ∧ i < o + 1 + r.length
      · rw [if_pos (by omega), if_pos h2, show i - o = (i - (o + 1)) + 1 by omega]; rfl
      · rw [if_neg (by omega), if_neg h2, if_neg (by omega)]
theorem HRow.setSt {w : World} {hb : Nat} {s : St} {buf : Nat → BitVec 8} {N : Nat} (h : HRow w hb s buf N) (s' : St) : HRow (w.setCells hb 0 s'.row.toList) hb s' buf N := by
  refine heap_setCells h 0 _ (by rw [hrow_size]; simp [St.row]) (fun i => ?_)
  have hl : s'.row.toList.length = 8 := rfl
  rw [hrow_get, hrow_get, hl]
  by_cases h1 : i < 8
  · rw [if_pos h1, if_pos (by omega), Array.getElem?_toList]
    exact (row_get s' i h1).symm
  · have hne : ¬ (0 ≤ i ∧ i < 0 + 8) := by omega
    rw [if_neg h1, if_neg hne, if_neg h1]
/-- Bytes c put into the waiting bytes from r on. -/
def bput (buf : Nat → BitVec 8) (r n : Nat) (c : Nat → BitVec 8) (i : Nat) : BitVec 8 := if r ≤ i ∧ i < r + n then c (i - r) else buf i
theorem hrow_splice (s : St) (buf : Nat → BitVec 8) (N r n : Nat) (c : Nat → BitVec 8) (hn : r + n ≤ 64) :
    ((hrow s buf N).toList.take (8 + r) ++ (((List.range n).map fun i => B (c i)) ++ (hrow s buf N).toList.drop (8 + r + ((List.range n).map fun i => B (c i)).length))).toArray = hrow s (bput buf r n c) N := by
  apply Array.ext_getElem?
  intro i
  have hs : (hrow s buf N).toList.length = 73 := by rw [Array.length_toList, hrow_size]
  have hc : (((List.range n).map fun i => B (c i))).length = n := by simp
  rw [hc, List.getElem?_toArray, hrow_get]
  by_cases h1 : i < 8 + r
  · rw [List.getElem?_append_left (by rw [List.length_take, hs]; omega), List.getElem?_take, if_pos h1, Array.getElem?_toList, hrow_get]
    by_cases h2 : i < 8
    · rw [if_pos h2, if_pos h2]
    · rw [if_neg h2, if_neg h2, if_pos (by omega), if_pos (by omega), bput, if_neg (by omega)]
  · rw [List.getElem?_append_right (by rw [List.length_take, hs]; omega), List.length_take, hs, show min (8 + r) 73 = 8 + r by omega]
    by_cases h2 : i < 8 + r + n
    · rw [List.getElem?_append_left (by rw [hc]; omega), List.getElem?_map, List.getElem?_range (by omega), if_neg (by omega), if_pos (by omega), bput, if_pos (by omega), show i - 8 - r = i - (8 + r) by omega]; rfl
    · rw [List.getElem?_append_right (by rw [hc]; omega), hc, List.getElem?_drop, show 8 + r + n + (i - (8 + r) - n) = i by omega, Array.getElem?_toList, hrow_get]
      have h8 : ¬ i < 8 := by omega
      rw [if_neg h8, if_neg h8]
      by_cases h3 : i < 72
      · rw [if_pos h3, if_pos h3, bput, if_neg (by omega)]
      · rw [if_neg h3, if_neg h3]

set_option maxHeartbeats 400000 in
theorem write_nilh (v : Value) (w : World) : Calls Tryd.prog 63 #[.pointer none, v] w fun e w' => e = .returned (.tuple #[]) ∧ w' = w := by
  go_enter Tryd.func63, Tryd.ntmps63
  go_wp2
  exact bodyPost_ret (v := .tuple #[]) (by simp [results, Tryd.results63]) rfl ⟨rfl, rfl⟩
theorem held_at (hb N r : Nat) (hr : N % 64 = r) (hN : (N : Int) < 4611686018427387904) (w : World) (hc : w.cell? ⟨hb, 72, none⟩ = some (.int .u64 (N : Int))) :
    Calls Tryd.prog 77 #[.pointer (some ⟨hb, 0, none⟩)] w fun e w' => e = .returned (.int .i64 (r : Int)) ∧ w = w' := by
  subst hr; exact (held_any hb N hN w hc).mono fun e w' ⟨h1, h2⟩ => ⟨h1, h2.symm⟩
theorem src_cells {W : World} {b off n : Nat} {m : Nat → BitVec 8} (hm : ∀ i, i < n → W.cell? ⟨b, off + i, none⟩ = some (B (m i))) (k : Nat) (hk : k ≤ n) : ∀ j v, ((List.range k).map fun i => B (m i))[j]? = some v → W.cell? ((⟨b, off, none⟩ : Addr).add j) = some v := by
  intro j v hv
  obtain ⟨hj, hv'⟩ := List.getElem?_eq_some_iff.1 hv
  simp at hj hv'
  rw [addr_add0, hm j (by omega), hv']
theorem cell_set_other (W : World) (hb i : Nat) (v : Value) (b o : Nat) (h : b ≠ hb) : (W.setCell ⟨hb, i, none⟩ v).cell? ⟨b, o, none⟩ = W.cell? ⟨b, o, none⟩ :=
  World.cell?_setCell_other _ _ _ _ (fun e => h (by cases e; rfl))
theorem bytes_one (n : Nat) (m : Nat → BitVec 8) : ∀ v ∈ (List.range n).map fun i => B (m i), v.oneCell' = true := by
  intro v hv
  obtain ⟨i, _, rfl⟩ := List.mem_map.1 hv
  rfl
theorem grownBy_setCell0 (w : World) (hb i : Nat) (v : Value) : w.grownBy (w.setCell ⟨hb, i, none⟩ v) (some hb) :=
  ⟨rfl, rfl, rfl, by simp [World.setCell], fun k _ hk => heap_setCell_other _ _ _ _ (fun e => hk (by rw [e]))⟩
theorem gtrans {a b c : World} {row : Option Nat} (h : a.grownBy b row) (k : b.grownBy c row) : a.grownBy c row :=
  ⟨k.os.trans h.os, k.tape.trans h.tape, k.output.trans h.output, Nat.le_trans h.size k.size, fun i hi hr => (k.block i (Nat.lt_of_lt_of_le hi h.size) hr).trans (h.block i hi hr)⟩
theorem gbelow {w w' : World} (h : Below w.heap.size w w') (row : Option Nat) : w.grownBy w' row := ⟨h.os, h.tape, h.output, h.size, fun k hk _ => h.block k hk⟩
theorem size_setCell (w : World) (a : Addr) (v : Value) : (w.setCell a v).heap.size = w.heap.size := by simp [World.setCell]
end Go.Proofs.YtpojalbpekbfdabDoor.Sh
