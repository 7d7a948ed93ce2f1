/- Words into bytes, the sum's bytes, a Hash in memory: 'putWord64', 'bytes256', 'held', 'begin'. -/
import Derived.Test.YtddgdaggdgeclaaDoorShaD
namespace Go.Proofs.YtddgdaggdgeclaaDoor.Sh
open Go Go.RowKit
attribute [local go_sem] u_xor u_and u_or u_add ul_shr32 u_of_l

theorem putWord32_any (b off cap : Nat) (x : BitVec 32) (w : World) (ht : w.there b off 4) :
    Calls Tryd.prog 42 #[.slice (some ⟨b, off, none⟩) 4 cap, U x] w fun e w' => e = .returned (.tuple #[]) ∧ w.setCells b off (bytes4 x) = w' := by
  obtain ⟨v0, h0⟩ := Option.isSome_iff_exists.1 (ht 0 (by omega)).1
  obtain ⟨v1, h1⟩ := Option.isSome_iff_exists.1 (ht 1 (by omega)).1
  obtain ⟨v2, h2⟩ := Option.isSome_iff_exists.1 (ht 2 (by omega)).1
  obtain ⟨v3, h3⟩ := Option.isSome_iff_exists.1 (ht 3 (by omega)).1
  refine (putWord32_walk b off cap x w v0 v1 v2 v3 h0 h1 h2 h3 (ht 0 (by omega)).2 (ht 1 (by omega)).2 (ht 2 (by omega)).2 (ht 3 (by omega)).2).mono ?_
  rintro e w' ⟨rfl, rfl⟩
  exact ⟨rfl, rfl⟩

set_option maxHeartbeats 400000 in
theorem putWord64_any (b off cap : Nat) (hcap : 8 ≤ cap) (x : BitVec 64) (w : World) (ht : w.there b off 8) :
    Calls Tryd.prog 37 #[.slice (some ⟨b, off, none⟩) 8 cap, L x] w fun e w' => e = .returned (.tuple #[]) ∧ w.setCells b off (bytes8 x) = w' := by
  have HT : Hid (w.there b off 4) := fun j hj => ht j (by omega)
  have HT2 : Hid ((w.setCells b off (bytes4 ((x >>> 32).setWidth 32))).there b (off + 4) 4) := World.there_setCells (fun j hj => by have := ht (4 + j) (by omega); rwa [← Nat.add_assoc] at this) _ _ _
  clear ht
  go_enter Tryd.func37, Tryd.ntmps37
  go_wp2_with fail
  refine (putWord32_any b off _ ((x >>> 32).setWidth 32) _ HT.out).mono ?_
  rintro e w' ⟨rfl, rfl⟩
  go_wp2_with fail
  refine (putWord32_any b (off + 4) _ (x.setWidth 32) _ HT2.out).mono ?_
  rintro e w' ⟨rfl, rfl⟩
  go_wp2
  go_end0
  exact ⟨rfl, (setCells_append b (bytes4 ((x >>> 32).setWidth 32)) off w (bytes4 (x.setWidth 32))).symm⟩

set_option maxHeartbeats 400000 in
theorem held_any (hb : Nat) (N : Nat) (hN : (N : Int) < 4611686018427387904) (w : World) (hc : w.cell? ⟨hb, 72, none⟩ = some (.int .u64 (N : Int))) :
    Calls Tryd.prog 35 #[.pointer (some ⟨hb, 0, none⟩)] w fun e w' => e = .returned (.int .i64 ((N % 64 : Nat) : Int)) ∧ w' = w := by
  go_enter Tryd.func35, Tryd.ntmps35
  go_wp2
  go_ret
  exact ⟨congrArg (fun n => Ending.returned (.int .i64 n)) (by omega), rfl⟩
/-- A Hash in memory: the state, the waiting bytes, the length. -/
def hrow (s : St) (buf : Nat → BitVec 8) (N : Nat) : Array Value := (s.row.toList ++ ((List.range 64).map fun i => B (buf i)) ++ [Value.int .u64 (N : Int)]).toArray
def St.zero : St := ⟨0, 0, 0, 0, 0, 0, 0, 0⟩
def z8 : Nat → BitVec 8 := fun _ => 0
theorem hrow_size (s : St) (buf : Nat → BitVec 8) (N : Nat) : (hrow s buf N).size = 73 := by simp [hrow, St.row]
theorem zero_hash (w : World) : (zeroValue 58).run Tryd.prog w = .ok (.agg (hrow St.zero z8 0)) w := by kernel_rfl
theorem hrow_set (sa sb sc sd se sf sg sh : BitVec 32) : (((((((((hrow St.zero z8 0).setIfInBounds 0 (U sa)).setIfInBounds 1 (U sb)).setIfInBounds 2 (U sc)).setIfInBounds 3 (U sd)).setIfInBounds 4 (U se)).setIfInBounds 5 (U sf)).setIfInBounds 6 (U sg)).setIfInBounds 7 (U sh)) = hrow ⟨sa, sb, sc, sd, se, sf, sg, sh⟩ z8 0 := by kernel_rfl
theorem hrow_one (s : St) (buf : Nat → BitVec 8) (N : Nat) : (hrow s buf N).all (·.oneCell') = true :=
  all_oneCell_toArray (fun v hv => by
    simp only [List.mem_append, List.mem_map, List.mem_singleton] at hv
    rcases hv with (h | ⟨i, _, rfl⟩) | rfl
    · simp only [St.row, List.mem_cons, List.not_mem_nil, or_false] at h
      rcases h with h | h | h | h | h | h | h | h <;> (subst h; rfl)
    · rfl
    · rfl)
/-- The words of a state, in order. -/
def St.at (s : St) (i : Nat) : BitVec 32 := [s.a, s.b, s.c, s.d, s.e, s.f, s.g, s.h].getD i 0
set_option maxHeartbeats 400000 in
theorem begin_any (s : St) (w : World) (hg : ∀ i, i < 8 → w.cell? ⟨1, i, none⟩ = some (U (s.at i))) :
    Calls Tryd.prog 32 #[] w fun e w' => e = .returned (.agg (hrow s z8 0)) ∧ Below w.heap.size w w' := by
  have hz := zero_hash
  have hlt : 1 < w.heap.size := block_lt_of_cell (hg 0 (by omega))
  obtain ⟨sa, sb, sc, sd, se, sf, sg, sh⟩ := s
  have c0 : w.cell? ⟨1, 0, none⟩ = some (U sa) := hg 0 (by omega)
  have c1 : w.cell? ⟨1, 1, none⟩ = some (U sb) := hg 1 (by omega)
  have c2 : w.cell? ⟨1, 2, none⟩ = some (U sc) := hg 2 (by omega)
  have c3 : w.cell? ⟨1, 3, none⟩ = some (U sd) := hg 3 (by omega)
  have c4 : w.cell? ⟨1, 4, none⟩ = some (U se) := hg 4 (by omega)
  have c5 : w.cell? ⟨1, 5, none⟩ = some (U sf) := hg 5 (by omega)
  have c6 : w.cell? ⟨1, 6, none⟩ = some (U sg) := hg 6 (by omega)
  have c7 : w.cell? ⟨1, 7, none⟩ = some (U sh) := hg 7 (by omega)
  clear hg
  have hs := hrow_size St.zero z8 0
  have hset := hrow_set sa sb sc sd se sf sg sh
  go_enter Tryd.func32, Tryd.ntmps32
  have HT : Hid ((w.alloc (.cells (hrow St.zero z8 0) 58)).there w.heap.size 0 (hrow ⟨sa, sb, sc, sd, se, sf, sg, sh⟩ z8 0).size) := there_of_row (heap_alloc_new _ _) 0 _ (by rw [hrow_size, hrow_size]; omega)
  go_wp2_with (refine wpList_store_mid rfl 58 _ _ rfl w.heap.size 0 (hrow ⟨sa, sb, sc, sd, se, sf, sg, sh⟩ z8 0) rfl rfl HT.out (by rw [hrow_size]; kernel_rfl) (by exact hrow_one _ _ _) ?_)
  refine bodyPost_ret (v := .agg (hrow ⟨sa, sb, sc, sd, se, sf, sg, sh⟩ z8 0)) ?_ rfl ⟨rfl, ?_⟩
  · exact results_mid Tryd.results32 _ _ w.heap.size 0 (hrow ⟨sa, sb, sc, sd, se, sf, sg, sh⟩ z8 0).toList _ rfl (World.rangeAt_setCells_same _ _ _ _ HT.out) Tryd.underlying58 rfl (by rw [Array.length_toList, hrow_size]; kernel_rfl)
  · exact below_setCells _ (Nat.le_refl _) _ _ _ ((Below.refl _ _).alloc (Nat.le_refl _) _)
end Go.Proofs.YtddgdaggdgeclaaDoor.Sh
