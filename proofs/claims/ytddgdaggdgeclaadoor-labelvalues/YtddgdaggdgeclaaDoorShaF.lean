/- The sum's 32 bytes: what 'bytes256' answers. -/
import Derived.Test.YtddgdaggdgeclaaDoorShaE
namespace Go.Proofs.YtddgdaggdgeclaaDoor.Sh
open Go Go.RowKit

/-- Byte i of a state. -/
def sbyte (s : St) (i : Nat) : BitVec 8 := ((s.at (i / 4)) >>> (24 - 8 * (i % 4))).setWidth 8
theorem bytes4_get (x : BitVec 32) (j : Nat) (h : j < 4) : (bytes4 x)[j]? = some (B ((x >>> (24 - 8 * j)).setWidth 8)) := by
  match j, h with
  | 0, _ => rfl
  | 1, _ => rfl
  | 2, _ => rfl
  | 3, _ => simp [bytes4]
def srow (s : St) : Array Value := ((List.range 32).map fun i => B (sbyte s i)).toArray
theorem srow_size (s : St) : (srow s).size = 32 := by simp [srow]
theorem srow_one (s : St) : (srow s).all (·.oneCell') = true :=
  all_oneCell_toArray (fun v hv => by
    obtain ⟨i, _, rfl⟩ := List.mem_map.1 hv
    rfl)
/-- The bytes written up to word k. -/
def obyte (s : St) (k i : Nat) : Value := if i < 4 * k then B (sbyte s i) else B 0

structure BRel (w wr : World) (s : St) (k : Nat) : Prop where
  below : Below w.heap.size w wr
  cell : ∀ i, i < 32 → wr.cell? ⟨w.heap.size + 2, i, none⟩ = some (obyte s k i)
  froz : ∀ i, wr.frozen? ⟨w.heap.size + 2, i, none⟩ = false
  res : wr.there (w.heap.size + 1) 0 32
theorem BRel.start (w : World) (s : St) (A C : Obj) : BRel w (((w.alloc A).alloc (.cells (List.replicate 32 (Value.int .u8 0)).toArray 24)).alloc (.cells (List.replicate 32 (Value.int .u8 0)).toArray 24)) s 0 := by
  have hn : ((w.alloc A).alloc C).heap.size = w.heap.size + 2 := by simp
  refine ⟨(((Below.refl _ _).alloc (Nat.le_refl _) _).alloc (by simp) _).alloc (by simp; omega) _, ?_, ?_, ?_⟩
  · intro i hi
    rw [World.cell?_alloc_at _ _ _ _ (by simp), List.getElem?_toArray, List.getElem?_replicate, if_pos hi, obyte, if_neg (by omega)]; rfl
  · intro i
    rw [World.frozen?_alloc_at _ _ _ _ (by simp)]
  · intro j hj
    rw [World.cell?_alloc_past _ _ _ (by simp), World.frozen?_alloc_past _ _ _ (by simp), World.cell?_alloc_at _ _ _ _ (by simp), World.frozen?_alloc_at _ _ _ _ (by simp), List.getElem?_toArray, List.getElem?_replicate, if_pos (by omega)]
    exact ⟨rfl, rfl⟩
theorem BRel.put {w wr : World} {s : St} {k : Nat} (h : BRel w wr s k) (hk : k < 8) : BRel w (wr.setCells (w.heap.size + 2) (4 * k) (bytes4 (s.at k))) s (k + 1) := by
  have ht : wr.there (w.heap.size + 2) (4 * k) (bytes4 (s.at k)).length := there_of_cells (fun i => obyte s k (4 * k + i)) (fun i hi => h.cell _ (by simp [bytes4] at hi; omega)) h.froz
  refine ⟨below_setCells _ (by omega) _ _ _ h.below, ?_, ?_, World.there_setCells h.res _ _ _⟩
  · intro i hi
    rw [cell_setCells _ _ _ _ _ ht]
    have hl : (bytes4 (s.at k)).length = 4 := rfl
    rw [hl]
    split
    · rename_i hi2
      rw [bytes4_get _ _ (by omega), obyte, if_pos (by omega), sbyte, show i / 4 = k by omega, show i % 4 = i - 4 * k by omega]
    · rename_i hi2
      rw [h.cell i hi, obyte, obyte]
      by_cases h1 : i < 4 * k
      · rw [if_pos h1, if_pos (by omega)]
      · rw [if_neg h1, if_neg (by omega)]
  · intro i
    rw [World.frozen?_setCells]; exact h.froz i

theorem st_index (s : St) : ∀ k : Nat, k < 8 → ∀ w : World, (Instr.index 45 (.agg s.row) (.int .i64 (k : Int))).run Tryd.prog w = .ok (U (s.at k)) w
  | 0, _, _ => by kernel_rfl
  | 1, _, _ => by kernel_rfl
  | 2, _, _ => by kernel_rfl
  | 3, _, _ => by kernel_rfl
  | 4, _, _ => by kernel_rfl
  | 5, _, _ => by kernel_rfl
  | 6, _, _ => by kernel_rfl
  | 7, _, _ => by kernel_rfl
theorem size_u8 : (Tryd.prog.info? 5).map (·.size) = some 1 := by kernel_rfl
set_option maxRecDepth 100000 in
set_option maxHeartbeats 400000 in
theorem bytes256_any (s : St) (w : World) :
    Calls Tryd.prog 38 #[.agg s.row] w fun e w' => e = .returned (.agg (srow s)) ∧ Below w.heap.size w w' := by
  have HI : Hid (∀ k : Nat, k < 8 → ∀ w : World, (Instr.index 45 (.agg s.row) (.int .i64 (k : Int))).run Tryd.prog w = .ok (U (s.at k)) w) := st_index s
  have HS : Hid (∀ A C, BRel w (((w.alloc A).alloc (.cells (List.replicate 32 (Value.int .u8 0)).toArray 24)).alloc (.cells (List.replicate 32 (Value.int .u8 0)).toArray 24)) s 0) := BRel.start w s
  obtain ⟨sa, sb, sc, sd, se, sf, sg, sh⟩ := s
  unfold St.row at *
  go_enter Tryd.func38, Tryd.ntmps38
  go_wp2
  go_loopw [4, 5, 7] (fun _ _ i wr => ∃ k : Nat, k ≤ 8 ∧ i = .int .i64 k ∧ BRel w wr ⟨sa, sb, sc, sd, se, sf, sg, sh⟩ k) (fun _ _ i _ => 8 - (intOf i).toNat)
  case atStart => exact ⟨0, by omega, rfl, HS.out _ (.cells #[] 0)⟩
  case round =>
    obtain ⟨k, hk, rfl, hr⟩ := hrel
    have HR : Hid (BRel w _ ⟨sa, sb, sc, sd, se, sf, sg, sh⟩ k) := hr
    clear hr
    by_cases hlt : k < 8
    · have hi := HI.out k hlt
      have sl := fun w1 => sliceAt_lh w1 24 5 32 (w.heap.size + 1 + 1) 0 (4 * (k : Int)) (4 * (k : Int) + 4) (4 * k) (4 * k + 4) (by omega) (by omega) Tryd.underlying24 size_u8 (by omega) (by omega) (by omega)
      rw [show 4 * k + 4 - 4 * k = 4 by omega] at sl
      go_wp2_with fail
      refine (putWord32_any (w.heap.size + 1 + 1) (4 * k) _ _ _ ?_).mono ?_
      · exact there_of_cells (fun i => obyte ⟨sa, sb, sc, sd, se, sf, sg, sh⟩ k (4 * k + i)) (fun i hi => HR.out.cell _ (by omega)) HR.out.froz
      rintro e w' ⟨rfl, rfl⟩
      go_wp2
      go_roundw
      case rel => exact ⟨k + 1, by omega, by go_num, HR.out.put hlt⟩
      case measure => simp [intOf]; omega
    · obtain rfl : k = 8 := by omega
      have HC : Hid (wr.rangeAt (w.heap.size + 1 + 1) 0 (srow ⟨sa, sb, sc, sd, se, sf, sg, sh⟩).toList) := by
        have := range_of_cells (w := wr) (g := w.heap.size + 2) (o := 0) (n := 32) (fun i => B (sbyte ⟨sa, sb, sc, sd, se, sf, sg, sh⟩ i)) (fun i hi => by rw [Nat.zero_add, HR.out.cell i hi, obyte, if_pos (by omega)])
        exact this
      have HT : Hid (wr.there (w.heap.size + 1) 0 (srow ⟨sa, sb, sc, sd, se, sf, sg, sh⟩).size) := by rw [srow_size]; exact HR.out.res
      go_wp2_with (first | (refine wpList_load_mid rfl 24 _ rfl (w.heap.size + 1 + 1) 0 rfl (srow ⟨sa, sb, sc, sd, se, sf, sg, sh⟩).toList _ HC.out Tryd.underlying24 rfl (by rw [Array.length_toList, srow_size]; kernel_rfl) ?_) | (refine wpList_store_mid rfl 24 _ _ rfl (w.heap.size + 1) 0 (srow ⟨sa, sb, sc, sd, se, sf, sg, sh⟩) rfl rfl HT.out (by rw [srow_size]; kernel_rfl) (by exact srow_one _) ?_))
      refine bodyPost_ret (v := .agg (srow ⟨sa, sb, sc, sd, se, sf, sg, sh⟩)) ?_ rfl ⟨rfl, ?_⟩
      · exact results_mid Tryd.results38 _ _ (w.heap.size + 1) 0 (srow ⟨sa, sb, sc, sd, se, sf, sg, sh⟩).toList _ rfl (World.rangeAt_setCells_same _ _ _ _ HT.out) Tryd.underlying24 rfl (by rw [Array.length_toList, srow_size]; kernel_rfl)
      · exact below_setCells _ (by omega) _ _ _ HR.out.below
end Go.Proofs.YtddgdaggdgeclaaDoor.Sh
