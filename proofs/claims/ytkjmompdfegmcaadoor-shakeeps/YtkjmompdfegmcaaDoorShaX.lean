/- 'keyBlock' at an empty key, wherever it points. -/
import Derived.Test.YtkjmompdfegmcaaDoorShaW
import Derived.Laws.CopyOwn
namespace Go.Proofs.YtkjmompdfegmcaaDoor
open Go Go.RowKit
set_option linter.unusedSimpArgs false
set_option linter.unusedVariables false
theorem kfun_zero (m : Nat → BitVec 8) : brow 64 (kfun 0 m) = brow 64 (fun _ => 0) := by
  apply Array.ext_getElem?
  intro i
  rw [brow_get, brow_get]
  by_cases h : i < 64
  · rw [if_pos h, if_pos h]
    unfold kfun bput
    simp
  · rw [if_neg h, if_neg h]
set_option maxRecDepth 100000 in
set_option maxHeartbeats 1000000 in
theorem keyBlock_empty (m : Nat → BitVec 8) (ad : Option Addr) (w : World) :
    Calls Tryd.prog 27 #[.slice ad 0 0] w fun e w' => e = .returned (.agg (brow 64 (kfun 0 m))) ∧ Below w.heap.size w w' := by
  have hz := zero_64
  rw [kfun_zero]
  have sl0 := fun w1 => sliceAt_all w1 26 5 64 (w.heap.size + 1) 0 Tryd.underlying26 size_u8
  have HB0 : Hid (Below w.heap.size w ((w.alloc (.cells z64 26)).alloc (.cells z64 26))) := ((Below.refl _ _).alloc (Nat.le_refl _) _).alloc (by simp) _
  have HRW : Hid (((w.alloc (.cells z64 26)).alloc (.cells z64 26)).heap[w.heap.size + 1]? = some (.cells (brow 64 (fun _ => 0)) 26 (0, 0))) := by
    have := heap_alloc2_new w (.cells z64 26) (.cells z64 26)
    rw [← z64_brow]; exact this
  have HT2 : Hid (((w.alloc (.cells z64 26)).alloc (.cells z64 26)).there w.heap.size 0 (brow 64 (fun _ => 0)).size) := by
    show World.there _ _ _ _
    rw [brow_size]
    have hb : Below (w.heap.size + 1) (w.alloc (.cells z64 26)) ((w.alloc (.cells z64 26)).alloc (.cells z64 26)) := (Below.refl _ _).alloc (by simp) _
    exact there_of_row ((hb.block w.heap.size (by omega)).trans (heap_alloc_new _ _)) 0 64 (Nat.le_refl _)
  go_enter Tryd.func27, Tryd.ntmps27
  go_wp2_with (first | (refine wpList_copy_nothing rfl _ _ 22 22 rfl 5 Tryd.underlying22 size_u8 (some ⟨w.heap.size + 1, 0, none⟩) ad 64 64 0 0 rfl rfl rfl ?_) | (refine wpList_load_row rfl 26 _ rfl (w.heap.size + 1) rfl _ _ _ _ HRW.out Tryd.underlying26 rfl (by rw [brow_size]; kernel_rfl) ?_) | (refine wpList_store_mid rfl 26 _ _ rfl w.heap.size 0 (brow 64 (fun _ => 0)) rfl rfl HT2.out (by rw [brow_size]; kernel_rfl) (by exact brow_one _ _) ?_))
  refine bodyPost_ret (v := .agg (brow 64 (fun _ => 0))) ?_ rfl ⟨rfl, ?_⟩
  · exact results_mid Tryd.results27 _ _ w.heap.size 0 (brow 64 (fun _ => 0)).toList _ rfl (World.rangeAt_setCells_same _ _ _ _ HT2.out) Tryd.underlying26 rfl (by rw [Array.length_toList, brow_size]; kernel_rfl)
  · exact below_setCells _ (Nat.le_refl _) _ _ _ HB0.out
end Go.Proofs.YtkjmompdfegmcaaDoor
