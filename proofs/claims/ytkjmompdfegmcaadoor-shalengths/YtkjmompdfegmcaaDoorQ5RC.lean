/- The reference's table of constants: what 'k512' answers. -/
import Derived.Test.YtkjmompdfegmcaaDoorQ5RB
import Derived.Great.BuildSlice
namespace Go.Proofs.YtkjmompdfegmcaaDoor.Q5
open Go Go.RowKit

set_option maxRecDepth 100000 in
set_option maxHeartbeats 1000000 in
theorem k512_any (w : World) : Calls Tryd.prog 23 #[] w fun e w' => e = .returned (.agg (rowW K512 80)) ∧ Below w.heap.size w w' := by
  have HT : Hid ((w.alloc (.cells (List.replicate 80 (Value.int .u64 0)).toArray 54)).there w.heap.size 0 (rowW K512 80).size) := there_of_row (heap_alloc_new _ _) 0 _ (by rw [rowW_size]; simp)
  have hz := zero_80
  go_enter Tryd.func23, Tryd.ntmps23
  go_wp2_with (first | (refine wpList_buildTo rfl 54 _ rfl (some 1) rfl (rowW K512 80) (by kernel_rfl) ?_) | (refine wpList_store_mid rfl 54 _ _ rfl w.heap.size 0 (rowW K512 80) rfl rfl HT.out (by rw [rowW_size]; kernel_rfl) (by exact rowW_one _ _) ?_))
  refine bodyPost_ret (v := .agg (rowW K512 80)) ?_ rfl ⟨rfl, ?_⟩
  · exact results_mid Tryd.results23 _ _ w.heap.size 0 (rowW K512 80).toList _ rfl (World.rangeAt_setCells_same _ _ _ _ HT.out) Tryd.underlying54 rfl (by rw [Array.length_toList, rowW_size]; kernel_rfl)
  · exact below_setCells _ (Nat.le_refl _) _ _ _ ((Below.refl _ _).alloc (Nat.le_refl _) _)
end Go.Proofs.YtkjmompdfegmcaaDoor.Q5
