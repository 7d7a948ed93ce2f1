/- The reference's table of constants: what 'k256' answers. -/
import Derived.Test.YtddgdaggdgeclaaDoorRefB
namespace Go.Proofs.YtddgdaggdgeclaaDoor.Sh
open Go Go.RowKit

theorem k_row : (#[.int .u32 1116352408, .int .u32 1899447441, .int .u32 3049323471, .int .u32 3921009573, .int .u32 961987163, .int .u32 1508970993, .int .u32 2453635748, .int .u32 2870763221, .int .u32 3624381080, .int .u32 310598401, .int .u32 607225278, .int .u32 1426881987, .int .u32 1925078388, .int .u32 2162078206, .int .u32 2614888103, .int .u32 3248222580, .int .u32 3835390401, .int .u32 4022224774, .int .u32 264347078, .int .u32 604807628, .int .u32 770255983, .int .u32 1249150122, .int .u32 1555081692, .int .u32 1996064986, .int .u32 2554220882, .int .u32 2821834349, .int .u32 2952996808, .int .u32 3210313671, .int .u32 3336571891, .int .u32 3584528711, .int .u32 113926993, .int .u32 338241895, .int .u32 666307205, .int .u32 773529912, .int .u32 1294757372, .int .u32 1396182291, .int .u32 1695183700, .int .u32 1986661051, .int .u32 2177026350, .int .u32 2456956037, .int .u32 2730485921, .int .u32 2820302411, .int .u32 3259730800, .int .u32 3345764771, .int .u32 3516065817, .int .u32 3600352804, .int .u32 4094571909, .int .u32 275423344, .int .u32 430227734, .int .u32 506948616, .int .u32 659060556, .int .u32 883997877, .int .u32 958139571, .int .u32 1322822218, .int .u32 1537002063, .int .u32 1747873779, .int .u32 1955562222, .int .u32 2024104815, .int .u32 2227730452, .int .u32 2361852424, .int .u32 2428436474, .int .u32 2756734187, .int .u32 3204031479, .int .u32 3329325298] : Array Value) = rowW K256 64 := by kernel_rfl
set_option maxRecDepth 100000 in
set_option maxHeartbeats 1000000 in
theorem k256_any (w : World) : Calls Tryd.prog 23 #[] w fun e w' => e = .returned (.agg (rowW K256 64)) ∧ Below w.heap.size w w' := by
  have HT : Hid ((w.alloc (.cells (List.replicate 64 (Value.int .u32 0)).toArray 46)).there w.heap.size 0 (rowW K256 64).size) := there_of_row (heap_alloc_new _ _) 0 _ (by rw [rowW_size]; simp)
  go_enter Tryd.func23, Tryd.ntmps23
  go_wp2_with (refine wpList_store_mid rfl 46 _ _ rfl w.heap.size 0 (rowW K256 64) rfl (congrArg Value.agg k_row) HT.out (by rw [rowW_size]; kernel_rfl) (by exact rowW_one _ _) ?_)
  refine bodyPost_ret (v := .agg (rowW K256 64)) ?_ rfl ⟨rfl, ?_⟩
  · exact results_mid Tryd.results23 _ _ w.heap.size 0 (rowW K256 64).toList _ rfl (World.rangeAt_setCells_same _ _ _ _ HT.out) Tryd.underlying46 rfl (by rw [Array.length_toList, rowW_size]; kernel_rfl)
  · exact below_setCells _ (Nat.le_refl _) _ _ _ ((Below.refl _ _).alloc (Nat.le_refl _) _)
end Go.Proofs.YtddgdaggdgeclaaDoor.Sh
