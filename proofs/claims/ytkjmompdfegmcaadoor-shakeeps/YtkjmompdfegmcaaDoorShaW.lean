/- 'keyBlock'. -/
import Derived.Test.YtkjmompdfegmcaaDoorShaV
namespace Go.Proofs.YtkjmompdfegmcaaDoor
open Go Go.RowKit
set_option linter.unusedSimpArgs false
set_option linter.unusedVariables false

def z64 : Array Value := (List.replicate 64 (Value.int .u8 0)).toArray
theorem zero_64 (w : World) : (zeroValue 26).run Tryd.prog w = .ok (.agg z64) w := by kernel_rfl
theorem z64_brow : z64 = brow 64 (fun _ => 0) := by kernel_rfl
/-- The key in a block, where it is short. -/
def kfun (n : Nat) (m : Nat → BitVec 8) : Nat → BitVec 8 := bput (fun _ => 0) 0 n m
theorem brow_one (k : Nat) (f : Nat → BitVec 8) : (brow k f).all (·.oneCell') = true := all_oneCell_toArray (bytes_one k f)
set_option maxRecDepth 100000 in
set_option maxHeartbeats 1000000 in
theorem keyBlock_short (m : Nat → BitVec 8) (n b off cap : Nat) (hn : n ≤ 64) (w : World) (hlt : b < w.heap.size) (hm : ∀ i, i < n → w.cell? ⟨b, off + i, none⟩ = some (B (m i))) :
    Calls Tryd.prog 27 #[.slice (some ⟨b, off, none⟩) n cap] w fun e w' => e = .returned (.agg (brow 64 (kfun n m))) ∧ Below w.heap.size w w' := by
  have HM : Hid (∀ i, i < n → w.cell? ⟨b, off + i, none⟩ = some (B (m i))) := hm
  clear hm
  have hz := zero_64
  have g : (n : Int) ≤ 64 := by omega
  have sl0 := fun w1 => sliceAt_all w1 26 5 64 (w.heap.size + 1) 0 Tryd.underlying26 size_u8
  have HB0 : Hid (Below w.heap.size w ((w.alloc (.cells z64 26)).alloc (.cells z64 26))) := ((Below.refl _ _).alloc (Nat.le_refl _) _).alloc (by simp) _
  have HRW : Hid (((w.alloc (.cells z64 26)).alloc (.cells z64 26)).heap[w.heap.size + 1]? = some (.cells (brow 64 (fun _ => 0)) 26 (0, 0))) := by
    have := heap_alloc2_new w (.cells z64 26) (.cells z64 26)
    rw [← z64_brow]; exact this
  have HS : Hid (∀ j v, ((List.range n).map fun i => B (m i))[j]? = some v → ((w.alloc (.cells z64 26)).alloc (.cells z64 26)).cell? ((⟨b, off, none⟩ : Addr).add j) = some v) :=
    src_cells (n := n) (fun i hi => by rw [HB0.out.cell (p := ⟨b, off + i, none⟩) hlt]; exact HM.out i hi) n (Nat.le_refl _)
  have HF : Hid (0 + ((List.range n).map fun i => B (m i)).length ≤ (brow 64 (fun _ => 0)).size) := by
    show 0 + ((List.range n).map fun i => B (m i)).length ≤ (brow 64 (fun _ => 0)).size
    rw [brow_size, List.length_map, List.length_range]; omega
  have HLE : Hid (((List.range n).map fun i => B (m i)).length = Nat.min n 64) := by
    show _ = min n 64
    simp; omega
  go_enter Tryd.func27, Tryd.ntmps27
  go_wp2_with (first | (refine wpList_copyL rfl _ _ 22 22 rfl 5 Tryd.underlying22 size_u8 (w.heap.size + 1) 0 64 64 ⟨b, off, none⟩ n cap rfl rfl (brow 64 (fun _ => 0)) 26 HRW.out ((List.range n).map fun i => B (m i)) HLE.out HS.out HF.out (bytes_one n m) ?_; intro w2 hg2 hz2 hr2; rw [brow_splice 64 (fun _ => 0) 0 n m (by omega)] at hr2; have HR2 : Hid (w2.heap[w.heap.size + 1]? = some (.cells (brow 64 (kfun n m)) 26 (0, 0))) := hr2; have HB2 : Hid (Below (w.heap.size + 1) (w.alloc (.cells z64 26)) w2) := below_of_grown ((Below.refl (w.heap.size + 1) (w.alloc (.cells z64 26))).alloc (by simp) _) hg2 (by simp) (Nat.le_refl _); have HT2 : Hid (w2.there w.heap.size 0 (brow 64 (kfun n m)).size) := (by rw [brow_size]; exact there_of_row ((HB2.out.block w.heap.size (by omega)).trans (heap_alloc_new _ _)) 0 64 (Nat.le_refl _)); clear hg2 hz2 hr2) | (refine wpList_load_row rfl 26 _ rfl (w.heap.size + 1) rfl _ _ _ _ HR2.out Tryd.underlying26 rfl (by rw [brow_size]; kernel_rfl) ?_) | (refine wpList_store_mid rfl 26 _ _ rfl w.heap.size 0 (brow 64 (kfun n m)) rfl rfl HT2.out (by rw [brow_size]; kernel_rfl) (by exact brow_one _ _) ?_))
  refine bodyPost_ret (v := .agg (brow 64 (kfun n m))) ?_ rfl ⟨rfl, ?_⟩
  · exact results_mid Tryd.results27 _ _ w.heap.size 0 (brow 64 (kfun n m)).toList _ rfl (World.rangeAt_setCells_same _ _ _ _ HT2.out) Tryd.underlying26 rfl (by rw [Array.length_toList, brow_size]; kernel_rfl)
  · exact below_setCells _ (Nat.le_refl _) _ _ _ (((Below.refl w.heap.size w).alloc (Nat.le_refl _) _).trans (HB2.out.mono (by omega)))
end Go.Proofs.YtkjmompdfegmcaaDoor
