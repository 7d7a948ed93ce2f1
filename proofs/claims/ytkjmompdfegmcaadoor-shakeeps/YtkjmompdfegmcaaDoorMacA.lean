/- 'keyBlock' at a long key. -/
import Derived.Test.YtkjmompdfegmcaaDoorShaX
namespace Go.Proofs.YtkjmompdfegmcaaDoor
open Go Go.RowKit
set_option linter.unusedSimpArgs false
set_option linter.unusedVariables false

theorem sum256_at (S : St) (m : Nat → BitVec 8) (n : Nat) (v : Value) (hS : sumSt K256 H256 m n = S) (hn : n < 1152921504606846976) (w : World) (hT : Tabs w K256 H256) (hv : Bytes w v n m w.heap.size) :
    Calls Tryd.prog 7 #[v] w fun e w' => e = .returned (.agg (srow S)) ∧ Below w.heap.size w w' := by
  subst hS; exact sum256_any K256 H256 m n v hn w hT hv
theorem srow_brow (S : St) : srow S = brow 32 (sbyte S) := rfl
theorem z32_brow : z32 = brow 32 (fun _ => 0) := by kernel_rfl
/-- What the key's block is begun with, and where its hash lies. -/
structure KB (w wr : World) (S : St) (h : Nat) : Prop where
  below : Below w.heap.size w wr
  res : wr.heap[w.heap.size]? = some (.cells z64 26 (0, 0))
  row : wr.heap[w.heap.size + 1]? = some (.cells (brow 64 (fun _ => 0)) 26 (0, 0))
  hs : ∀ i, i < 32 → wr.cell? ⟨h, 0 + i, none⟩ = some (B (sbyte S i))
  hlt : h < wr.heap.size
set_option maxRecDepth 100000 in
set_option maxHeartbeats 1000000 in
theorem keyBlock_long (S : St) (m : Nat → BitVec 8) (ad : Option Addr) (n cap : Nat) (hS : sumSt K256 H256 m n = S) (hn : 64 < n) (hn2 : n < 1152921504606846976) (w : World) (hT : Tabs w K256 H256) (hv : Bytes w (.slice ad n cap) n m w.heap.size) :
    Calls Tryd.prog 27 #[.slice ad n cap] w fun e w' => e = .returned (.agg (brow 64 (kfun 32 (sbyte S)))) ∧ Below w.heap.size w w' := by
  have HT : Hid (Tabs w K256 H256) := hT
  have HV : Hid (Bytes w (.slice ad n cap) n m w.heap.size) := hv
  have HS : Hid (sumSt K256 H256 m n = S) := hS
  have hl : Hid (1 < w.heap.size ∧ 3 < w.heap.size) := hT.lt
  clear hT hv hS
  have hz := zero_64
  have hz2 := zero_32
  have g : (n : Int) > 64 := by omega
  have HB0 : Hid (Below w.heap.size w ((w.alloc (.cells z64 26)).alloc (.cells z64 26))) := ((Below.refl _ _).alloc (Nat.le_refl _) _).alloc (by simp) _
  have HR0 : Hid (((w.alloc (.cells z64 26)).alloc (.cells z64 26)).heap[w.heap.size]? = some (.cells z64 26 (0, 0))) := heap_alloc2_old w _ _
  have HR1 : Hid (((w.alloc (.cells z64 26)).alloc (.cells z64 26)).heap[w.heap.size + 1]? = some (.cells (brow 64 (fun _ => 0)) 26 (0, 0))) := by
    have := heap_alloc2_new w (.cells z64 26) (.cells z64 26)
    rw [← z64_brow]; exact this
  go_enter Tryd.func27, Tryd.ntmps27
  go_wp2_with fail
  refine (sum256_at S m n _ HS.out hn2 _ (HT.out.below HB0.out hl.out.1 hl.out.2) (HV.out.mono HB0.out (by simp; omega))).mono ?_
  rintro e w1 ⟨rfl, hb1⟩
  have hs1 : w.heap.size + 2 ≤ w1.heap.size := by have := hb1.size; simp at this; omega
  have HB1 : Hid (Below w.heap.size w w1) := HB0.out.trans (hb1.mono (by simp; omega))
  have HS1 : Hid (w1.heap[w.heap.size]? = some (.cells z64 26 (0, 0))) := (hb1.block _ (by simp; omega)).trans HR0.out
  have HS2 : Hid (w1.heap[w.heap.size + 1]? = some (.cells (brow 64 (fun _ => 0)) 26 (0, 0))) := (hb1.block _ (by simp)).trans HR1.out
  clear hb1 HB0 HR0 HR1
  have HTH : Hid ((w1.alloc (.cells z32 24)).there w1.heap.size 0 (srow S).size) := there_of_row (heap_alloc_new _ _) 0 _ (by rw [srow_size, z32_size]; omega)
  go_wp2_with (refine wpList_store_midL rfl 24 _ _ rfl w1.heap.size 0 (srow S) rfl rfl HTH.out (by rw [srow_size]; kernel_rfl) (by exact srow_one _) ?_; intro w2 hw2; have KB2 : Hid (KB w w2 S w1.heap.size) := (by
      have hb2 : Below w1.heap.size w1 w2 := by rw [hw2]; exact below_setCells _ (Nat.le_refl _) _ _ _ ((Below.refl _ _).alloc (Nat.le_refl _) _)
      have hra : w2.rangeAt w1.heap.size 0 (srow S).toList := by rw [hw2]; exact World.rangeAt_setCells_same _ _ _ _ HTH.out
      have h0 := hra 0 _ (by rw [Array.getElem?_toList]; exact srow_get S 0 (by omega))
      exact ⟨HB1.out.trans (hb2.mono (by omega)), (hb2.block _ (by omega)).trans HS1.out, (hb2.block _ (by omega)).trans HS2.out, fun i hi => hra i _ (by rw [Array.getElem?_toList]; exact srow_get S i hi), block_lt_of_cell h0⟩); clear hw2)
  clear HTH HS1 HS2 HB1
  obtain ⟨h, hh⟩ : ∃ h, h = w1.heap.size := ⟨_, rfl⟩
  rw [← hh] at KB2
  rw [← hh]
  have hne : Hid (w.heap.size + 2 ≤ h) := by show w.heap.size + 2 ≤ h; omega
  clear hh
  have sl0 := fun w1 => sliceAt_all w1 26 5 64 (w.heap.size + 1) 0 Tryd.underlying26 size_u8
  have sl1 := fun w1 => sliceAt_all w1 24 5 32 h 0 Tryd.underlying24 size_u8
  have HSS : Hid (∀ j v, ((List.range 32).map fun i => B (sbyte S i))[j]? = some v → w2.cell? ((⟨h, 0, none⟩ : Addr).add j) = some v) := src_cells (n := 32) KB2.out.hs 32 (Nat.le_refl _)
  have HF : Hid (0 + ((List.range 32).map fun i => B (sbyte S i)).length ≤ (brow 64 (fun _ => 0)).size) := by
    show 0 + ((List.range 32).map fun i => B (sbyte S i)).length ≤ (brow 64 (fun _ => 0)).size
    rw [brow_size, List.length_map, List.length_range]; omega
  have HLE : Hid (((List.range 32).map fun i => B (sbyte S i)).length = Nat.min 32 64) := by
    show _ = min 32 64
    simp
  go_region_held3 (fun _ => True) (trivial) (first | (refine step_copyL rfl (.tmp 10) (.tmp 11) 22 22 rfl 5 Tryd.underlying22 size_u8 (w.heap.size + 1) 0 64 64 ⟨h, 0, none⟩ 32 32 ?_ ?_ (brow 64 (fun _ => 0)) 26 ?_ ((List.range 32).map fun i => B (sbyte S i)) HLE.out ?_ HF.out (bytes_one 32 _) ?_; rfl; rfl; exact KB2.out.row; exact HSS.out; intro w3 hg3 hz3 hr3))
  rw [brow_splice 64 (fun _ => 0) 0 32 (sbyte S) (by omega)] at hr3
  have HR3 : Hid (w3.heap[w.heap.size + 1]? = some (.cells (brow 64 (kfun 32 (sbyte S))) 26 (0, 0))) := hr3
  have HB3 : Hid (Below w.heap.size w w3) := KB2.out.below.drew.grown hg3 (by have := KB2.out.below.size; simpa using this) (fun k hk => by cases hk; omega)
  have HT3 : Hid (w3.there w.heap.size 0 (brow 64 (kfun 32 (sbyte S))).size) := by
    rw [brow_size]
    have hx : w3.heap[w.heap.size]? = some (.cells z64 26 (0, 0)) := (hg3.block w.heap.size (by have h1 := KB2.out.hlt; have h2 := hne.out; simp; omega) (by simp)).trans KB2.out.res
    exact there_of_row hx 0 64 (by rw [z64_brow, brow_size]; omega)
  clear hr3 hg3 hz3 HSS HF HLE sl0 sl1
  go_wp2_with (first | (refine wpList_load_row rfl 26 _ rfl (w.heap.size + 1) rfl _ _ _ _ HR3.out Tryd.underlying26 rfl (by rw [brow_size]; kernel_rfl) ?_) | (refine wpList_store_mid rfl 26 _ _ rfl w.heap.size 0 (brow 64 (kfun 32 (sbyte S))) rfl rfl HT3.out (by rw [brow_size]; kernel_rfl) (by exact brow_one _ _) ?_))
  refine bodyPost_ret (v := .agg (brow 64 (kfun 32 (sbyte S)))) ?_ rfl ⟨rfl, ?_⟩
  · exact results_mid Tryd.results27 _ _ w.heap.size 0 (brow 64 (kfun 32 (sbyte S))).toList _ rfl (World.rangeAt_setCells_same _ _ _ _ HT3.out) Tryd.underlying26 rfl (by rw [Array.length_toList, brow_size]; kernel_rfl)
  · exact below_setCells _ (Nat.le_refl _) _ _ _ HB3.out
/-- The key's block. -/
def kb (n : Nat) (m : Nat → BitVec 8) : Nat → BitVec 8 := if n ≤ 64 then kfun n m else kfun 32 (sbyte (sumSt K256 H256 m n))
theorem keyBlock_any (f m : Nat → BitVec 8) (ad : Option Addr) (n cap : Nat) (hf : kb n m = f) (hn2 : n < 1152921504606846976) (w : World) (hT : Tabs w K256 H256) (hv : Bytes w (.slice ad n cap) n m w.heap.size) :
    Calls Tryd.prog 27 #[.slice ad n cap] w fun e w' => e = .returned (.agg (brow 64 f)) ∧ Below w.heap.size w w' := by
  by_cases h : n ≤ 64
  · have e : f = kfun n m := by rw [← hf]; exact if_pos h
    rw [e]
    rcases hv with ⟨⟨a', he⟩, h0⟩ | ⟨b, off, c', he, _, hlt, _, hm⟩
    · cases he; exact keyBlock_empty m ad w
    · cases he; exact keyBlock_short m n b off cap h w hlt hm
  · have e : f = kfun 32 (sbyte (sumSt K256 H256 m n)) := by rw [← hf]; exact if_neg h
    rw [e]
    exact keyBlock_long _ m ad n cap rfl (by omega) hn2 w hT hv
end Go.Proofs.YtkjmompdfegmcaaDoor
