/- 'MAC'. -/
import Derived.Test.YtkjmompdfegmcaaDoorMacA
import Derived.Test.YtkjmompdfegmcaaDoorRgnT
namespace Go.Proofs.YtkjmompdfegmcaaDoor
open Go Go.RowKit
set_option linter.unusedSimpArgs false
set_option linter.unusedVariables false

/-- Within MAC: the key's block, and the inner hash. -/
structure MQ (w W : World) (f : Nat → BitVec 8) (S : St) (b5 b6 : Nat) : Prop where
  below : Below w.heap.size w W
  res : W.heap[w.heap.size]? = some (.cells z32 24 (0, 0))
  key : W.rangeAt b5 0 (brow 64 f).toList
  hs : ∀ i, i < 32 → W.cell? ⟨b6, 0 + i, none⟩ = some (B (sbyte S i))
  hlt : b6 < W.heap.size
def mΩ (w : World) (f : Nat → BitVec 8) (S1 S2 : St) (b5 b6 : Nat) : Nat → (Nat → Value) → World → Prop
  | 0, _, W => MQ w W f S1 b5 b6
  | 1, U, W => Below w.heap.size w W ∧ W.heap[w.heap.size]? = some (.cells z32 24 (0, 0)) ∧ U 0 = .agg (srow S2)
  | _, _, W => Below w.heap.size w W ∧ W.rangeAt w.heap.size 0 (srow S2).toList
def mfn (f : Nat → BitVec 8) (b6 : Nat) : Nat → Value
  | 0 => .agg (brow 64 f)
  | 1 => .slice (some ⟨b6, 0, none⟩) 32 32
  | _ => undef
def mK : Nat → Nat := fun _ => 0
theorem brow_list (k : Nat) (f : Nat → BitVec 8) : (brow k f).toList.length = k := by rw [Array.length_toList, brow_size]
theorem size_28 : (Tryd.prog.info? 26).map (·.size) = some 64 := by kernel_rfl
theorem size_24 : (Tryd.prog.info? 24).map (·.size) = some 32 := by kernel_rfl
set_option maxRecDepth 100000 in
set_option maxHeartbeats 2000000 in
theorem mac_any (S1 S2 : St) (f k m : Nat → BitVec 8) (ka ma : Option Addr) (kn kc mn mc : Nat) (hf : kb kn k = f) (h1 : sumSt K256 H256 (cat 64 (fun i => f i ^^^ 54) m) (64 + mn) = S1)
    (h2 : sumSt K256 H256 (cat 64 (fun i => f i ^^^ 92) (sbyte S1)) (64 + 32) = S2) (hkn : kn < 1125899906842624) (hmn : mn < 1125899906842624) (w : World) (hT : Tabs w K256 H256)
    (hk : Bytes w (.slice ka kn kc) kn k w.heap.size) (hm : Bytes w (.slice ma mn mc) mn m w.heap.size) :
    Calls Tryd.prog 13 #[.slice ka kn kc, .slice ma mn mc] w fun e w' => e = .returned (.agg (srow S2)) ∧ Below w.heap.size w w' := by
  have HT : Hid (Tabs w K256 H256) := hT
  have HK : Hid (Bytes w (.slice ka kn kc) kn k w.heap.size) := hk
  have HM : Hid (Bytes w (.slice ma mn mc) mn m w.heap.size) := hm
  have HF : Hid (kb kn k = f) := hf
  have H1 : Hid (sumSt K256 H256 (cat 64 (fun i => f i ^^^ 54) m) (64 + mn) = S1) := h1
  have H2 : Hid (sumSt K256 H256 (cat 64 (fun i => f i ^^^ 92) (sbyte S1)) (64 + 32) = S2) := h2
  have hl : Hid (1 < w.heap.size ∧ 3 < w.heap.size) := hT.lt
  clear hT hk hm hf h1 h2
  have hz := zero_64
  have hz2 := zero_32
  have HB0 : Hid (Below w.heap.size w (w.alloc (.cells z32 24))) := (Below.refl _ _).alloc (Nat.le_refl _) _
  go_enter Tryd.func13, Tryd.ntmps13
  go_wp2_with fail
  refine (keyBlock_any f k ka kn kc HF.out (by omega) _ (HT.out.below HB0.out hl.out.1 hl.out.2) (HK.out.mono HB0.out (by simp))).mono ?_
  rintro e w1 ⟨rfl, hb1⟩
  have hs1 : w.heap.size + 1 ≤ w1.heap.size := by have := hb1.size; simpa using this
  have HB1 : Hid (Below w.heap.size w w1) := HB0.out.trans (hb1.mono (by simp))
  have HR1 : Hid (w1.heap[w.heap.size]? = some (.cells z32 24 (0, 0))) := (hb1.block _ (by simp)).trans (heap_alloc_new _ _)
  clear hb1 HB0
  have HTH : Hid ((w1.alloc (.cells z64 26)).there w1.heap.size 0 (brow 64 f).size) := there_of_row (heap_alloc_new _ _) 0 _ (by rw [brow_size, z64_brow, brow_size]; omega)
  obtain ⟨b5, hb5⟩ : ∃ b, b = w1.heap.size := ⟨_, rfl⟩
  go_wp2_with (first
    | (refine wpList_store_midL rfl 26 _ _ rfl w1.heap.size 0 (brow 64 f) rfl rfl HTH.out (by rw [brow_size]; exact size_28) (by exact brow_one _ _) ?_; intro w2 hw2; have Q2 : Hid (Below w.heap.size w w2 ∧ w2.heap[w.heap.size]? = some (.cells z32 24 (0, 0)) ∧ w2.rangeAt w1.heap.size 0 (brow 64 f).toList ∧ w1.heap.size < w2.heap.size) := (by
      have hb2 : Below w1.heap.size w1 w2 := by rw [hw2]; exact below_setCells _ (Nat.le_refl _) _ _ _ ((Below.refl _ _).alloc (Nat.le_refl _) _)
      have hra : w2.rangeAt w1.heap.size 0 (brow 64 f).toList := by rw [hw2]; exact World.rangeAt_setCells_same _ _ _ _ HTH.out
      have h0 := hra 0 (B (f 0)) (by rw [Array.getElem?_toList, brow_get, if_pos (by omega)])
      exact ⟨HB1.out.trans (hb2.mono (by omega)), (hb2.block _ (by omega)).trans HR1.out, hra, block_lt_of_cell h0⟩); clear hw2; rw [← hb5] at Q2; rw [← hb5])
    | (refine wpList_load_mid rfl 26 _ rfl b5 0 rfl (brow 64 f).toList _ Q2.out.2.2.1 Tryd.underlying26 rfl (by rw [brow_list]; exact size_28) ?_))
  refine (keyed_any S1 f m 54 mn _ H1.out hmn w2 (HT.out.below Q2.out.1 hl.out.1 hl.out.2) (HM.out.mono Q2.out.1 Q2.out.1.size)).mono ?_
  rintro e w3 ⟨rfl, hb3⟩
  have Q3 : Hid (Below w.heap.size w w3 ∧ w3.heap[w.heap.size]? = some (.cells z32 24 (0, 0)) ∧ w3.rangeAt b5 0 (brow 64 f).toList ∧ b5 < w3.heap.size ∧ w.heap.size < w3.heap.size) :=
    ⟨Q2.out.1.trans (hb3.mono Q2.out.1.size), (hb3.block _ (by have := Q2.out.2.2.2; omega)).trans Q2.out.2.1, fun j u hu => (hb3.cell (p := ⟨b5, 0 + j, none⟩) Q2.out.2.2.2).trans (Q2.out.2.2.1 j u hu), Nat.lt_of_lt_of_le Q2.out.2.2.2 hb3.size, by have h1 := Q2.out.2.2.2; have h2 := hb3.size; omega⟩
  clear hb3 Q2 HTH HR1 HB1
  have HTH : Hid ((w3.alloc (.cells z32 24)).there w3.heap.size 0 (srow S1).size) := there_of_row (heap_alloc_new _ _) 0 _ (by rw [srow_size, z32_size]; omega)
  obtain ⟨b6, hb6⟩ : ∃ b, b = w3.heap.size := ⟨_, rfl⟩
  go_wp2_with (refine wpList_store_midL rfl 24 _ _ rfl w3.heap.size 0 (srow S1) rfl rfl HTH.out (by rw [srow_size]; exact size_24) (by exact srow_one _) ?_; intro w4 hw4; have Q4 : Hid (MQ w w4 f S1 b5 w3.heap.size) := (by
      have hb4 : Below w3.heap.size w3 w4 := by rw [hw4]; exact below_setCells _ (Nat.le_refl _) _ _ _ ((Below.refl _ _).alloc (Nat.le_refl _) _)
      have hra : w4.rangeAt w3.heap.size 0 (srow S1).toList := by rw [hw4]; exact World.rangeAt_setCells_same _ _ _ _ HTH.out
      have h0 := hra 0 _ (by rw [Array.getElem?_toList]; exact srow_get S1 0 (by omega))
      exact ⟨Q3.out.1.trans (hb4.mono Q3.out.1.size), (hb4.block _ Q3.out.2.2.2.2).trans Q3.out.2.1, fun j u hu => (hb4.cell (p := ⟨b5, 0 + j, none⟩) Q3.out.2.2.2.1).trans (Q3.out.2.2.1 j u hu), fun i hi => hra i _ (by rw [Array.getElem?_toList]; exact srow_get S1 i hi), block_lt_of_cell h0⟩); clear hw4; rw [← hb6] at Q4; rw [← hb6])
  clear HTH Q3
  refine RT.wp_rgn' [2, 3] (mfn f b6) mK (mΩ w f S1 S2 b5 b6) (by kernel_rfl) (by kernel_rfl) ?_ ?_ ?_
  · exact ⟨Q4.out.below.drew, Q4.out.res, fun j u hu => Q4.out.key j u hu, fun i hi => Q4.out.hs i hi, Q4.out.hlt⟩
  · refine ⟨?_, ?_, ?_, ?_, trivial⟩
    · refine RT.ObT.silent rfl (fun a W k U hO hf hp hk => ?_)
      have hk0 : k ≤ 0 := hk
      obtain rfl : k = 0 := by omega
      have e5 : a.eval (.tmp 5) = .pointer (some ⟨b5, 0, none⟩) := by rw [hb5]; exact hf 5 rfl
      exact RT.ob_op rfl (RT.wanted_none rfl) (wp_load_mid 26 (.tmp 5) rfl b5 0 e5 (brow 64 f).toList _ (MQ.key hO) Tryd.underlying26 rfl (by rw [brow_list]; exact size_28) ⟨rfl, hO⟩)
    · refine RT.ObT.pure rfl rfl rfl (fun a U hf hp ev he hc W => ?_)
      have q6 : ev (.tmp 6) = .pointer (some ⟨b6, 0, none⟩) := (he (.tmp 6)).trans (hf 6 rfl)
      simp only [List.getElem_toArray, List.getElem_cons_succ, List.getElem_cons_zero, execOp]; rw [q6]
      have := sliceAt_all W 24 5 32 b6 0 Tryd.underlying24 size_u8
      first | rfl | (go_simp; done) | (go_simp; rfl)
    · refine RT.ObT.loud (j := 0) rfl (fun a W U hO hf hp => ?_)
      have hO : MQ w W f S1 b5 b6 := hO
      have q12 : a.eval (.tmp 12) = .agg (brow 64 f) := hp 0 12 rfl
      have q13 : a.eval (.tmp 13) = .slice (some ⟨b6, 0, none⟩) 32 32 := hp 1 13 rfl
      refine RT.ob_call (args := #[.agg (brow 64 f), B 92, .slice (some ⟨b6, 0, none⟩) 32 32]) rfl (RT.wanted_none rfl) (fun ev he hc => ?_) ((keyed_any S2 f (sbyte S1) 92 32 _ H2.out (by omega) W (HT.out.below hO.below hl.out.1 hl.out.2) (.inr ⟨b6, 0, 32, rfl, Nat.le_refl _, hO.hlt, by have := hO.hlt; omega, hO.hs⟩)).mono ?_)
      · have e1 := (he (.tmp 12)).trans q12
        have e2 := (he (.tmp 13)).trans q13
        have hfn := he (.func 28)
        simp only [List.getElem_toArray, List.getElem_cons_succ, List.getElem_cons_zero, execOp]
        simp only [resolve, invoke, Sem.run_bind, Sem.run_pure, Result.andThen_ok, List.map_toArray, List.map_cons, List.map_nil, e1, e2, hc, hfn, Act.eval]
        rfl
      · rintro e W' ⟨rfl, hb⟩
        exact ⟨_, rfl, _, rfl, hO.below.trans (hb.mono hO.below.size), (hb.block _ (Array.getElem?_eq_some_iff.1 hO.res).1).trans hO.res, rfl⟩
    · refine RT.ObT.loud (j := 1) rfl (fun a W U hO hf hp => ?_)
      obtain ⟨hO1, hO2, hO3⟩ := hO
      have q14 : a.eval (.tmp 14) = .agg (srow S2) := (hp 2 14 rfl).trans hO3
      have hth : W.there w.heap.size 0 (srow S2).size := by rw [srow_size]; exact there_of_row hO2 0 32 (by rw [z32_size]; omega)
      exact RT.ob_op rfl (RT.wanted_none rfl) (wp_store_mid 24 (.tmp 4) (.tmp 14) rfl w.heap.size 0 (srow S2) (hf 4 rfl) q14 hth (by rw [srow_size]; exact size_24) (by exact srow_one _) ⟨_, rfl, below_setCells _ (Nat.le_refl _) _ _ _ hO1, World.rangeAt_setCells_same _ _ _ _ hth⟩)
  · intro w' U hO
    have HO : Hid (Below w.heap.size w w' ∧ w'.rangeAt w.heap.size 0 (srow S2).toList) := hO
    clear hO
    simp only [RT.lay, RT.val, RT.at', mfn, Act.put]
    go_wp2_with fail
    refine bodyPost_ret (v := .agg (srow S2)) ?_ rfl ⟨rfl, HO.out.1⟩
    exact results_mid Tryd.results13 _ _ w.heap.size 0 (srow S2).toList _ rfl HO.out.2 Tryd.underlying24 rfl (by rw [Array.length_toList, srow_size]; exact size_24)
end Go.Proofs.YtkjmompdfegmcaaDoor
