/- The walk of ShaSums. -/
import Derived.Test.YtkjmompdfegmcaaDoorQ5E
namespace Go.Proofs.YtkjmompdfegmcaaDoor
open Go Go.RowKit
set_option linter.unusedSimpArgs false
set_option linter.unusedVariables false

set_option maxRecDepth 100000 in
set_option maxHeartbeats 1000000 in
theorem shaSums_walk (a0 : Option Addr) (n0 c0 : Nat) (m0 : Nat → BitVec 8) (w : World) (hT : Tabs w K256 H256) (hT5 : Q5.Tabs w) (l0 : n0 ≤ 140737488351232)
    (h0 : Bytes w (.slice a0 n0 c0) n0 m0 w.heap.size) :
    Calls Tryd.prog 3 #[.slice a0 n0 c0] w fun e w' => e = .returned (.bool true) ∧ Below w.heap.size w w' := by
  have HT : Hid (Tabs w K256 H256) := hT
  have HT5 : Hid (Q5.Tabs w) := hT5
  have H0 : Hid (Bytes w (.slice a0 n0 c0) n0 m0 w.heap.size) := h0
  have HS0 : Hid (Src w a0 n0 c0 m0) := by obtain ⟨ad, cap, hv, hs⟩ := h0.src; cases hv; exact hs
  have hl : Hid (1 < w.heap.size ∧ 3 < w.heap.size) := hT.lt
  have hl5 : Hid (0 < w.heap.size ∧ 2 < w.heap.size) := hT5.lt
  clear hT h0 hT5
  obtain ⟨S1, hS1⟩ : ∃ S, sumSt K256 H256 m0 n0 = S := ⟨_, rfl⟩
  obtain ⟨S2, hS2⟩ : ∃ S, Q5.sumSt Q5.K512 Q5.H512 m0 n0 = S := ⟨_, rfl⟩
  have HS1 : Hid (sumSt K256 H256 m0 n0 = S1) := hS1
  have HS2 : Hid (Q5.sumSt Q5.K512 Q5.H512 m0 n0 = S2) := hS2
  clear hS1 hS2
  have he := eq_same
  have he5 := Q5.eq_same
  go_enter Tryd.func3, Tryd.ntmps3
  go_wp2_with fail
  refine (awake_any w HT.out).mono ?_
  rintro e w1 ⟨rfl, hb1⟩
  have B1 : Hid (Below w.heap.size w w1) := hb1
  clear hb1
  go_wp2_with fail
  refine (sum256_at S1 m0 n0 _ HS1.out (by omega) w1 (HT.out.below B1.out hl.out.1 hl.out.2) (H0.out.mono B1.out B1.out.size)).mono ?_
  rintro e w2 ⟨rfl, hb2⟩
  have B2 : Hid (Below w.heap.size w w2) := B1.out.trans (hb2.mono B1.out.size)
  clear hb2 B1
  go_wp2_with fail
  refine (rsum_at S1 m0 a0 n0 c0 HS1.out (by omega) w2 (HS0.out.below B2.out (Nat.le_refl _))).mono ?_
  rintro e w3 ⟨rfl, hb3⟩
  have B3 : Hid (Below w.heap.size w w3) := B2.out.trans (hb3.mono B2.out.size)
  clear hb3 B2
  go_wp2_with fail
  refine (Q5.sum512_at S2 m0 n0 _ HS2.out (by omega) w3 (HT5.out.below B3.out hl5.out) (H0.out.mono B3.out B3.out.size)).mono ?_
  rintro e w4 ⟨rfl, hb4⟩
  have B4 : Hid (Below w.heap.size w w4) := B3.out.trans (hb4.mono B3.out.size)
  clear hb4 B3
  go_wp2_with fail
  refine (Q5.rsum_at S2 m0 a0 n0 c0 HS2.out (by omega) w4 (HS0.out.below B4.out (Nat.le_refl _))).mono ?_
  rintro e w5 ⟨rfl, hb5⟩
  have B5 : Hid (Below w.heap.size w w5) := B4.out.trans (hb5.mono B4.out.size)
  clear hb5 B4
  go_wp2
  go_ret
  exact ⟨rfl, B5.out⟩
end Go.Proofs.YtkjmompdfegmcaaDoor
