/- The walk of ShaMacs. -/
import Derived.Test.YtbljijopgpcieaaDoorMacR
namespace Go.Proofs.YtbljijopgpcieaaDoor
open Go Go.RowKit
set_option linter.unusedSimpArgs false
set_option linter.unusedVariables false

set_option maxRecDepth 100000 in
set_option maxHeartbeats 1000000 in
theorem shaMacs_walk (a0 : Option Addr) (n0 c0 : Nat) (m0 : Nat → BitVec 8) (a1 : Option Addr) (n1 c1 : Nat) (m1 : Nat → BitVec 8) (w : World) (hT : Tabs w K256 H256) (l0 : n0 ≤ 140737488351232) (l1 : n1 ≤ 140737488351232)
    (h0 : Bytes w (.slice a0 n0 c0) n0 m0 w.heap.size) (h1 : Bytes w (.slice a1 n1 c1) n1 m1 w.heap.size) :
    Calls Tryd.prog 3 #[.slice a0 n0 c0, .slice a1 n1 c1] w fun e w' => e = .returned (.bool true) ∧ Below w.heap.size w w' := by
  have HT : Hid (Tabs w K256 H256) := hT
  have H0 : Hid (Bytes w (.slice a0 n0 c0) n0 m0 w.heap.size) := h0
  have H1 : Hid (Bytes w (.slice a1 n1 c1) n1 m1 w.heap.size) := h1
  have hl : Hid (0 < w.heap.size ∧ 1 < w.heap.size) := hT.lt
  clear hT h0 h1
  obtain ⟨f, hf⟩ : ∃ f, kb n0 m0 = f := ⟨_, rfl⟩
  obtain ⟨S1, hS1⟩ : ∃ S, sumSt K256 H256 (cat 64 (fun i => f i ^^^ 54) m1) (64 + n1) = S := ⟨_, rfl⟩
  obtain ⟨S2, hS2⟩ : ∃ S, sumSt K256 H256 (cat 64 (fun i => f i ^^^ 92) (sbyte S1)) (64 + 32) = S := ⟨_, rfl⟩
  have HF : Hid (kb n0 m0 = f) := hf
  have HS1 : Hid (sumSt K256 H256 (cat 64 (fun i => f i ^^^ 54) m1) (64 + n1) = S1) := hS1
  have HS2 : Hid (sumSt K256 H256 (cat 64 (fun i => f i ^^^ 92) (sbyte S1)) (64 + 32) = S2) := hS2
  clear hf hS1 hS2
  have he := eq_same
  go_enter Tryd.func3, Tryd.ntmps3
  go_wp2_with fail
  refine (awake_any w HT.out).mono ?_
  rintro e w1 ⟨rfl, hb1⟩
  have B1 : Hid (Below w.heap.size w w1) := hb1
  clear hb1
  go_wp2_with fail
  refine (mac_any S1 S2 f m0 m1 a0 a1 n0 c0 n1 c1 HF.out HS1.out HS2.out (by omega) (by omega) w1 (HT.out.below B1.out hl.out.1 hl.out.2) (H0.out.mono B1.out B1.out.size) (H1.out.mono B1.out B1.out.size)).mono ?_
  rintro e w2 ⟨rfl, hb2⟩
  have B2 : Hid (Below w.heap.size w w2) := B1.out.trans (hb2.mono B1.out.size)
  clear hb2 B1
  go_wp2_with fail
  refine (rmac_any S1 S2 f m0 m1 a0 a1 n0 c0 n1 c1 (64 + n1) HF.out rfl HS1.out HS2.out (by omega) (by omega) w2 (H0.out.mono B2.out B2.out.size) (H1.out.mono B2.out B2.out.size)).mono ?_
  rintro e w3 ⟨rfl, hb3⟩
  have B3 : Hid (Below w.heap.size w w3) := B2.out.trans (hb3.mono B2.out.size)
  clear hb3 B2
  go_wp2
  go_ret
  exact ⟨rfl, B3.out⟩
end Go.Proofs.YtbljijopgpcieaaDoor
