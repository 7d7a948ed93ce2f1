/- The walk of WireLists. -/
import Derived.Test.YtagfjpafbpoebaaWirI
namespace Go.Proofs.Ytagfjpafbpoebaa
open Go Go.RowKit
set_option linter.unusedSimpArgs false
set_option linter.unusedVariables false

set_option maxHeartbeats 1000000 in
theorem wireLists_walk (xss : List (List Int)) (v : Value) (w : World) (hs : LL w v xss) (hL : Lens xss) (hn : xss.length * 24 ≤ 140737488355328) :
    Calls Try.prog 3 #[v] w fun e w' => e = .returned (.bool true) ∧ Below w.heap.size w w' := by
  have HL : Hid (Lens xss) := hL
  have HS : Hid (LL w v xss) := hs
  have hn1 : xss.length ≤ 140737488355328 := by omega
  clear hL hs
  go_enter Try.func3, Try.ntmps3
  go_wp2_with (first
    | (go_at_call 9; refine (awake_any w).mono ?_; rintro e w1 ⟨rfl, h1⟩; have H1 : Hid (Below w.heap.size w w1) := h1; clear h1)
    | (go_at_call 10; refine (rencode_any xss v w1 (HS.out.below H1.out) HL.out hn1).mono ?_; rintro e w2 ⟨v2, rfl, h2, h3⟩; have H2 : Hid (Sl w2 v2 (encB xss)) := h2.sl; have H3 : Hid (Below w.heap.size w w2) := H1.out.trans (h3.mono H1.out.size); clear h2 h3)
    | (go_at_call 12; refine (copyList_any xss v w2 (HS.out.below H3.out) HL.out hn).mono ?_; rintro e w3 ⟨v3, us, rfl, h4, h5⟩; have H4 : Hid (LL w3 v3 xss) := h4.ll; have H5 : Hid (Below w.heap.size w w3) := H3.out.trans (h5.mono H3.out.size); have H6 : Hid (Sl w3 v2 (encB xss)) := H2.out.below h5 (Nat.le_refl _); clear h4 h5)
    | (go_at_call 11; refine (encode_any xss v3 w3 H4.out HL.out hn1).mono ?_; rintro e w4 ⟨v4, rfl, h6, h7⟩; have s1 := h6.sl.str; have s2 := (H6.out.below h7 (Nat.le_refl _)).str; have H7 : Hid (Below w.heap.size w w4) := H5.out.trans (h7.mono H5.out.size); clear h6 h7))
  go_ret
  exact ⟨rfl, H7.out⟩
end Go.Proofs.Ytagfjpafbpoebaa
