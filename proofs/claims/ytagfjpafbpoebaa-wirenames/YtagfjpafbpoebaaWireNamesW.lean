/- The walk of WireNames. -/
import Derived.Test.YtagfjpafbpoebaaWirR
namespace Go.Proofs.Ytagfjpafbpoebaa
open Go Go.RowKit
set_option linter.unusedSimpArgs false
set_option linter.unusedVariables false

theorem DD.below {w w' : World} {v : Value} {ds : List (List Int)} (h : DD w v ds) (hb : Below w.heap.size w w') : DD w' v ds := by
  obtain ⟨ad, cap, rfl, hl, hx⟩ := h
  refine ⟨ad, cap, rfl, hl, ?_⟩
  rcases hx with h | ⟨b, o, rfl, hlt, hm⟩
  · exact .inl h
  · exact .inr ⟨b, o, rfl, Nat.lt_of_lt_of_le hlt hb.size, fun i hi j hj => (hb.cell (p := ⟨b, o + (i * 32 + j), none⟩) hlt).trans (hm i hi j hj)⟩
set_option maxHeartbeats 1000000 in
theorem wireNames_walk (s : ByteArray) (ds : List (List Int)) (v : Value) (w : World) (hs : s.size ≤ 140737488355328) (hd : DD w v ds) (hn : ds.length ≤ 140737488355328) :
    Calls Try.prog 7 #[.string s, v] w fun e w' => e = .returned (.bool true) ∧ Below w.heap.size w w' := by
  have HD : Hid (DD w v ds) := hd
  clear hd
  obtain ⟨A, hA⟩ : ∃ A, acct s = A := ⟨_, rfl⟩
  obtain ⟨D, hD⟩ : ∃ D, devB ds = D := ⟨_, rfl⟩
  have EA : Hid (acct s = A) := hA
  have ED : Hid (devB ds = D) := hD
  clear hA hD
  go_enter Try.func7, Try.ntmps7
  go_wp2_with fail
  refine (awake_any w).mono ?_
  rintro e w1 ⟨rfl, h1⟩
  have H1 : Hid (Below w.heap.size w w1) := h1
  clear h1
  go_wp2_with fail
  refine (account_any s w1 hs).mono ?_
  rintro e w2 ⟨rfl, h2⟩
  rw [EA.out]
  have H2 : Hid (Below w.heap.size w w2) := H1.out.trans (h2.mono H1.out.size)
  clear h2
  go_wp2_with fail
  refine (raccount_any s w2 hs).mono ?_
  rintro e w3 ⟨rfl, h3⟩
  rw [EA.out]
  have H3 : Hid (Below w.heap.size w w3) := by rw [h3]; exact H2.out
  clear h3
  go_wp2_with fail
  refine (devices_any ds v w3 (HD.out.below H3.out) hn).mono ?_
  rintro e w4 ⟨rfl, h4⟩
  rw [ED.out]
  have H4 : Hid (Below w.heap.size w w4) := H3.out.trans (h4.mono H3.out.size)
  clear h4
  go_wp2_with fail
  refine (rdevices_any ds v w4 (HD.out.below H4.out) hn).mono ?_
  rintro e w5 ⟨rfl, h5⟩
  rw [ED.out]
  have H5 : Hid (Below w.heap.size w w5) := H4.out.trans (h5.mono H4.out.size)
  clear h5
  go_wp2
  go_ret
  exact ⟨rfl, H5.out⟩
end Go.Proofs.Ytagfjpafbpoebaa
