/- The walk of WireReads. -/
import Derived.Test.YtagfjpafbpoebaaWirM
namespace Go.Proofs.Ytagfjpafbpoebaa
open Go Go.RowKit
set_option linter.unusedSimpArgs false
set_option linter.unusedVariables false

theorem decL_len {xs : List Int} (hb : Byt xs) : (decL xs).length ≤ 65536 ∧ ∀ m ∈ decL xs, Byt m ∧ m.length ≤ 1048576 := by
  by_cases h1 : 1048576 < xs.length
  · rw [(dec_large h1).2]; exact ⟨by simp, fun m hm => by cases hm⟩
  by_cases h2 : xs.length < 4 ∨ 65536 < cnt xs
  · rw [(dec_form h1 h2).2]; exact ⟨by simp, fun m hm => by cases hm⟩
  cases hd : dk xs (cnt xs) with
  | none => rw [(dec_none h1 h2 hd).2]; exact ⟨by simp, fun m hm => by cases hm⟩
  | some p =>
    obtain ⟨l, r⟩ := p
    obtain ⟨e1, e2, e3, e4⟩ := dk_inv hb hd
    by_cases hr : r.length = 0
    · rw [(dec_ok h1 h2 hd hr).2]
      exact ⟨by omega, fun m hm => ⟨(e4 m hm).1, by have := (e4 m hm).2; omega⟩⟩
    · rw [(dec_rest h1 h2 hd hr).2]; exact ⟨by simp, fun m hm => by cases hm⟩
set_option maxHeartbeats 1000000 in
theorem wireReads_walk (xs : List Int) (v : Value) (w : World) (hb : Byt xs) (hs : Sl w v xs) (hl : xs.length ≤ 140737488355328) :
    Calls Try.prog 4 #[v] w fun e w' => e = .returned (.bool true) ∧ Below w.heap.size w w' := by
  have HB : Hid (Byt xs) := hb
  have HS : Hid (Sl w v xs) := hs
  have HN : Hid ((decL xs).length ≤ 140737488355328) := by have := (decL_len hb).1; show (decL xs).length ≤ 140737488355328; omega
  clear hb hs
  go_enter Try.func4, Try.ntmps4
  go_wp2_with (first
    | (go_at_call 9; refine (awake_any w).mono ?_; rintro e w1 ⟨rfl, h1⟩; have H1 : Hid (Below w.heap.size w w1) := h1; clear h1)
    | (go_at_call 13; refine (rdecode_any xs v w1 HB.out (HS.out.below H1.out (Nat.le_refl _)) hl).mono ?_; rintro e w2 ⟨v2, us2, rfl, h2, h3⟩; have H2 : Hid (LL w2 v2 (decL xs)) := h2.ll; have H3 : Hid (Below w.heap.size w w2) := H1.out.trans (h3.mono H1.out.size); clear h2 h3)
    | (go_at_call 14; refine (decode_any xs v w2 HB.out (HS.out.below H3.out (Nat.le_refl _)) hl).mono ?_; rintro e w3 ⟨v3, us3, rfl, h4, h5⟩; have H4 : Hid (LL w3 v3 (decL xs)) := h4.ll; have H6 : Hid (LL w3 v2 (decL xs)) := H2.out.below h5; have H5 : Hid (Below w.heap.size w w3) := H3.out.trans (h5.mono H3.out.size); clear h4 h5)
    | (go_at_call 15; refine (sameList_same (decL xs) _ _ w3 H4.out H6.out HN.out).mono ?_; rintro e w4 ⟨rfl, h7⟩; have H7 : Hid (Below w.heap.size w w4) := H5.out.trans (h7.mono H5.out.size); clear h7))
  go_ret
  exact ⟨rfl, H7.out⟩
end Go.Proofs.Ytagfjpafbpoebaa
