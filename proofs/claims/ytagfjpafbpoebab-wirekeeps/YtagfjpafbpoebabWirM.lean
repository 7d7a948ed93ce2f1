/- SameList. -/
import Derived.Test.YtagfjpafbpoebabWirL
namespace Go.Proofs.Ytagfjpafbpoebab
open Go Go.RowKit
set_option linter.unusedSimpArgs false
set_option linter.unusedVariables false

theorem LL.drewN {w : World} {v : Value} {xss : List (List Int)} (h : LL w v xss) (n : Nat) : LL (w.drewN n) v xss := h.below (below_drewN (Below.refl _ _) n)
set_option maxHeartbeats 1000000 in
theorem sameList_same (xss : List (List Int)) (v v' : Value) (w : World) (h1 : LL w v xss) (h2 : LL w v' xss) (hn : xss.length ≤ 140737488355328) :
    Calls Try.prog 21 #[v, v'] w fun e w' => e = .returned (.bool true) ∧ Below w.heap.size w w' := by
  obtain ⟨ad, cap, rfl, -, hx⟩ := h1
  obtain ⟨ad', cap', rfl, -, hx'⟩ := h2
  have HX : Hid _ := hx
  have HX' : Hid _ := hx'
  clear hx hx'
  go_enter Try.func21, Try.ntmps21
  go_wp2
  go_loopw [13] (fun i wr => ∃ k q : Nat, k ≤ xss.length ∧ i = .int .i64 (k : Int) ∧ wr = w.drewN q) (fun i _ => xss.length - (intOf i).toNat)
  case atStart => exact ⟨0, 0, Nat.zero_le _, rfl, rfl⟩
  case round =>
    obtain ⟨k, q, hk, rfl, rfl⟩ := hrel
    by_cases hlt : k < xss.length
    · rcases HX.out with ⟨rfl, _⟩ | ⟨b, o, rfl, hlb, hm⟩
      · simp at hlt
      · rcases HX'.out with ⟨rfl, _⟩ | ⟨b', o', rfl, hlb', hm'⟩
        · simp at hlt
        · obtain ⟨u, hc0, hu⟩ := hm k hlt
          obtain ⟨u', hc0', hu'⟩ := hm' k hlt
          have gk : (k : Int) < (xss.length : Int) := by omega
          have s1 : ∀ n, (convert 34 9 u).run Try.prog (w.drewN n) = .ok (.string (strOfNums (mi xss k))) (w.drewN n) := fun n => (hu.below (below_drewN (Below.refl _ _) n) (Nat.le_refl _)).str
          have s2 : ∀ n, (convert 34 9 u').run Try.prog (w.drewN n) = .ok (.string (strOfNums (mi xss k))) (w.drewN n) := fun n => (hu'.below (below_drewN (Below.refl _ _) n) (Nat.le_refl _)).str
          obtain ⟨S, hS⟩ : ∃ S, strOfNums (mi xss k) = S := ⟨_, rfl⟩
          rw [hS] at s1 s2
          clear hm hm' hu hu' hS
          go_wp2
          go_quiet (fail)
          go_wp2
          exact ⟨⟨k + 1, q + nq, hlt, by go_num, by simp [World.drewN, Nat.add_assoc]⟩, by simp [intOf]; omega⟩
    · go_wp2
      go_ret
      exact ⟨rfl, below_drewN (Below.refl _ _) q⟩
end Go.Proofs.Ytagfjpafbpoebab
