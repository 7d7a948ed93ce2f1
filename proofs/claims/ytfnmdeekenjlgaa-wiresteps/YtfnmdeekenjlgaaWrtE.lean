/- The reference's parts and Hash; a closure's call: ContainsFunc over 32 bytes. -/
import Derived.Test.YtfnmdeekenjlgaaWrtD
import Derived.Test.YtfnmdeekenjlgaaWirL
namespace Go.Proofs.Ytfnmdeekenjlgaa
open Go Go.RowKit
set_option linter.unusedSimpArgs false
set_option linter.unusedVariables false

set_option maxHeartbeats 1000000 in
theorem parts_any (xs : List Int) (S : ByteArray) (c : Nat) (m : Int) (hm' : m = 1 + (c : Int)) (v : Value) (w : World) (hb : Byt xs) (hs : Sl w v xs) (hl : xs.length ≤ 140737488355328) (hc1 : 1 ≤ c) (hc2 : c ≤ 100) :
    Calls Try.prog 33 #[v, .string S, .int .i64 m] w fun e w' => (∃ v', e = .returned (.tuple #[v', .bool (hasF xs S c)]) ∧ LL w' v' (decL xs)) ∧ Below w.heap.size w w' := by
  subst hm'
  have HS : Hid (Sl w v xs) := hs
  have HB : Hid (Byt xs) := hb
  clear hb hs
  obtain ⟨E, hE⟩ : ∃ E, decE xs = E := ⟨_, rfl⟩
  have HE : Hid (decE xs = E) := hE
  clear hE
  go_enter Try.func33, Try.ntmps33
  go_wp2_with fail
  refine (rdecode_any xs v w HB.out HS.out hl).mono ?_
  rintro e w1 ⟨v1, us, rfl, h1, h2⟩
  rw [HE.out]
  have H1 : Hid (LL w1 v1 (decL xs)) := h1.ll
  have H2 : Hid (Below w.heap.size w w1) := h2
  have HD : ∀ n, Hid (LL (w1.drewN n) v1 (decL xs) ∧ Below w.heap.size w (w1.drewN n)) := fun n => ⟨H1.out.below (below_drewN (Below.refl _ _) n), below_drewN H2.out n⟩
  clear h1 h2
  by_cases hE0 : E = 0
  · subst hE0
    by_cases hn : (decL xs).length = 1 + c
    · obtain ⟨b, o, cap, hv, hcap, hlt, hm⟩ := H1.out.at' (by omega)
      subst hv
      obtain ⟨u, hc0, hu⟩ := hm 0 (by omega)
      have s1 : ∀ n, (convert 34 9 u).run Try.prog (w1.drewN n) = .ok (.string (strOfNums (mi (decL xs) 0))) (w1.drewN n) := fun n => (hu.below (below_drewN (Below.refl _ _) n) (Nat.le_refl _)).str
      rw [Nat.add_zero] at hc0
      rw [hn] at hcap
      rw [hn] at HD ⊢
      clear hm hu H1
      have HN : Hid ((decL xs).length = 1 + c) := hn
      clear hn
      obtain ⟨T, hT⟩ : ∃ T, strOfNums (mi (decL xs) 0) = T := ⟨_, rfl⟩
      have HTT : Hid (strOfNums (mi (decL xs) 0) = T) := hT
      rw [hT] at s1
      clear hT
      have gc : ((1 + c : Nat) : Int) = 1 + (c : Int) := by omega
      have hF : Hid (hasF xs S c = (T.toList == S.toList)) := by
        show hasF xs S c = _
        unfold hasF; rw [HE.out, HN.out, HTT.out]; simp
      go_wp2
      go_quiet (fail)
      go_wp2
      go_ret2
      rw [hF.out]
      exact ⟨⟨_, rfl, (HD nq).out.1⟩, (HD nq).out.2⟩
    · have hF : Hid (hasF xs S c = false) := by
        show hasF xs S c = false
        unfold hasF; rw [decide_eq_false hn]; simp
      obtain ⟨ad, cap, rfl, hcap, H1'⟩ := H1.out
      clear H1'
      have gn : ¬ ((decL xs).length : Int) = 1 + (c : Int) := by omega
      have gn2 : (((decL xs).length : Int) == 1 + (c : Int)) = false := by simp only [beq_eq_false_iff_ne]; exact gn
      obtain ⟨L, hL⟩ : ∃ L, (decL xs).length = L := ⟨_, rfl⟩
      have HL : Hid ((decL xs).length = L) := hL
      rw [hL] at gn gn2 hcap HD ⊢
      clear hL hn
      go_wp2
      go_quiet (fail)
      go_wp2
      go_ret2
      rw [hF.out]
      exact ⟨⟨_, rfl, (HD nq).out.1⟩, (HD nq).out.2⟩
  · have hF : Hid (hasF xs S c = false) := by
      show hasF xs S c = false
      unfold hasF; rw [HE.out, decide_eq_false hE0]; simp
    have gn2 : (E == (0 : Int)) = false := by simp only [beq_eq_false_iff_ne]; exact hE0
    go_wp2
    go_quiet (fail)
    go_wp2
    go_ret2
    rw [hF.out]
    exact ⟨⟨_, rfl, (HD nq).out.1⟩, (HD nq).out.2⟩
end Go.Proofs.Ytfnmdeekenjlgaa
