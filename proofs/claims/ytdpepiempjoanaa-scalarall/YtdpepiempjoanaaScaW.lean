/- ScalarAll. -/
import Derived.Test.YtdpepiempjoanaaScaT
namespace Go.Proofs.Ytdpepiempjoanaa
open Go Go.RowKit
set_option linter.unusedSimpArgs false
set_option linter.unusedVariables false
theorem all_run (a b c d : Nat) : sfun Try.prog (Y2.tell [(15, true), (21, true), (30, true), (37, true), (48, true)]) 80 Try.f3 (bodyOf Try.f3) [bv a, bv b, bv c, bv64 d] = some ([IsB (bv a),
    IsB (bv a),
    (CA (bv a) == CA (bv a)) = true,
    IsB64 (bv64 d),
    IsB64 (bv64 d),
    eqV (RD (bv64 d)) (RD (bv64 d)) = true,
    IsB (bv a) ∧ IsB (bv b),
    IsB (bv a) ∧ IsB (bv b),
    eqV (AD (bv a) (bv b)) (AD (bv a) (bv b)) = true,
    IsB (bv a),
    IsB (bv a),
    eqV (NG (bv a)) (NG (bv a)) = true,
    IsB (bv a) ∧ IsB (bv b) ∧ IsB (bv c),
    IsB (bv a) ∧ IsB (bv b) ∧ IsB (bv c),
    eqV (MU (bv a) (bv b) (bv c)) (MU (bv a) (bv b) (bv c)) = true], .bool true) := by kernel_rfl
theorem all_walk (a b c d : Nat) (ha : a < RN) (hb : b < RN) (hc : c < RN) (hd : d < RN * RN) (w : World) : Calls Try.prog 3 #[bv a, bv b, bv c, bv64 d] w fun e w' => e = .returned (.bool true) ∧ Below w.heap.size w w' := by
  refine sfun_calls (Cx.tell_ok Y2_ok _) mixed Try.func3 (by kernel_rfl) (all_run a b c d) ?_ (by simp [flat_bv, flat_bv64]) (.inl rfl) w
  intro p hp
  have hB := isB_bv
  simp only [List.mem_cons, List.not_mem_nil, or_false] at hp
  rcases hp with rfl | rfl | rfl | rfl | rfl | rfl | rfl | rfl | rfl | rfl | rfl | rfl | rfl | rfl | rfl
  · exact isB_bv _
  · exact isB_bv _
  · simp
  · exact isB64_bv64 _
  · exact isB64_bv64 _
  · exact eqV_self _
  · exact ⟨isB_bv _, isB_bv _⟩
  · exact ⟨isB_bv _, isB_bv _⟩
  · exact eqV_self _
  · exact isB_bv _
  · exact isB_bv _
  · exact eqV_self _
  · exact ⟨isB_bv _, isB_bv _, isB_bv _⟩
  · exact ⟨isB_bv _, isB_bv _, isB_bv _⟩
  · exact eqV_self _
end Go.Proofs.Ytdpepiempjoanaa
