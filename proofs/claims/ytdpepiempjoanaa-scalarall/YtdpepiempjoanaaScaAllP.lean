/- PROVED: the statement of the law beaconlaw03.ScalarAll: every call on any bytes answers as the numbers modulo L do. No condition: every input. -/
import Derived.Test.YtdpepiempjoanaaRows
import Derived.Test.YtdpepiempjoanaaScaO
import Derived.Test.YtdpepiempjoanaaScaW
import Derived.WalkKit
import Derived.ProofKit
import Derived.OpenShut
namespace Go.Proofs.Ytdpepiempjoanaa.scalarAllProof
open Go Go.ChangeShapes Go.WideShapes Go.ChangeAt Go.RowKit
set_option linter.unusedVariables false
theorem own : ownKnob Try.prog.godebug = none := by kernel_rfl
set_option maxRecDepth 100000 in
theorem lifted (os : Os) (started : os.Started) (H : Type) (enc : TypeId × Value → H) :
    ReturnsInHanded {} Try.checked os 3 .any (Rows.scalarAllSpec.pre6 enc Try.prog Try.f3 Rows.scalarAllRow.domain false) (Rows.scalarAllSpec.post enc Try.prog Try.f3 false true false false) := by
  refine returnsInHanded_of_change (C := Try.checked) own started (by kernel_rfl) Try.func3
    (ChangeSpec.witness6 (enc := enc) (C := Try.checked) false ⟨#[], #[bv 0, bv 0, bv 0, bv64 0], []⟩ 8 (by kernel_rfl) (by kernel_rfl) (by kernel_rfl) (by kernel_rfl)) ?_
  intro W base args ds gs before hval0 hW hcnd _
  have hval : ∀ (j : Nat) t v, Try.f3.params[j]? = some t → args[j]? = some v → Value.okWide Try.prog W .any base t v := hval0
  have hW' := hW
  obtain ⟨p, q, hA0, hV, rfl, hfz, hnd⟩ := hW
  have hA : DataW.TrodAll enc Try.prog W 0 (fun _ => true) true Try.f3.params.toList args.toList ds p := hA0
  rw [Try.params3] at hA hval
  obtain ⟨v0, vs0, d0, ds0, p0, q0, hargs, rfl, rfl, h0, r0⟩ := trodAll_cons hA
  obtain ⟨v1, vs1, d1, ds1, p1, q1, rfl, rfl, rfl, h1, r1⟩ := trodAll_cons r0
  obtain ⟨v2, vs2, d2, ds2, p2, q2, rfl, rfl, rfl, h2, r2⟩ := trodAll_cons r1
  obtain ⟨v3, vs3, d3, ds3, p3, q3, rfl, rfl, rfl, h3, r3⟩ := trodAll_cons r2
  obtain ⟨rfl, rfl, rfl⟩ := trodAll_nil r3
  obtain rfl : args = #[v0, v1, v2, v3] := by cases args; simp_all
  obtain ⟨rfl, rfl⟩ := trodVars_none hV
  obtain ⟨a0, la0, rfl, rfl, k0⟩ := open32 (hval 0 22 v0 rfl rfl) h0
  rw [← rn_pow] at la0
  obtain ⟨a1, la1, rfl, rfl, k1⟩ := open32 (hval 1 22 v1 rfl rfl) h1
  rw [← rn_pow] at la1
  obtain ⟨a2, la2, rfl, rfl, k2⟩ := open32 (hval 2 22 v2 rfl rfl) h2
  rw [← rn_pow] at la2
  obtain ⟨a3, la3, rfl, rfl, k3⟩ := open64 (hval 3 23 v3 rfl rfl) h3
  rw [← rn_pow2] at la3
  clear hA0 hval0
  simp only [List.append_nil] at hW'
  refine (all_walk a0 a1 a2 a3 la0 la1 la2 la3 W).mono fun e W' ⟨he, bel⟩ => ?_
  subst he
  exact ⟨_, rfl, _, _, _, [], _, [], hW', trodAll_mk1 (shut_bool Try.underlying4 _), (trodAll_cons_mk (k0 _ _ _ _) (trodAll_cons_mk (k1 _ _ _ _) (trodAll_cons_mk (k2 _ _ _ _) (trodAll_cons_mk (k3 _ _ _ _) (trodAll_mk0))))), rfl, bel.frame _, fun h => by cases h⟩
theorem over : Rows.scalarAllRow.holds Try.pinned (OpenSpec.ofChange Rows.scalarAllSpec) :=
  OpenClaim.holds_of_wide 3 Try.f3 rfl rfl rfl rfl rfl rfl rfl ⟨rfl, rfl, rfl, rfl, rfl⟩ rfl rfl rfl rfl rfl (by kernel_rfl) Try.func3 (by kernel_rfl)
    (of_decide_eq_true (by kernel_rfl)) (by unfold Func.isWrapper; first | (rw [if_pos (by decide +kernel)]; kernel_rfl) | (rw [if_neg (by decide +kernel)]; exact ⟨rfl, rfl⟩))
    (fun os started H enc _ => lifted os started H enc)
end Go.Proofs.Ytdpepiempjoanaa.scalarAllProof
namespace Go.Proofs.Ytdpepiempjoanaa
theorem scalarAll_holds : Rows.ScalarAllSaid := scalarAllProof.over
#print axioms scalarAll_holds
end Go.Proofs.Ytdpepiempjoanaa
