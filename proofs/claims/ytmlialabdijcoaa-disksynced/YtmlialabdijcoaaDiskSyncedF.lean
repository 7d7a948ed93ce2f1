/- PROVED: the statement of the law beaconlaw08.DiskSynced: what was synced stays through any crash, but where it was written over since. No condition: every input. -/
import Derived.Test.YtmlialabdijcoaaRows
import Derived.Test.YtmlialabdijcoaaWirV
import Derived.Test.YtmlialabdijcoaaDskW
import Derived.Test.YtmlialabdijcoaaDiskSyncedW
import Derived.WalkKit
import Derived.ProofKit
import Derived.OpenShut
import Derived.ShutString
import Derived.ChangeMaps5
import Derived.ChangeOld
import Derived.Below
import Derived.SizedLaws
import Derived.Deep.DeepHandedRow
import Derived.Lib.LaidTab
namespace Go.Proofs.Ytmlialabdijcoaa.diskSyncedProof
open Go Go.ChangeShapes Go.WideShapes Go.ChangeAt Go.RowKit
set_option linter.unusedVariables false
theorem own : ownKnob Try.prog.godebug = none := by kernel_rfl
theorem laidOut : laidOutB Try.prog = true := by kernel_rfl
set_option maxRecDepth 100000 in
theorem contract (H : Type) (enc : TypeId × Value → H) (W : World) (base : Nat) (args : Array Value) (ds gs : List (DataW H)) (before : List MemPlace)
    (hval0 : ∀ (j : Nat) t v, Try.f4.params[j]? = some t → args[j]? = some v → Value.okWide Try.prog W .any base t v)
    (hW : DataW.Whole enc Try.prog Try.f4.params.toList Rows.diskSyncedSpec.vars false W args.toList ds gs before) (hz0 : (DataW.weightsEach Try.prog (Try.f4.params.toList ++ (OpenSpec.ofChange Rows.diskSyncedSpec).bare.plain.varTypes Try.prog) (ds ++ gs)).all (· ≤ reachBytes) = true) :
    Calls Try.prog 4 args W fun e W' => ∃ v, e = .returned v ∧ Rows.diskSyncedSpec.post enc Try.prog Try.f4 false true false false W args v W' := by
  have hval := hval0
  have hsz := hz0
  have hW' := hW
  obtain ⟨p, q, hA0, hV, rfl, hfz, hnd⟩ := hW
  have hA : DataW.TrodAll enc Try.prog W 0 (fun _ => true) true Try.f4.params.toList args.toList ds p := hA0
  rw [Try.params4] at hA hval hsz
  obtain ⟨v0, vs0, d0, ds0, p0, q0, hargs, rfl, rfl, h0, r0⟩ := trodAll_cons hA
  obtain ⟨v1, vs1, d1, ds1, p1, q1, rfl, rfl, rfl, h1, r1⟩ := trodAll_cons r0
  obtain ⟨v2, vs2, d2, ds2, p2, q2, rfl, rfl, rfl, h2, r2⟩ := trodAll_cons r1
  obtain ⟨rfl, rfl, rfl⟩ := trodAll_nil r2
  obtain rfl : args = #[v0, v1, v2] := by cases args; simp_all
  obtain ⟨rfl, rfl⟩ := trodVars_none hV
  obtain ⟨a0, len0, cap0, rfl⟩ := okWide_slice Try.underlying32 (hval 0 32 v0 rfl rfl)
  have k0 := h0
  have lt0 : ∀ x ∈ p0, x.block < W.heap.size := by obtain ⟨m, hm⟩ := k0; exact DataW.trod_lt m _ _ _ hm
  obtain ⟨xs0, b0, e0, s0, u0⟩ := open_bytes (hval 0 32 _ rfl rfl) h0
  have l0 : xs0.length ≤ 140737488351232 := by
    rcases u0 with ⟨_, h0⟩ | ⟨es, sp, hd, hc, hl⟩
    · omega
    · have hs := sized_slice (j := 0) (t := 32) hsz rfl (congrArg some hd) Try.underlying32
      rw [show Try.prog.bytesOf 5 = 1 by kernel_rfl] at hs
      have hr : reachBytes = 140737488351232 := rfl
      omega
  obtain ⟨a1, len1, cap1, rfl⟩ := okWide_slice Try.underlying32 (hval 1 32 v1 rfl rfl)
  have k1 := h1
  have lt1 : ∀ x ∈ p1, x.block < W.heap.size := by obtain ⟨m, hm⟩ := k1; exact DataW.trod_lt m _ _ _ hm
  obtain ⟨xs1, b1, e1, s1, u1⟩ := open_bytes (hval 1 32 _ rfl rfl) h1
  have l1 : xs1.length ≤ 140737488351232 := by
    rcases u1 with ⟨_, h0⟩ | ⟨es, sp, hd, hc, hl⟩
    · omega
    · have hs := sized_slice (j := 1) (t := 32) hsz rfl (congrArg some hd) Try.underlying32
      rw [show Try.prog.bytesOf 5 = 1 by kernel_rfl] at hs
      have hr : reachBytes = 140737488351232 := rfl
      omega
  obtain ⟨a2, len2, cap2, rfl⟩ := okWide_slice Try.underlying32 (hval 2 32 v2 rfl rfl)
  have k2 := h2
  have lt2 : ∀ x ∈ p2, x.block < W.heap.size := by obtain ⟨m, hm⟩ := k2; exact DataW.trod_lt m _ _ _ hm
  obtain ⟨xs2, b2, e2, s2, u2⟩ := open_bytes (hval 2 32 _ rfl rfl) h2
  have l2 : xs2.length ≤ 140737488351232 := by
    rcases u2 with ⟨_, h0⟩ | ⟨es, sp, hd, hc, hl⟩
    · omega
    · have hs := sized_slice (j := 2) (t := 32) hsz rfl (congrArg some hd) Try.underlying32
      rw [show Try.prog.bytesOf 5 = 1 by kernel_rfl] at hs
      have hr : reachBytes = 140737488351232 := rfl
      omega
  clear hA0 hval0
  simp only [List.append_nil] at hW'
  refine (diskSynced_walk xs0 xs1 xs2 _ _ _ W b0 b1 s0 s1 s2 (own_lt (hval 2 32 _ rfl rfl)) (Nat.le_trans l0 (by omega)) (Nat.le_trans l1 (by omega)) (Nat.le_trans l2 (by omega))).mono fun e W' ⟨he, bel⟩ => ?_
  subst he
  exact ⟨_, rfl, _, _, _, [], _, [], hW', trodAll_mk1 (shut_bool Try.underlying4 _), (trodAll_cons_mk (Below.trod laidOut (by kernel_rfl) (of_decide_eq_true (by kernel_rfl)) k0 bel lt0) (trodAll_cons_mk (Below.trod laidOut (by kernel_rfl) (of_decide_eq_true (by kernel_rfl)) k1 bel lt1) (trodAll_cons_mk (Below.trod laidOut (by kernel_rfl) (of_decide_eq_true (by kernel_rfl)) k2 bel lt2) (trodAll_mk0)))), rfl, bel.frame _, fun h => by cases h⟩
set_option maxRecDepth 100000 in
theorem lifted (os : Os) (started : os.Started) (H : Type) (enc : TypeId × Value → H) (F : Stop.Interp) :
    ReturnsInHanded {} Try.checked os 4 .any ((OpenSpec.ofChange Rows.diskSyncedSpec).preRow enc Try.prog Try.f4 Rows.diskSyncedRow.domain false Rows.diskSyncedRow.laid) (((OpenSpec.ofChange Rows.diskSyncedSpec).at F).post enc Try.prog Try.f4 false true false false) := by
  obtain ⟨places, hx⟩ : ∃ places, DataW.whole enc Try.prog ((World.holding Try.prog os ⟨#[], #[], []⟩).forCall (fun _ _ => 0) ⟨#[], #[.slice none 0 0, .slice none 0 0, .slice none 0 0], []⟩).memory Try.f4.params.toList Rows.diskSyncedSpec.vars false (#[.slice none 0 0, .slice none 0 0, .slice none 0 0] : Array Value).toList 8 = some ([.nil, .nil, .nil], [], places) := ⟨[], by kernel_rfl⟩
  refine returnsInHanded_of_row (C := Try.checked) (s := OpenSpec.ofChange Rows.diskSyncedSpec) own started (by kernel_rfl) Try.func4
    (witness_row_at (enc := enc) (C := Try.checked) false (World.holding Try.prog os ⟨#[], #[], []⟩) #[.slice none 0 0, .slice none 0 0, .slice none 0 0] rfl (by kernel_rfl) (by kernel_rfl) (by kernel_rfl)
      (OpenSpec.preRow_of_cond 8 hx (by kernel_rfl) (fun k hk => by cases hk) (by kernel_rfl) (laidMet_of_run' 8 (by kernel_rfl) (by kernel_rfl)))) ?_
  intro W base args ds gs before hval hW _ _ hz hL hS _
  exact contract H enc W base args ds gs before hval hW hz
end Go.Proofs.Ytmlialabdijcoaa.diskSyncedProof
namespace Go.Proofs.Ytmlialabdijcoaa
open Go
theorem diskSynced_holds : Rows.DiskSyncedSaid :=
  OpenClaim.holds_of_cond 4 Try.f4 rfl rfl rfl rfl rfl rfl rfl ⟨rfl, rfl, rfl, rfl, rfl⟩ rfl rfl rfl rfl rfl (by kernel_rfl) Try.func4 (by kernel_rfl)
    (of_decide_eq_true (by kernel_rfl)) (by unfold Func.isWrapper; first | (rw [if_pos (by decide +kernel)]; kernel_rfl) | (rw [if_neg (by decide +kernel)]; exact ⟨rfl, rfl⟩))
    (fun os started H enc _ F => by rw [OpenClaim.pre_eq_preRow]; exact diskSyncedProof.lifted os started H enc F)
#print axioms diskSynced_holds
end Go.Proofs.Ytmlialabdijcoaa
