/- PROVED: the statement of the law beaconlaw18.JsonAgain: what was parsed is printed as a text that is parsed to the same, and printed as it stands: for every text; no condition beside the laid variables. -/
import Derived.Test.YtefaohokmhdplaaDoorCards
import Derived.Test.YtefaohokmhdplaaDoorTie
import Derived.Lay
import Derived.MakeChecks
import Derived.Test.YtefaohokmhdplaaDoorJxR
import Derived.WalkKit
import Derived.ProofKit
import Derived.OpenShut
import Derived.ShutString
import Derived.ChangeMaps5
import Derived.ChangeOld
import Derived.SizedLaws
import Derived.Below
import Derived.Deep.DeepHandedRow
import Derived.Lib.LaidTab
namespace Go.Proofs.YtefaohokmhdplaaDoor.jsonAgainProof
open Go Go.ChangeShapes Go.WideShapes Go.ChangeAt Go.RowKit
set_option linter.unusedVariables false

theorem own : ownKnob Tryd.prog.godebug = none := by kernel_rfl
theorem laidOut : laidOutB Tryd.prog = true := by kernel_rfl
theorem laid_tail {P : Program} {W : World} {n : String} {d : DataW Unit} {rest : List (String × DataW Unit)} (h : laidMet P ((n, d) :: rest) W) : laidMet P rest W := by
  obtain ⟨ps, ⟨g, t, cs, fuel, p, q, e1, e2, e3, e4, hr, rfl⟩, hnd, hrows⟩ := h
  exact ⟨q, hr, (List.nodup_append.1 hnd).2.1, fun b off hp => hrows b off (List.mem_append_right _ hp)⟩
theorem g_err : Tryd.prog.globalNamed "strconv.ErrSyntax" = some 0 := by kernel_rfl
theorem gt_err : (Tryd.prog.globals[0]?).map (·.type) = some 86 := by kernel_rfl
set_option maxRecDepth 100000 in
theorem ev_of {W : World} (h : laidMetH Tryd.prog Rows.jsonAgainRow.laid W) : ∃ ev, EV W ev := by
  rw [MakeChecks.laidMetH_plain _ _ _ (by kernel_rfl)] at h
  have h5 := laid_tail (laid_tail (laid_tail (laid_tail h)))
  obtain ⟨ps, ⟨g, t, cs, fuel, p, q, e1, e2, e3, e4, hr, rfl⟩, -, -⟩ := h5
  obtain rfl : g = 0 := Option.some.inj (e1.symm.trans g_err)
  obtain rfl : t = 86 := Option.some.inj (e2.symm.trans gt_err)
  have hc : ∀ (v : Value), cs.toList = [v] → W.cell? ⟨0, 0, none⟩ = some v := by
    intro v hv
    unfold World.var? at e3
    rw [g_err] at e3
    simp only [Option.bind_some] at e3
    unfold World.cell?
    split at e3
    · rename_i cs' t' f' heq
      cases e3
      have h1 : cs[0]? = some v := by rw [← Array.getElem?_toList, hv]; rfl
      simp only [heq, h1]
      rfl
    · cases e3
  generalize cs.toList = l at e4 hc
  cases fuel with
  | zero => simp [DataW.trod] at e4
  | succ fuel =>
    unfold DataW.trod at e4
    rw [Tryd.underlying86] at e4
    match l, e4, hc with
    | [], e4, _ => simp at e4
    | _ :: _ :: _, e4, _ => simp at e4
    | [v], e4, hc =>
      cases v with
      | iface u y => exact ⟨_, hc _ rfl, u, y, rfl⟩
      | nilIface => simp [Rows.laid_strconv_ErrSyntax] at e4
      | _ => simp at e4

set_option maxRecDepth 100000 in
/-- WHAT THE WALK GIVES, FOR EVERY ARGUMENT AND EVERY WORLD THAT HOLDS THE TABLES. -/
theorem contract (H : Type) (enc : TypeId × Value → H) (W : World) (base : Nat) (args : Array Value) (ds gs : List (DataW H)) (before : List MemPlace)
    (hval0 : ∀ (j : Nat) t v, Tryd.f6.params[j]? = some t → args[j]? = some v → Value.okWide Tryd.prog W .any base t v)
    (hW : DataW.Whole enc Tryd.prog Tryd.f6.params.toList Rows.jsonAgainSpec.vars false W args.toList ds gs before) (hz0 : (DataW.weightsEach Tryd.prog (Tryd.f6.params.toList ++ (OpenSpec.ofChange Rows.jsonAgainSpec).bare.plain.varTypes Tryd.prog) (ds ++ gs)).all (· ≤ reachBytes) = true) (hL : laidMetH Tryd.prog Rows.jsonAgainRow.laid W) :
    Calls Tryd.prog 6 args W fun e W' => ∃ v, e = .returned v ∧ Rows.jsonAgainSpec.post enc Tryd.prog Tryd.f6 false true false false W args v W' := by
  have hval : ∀ (j : Nat) t v, Tryd.f6.params[j]? = some t → args[j]? = some v → Value.okWide Tryd.prog W .any base t v := hval0
  have hsz := hz0
  have hW' := hW
  obtain ⟨p, q, hA0, hV, rfl, hfz, hnd⟩ := hW
  have hA : DataW.TrodAll enc Tryd.prog W 0 (fun _ => true) true Tryd.f6.params.toList args.toList ds p := hA0
  rw [Tryd.params6] at hA hval hsz
  obtain ⟨v0, vs0, d0, ds0, p0, q0, hargs, rfl, rfl, h0, r0⟩ := trodAll_cons hA
  obtain ⟨rfl, rfl, rfl⟩ := trodAll_nil r0
  obtain rfl : args = #[v0] := by cases args; simp_all
  obtain ⟨rfl, rfl⟩ := trodVars_none hV
  obtain ⟨s0, rfl, rfl, rfl, ml0⟩ := Go.ChangeMaps.open_string Tryd.underlying9 (hval 0 9 v0 rfl rfl) h0
  have l0 : s0.size ≤ 140737488351232 := by
    have hs := sized_string (j := 0) (t := 9) hsz rfl rfl
    have hr : reachBytes = 140737488351232 := rfl
    rw [hr] at hs
    exact hs
  clear hA0 hval0
  simp only [List.append_nil] at hW'
  obtain ⟨ev, hev⟩ := ev_of hL
  refine (again_walk (Nat.le_trans l0 (by decide)) hev).mono fun e W' ⟨he, bel⟩ => ?_
  subst he
  exact ⟨_, rfl, _, _, _, [], _, [], hW', trodAll_mk1 (shut_bool Tryd.underlying4 _), (trodAll_cons_mk (Go.ChangeMaps.shut_string Tryd.underlying9 ml0) (trodAll_mk0)), rfl, bel.frame _, fun h => by cases h⟩

/-- A WORLD FOR THE WITNESS: the settled one, the tables holding what their initialisers lay. -/
noncomputable def laidWorld (os : Os) : World := World.laidAll Tryd.prog os Rows.jsonAgainRow.laid
theorem laid_met (os : Os) : laidMetH Tryd.prog Rows.jsonAgainRow.laid ((laidWorld os).forCall (fun _ _ => 0) ⟨#[], #[.string ⟨#[]⟩], []⟩).memory := by
  rw [MakeChecks.laidMetH_plain _ _ _ (by kernel_rfl)]; exact laidMet_laidAll _ (by kernel_rfl) (by kernel_rfl)
set_option maxRecDepth 100000 in
theorem lifted (os : Os) (started : os.Started) (H : Type) (enc : TypeId × Value → H) (F : Stop.Interp) :
    ReturnsInHanded {} Tryd.checked os 6 .any ((OpenSpec.ofChange Rows.jsonAgainSpec).preRow enc Tryd.prog Tryd.f6 Rows.jsonAgainRow.domain false Rows.jsonAgainRow.laid) (((OpenSpec.ofChange Rows.jsonAgainSpec).at F).post enc Tryd.prog Tryd.f6 false true false false) := by
  obtain ⟨places, hx⟩ : ∃ places, DataW.whole enc Tryd.prog ((laidWorld os).forCall (fun _ _ => 0) ⟨#[], #[.string ⟨#[]⟩], []⟩).memory Tryd.f6.params.toList Rows.jsonAgainSpec.vars false (#[.string ⟨#[]⟩] : Array Value).toList 8 = some ([.lit (.string [])], [], places) := ⟨[], by kernel_rfl⟩
  refine returnsInHanded_of_row (C := Tryd.checked) (s := OpenSpec.ofChange Rows.jsonAgainSpec) own started (by kernel_rfl) Tryd.func6
    (witness_row_at (enc := enc) (C := Tryd.checked) false (laidWorld os) #[.string ⟨#[]⟩] rfl (by kernel_rfl) (by kernel_rfl) (by kernel_rfl)
      (OpenSpec.preRow_of_cond 8 hx (by kernel_rfl) (fun k hk => by cases hk) (by kernel_rfl) (laid_met os))) ?_
  intro W base args ds gs before hval hW _ _ hz hL _ _
  exact contract H enc W base args ds gs before hval hW hz hL

theorem said : Rows.JsonAgainSaid :=
  OpenClaim.holds_of_cond 6 Tryd.f6 rfl rfl rfl rfl rfl rfl rfl ⟨rfl, rfl, rfl, rfl, rfl⟩ rfl rfl rfl rfl rfl (by kernel_rfl) Tryd.func6 (by kernel_rfl)
    (of_decide_eq_true (by kernel_rfl)) (by unfold Func.isWrapper; first | (rw [if_pos (by decide +kernel)]; kernel_rfl) | (rw [if_neg (by decide +kernel)]; exact ⟨rfl, rfl⟩))
    (fun os started H enc _ F => by rw [OpenClaim.pre_eq_preRow]; exact lifted os started H enc F)
theorem plain (f : FuncId) (fn : Func) (hf : Tryd.pinned.checked.prog.funcNamed "beacon/beaconlaw18.JsonAgain" = some f) (hfn : Tryd.pinned.checked.prog.funcs[f]? = some fn) :
    true = Tryd.pinned.checked.prog.looks [] ∧ ∀ (j : Nat) t, fn.params[j]? = some t → Tryd.pinned.checked.prog.wantsStandIn t = false := by
  obtain rfl : f = 6 := Option.some.inj ((show Tryd.prog.funcNamed "beacon/beaconlaw18.JsonAgain" = some 6 by kernel_rfl).symm.trans hf) |>.symm
  obtain rfl : fn = Tryd.f6 := (Option.some.inj (Tryd.func6.symm.trans hfn)).symm
  refine ⟨by kernel_rfl, fun j t ht => ?_⟩
  rw [Tryd.params6] at ht
  have ht := Array.mem_of_getElem? ht
  simp only [Array.mem_def, List.mem_cons, List.not_mem_nil, or_false] at ht
  subst ht
  exact (show Tryd.prog.wantsStandIn 9 = false by kernel_rfl)
end Go.Proofs.YtefaohokmhdplaaDoor.jsonAgainProof
namespace Go.Proofs.YtefaohokmhdplaaDoor
open Go
/-- THE CARD. -/
theorem jsonAgain_holds : Rows.JsonAgainCardSaid :=
  Claim7.holds_tied_plain_at .later [] _ _ _ _ jsonAgainProof.said (fun _ h => by cases h) (by kernel_rfl) (fun _ h => by cases h) jsonAgain_row_tie rfl ⟨rfl, rfl⟩ (by kernel_rfl) rfl jsonAgainProof.plain (by kernel_rfl)
#print axioms jsonAgain_holds
end Go.Proofs.YtefaohokmhdplaaDoor
