/- PROVED: the statement of the law beaconlaw06.VrfKnown: RFC 9381's example 16 is proved and told as it stands there; no condition. -/
import Derived.Test.YtmaehekekkfpmaaDoorCards
import Derived.Test.YtmaehekekkfpmaaDoorTie
import Derived.Test.YtmaehekekkfpmaaDoorVrL
import Derived.Test.YtmaehekekkfpmaaDoorVrfKnownW
import Derived.WalkKit
import Derived.ProofKit
import Derived.OpenShut
import Derived.ShutString
import Derived.ChangeOld
import Derived.Below
import Derived.SizedLaws
import Derived.Deep.DeepHandedRow
import Derived.Lib.LaidTab
set_option linter.unusedSimpArgs false
set_option linter.unusedVariables false
namespace Go.Proofs.YtmaehekekkfpmaaDoor.vrfKnownProof
open Go Go.ChangeShapes Go.WideShapes Go.ChangeAt Go.RowKit Wi
theorem own:ownKnob Tryd.prog.godebug=none:=by kernel_rfl
theorem laidOut:laidOutB Tryd.prog=true:=by kernel_rfl
theorem laid_list:Rows.vrfKnownRow.laid=Ve.L6:=by kernel_rfl
theorem laid_one {W:World} (h:laidMetH Tryd.prog Rows.vrfKnownRow.laid W):laidMet Tryd.prog Rows.vrfKnownRow.laid W:=h
theorem laid_plain {W:World} (h:laidMetH Tryd.prog Rows.vrfKnownRow.laid W):laidMet Tryd.prog Ve.L6 W:=by
 have k:=laid_one h
 rw [laid_list] at k
 exact k
set_option maxRecDepth 100000 in
theorem contract (H:Type) (enc:TypeId × Value→H) (W:World) (base:Nat) (args:Array Value) (ds gs:List (DataW H)) (before:List MemPlace)
  (hval0 : ∀ (j:Nat) t v,Tryd.f3.params[j]? = some t→args[j]? = some v→Value.okWide Tryd.prog W .any base t v)
  (hW:DataW.Whole enc Tryd.prog Tryd.f3.params.toList Rows.vrfKnownSpec.vars false W args.toList ds gs before) (hz0:(DataW.weightsEach Tryd.prog (Tryd.f3.params.toList ++ (OpenSpec.ofChange Rows.vrfKnownSpec).bare.plain.varTypes Tryd.prog) (ds ++ gs)).all (· ≤ reachBytes)=true) (hL:laidMetH Tryd.prog Rows.vrfKnownRow.laid W) (hS:W.ShapedOpen Tryd.prog) :
  Calls Tryd.prog 3 args W fun e W' => ∃ v,e = .returned v∧Rows.vrfKnownSpec.post enc Tryd.prog Tryd.f3 false true false false W args v W':=by
 have hval:=hval0
 have hsz:=hz0
 have hW':=hW
 obtain ⟨p,q,hA0,hV,rfl,hfz,hnd⟩:=hW
 have hA:DataW.TrodAll enc Tryd.prog W 0 (fun _=>true) true Tryd.f3.params.toList args.toList ds p:=hA0
 rw [Tryd.params3] at hA hval hsz
 obtain ⟨hargs,rfl,rfl⟩:=trodAll_nil hA
 obtain rfl:args = #[]:=by cases args;simp_all
 obtain ⟨rfl,rfl⟩:=trodVars_none hV
 clear hA0 hval0
 simp only [List.append_nil] at hW'
 have hG:=Ve.gloA hS (laid_plain hL)
 refine (Wi.known_any W hG).mono fun e W' ⟨he,bel⟩ => ?_
 subst he
 exact ⟨_,rfl,_,_,_,[],_,[],hW',trodAll_mk1 (shut_bool Tryd.underlying4 _),(trodAll_mk0),rfl,bel.frame _,fun h=>by cases h⟩
def layTab (g:Nat) (cs:Array Value) (h:Array Obj):Array Obj:=h.modify g fun o=>match o with | .cells _ t frozen => .cells cs t frozen | o=>o
noncomputable def laidWorld (os:Os):World :=
 { World.holding Tryd.prog os ⟨#[],#[],[]⟩ with heap:=layTab 2 (Ve.n_generatorY.map fun z=>Value.int .u8 z).toArray (layTab 1 (Ve.n_generatorX.map fun z=>Value.int .u8 z).toArray (layTab 5 (Ve.n_curve.map fun z=>Value.int .u8 z).toArray (layTab 4 (Ve.n_one.map fun z=>Value.int .u8 z).toArray (layTab 3 (Ve.n_cu.map fun z=>Value.int .u64 z).toArray (layTab 0 (Ve.n_sq.map fun z=>Value.int .u64 z).toArray ((World.holding Tryd.prog os ⟨#[],#[],[]⟩).heap)))))) }
theorem laid_met (os:Os):laidMet Tryd.prog Rows.vrfKnownRow.laid ((laidWorld os).forCall (fun _ _=>0) ⟨#[],#[],[]⟩).memory :=
 laidMet_of_run' 8 (by kernel_rfl) (by kernel_rfl)
set_option maxRecDepth 100000 in
theorem lifted (os:Os) (started:os.Started) (H:Type) (enc:TypeId × Value→H) (F:Stop.Interp) :
  ReturnsInHanded {} Tryd.checked os 3 .any ((OpenSpec.ofChange Rows.vrfKnownSpec).preRow enc Tryd.prog Tryd.f3 Rows.vrfKnownRow.domain false Rows.vrfKnownRow.laid) (((OpenSpec.ofChange Rows.vrfKnownSpec).at F).post enc Tryd.prog Tryd.f3 false true false false):=by
 obtain ⟨places,hx⟩ : ∃ places,DataW.whole enc Tryd.prog ((laidWorld os).forCall (fun _ _=>0) ⟨#[],#[],[]⟩).memory Tryd.f3.params.toList Rows.vrfKnownSpec.vars false (#[]:Array Value).toList 8=some ([],[],places):=⟨[],by kernel_rfl⟩
 refine returnsInHanded_of_row (C:=Tryd.checked) (s:=OpenSpec.ofChange Rows.vrfKnownSpec) own started (by kernel_rfl) Tryd.func3
  (witness_row_at (enc:=enc) (C:=Tryd.checked) false (laidWorld os) #[] rfl (by kernel_rfl) (by kernel_rfl) (by kernel_rfl)
   (OpenSpec.preRow_of_cond 8 hx (by kernel_rfl) (fun k hk=>by cases hk) (by kernel_rfl) (laid_met os))) ?_
 intro W base args ds gs before hval hW _ _ hz hL hS _
 exact contract H enc W base args ds gs before hval hW hz hL hS
theorem said:Rows.VrfKnownSaid :=
 OpenClaim.holds_of_cond 3 Tryd.f3 rfl rfl rfl rfl rfl rfl rfl ⟨rfl,rfl,rfl,rfl,rfl⟩ rfl rfl rfl rfl rfl (by kernel_rfl) Tryd.func3 (by kernel_rfl)
  (of_decide_eq_true (by kernel_rfl)) (by unfold Func.isWrapper;first | (rw [if_pos (by decide +kernel)];kernel_rfl) | (rw [if_neg (by decide +kernel)];exact ⟨rfl,rfl⟩))
  (fun os started H enc _ F=>by rw [OpenClaim.pre_eq_preRow];exact lifted os started H enc F)
theorem plain (f : FuncId) (fn : Func) (hf : Tryd.pinned.checked.prog.funcNamed "beacon/beaconlaw06.VrfKnown" = some f) (hfn : Tryd.pinned.checked.prog.funcs[f]? = some fn) :
  false=Tryd.pinned.checked.prog.looks [] ∧ ∀ (j:Nat) t,fn.params[j]? = some t→Tryd.pinned.checked.prog.wantsStandIn t=false:=by
 obtain rfl : f = 3 := Option.some.inj ((show Tryd.prog.funcNamed "beacon/beaconlaw06.VrfKnown" = some 3 by kernel_rfl).symm.trans hf) |>.symm
 obtain rfl:fn=Tryd.f3:=(Option.some.inj (Tryd.func3.symm.trans hfn)).symm
 refine ⟨by kernel_rfl,fun j t ht => ?_⟩
 rw [Tryd.params3] at ht
 have ht:=Array.mem_of_getElem? ht
 simp only [Array.mem_def,List.not_mem_nil] at ht
end Go.Proofs.YtmaehekekkfpmaaDoor.vrfKnownProof
namespace Go.Proofs.YtmaehekekkfpmaaDoor
open Go
theorem vrfKnown_holds:Rows.VrfKnownCardSaid :=
 Claim7.holds_tied_plain_at .later [] _ _ _ _ vrfKnownProof.said (fun _ h=>by cases h) (by kernel_rfl) (fun _ h=>by cases h) vrfKnown_row_tie rfl ⟨rfl,rfl⟩ (by kernel_rfl) rfl vrfKnownProof.plain (by kernel_rfl)
#print axioms vrfKnown_holds
end Go.Proofs.YtmaehekekkfpmaaDoor
