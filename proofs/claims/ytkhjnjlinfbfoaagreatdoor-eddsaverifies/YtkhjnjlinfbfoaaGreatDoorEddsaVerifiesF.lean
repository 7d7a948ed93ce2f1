/- PROVED: the statement of the law beaconlaw05.EddsaVerifies: any key, message and signature are judged as the document says. For every input, no condition; where the tables hold what the program lays in them (the tied card). -/
import Derived.Test.YtkhjnjlinfbfoaaGreatDoorCards
import Derived.Test.YtkhjnjlinfbfoaaGreatDoorTie
import Derived.Test.YtkhjnjlinfbfoaaGreatDoorVkA
import Derived.Test.YtkhjnjlinfbfoaaGreatDoorVeV
import Derived.Test.YtkhjnjlinfbfoaaGreatDoorVwA
import Derived.WalkKit
import Derived.ProofKit
import Derived.OpenShut
import Derived.ShutString
import Derived.ChangeOld
import Derived.Below
import Derived.SizedLaws
import Derived.Deep.DeepHandedRow
import Derived.Lib.LaidTab
set_option linter.unusedSimpArgs false
set_option linter.unusedVariables false
namespace Go.Proofs.YtkhjnjlinfbfoaaGreatDoor.eddsaVerifiesProof
open Go Go.ChangeShapes Go.WideShapes Go.ChangeAt Go.RowKit Wi
theorem own:ownKnob Tryz.prog.godebug=none:=by kernel_rfl
theorem laidOut:laidOutB Tryz.prog=true:=by kernel_rfl
theorem laid_list:Rows.eddsaVerifiesRow.laid=Ve.L6:=by kernel_rfl
theorem laid_one {W:World} (h:laidMetH Tryz.prog Rows.eddsaVerifiesRow.laid W):laidMet Tryz.prog Rows.eddsaVerifiesRow.laid W:=h
theorem laid_plain {W:World} (h:laidMetH Tryz.prog Rows.eddsaVerifiesRow.laid W):laidMet Tryz.prog Ve.L6 W:=by
 have k:=laid_one h
 rw [laid_list] at k
 exact k
set_option maxRecDepth 100000 in
theorem contract (H:Type) (enc:TypeId × Value→H) (W:World) (base:Nat) (args:Array Value) (ds gs:List (DataW H)) (before:List MemPlace)
  (hval0 : ∀ (j:Nat) t v,Tryz.f3.params[j]? = some t→args[j]? = some v→Value.okWide Tryz.prog W .any base t v)
  (hW:DataW.Whole enc Tryz.prog Tryz.f3.params.toList Rows.eddsaVerifiesSpec.vars false W args.toList ds gs before) (hz0:(DataW.weightsEach Tryz.prog (Tryz.f3.params.toList ++ (OpenSpec.ofChange Rows.eddsaVerifiesSpec).bare.plain.varTypes Tryz.prog) (ds ++ gs)).all (· ≤ reachBytes)=true) (hL:laidMetH Tryz.prog Rows.eddsaVerifiesRow.laid W) (hS:W.ShapedOpen Tryz.prog) :
  Calls Tryz.prog 3 args W fun e W' => ∃ v,e = .returned v∧Rows.eddsaVerifiesSpec.post enc Tryz.prog Tryz.f3 false true false false W args v W':=by
 have hval:=hval0
 have hsz:=hz0
 have hW':=hW
 obtain ⟨p,q,hA0,hV,rfl,hfz,hnd⟩:=hW
 have hA:DataW.TrodAll enc Tryz.prog W 0 (fun _=>true) true Tryz.f3.params.toList args.toList ds p:=hA0
 rw [Tryz.params3] at hA hval hsz
 obtain ⟨v0,vs0,d0,ds0,p0,q0,hargs,rfl,rfl,h0,r0⟩:=trodAll_cons hA
 obtain ⟨v1,vs1,d1,ds1,p1,q1,rfl,rfl,rfl,h1,r1⟩:=trodAll_cons r0
 obtain ⟨v2,vs2,d2,ds2,p2,q2,rfl,rfl,rfl,h2,r2⟩:=trodAll_cons r1
 obtain ⟨rfl,rfl,rfl⟩:=trodAll_nil r2
 obtain rfl:args = #[v0,v1,v2]:=by cases args;simp_all
 obtain ⟨rfl,rfl⟩:=trodVars_none hV
 have k0:=h0
 have lt0 : ∀ x ∈ p0,x.block<W.heap.size:=by obtain ⟨m,hm⟩:=k0;exact DataW.trod_lt m _ _ _ hm
 obtain ⟨y0,ok0,rfl⟩:=open_label h0
 obtain ⟨a1,len1,cap1,rfl⟩:=okWide_slice Tryz.underlying23 (hval 1 23 v1 rfl rfl)
 have k1:=h1
 have lt1 : ∀ x ∈ p1,x.block<W.heap.size:=by obtain ⟨m,hm⟩:=k1;exact DataW.trod_lt m _ _ _ hm
 obtain ⟨xs1,b1,e1,s1,u1⟩:=open_bytes (hval 1 23 _ rfl rfl) h1
 have l1:xs1.length≤140737488351232:=by
  rcases u1 with ⟨_,h0⟩ | ⟨es,sp,hd,hc,hl⟩
  ·omega
  ·have hs:=sized_slice (j:=1) (t:=23) hsz rfl (congrArg some hd) Tryz.underlying23
   rw [show Tryz.prog.bytesOf 5=1 by kernel_rfl] at hs
   have hr:reachBytes=140737488351232:=rfl
   omega
 have k2:=h2
 have lt2 : ∀ x ∈ p2,x.block<W.heap.size:=by obtain ⟨m,hm⟩:=k2;exact DataW.trod_lt m _ _ _ hm
 obtain ⟨r2,s2,okr2,oks2,rfl⟩:=open_sig h2
 clear hA0 hval0
 simp only [List.append_nil] at hW'
 have hG:=Ve.gloA hS (laid_plain hL)
 refine (verifies_any y0 xs1 r2 s2 ok0 okr2 oks2 b1 (by omega) _ W s1 hG).mono fun e W' ⟨he,bel⟩ => ?_
 subst he
 exact ⟨_,rfl,_,_,_,[],_,[],hW',trodAll_mk1 (shut_bool Tryz.underlying4 _),(trodAll_cons_mk (Below.trod laidOut (by kernel_rfl) (of_decide_eq_true (by kernel_rfl)) k0 bel lt0) (trodAll_cons_mk (Below.trod laidOut (by kernel_rfl) (of_decide_eq_true (by kernel_rfl)) k1 bel lt1) (trodAll_cons_mk (Below.trod laidOut (by kernel_rfl) (of_decide_eq_true (by kernel_rfl)) k2 bel lt2) (trodAll_mk0)))),rfl,bel.frame _,fun h=>by cases h⟩
def layTab (g:Nat) (cs:Array Value) (h:Array Obj):Array Obj:=h.modify g fun o=>match o with | .cells _ t frozen => .cells cs t frozen | o=>o
noncomputable def laidWorld (os:Os):World :=
 { World.holding Tryz.prog os ⟨#[],#[],[]⟩ with heap:=layTab 2 (Ve.n_generatorY.map fun z=>Value.int .u8 z).toArray (layTab 1 (Ve.n_generatorX.map fun z=>Value.int .u8 z).toArray (layTab 4 (Ve.n_curve.map fun z=>Value.int .u8 z).toArray (layTab 5 (Ve.n_one.map fun z=>Value.int .u8 z).toArray (layTab 3 (Ve.n_cu.map fun z=>Value.int .u64 z).toArray (layTab 0 (Ve.n_sq.map fun z=>Value.int .u64 z).toArray ((World.holding Tryz.prog os ⟨#[],#[],[]⟩).heap)))))) }
theorem laid_met (os:Os):laidMet Tryz.prog Rows.eddsaVerifiesRow.laid ((laidWorld os).forCall (fun _ _=>0) ⟨#[],#[.agg (Wi.bv (List.replicate 32 0)).toArray,.slice none 0 0,.agg (Wi.bv (List.replicate 64 0)).toArray],[]⟩).memory :=
 laidMet_of_run' 8 (by kernel_rfl) (by kernel_rfl)
set_option maxRecDepth 100000 in
theorem lifted (os:Os) (started:os.Started) (H:Type) (enc:TypeId × Value→H) (F:Stop.Interp) :
  ReturnsInHanded {} Tryz.checked os 3 .any ((OpenSpec.ofChange Rows.eddsaVerifiesSpec).preRow enc Tryz.prog Tryz.f3 Rows.eddsaVerifiesRow.domain false Rows.eddsaVerifiesRow.laid) (((OpenSpec.ofChange Rows.eddsaVerifiesSpec).at F).post enc Tryz.prog Tryz.f3 false true false false):=by
 obtain ⟨places,hx⟩ : ∃ places,DataW.whole enc Tryz.prog ((laidWorld os).forCall (fun _ _=>0) ⟨#[],#[.agg (Wi.bv (List.replicate 32 0)).toArray,.slice none 0 0,.agg (Wi.bv (List.replicate 64 0)).toArray],[]⟩).memory Tryz.f3.params.toList Rows.eddsaVerifiesSpec.vars false (#[.agg (Wi.bv (List.replicate 32 0)).toArray,.slice none 0 0,.agg (Wi.bv (List.replicate 64 0)).toArray]:Array Value).toList 8=some ([.agg (List.replicate 32 (.lit (.int .u8 0))),.nil,.agg (List.replicate 64 (.lit (.int .u8 0)))],[],places):=⟨[],by kernel_rfl⟩
 refine returnsInHanded_of_row (C:=Tryz.checked) (s:=OpenSpec.ofChange Rows.eddsaVerifiesSpec) own started (by kernel_rfl) Tryz.func3
  (witness_row_at (enc:=enc) (C:=Tryz.checked) false (laidWorld os) #[.agg (Wi.bv (List.replicate 32 0)).toArray,.slice none 0 0,.agg (Wi.bv (List.replicate 64 0)).toArray] rfl (by kernel_rfl) (by kernel_rfl) (by kernel_rfl)
   (OpenSpec.preRow_of_cond 8 hx (by kernel_rfl) (fun k hk=>by cases hk) (by kernel_rfl) (laid_met os))) ?_
 intro W base args ds gs before hval hW _ _ hz hL hS _
 exact contract H enc W base args ds gs before hval hW hz hL hS
theorem said:Rows.EddsaVerifiesSaid :=
 OpenClaim.holds_of_cond 3 Tryz.f3 rfl rfl rfl rfl rfl rfl rfl ⟨rfl,rfl,rfl,rfl,rfl⟩ rfl rfl rfl rfl rfl (by kernel_rfl) Tryz.func3 (by kernel_rfl)
  (of_decide_eq_true (by kernel_rfl)) (by unfold Func.isWrapper;first | (rw [if_pos (by decide +kernel)];kernel_rfl) | (rw [if_neg (by decide +kernel)];exact ⟨rfl,rfl⟩))
  (fun os started H enc _ F=>by rw [OpenClaim.pre_eq_preRow];exact lifted os started H enc F)
theorem plain (f : FuncId) (fn : Func) (hf : Tryz.pinned.checked.prog.funcNamed "beacon/beaconlaw05.EddsaVerifies" = some f) (hfn : Tryz.pinned.checked.prog.funcs[f]? = some fn) :
  false=Tryz.pinned.checked.prog.looks [] ∧ ∀ (j:Nat) t,fn.params[j]? = some t→Tryz.pinned.checked.prog.wantsStandIn t=false:=by
 obtain rfl : f = 3 := Option.some.inj ((show Tryz.prog.funcNamed "beacon/beaconlaw05.EddsaVerifies" = some 3 by kernel_rfl).symm.trans hf) |>.symm
 obtain rfl:fn=Tryz.f3:=(Option.some.inj (Tryz.func3.symm.trans hfn)).symm
 refine ⟨by kernel_rfl,fun j t ht => ?_⟩
 rw [Tryz.params3] at ht
 have ht:=Array.mem_of_getElem? ht
 simp only [Array.mem_def,List.mem_cons,List.not_mem_nil,or_false] at ht
 rcases ht with rfl | rfl | rfl
 ·exact (show Tryz.prog.wantsStandIn 22=false by kernel_rfl)
 ·exact (show Tryz.prog.wantsStandIn 23=false by kernel_rfl)
 ·exact (show Tryz.prog.wantsStandIn 24=false by kernel_rfl)
end Go.Proofs.YtkhjnjlinfbfoaaGreatDoor.eddsaVerifiesProof
namespace Go.Proofs.YtkhjnjlinfbfoaaGreatDoor
open Go
theorem eddsaVerifies_holds:Rows.EddsaVerifiesCardSaid :=
 Claim7.holds_tied_plain_at .later [] _ _ _ _ eddsaVerifiesProof.said (fun _ h=>by cases h) (by kernel_rfl) (fun _ h=>by cases h) eddsaVerifies_row_tie rfl ⟨rfl,rfl⟩ (by kernel_rfl) rfl eddsaVerifiesProof.plain (by kernel_rfl)
#print axioms eddsaVerifies_holds
end Go.Proofs.YtkhjnjlinfbfoaaGreatDoor
