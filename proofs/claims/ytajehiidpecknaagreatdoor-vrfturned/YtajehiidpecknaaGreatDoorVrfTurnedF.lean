import Derived.Test.YtajehiidpecknaaGreatDoorCards
import Derived.Test.YtajehiidpecknaaGreatDoorTie
import Derived.Test.YtajehiidpecknaaGreatDoorVkA
import Derived.Test.YtajehiidpecknaaGreatDoorVrL
import Derived.Test.YtajehiidpecknaaGreatDoorVrfTurnedW
import Derived.WalkKit
import Derived.ProofKit
import Derived.OpenShut
import Derived.ShutString
import Derived.ChangeOld
import Derived.Below
import Derived.SizedLaws
import Derived.Deep.DeepHandedRow
import Derived.Lib.LaidTab
set_option linter.all false
namespace Go.Proofs.YtajehiidpecknaaGreatDoor.vrfTurnedProof
open Go Go.ChangeShapes Go.WideShapes Go.ChangeAt Go.RowKit Wi
theorem own:ownKnob Tryz.prog.godebug=none:=by kernel_rfl
theorem laidOut:laidOutB Tryz.prog=true:=by kernel_rfl
theorem zT:Rows.vrfTurnedRow.laid=Ve.L6:=by kernel_rfl
theorem Br {W:World} (h:laidMetH Tryz.prog Rows.vrfTurnedRow.laid W):laidMet Tryz.prog Rows.vrfTurnedRow.laid W:=h
theorem xm {W:World} (h:laidMetH Tryz.prog Rows.vrfTurnedRow.laid W):laidMet Tryz.prog Ve.L6 W:=by
 have k:=Br h
 rw [zT] at k
 exact k
set_option maxRecDepth 100000 in
theorem CX (H:Type) (enc:TypeId × Value→H) (W:World) (base:Nat) (args:Array Value) (ds gs:List (DataW H)) (before:List MemPlace)
  (hval0 : ∀ (j:Nat) t v,Tryz.f6.params[j]? = some t→args[j]? = some v→Value.okWide Tryz.prog W .any base t v)
  (hW:DataW.Whole enc Tryz.prog Tryz.f6.params.toList Rows.vrfTurnedSpec.vars false W args.toList ds gs before) (hz0:(DataW.weightsEach Tryz.prog (Tryz.f6.params.toList ++ (OpenSpec.ofChange Rows.vrfTurnedSpec).bare.plain.varTypes Tryz.prog) (ds ++ gs)).all (· ≤ reachBytes)=true) (hL:laidMetH Tryz.prog Rows.vrfTurnedRow.laid W) (hS:W.ShapedOpen Tryz.prog) :
  Calls Tryz.prog 6 args W fun e W' => ∃ v,e = .returned v∧Rows.vrfTurnedSpec.post enc Tryz.prog Tryz.f6 false true false false W args v W':=by
 have hval:=hval0
 have hsz:=hz0
 have hW':=hW
 obtain ⟨p,q,hA0,hV,rfl,hfz,hnd⟩:=hW
 have hA:DataW.TrodAll enc Tryz.prog W 0 (fun _=>true) true Tryz.f6.params.toList args.toList ds p:=hA0
 rw [Tryz.params6] at hA hval hsz
 obtain ⟨v0,vs0,d0,ds0,p0,q0,hargs,rfl,rfl,h0,r0⟩:=trodAll_cons hA
 obtain ⟨v1,vs1,d1,ds1,p1,q1,rfl,rfl,rfl,h1,r1⟩:=trodAll_cons r0
 obtain ⟨v2,vs2,d2,ds2,p2,q2,rfl,rfl,rfl,h2,r2⟩:=trodAll_cons r1
 obtain ⟨v3,vs3,d3,ds3,p3,q3,rfl,rfl,rfl,h3,r3⟩:=trodAll_cons r2
 obtain ⟨rfl,rfl,rfl⟩:=trodAll_nil r3
 obtain rfl:args = #[v0,v1,v2,v3]:=by cases args;simp_all
 obtain ⟨rfl,rfl⟩:=trodVars_none hV
 have k0:=h0
 have lt0 : ∀ x ∈ p0,x.block<W.heap.size:=by obtain ⟨m,hm⟩:=k0;exact DataW.trod_lt m _ _ _ hm
 obtain ⟨y0,ok0,rfl⟩:=yd h0
 obtain ⟨a1,len1,cap1,rfl⟩:=okWide_slice Tryz.underlying23 (hval 1 23 v1 rfl rfl)
 have k1:=h1
 have lt1 : ∀ x ∈ p1,x.block<W.heap.size:=by obtain ⟨m,hm⟩:=k1;exact DataW.trod_lt m _ _ _ hm
 obtain ⟨xs1,b1,e1,s1,u1⟩:=xr (hval 1 23 _ rfl rfl) h1
 have l1:xs1.length≤140737488351232:=by
  rcases u1 with ⟨_,h0⟩ | ⟨es,sp,hd,hc,hl⟩
  ·omega
  ·have hs:=sized_slice (j:=1) (t:=23) hsz rfl (congrArg some hd) Tryz.underlying23
   rw [show Tryz.prog.bytesOf 5=1 by kernel_rfl] at hs
   have hr:reachBytes=140737488351232:=rfl
   omega
 obtain ⟨n2,rfl,rfl,rfl,wf2⟩:=open_int Tryz.underlying3 (hval 2 3 v2 rfl rfl) h2
 have g2 : -9223372036854775808≤n2∧n2≤9223372036854775807:=by simp only [Lit.wf,Bool.and_eq_true,decide_eq_true_eq] at wf2;exact wf2
 obtain ⟨n3,rfl,rfl,rfl,wf3⟩:=open_int Tryz.underlying3 (hval 3 3 v3 rfl rfl) h3
 have g3 : -9223372036854775808≤n3∧n3≤9223372036854775807:=by simp only [Lit.wf,Bool.and_eq_true,decide_eq_true_eq] at wf3;exact wf3
 clear hA0 hval0
 simp only [List.append_nil] at hW'
 have hG:=Ve.Pl hS (xm hL)
 refine (we y0 xs1 ok0 b1 (by omega) _ n2 n3 W s1 hG).mono fun e W' ⟨he,bel⟩ => ?_
 subst he
 exact ⟨_,rfl,_,_,_,[],_,[],hW',trodAll_mk1 (shut_bool Tryz.underlying4 _),(trodAll_cons_mk (Below.trod laidOut (by kernel_rfl) (of_decide_eq_true (by kernel_rfl)) k0 bel lt0) (trodAll_cons_mk (Below.trod laidOut (by kernel_rfl) (of_decide_eq_true (by kernel_rfl)) k1 bel lt1) (trodAll_cons_mk (shut_int Tryz.underlying3 wf2) (trodAll_cons_mk (shut_int Tryz.underlying3 wf3) (trodAll_mk0))))),rfl,bel.frame _,fun h=>by cases h⟩
def lQ (g:Nat) (cs:Array Value) (h:Array Obj):Array Obj:=h.modify g fun o=>match o with | .cells _ t frozen => .cells cs t frozen | o=>o
noncomputable def lV (os:Os):World :=
 { World.holding Tryz.prog os ⟨#[],#[],[]⟩ with heap:=lQ 2 (Ve.eO.map fun z=>Value.int .u8 z).toArray (lQ 1 (Ve.eN.map fun z=>Value.int .u8 z).toArray (lQ 5 (Ve.nd.map fun z=>Value.int .u8 z).toArray (lQ 4 (Ve.zJ.map fun z=>Value.int .u8 z).toArray (lQ 3 (Ve.Fx.map fun z=>Value.int .u64 z).toArray (lQ 0 (Ve.Ib.map fun z=>Value.int .u64 z).toArray ((World.holding Tryz.prog os ⟨#[],#[],[]⟩).heap)))))) }
theorem D9 (os:Os):laidMet Tryz.prog Rows.vrfTurnedRow.laid ((lV os).forCall (fun _ _=>0) ⟨#[],#[.agg (Wi.bv (List.replicate 32 0)).toArray,.slice none 0 0,.int .i64 0,.int .i64 0],[]⟩).memory :=
 laidMet_of_run' 8 (by kernel_rfl) (by kernel_rfl)
set_option maxRecDepth 100000 in
theorem lifted (os:Os) (started:os.Started) (H:Type) (enc:TypeId × Value→H) (F:Stop.Interp) :
  ReturnsInHanded {} Tryz.checked os 6 .any ((OpenSpec.ofChange Rows.vrfTurnedSpec).preRow enc Tryz.prog Tryz.f6 Rows.vrfTurnedRow.domain false Rows.vrfTurnedRow.laid) (((OpenSpec.ofChange Rows.vrfTurnedSpec).at F).post enc Tryz.prog Tryz.f6 false true false false):=by
 obtain ⟨places,hx⟩ : ∃ places,DataW.whole enc Tryz.prog ((lV os).forCall (fun _ _=>0) ⟨#[],#[.agg (Wi.bv (List.replicate 32 0)).toArray,.slice none 0 0,.int .i64 0,.int .i64 0],[]⟩).memory Tryz.f6.params.toList Rows.vrfTurnedSpec.vars false (#[.agg (Wi.bv (List.replicate 32 0)).toArray,.slice none 0 0,.int .i64 0,.int .i64 0]:Array Value).toList 8=some ([.agg (List.replicate 32 (.lit (.int .u8 0))),.nil,.lit (.int .i64 0),.lit (.int .i64 0)],[],places):=⟨[],by kernel_rfl⟩
 refine returnsInHanded_of_row (C:=Tryz.checked) (s:=OpenSpec.ofChange Rows.vrfTurnedSpec) own started (by kernel_rfl) Tryz.func6
  (witness_row_at (enc:=enc) (C:=Tryz.checked) false (lV os) #[.agg (Wi.bv (List.replicate 32 0)).toArray,.slice none 0 0,.int .i64 0,.int .i64 0] rfl (by kernel_rfl) (by kernel_rfl) (by kernel_rfl)
   (OpenSpec.preRow_of_cond 8 hx (by kernel_rfl) (fun k hk=>by cases hk) (by kernel_rfl) (D9 os))) ?_
 intro W base args ds gs before hval hW _ _ hz hL hS _
 exact CX H enc W base args ds gs before hval hW hz hL hS
theorem said:Rows.VrfTurnedSaid :=
 OpenClaim.holds_of_cond 6 Tryz.f6 rfl rfl rfl rfl rfl rfl rfl ⟨rfl,rfl,rfl,rfl,rfl⟩ rfl rfl rfl rfl rfl (by kernel_rfl) Tryz.func6 (by kernel_rfl)
  (of_decide_eq_true (by kernel_rfl)) (by unfold Func.isWrapper;first | (rw [if_pos (by decide +kernel)];kernel_rfl) | (rw [if_neg (by decide +kernel)];exact ⟨rfl,rfl⟩))
  (fun os started H enc _ F=>by rw [OpenClaim.pre_eq_preRow];exact lifted os started H enc F)
theorem plain (f : FuncId) (fn : Func) (hf : Tryz.pinned.checked.prog.funcNamed "beacon/beaconlaw06.VrfTurned" = some f) (hfn : Tryz.pinned.checked.prog.funcs[f]? = some fn) :
  false=Tryz.pinned.checked.prog.looks [] ∧ ∀ (j:Nat) t,fn.params[j]? = some t→Tryz.pinned.checked.prog.wantsStandIn t=false:=by
 obtain rfl : f = 6 := Option.some.inj ((show Tryz.prog.funcNamed "beacon/beaconlaw06.VrfTurned" = some 6 by kernel_rfl).symm.trans hf) |>.symm
 obtain rfl:fn=Tryz.f6:=(Option.some.inj (Tryz.func6.symm.trans hfn)).symm
 refine ⟨by kernel_rfl,fun j t ht => ?_⟩
 rw [Tryz.params6] at ht
 have ht:=Array.mem_of_getElem? ht
 simp only [Array.mem_def,List.mem_cons,List.not_mem_nil,or_false] at ht
 rcases ht with rfl | rfl | rfl | rfl
 ·exact (show Tryz.prog.wantsStandIn 22=false by kernel_rfl)
 ·exact (show Tryz.prog.wantsStandIn 23=false by kernel_rfl)
 ·exact (show Tryz.prog.wantsStandIn 3=false by kernel_rfl)
 ·exact (show Tryz.prog.wantsStandIn 3=false by kernel_rfl)
end Go.Proofs.YtajehiidpecknaaGreatDoor.vrfTurnedProof
namespace Go.Proofs.YtajehiidpecknaaGreatDoor
open Go
theorem vrfTurned_holds:Rows.VrfTurnedCardSaid :=
 Claim7.holds_tied_plain_at .later [] _ _ _ _ vrfTurnedProof.said (fun _ h=>by cases h) (by kernel_rfl) (fun _ h=>by cases h) vrfTurned_row_tie rfl ⟨rfl,rfl⟩ (by kernel_rfl) rfl vrfTurnedProof.plain (by kernel_rfl)
#print axioms vrfTurned_holds
end Go.Proofs.YtajehiidpecknaaGreatDoor
