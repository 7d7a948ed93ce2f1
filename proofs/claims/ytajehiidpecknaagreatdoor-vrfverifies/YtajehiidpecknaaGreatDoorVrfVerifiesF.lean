import Derived.Test.YtajehiidpecknaaGreatDoorCards
import Derived.Test.YtajehiidpecknaaGreatDoorTie
import Derived.Test.YtajehiidpecknaaGreatDoorVkA
import Derived.Test.YtajehiidpecknaaGreatDoorVrL
import Derived.Test.YtajehiidpecknaaGreatDoorVrfVerifiesW
import Derived.WalkKit
import Derived.ProofKit
import Derived.OpenShut
import Derived.ShutString
import Derived.ChangeOld
import Derived.Below
import Derived.SizedLaws
import Derived.Deep.DeepHandedRow
import Derived.Lib.LaidTab
set_option linter.all false
namespace Go.Proofs.YtajehiidpecknaaGreatDoor.vrfVerifiesProof
open Go Go.ChangeShapes Go.WideShapes Go.ChangeAt Go.RowKit Wi
theorem own:ownKnob Tryz.prog.godebug=none:=by kernel_rfl
theorem laidOut:laidOutB Tryz.prog=true:=by kernel_rfl
theorem Ag:Rows.vrfVerifiesRow.laid=Ve.L6:=by kernel_rfl
theorem Bx {W:World} (h:laidMetH Tryz.prog Rows.vrfVerifiesRow.laid W):laidMet Tryz.prog Rows.vrfVerifiesRow.laid W:=h
theorem vo {W:World} (h:laidMetH Tryz.prog Rows.vrfVerifiesRow.laid W):laidMet Tryz.prog Ve.L6 W:=by
 have k:=Bx h
 rw [Ag] at k
 exact k
theorem DA {H:Type} {enc:TypeId × Value→H} {W:World} {v:Value} {d:DataW H} {p:List MemPlace} (h:DataW.Trod enc Tryz.prog W 0 (fun _=>true) true 25 v d p) : ∃ y,y.length=80∧Byt y∧v = .agg (Wi.bv y).toArray:=by
 obtain ⟨fuel,hf⟩:=h
 obtain ⟨x,c,l,b⟩:=uB Tryz.underlying25 (by kernel_rfl) hf
 refine ⟨x,l,b,?_⟩
 cases v with
 | agg cs=>simp only [Value.cells] at c;rw [←c]
 | _ =>
  exfalso
  have:=congrArg List.length c
  rw [ae,l] at this
  simp [Value.cells] at this
set_option maxRecDepth 100000 in
theorem Cz (H:Type) (enc:TypeId × Value→H) (W:World) (base:Nat) (args:Array Value) (ds gs:List (DataW H)) (before:List MemPlace)
  (hval0 : ∀ (j:Nat) t v,Tryz.f4.params[j]? = some t→args[j]? = some v→Value.okWide Tryz.prog W .any base t v)
  (hW:DataW.Whole enc Tryz.prog Tryz.f4.params.toList Rows.vrfVerifiesSpec.vars false W args.toList ds gs before) (hz0:(DataW.weightsEach Tryz.prog (Tryz.f4.params.toList ++ (OpenSpec.ofChange Rows.vrfVerifiesSpec).bare.plain.varTypes Tryz.prog) (ds ++ gs)).all (· ≤ reachBytes)=true) (hL:laidMetH Tryz.prog Rows.vrfVerifiesRow.laid W) (hS:W.ShapedOpen Tryz.prog) :
  Calls Tryz.prog 4 args W fun e W' => ∃ v,e = .returned v∧Rows.vrfVerifiesSpec.post enc Tryz.prog Tryz.f4 false true false false W args v W':=by
 have hval:=hval0
 have hsz:=hz0
 have hW':=hW
 obtain ⟨p,q,hA0,hV,rfl,hfz,hnd⟩:=hW
 have hA:DataW.TrodAll enc Tryz.prog W 0 (fun _=>true) true Tryz.f4.params.toList args.toList ds p:=hA0
 rw [Tryz.params4] at hA hval hsz
 obtain ⟨v0,vs0,d0,ds0,p0,q0,hargs,rfl,rfl,h0,r0⟩:=trodAll_cons hA
 obtain ⟨v1,vs1,d1,ds1,p1,q1,rfl,rfl,rfl,h1,r1⟩:=trodAll_cons r0
 obtain ⟨v2,vs2,d2,ds2,p2,q2,rfl,rfl,rfl,h2,r2⟩:=trodAll_cons r1
 obtain ⟨rfl,rfl,rfl⟩:=trodAll_nil r2
 obtain rfl:args = #[v0,v1,v2]:=by cases args;simp_all
 obtain ⟨rfl,rfl⟩:=trodVars_none hV
 have k0:=h0
 have lt0 : ∀ x ∈ p0,x.block<W.heap.size:=by obtain ⟨m,hm⟩:=k0;exact DataW.trod_lt m _ _ _ hm
 obtain ⟨y0,ok0,rfl⟩:=wK h0
 obtain ⟨a1,len1,cap1,rfl⟩:=okWide_slice Tryz.underlying23 (hval 1 23 v1 rfl rfl)
 have k1:=h1
 have lt1 : ∀ x ∈ p1,x.block<W.heap.size:=by obtain ⟨m,hm⟩:=k1;exact DataW.trod_lt m _ _ _ hm
 obtain ⟨xs1,b1,e1,s1,u1⟩:=vh (hval 1 23 _ rfl rfl) h1
 have l1:xs1.length≤140737488351232:=by
  rcases u1 with ⟨_,h0⟩ | ⟨es,sp,hd,hc,hl⟩
  ·omega
  ·have hs:=sized_slice (j:=1) (t:=23) hsz rfl (congrArg some hd) Tryz.underlying23
   rw [show Tryz.prog.bytesOf 5=1 by kernel_rfl] at hs
   have hr:reachBytes=140737488351232:=rfl
   omega
 have k2:=h2
 have lt2 : ∀ x ∈ p2,x.block<W.heap.size:=by obtain ⟨m,hm⟩:=k2;exact DataW.trod_lt m _ _ _ hm
 obtain ⟨y2,ok2,okb2,rfl⟩:=DA h2
 clear hA0 hval0
 simp only [List.append_nil] at hW'
 have hG:=Ve.NJ hS (vo hL)
 refine (sL y0 xs1 y2 ok0 b1 (by omega) ok2 okb2 _ W s1 hG).mono fun e W' ⟨he,bel⟩ => ?_
 subst he
 exact ⟨_,rfl,_,_,_,[],_,[],hW',trodAll_mk1 (shut_bool Tryz.underlying4 _),(trodAll_cons_mk (Below.trod laidOut (by kernel_rfl) (of_decide_eq_true (by kernel_rfl)) k0 bel lt0) (trodAll_cons_mk (Below.trod laidOut (by kernel_rfl) (of_decide_eq_true (by kernel_rfl)) k1 bel lt1) (trodAll_cons_mk (Below.trod laidOut (by kernel_rfl) (of_decide_eq_true (by kernel_rfl)) k2 bel lt2) (trodAll_mk0)))),rfl,bel.frame _,fun h=>by cases h⟩
def kA (g:Nat) (cs:Array Value) (h:Array Obj):Array Obj:=h.modify g fun o=>match o with | .cells _ t frozen => .cells cs t frozen | o=>o
noncomputable def kD (os:Os):World :=
 { World.holding Tryz.prog os ⟨#[],#[],[]⟩ with heap:=kA 2 (Ve.eK.map fun z=>Value.int .u8 z).toArray (kA 1 (Ve.eH.map fun z=>Value.int .u8 z).toArray (kA 5 (Ve.mR.map fun z=>Value.int .u8 z).toArray (kA 4 (Ve.yd.map fun z=>Value.int .u8 z).toArray (kA 3 (Ve.Eh.map fun z=>Value.int .u64 z).toArray (kA 0 (Ve.FO.map fun z=>Value.int .u64 z).toArray ((World.holding Tryz.prog os ⟨#[],#[],[]⟩).heap)))))) }
theorem DY (os:Os):laidMet Tryz.prog Rows.vrfVerifiesRow.laid ((kD os).forCall (fun _ _=>0) ⟨#[],#[.agg (Wi.bv (List.replicate 32 0)).toArray,.slice none 0 0,.agg (Wi.bv (List.replicate 80 0)).toArray],[]⟩).memory :=
 laidMet_of_run' 8 (by kernel_rfl) (by kernel_rfl)
set_option maxRecDepth 100000 in
theorem lifted (os:Os) (started:os.Started) (H:Type) (enc:TypeId × Value→H) (F:Stop.Interp) :
  ReturnsInHanded {} Tryz.checked os 4 .any ((OpenSpec.ofChange Rows.vrfVerifiesSpec).preRow enc Tryz.prog Tryz.f4 Rows.vrfVerifiesRow.domain false Rows.vrfVerifiesRow.laid) (((OpenSpec.ofChange Rows.vrfVerifiesSpec).at F).post enc Tryz.prog Tryz.f4 false true false false):=by
 obtain ⟨places,hx⟩ : ∃ places,DataW.whole enc Tryz.prog ((kD os).forCall (fun _ _=>0) ⟨#[],#[.agg (Wi.bv (List.replicate 32 0)).toArray,.slice none 0 0,.agg (Wi.bv (List.replicate 80 0)).toArray],[]⟩).memory Tryz.f4.params.toList Rows.vrfVerifiesSpec.vars false (#[.agg (Wi.bv (List.replicate 32 0)).toArray,.slice none 0 0,.agg (Wi.bv (List.replicate 80 0)).toArray]:Array Value).toList 8=some ([.agg (List.replicate 32 (.lit (.int .u8 0))),.nil,.agg (List.replicate 80 (.lit (.int .u8 0)))],[],places):=⟨[],by kernel_rfl⟩
 refine returnsInHanded_of_row (C:=Tryz.checked) (s:=OpenSpec.ofChange Rows.vrfVerifiesSpec) own started (by kernel_rfl) Tryz.func4
  (witness_row_at (enc:=enc) (C:=Tryz.checked) false (kD os) #[.agg (Wi.bv (List.replicate 32 0)).toArray,.slice none 0 0,.agg (Wi.bv (List.replicate 80 0)).toArray] rfl (by kernel_rfl) (by kernel_rfl) (by kernel_rfl)
   (OpenSpec.preRow_of_cond 8 hx (by kernel_rfl) (fun k hk=>by cases hk) (by kernel_rfl) (DY os))) ?_
 intro W base args ds gs before hval hW _ _ hz hL hS _
 exact Cz H enc W base args ds gs before hval hW hz hL hS
theorem said:Rows.VrfVerifiesSaid :=
 OpenClaim.holds_of_cond 4 Tryz.f4 rfl rfl rfl rfl rfl rfl rfl ⟨rfl,rfl,rfl,rfl,rfl⟩ rfl rfl rfl rfl rfl (by kernel_rfl) Tryz.func4 (by kernel_rfl)
  (of_decide_eq_true (by kernel_rfl)) (by unfold Func.isWrapper;first | (rw [if_pos (by decide +kernel)];kernel_rfl) | (rw [if_neg (by decide +kernel)];exact ⟨rfl,rfl⟩))
  (fun os started H enc _ F=>by rw [OpenClaim.pre_eq_preRow];exact lifted os started H enc F)
theorem plain (f : FuncId) (fn : Func) (hf : Tryz.pinned.checked.prog.funcNamed "beacon/beaconlaw06.VrfVerifies" = some f) (hfn : Tryz.pinned.checked.prog.funcs[f]? = some fn) :
  false=Tryz.pinned.checked.prog.looks [] ∧ ∀ (j:Nat) t,fn.params[j]? = some t→Tryz.pinned.checked.prog.wantsStandIn t=false:=by
 obtain rfl : f = 4 := Option.some.inj ((show Tryz.prog.funcNamed "beacon/beaconlaw06.VrfVerifies" = some 4 by kernel_rfl).symm.trans hf) |>.symm
 obtain rfl:fn=Tryz.f4:=(Option.some.inj (Tryz.func4.symm.trans hfn)).symm
 refine ⟨by kernel_rfl,fun j t ht => ?_⟩
 rw [Tryz.params4] at ht
 have ht:=Array.mem_of_getElem? ht
 simp only [Array.mem_def,List.mem_cons,List.not_mem_nil,or_false] at ht
 rcases ht with rfl | rfl | rfl
 ·exact (show Tryz.prog.wantsStandIn 22=false by kernel_rfl)
 ·exact (show Tryz.prog.wantsStandIn 23=false by kernel_rfl)
 ·exact (show Tryz.prog.wantsStandIn 25=false by kernel_rfl)
end Go.Proofs.YtajehiidpecknaaGreatDoor.vrfVerifiesProof
namespace Go.Proofs.YtajehiidpecknaaGreatDoor
open Go
theorem vrfVerifies_holds:Rows.VrfVerifiesCardSaid :=
 Claim7.holds_tied_plain_at .later [] _ _ _ _ vrfVerifiesProof.said (fun _ h=>by cases h) (by kernel_rfl) (fun _ h=>by cases h) vrfVerifies_row_tie rfl ⟨rfl,rfl⟩ (by kernel_rfl) rfl vrfVerifiesProof.plain (by kernel_rfl)
#print axioms vrfVerifies_holds
end Go.Proofs.YtajehiidpecknaaGreatDoor
