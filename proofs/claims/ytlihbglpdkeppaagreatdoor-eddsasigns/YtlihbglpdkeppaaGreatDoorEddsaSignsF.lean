/- PROVED: the statement of the law beaconlaw05.EddsaSigns in its first form (the tied card): the public key and the signature are the reference's. No condition. -/
import Derived.Test.YtlihbglpdkeppaaGreatDoorCards
import Derived.Test.YtlihbglpdkeppaaGreatDoorTie
import Derived.Test.YtlihbglpdkeppaaGreatDoorFieV
import Derived.Test.YtlihbglpdkeppaaGreatDoorRhaB
import Derived.Test.YtlihbglpdkeppaaGreatDoorEddV
import Derived.WalkKit
import Derived.ProofKit
import Derived.OpenShut
import Derived.ShutString
import Derived.ChangeOld
import Derived.Below
import Derived.SizedLaws
import Derived.Deep.DeepHandedRow
import Derived.Lib.LaidTab
set_option linter.unusedSimpArgs false
set_option linter.unusedVariables false
namespace Go.Proofs.YtlihbglpdkeppaaGreatDoor.eddsaSignsProof
open Go Go.ChangeShapes Go.WideShapes Go.ChangeAt Go.RowKit
theorem own:ownKnob Tryz.prog.godebug=none:=by kernel_rfl
theorem laidOut:laidOutB Tryz.prog=true:=by kernel_rfl
theorem laid_list:Rows.eddsaSignsRow.laid=Edd.L6:=by kernel_rfl
theorem laid_one {W:World} (h:laidMetH Tryz.prog Rows.eddsaSignsRow.laid W):laidMet Tryz.prog Rows.eddsaSignsRow.laid W:=h
theorem laid_plain {W:World} (h:laidMetH Tryz.prog Rows.eddsaSignsRow.laid W):laidMet Tryz.prog Edd.L6 W:=by
 have k:=laid_one h
 rw [laid_list] at k
 exact k
set_option maxRecDepth 100000 in
theorem contract (H:Type) (enc:TypeId × Value→H) (W:World) (base:Nat) (args:Array Value) (ds gs:List (DataW H)) (before:List MemPlace)
  (hval0 : ∀ (j:Nat) t v,Tryz.f3.params[j]? = some t→args[j]? = some v→Value.okWide Tryz.prog W .any base t v)
  (hW:DataW.Whole enc Tryz.prog Tryz.f3.params.toList Rows.eddsaSignsSpec.vars false W args.toList ds gs before) (hz0:(DataW.weightsEach Tryz.prog (Tryz.f3.params.toList ++ (OpenSpec.ofChange Rows.eddsaSignsSpec).bare.plain.varTypes Tryz.prog) (ds ++ gs)).all (· ≤ reachBytes)=true) (hL:laidMetH Tryz.prog Rows.eddsaSignsRow.laid W) (hS:W.ShapedOpen Tryz.prog) :
  Calls Tryz.prog 3 args W fun e W' => ∃ v,e = .returned v∧Rows.eddsaSignsSpec.post enc Tryz.prog Tryz.f3 false true false false W args v W':=by
 have hval:=hval0
 have hsz:=hz0
 have hW':=hW
 obtain ⟨p,q,hA0,hV,rfl,hfz,hnd⟩:=hW
 have hA:DataW.TrodAll enc Tryz.prog W 0 (fun _=>true) true Tryz.f3.params.toList args.toList ds p:=hA0
 rw [Tryz.params3] at hA hval hsz
 obtain ⟨v0,vs0,d0,ds0,p0,q0,hargs,rfl,rfl,h0,r0⟩:=trodAll_cons hA
 obtain ⟨v1,vs1,d1,ds1,p1,q1,rfl,rfl,rfl,h1,r1⟩:=trodAll_cons r0
 obtain ⟨rfl,rfl,rfl⟩:=trodAll_nil r1
 obtain rfl:args = #[v0,v1]:=by cases args;simp_all
 obtain ⟨rfl,rfl⟩:=trodVars_none hV
 obtain ⟨a0,la0,rfl,rfl,k0⟩:=open32 (hval 0 22 v0 rfl rfl) h0
 obtain ⟨a1,len1,cap1,rfl⟩:=okWide_slice Tryz.underlying23 (hval 1 23 v1 rfl rfl)
 have k1:=h1
 have lt1 : ∀ x ∈ p1,x.block<W.heap.size:=by obtain ⟨m,hm⟩:=k1;exact DataW.trod_lt m _ _ _ hm
 obtain ⟨y1,by1,ln1,ws1,u1⟩ : ∃ y,Edd.ByteR y∧y.length=len1∧WSrc (.slice a1 len1 cap1) len1 y W∧len1≤reachBytes:=by
  obtain ⟨fuel,hf⟩:=h1
  rcases open_ints Tryz.underlying23 Tryz.underlying5 (by kernel_rfl) hf with ⟨hcs,_⟩ | ⟨x,l,c,zs,hcs,_,hl,hm,hz,hx,hcell,hwz⟩
  ·simp [Value.cells] at hcs
   obtain ⟨rfl,rfl,rfl⟩:=hcs
   exact ⟨[],(fun u hu=>by cases hu),rfl,⟨rfl,.inl ⟨_,rfl,rfl⟩⟩,Nat.zero_le _⟩
  ·simp [Value.cells] at hcs
   obtain ⟨rfl,rfl,rfl⟩:=hcs
   obtain ⟨y,e1,e2,e3,_⟩:=Edd.src_of (hval 1 23 _ rfl rfl) hl (by simpa using hz) hcell hwz (congrArg Prod.fst hx)
   refine ⟨y,e1,e2,e3,?_⟩
   have hs:=sized_slice (j:=1) (t:=23) hsz rfl (congrArg some (congrArg Prod.fst hx)) Tryz.underlying23
   rw [show Tryz.prog.bytesOf 5=1 by kernel_rfl] at hs
   simp only [lits,List.length_map,List.length_take,List.length_drop] at hs
   have hz2:zs.length=cap1:=by simpa using hz
   omega
 clear hA0 hval0
 simp only [List.append_nil] at hW'
 have hu1:len1≤140737488351232:=u1
 refine (Edd.signs_any (v:=⟨a1,len1,cap1⟩) by1 (by rw [ln1];omega) a0 la0 W (Edd.gloA hS (laid_plain hL)) ws1).mono fun e W' ⟨he,bel⟩ => ?_
 subst he
 exact ⟨_,rfl,_,_,_,[],_,[],hW',trodAll_mk1 (shut_bool Tryz.underlying4 _),(trodAll_cons_mk (k0 _ _ _ _) (trodAll_cons_mk (Below.trod laidOut (by kernel_rfl) (of_decide_eq_true (by kernel_rfl)) k1 bel lt1) (trodAll_mk0))),rfl,bel.frame _,fun h=>by cases h⟩
def layTab (g:Nat) (cs:Array Value) (h:Array Obj):Array Obj:=h.modify g fun o=>match o with | .cells _ t frozen => .cells cs t frozen | o=>o
noncomputable def laidWorld (os:Os):World :=
 { World.holding Tryz.prog os ⟨#[],#[],[]⟩ with heap:=layTab 2 (Edd.n_generatorY.map fun z=>Value.int .u8 z).toArray (layTab 1 (Edd.n_generatorX.map fun z=>Value.int .u8 z).toArray (layTab 5 (Edd.n_curve.map fun z=>Value.int .u8 z).toArray (layTab 4 (Edd.n_one.map fun z=>Value.int .u8 z).toArray (layTab 3 (Shf.K5.map fun z=>Value.int .u64 z).toArray (layTab 0 (Shf.H5.map fun z=>Value.int .u64 z).toArray ((World.holding Tryz.prog os ⟨#[],#[],[]⟩).heap)))))) }
theorem laid_met (os:Os):laidMet Tryz.prog Rows.eddsaSignsRow.laid ((laidWorld os).forCall (fun _ _=>0) ⟨#[],#[bv 0,.slice none 0 0],[]⟩).memory :=
 laidMet_of_run' 8 (by kernel_rfl) (by kernel_rfl)
set_option maxRecDepth 100000 in
theorem lifted (os:Os) (started:os.Started) (H:Type) (enc:TypeId × Value→H) (F:Stop.Interp) :
  ReturnsInHanded {} Tryz.checked os 3 .any ((OpenSpec.ofChange Rows.eddsaSignsSpec).preRow enc Tryz.prog Tryz.f3 Rows.eddsaSignsRow.domain false Rows.eddsaSignsRow.laid) (((OpenSpec.ofChange Rows.eddsaSignsSpec).at F).post enc Tryz.prog Tryz.f3 false true false false):=by
 obtain ⟨places,hx⟩ : ∃ places,DataW.whole enc Tryz.prog ((laidWorld os).forCall (fun _ _=>0) ⟨#[],#[bv 0,.slice none 0 0],[]⟩).memory Tryz.f3.params.toList Rows.eddsaSignsSpec.vars false (#[bv 0,.slice none 0 0]:Array Value).toList 8=some ([.agg [.lit (.int .u8 0),.lit (.int .u8 0),.lit (.int .u8 0),.lit (.int .u8 0),.lit (.int .u8 0),.lit (.int .u8 0),.lit (.int .u8 0),.lit (.int .u8 0),.lit (.int .u8 0),.lit (.int .u8 0),.lit (.int .u8 0),.lit (.int .u8 0),.lit (.int .u8 0),.lit (.int .u8 0),.lit (.int .u8 0),.lit (.int .u8 0),.lit (.int .u8 0),.lit (.int .u8 0),.lit (.int .u8 0),.lit (.int .u8 0),.lit (.int .u8 0),.lit (.int .u8 0),.lit (.int .u8 0),.lit (.int .u8 0),.lit (.int .u8 0),.lit (.int .u8 0),.lit (.int .u8 0),.lit (.int .u8 0),.lit (.int .u8 0),.lit (.int .u8 0),.lit (.int .u8 0),.lit (.int .u8 0)],.nil],[],places):=⟨[],by kernel_rfl⟩
 refine returnsInHanded_of_row (C:=Tryz.checked) (s:=OpenSpec.ofChange Rows.eddsaSignsSpec) own started (by kernel_rfl) Tryz.func3
  (witness_row_at (enc:=enc) (C:=Tryz.checked) false (laidWorld os) #[bv 0,.slice none 0 0] rfl (by kernel_rfl) (by kernel_rfl) (by kernel_rfl)
   (OpenSpec.preRow_of_cond 8 hx (by kernel_rfl) (fun k hk=>by cases hk) (by kernel_rfl) (laid_met os))) ?_
 intro W base args ds gs before hval hW _ _ hz hL hS _
 exact contract H enc W base args ds gs before hval hW hz hL hS
theorem said:Rows.EddsaSignsSaid :=
 OpenClaim.holds_of_cond 3 Tryz.f3 rfl rfl rfl rfl rfl rfl rfl ⟨rfl,rfl,rfl,rfl,rfl⟩ rfl rfl rfl rfl rfl (by kernel_rfl) Tryz.func3 (by kernel_rfl)
  (of_decide_eq_true (by kernel_rfl)) (by unfold Func.isWrapper;first | (rw [if_pos (by decide +kernel)];kernel_rfl) | (rw [if_neg (by decide +kernel)];exact ⟨rfl,rfl⟩))
  (fun os started H enc _ F=>by rw [OpenClaim.pre_eq_preRow];exact lifted os started H enc F)
theorem plain (f : FuncId) (fn : Func) (hf : Tryz.pinned.checked.prog.funcNamed "beacon/beaconlaw05.EddsaSigns" = some f) (hfn : Tryz.pinned.checked.prog.funcs[f]? = some fn) :
  false=Tryz.pinned.checked.prog.looks [] ∧ ∀ (j:Nat) t,fn.params[j]? = some t→Tryz.pinned.checked.prog.wantsStandIn t=false:=by
 obtain rfl : f = 3 := Option.some.inj ((show Tryz.prog.funcNamed "beacon/beaconlaw05.EddsaSigns" = some 3 by kernel_rfl).symm.trans hf) |>.symm
 obtain rfl:fn=Tryz.f3:=(Option.some.inj (Tryz.func3.symm.trans hfn)).symm
 refine ⟨by kernel_rfl,fun j t ht => ?_⟩
 rw [Tryz.params3] at ht
 have hm:=Array.mem_of_getElem? ht
 simp only [List.mem_toArray,List.mem_cons,List.not_mem_nil,or_false] at hm
 rcases hm with rfl | rfl
 ·exact (show Tryz.prog.wantsStandIn 22=false by kernel_rfl)
 ·exact (show Tryz.prog.wantsStandIn 23=false by kernel_rfl)
end Go.Proofs.YtlihbglpdkeppaaGreatDoor.eddsaSignsProof
namespace Go.Proofs.YtlihbglpdkeppaaGreatDoor
open Go
theorem eddsaSigns_holds:Rows.EddsaSignsCardSaid :=
 Claim7.holds_tied_plain_at .later [] _ _ _ _ eddsaSignsProof.said (fun _ h=>by cases h) (by kernel_rfl) (fun _ h=>by cases h) eddsaSigns_row_tie rfl ⟨rfl,rfl⟩ (by kernel_rfl) rfl eddsaSignsProof.plain (by kernel_rfl)
end Go.Proofs.YtlihbglpdkeppaaGreatDoor
