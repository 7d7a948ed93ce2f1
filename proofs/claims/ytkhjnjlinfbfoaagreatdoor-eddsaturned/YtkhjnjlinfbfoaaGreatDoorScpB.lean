/- Package scalar: its calls. -/
import Derived.Test.YtkhjnjlinfbfoaaGreatDoorScpA
set_option linter.unusedSimpArgs false
set_option linter.unusedVariables false
namespace Go.Proofs.YtkhjnjlinfbfoaaGreatDoor.Sc
open Go Go.RowKit
open Go Go.RowKit
def dg (A:Value) (x:Int):Value:=nv ((num A*4294967296+x.toNat) % LN)
def dgO (A:Value) (x:Int):Prop:=IsN A∧num A<LN∧0≤x∧x<4294967296
def hiI (x:Int):Int:=Int.fdiv x (2 ^ 32)
def loI (x:Int):Int:=bits .and .u64 x 4294967295
theorem rest_run (r n:Nat):sfun Tryz.prog X5 60 Tryz.f104 (bodyOf Tryz.f104) [nv r,nv n]=some ([dgO (nv r) (hiI (lw n 3)),dgO (dg (nv r) (hiI (lw n 3))) (loI (lw n 3)),dgO (dg (dg (nv r) (hiI (lw n 3))) (loI (lw n 3))) (hiI (lw n 2)),dgO (dg (dg (dg (nv r) (hiI (lw n 3))) (loI (lw n 3))) (hiI (lw n 2))) (loI (lw n 2)),dgO (dg (dg (dg (dg (nv r) (hiI (lw n 3))) (loI (lw n 3))) (hiI (lw n 2))) (loI (lw n 2))) (hiI (lw n 1)),dgO (dg (dg (dg (dg (dg (nv r) (hiI (lw n 3))) (loI (lw n 3))) (hiI (lw n 2))) (loI (lw n 2))) (hiI (lw n 1))) (loI (lw n 1)),dgO (dg (dg (dg (dg (dg (dg (nv r) (hiI (lw n 3))) (loI (lw n 3))) (hiI (lw n 2))) (loI (lw n 2))) (hiI (lw n 1))) (loI (lw n 1))) (hiI (lw n 0)),dgO (dg (dg (dg (dg (dg (dg (dg (nv r) (hiI (lw n 3))) (loI (lw n 3))) (hiI (lw n 2))) (loI (lw n 2))) (hiI (lw n 1))) (loI (lw n 1))) (hiI (lw n 0))) (loI (lw n 0))],dg (dg (dg (dg (dg (dg (dg (dg (nv r) (hiI (lw n 3))) (loI (lw n 3))) (hiI (lw n 2))) (loI (lw n 2))) (hiI (lw n 1))) (loI (lw n 1))) (hiI (lw n 0))) (loI (lw n 0))):=by kernel_rfl
theorem hiI_eq (x:Int) (hx:Word x):0≤hiI x∧hiI x<4294967296∧0≤loI x∧loI x<4294967296∧x=hiI x*4294967296+loI x:=by
 obtain ⟨h0,h1⟩:=hx
 obtain ⟨x,rfl⟩:=Int.eq_ofNat_of_zero_le h0
 have h:=bits_and_u64_nat x 4294967295 (by omega) (by omega)
 have e:x &&& 4294967295=x % 4294967296:=Nat.and_two_pow_sub_one_eq_mod x 32
 rw [e] at h
 have h2:loI (x:Int)=((x % 4294967296:Nat):Int):=h
 have h3:hiI (x:Int)=((x/4294967296:Nat):Int):=by unfold hiI;rw [fdiv_nat]
 rw [h2,h3]
 omega
theorem mod_step (x y:Nat):(x % LN*4294967296+y) % LN=(x*4294967296+y) % LN:=by
 rw [Nat.add_mod,Nat.mul_mod,Nat.mod_mod,←Nat.mul_mod,←Nat.add_mod]
theorem dg_eq {A:Value} {z:Nat} (hA:A=nv (z % LN)) (x:Int) (h0:0≤x) (h1:x<4294967296):dgO A x∧dg A x=nv ((z*4294967296+x.toNat) % LN):=by
 have hlt:z % LN<LN:=Nat.mod_lt _ (by decide)
 have hn:num A=z % LN:=by rw [hA,num_nv' (lt_LN_RN hlt)]
 refine ⟨⟨by rw [hA];exact isN_nv _,by rw [hn];exact hlt,h0,h1⟩,?_⟩
 unfold dg
 rw [hn,mod_step]
def gRest:List Value→Option (List Prop × Value)
 | [A,N]=>some ([IsN A∧num A<LN∧IsN N],nv ((num A*RN+num N) % LN))
 | _=>none
theorem gRest_ok {X:Cx} (hX:X.Ok Tryz.prog):(X.pure 104 gRest).Ok Tryz.prog:=by
 refine gBody_ok hX Tryz.func104 (by kernel_rfl) (by kernel_rfl) ?_
 intro args ps v ha hg hp
 unfold gRest at hg
 split at hg
 ·rename_i A N
  simp only [qG,qH] at hg
  obtain ⟨rfl,rfl⟩:=hg
  obtain ⟨hA,hl,hN⟩:=hp _ (List.mem_singleton.2 rfl)
  refine ⟨.inl rfl,fun w => ?_⟩
  have lN:=num_lt hN
  rw [hA,num_nv' (num_lt hA),hN,num_nv' lN]
  clear hp ha hA hN
  generalize num A=r at *
  generalize num N=n at *
  have h0:=hiI_eq (lw n 0) (lw_word n 0)
  have h1:=hiI_eq (lw n 1) (lw_word n 1)
  have h2:=hiI_eq (lw n 2) (lw_word n 2)
  have h3:=hiI_eq (lw n 3) (lw_word n 3)
  have hs:=words_sum n
  rw [Nat.mod_eq_of_lt lN] at hs
  obtain ⟨o0,e0⟩:=dg_eq (show nv r=nv (r % LN) by rw [Nat.mod_eq_of_lt hl]) (hiI (lw n 3)) h3.1 h3.2.1
  obtain ⟨o1,e1⟩:=dg_eq e0 (loI (lw n 3)) h3.2.2.1 h3.2.2.2.1
  obtain ⟨o2,e2⟩:=dg_eq e1 (hiI (lw n 2)) h2.1 h2.2.1
  obtain ⟨o3,e3⟩:=dg_eq e2 (loI (lw n 2)) h2.2.2.1 h2.2.2.2.1
  obtain ⟨o4,e4⟩:=dg_eq e3 (hiI (lw n 1)) h1.1 h1.2.1
  obtain ⟨o5,e5⟩:=dg_eq e4 (loI (lw n 1)) h1.2.2.1 h1.2.2.2.1
  obtain ⟨o6,e6⟩:=dg_eq e5 (hiI (lw n 0)) h0.1 h0.2.1
  obtain ⟨o7,e7⟩:=dg_eq e6 (loI (lw n 0)) h0.2.2.1 h0.2.2.2.1
  have h:=sfun_calls X5_ok mixed Tryz.func104 (by kernel_rfl) (rest_run r n) (by
   intro p hp
   simp only [List.mem_cons,List.not_mem_nil,or_false] at hp
   rcases hp with rfl | rfl | rfl | rfl | rfl | rfl | rfl | rfl
   ·exact o0
   ·exact o1
   ·exact o2
   ·exact o3
   ·exact o4
   ·exact o5
   ·exact o6
   ·exact o7) rfl (.inl rfl) w
  rw [e7] at h
  have e:(((((((r*4294967296+(hiI (lw n 3)).toNat)*4294967296+(loI (lw n 3)).toNat)*4294967296+(hiI (lw n 2)).toNat)*4294967296+(loI (lw n 2)).toNat)*4294967296+(hiI (lw n 1)).toNat)*4294967296+(loI (lw n 1)).toNat)*4294967296+(hiI (lw n 0)).toNat)*4294967296+(loI (lw n 0)).toNat=r*RN+n:=by
   clear o0 o1 o2 o3 o4 o5 o6 o7 e0 e1 e2 e3 e4 e5 e6 e7 h
   obtain ⟨a0,a1,a2,a3,a4⟩:=h0
   obtain ⟨b0,b1,b2,b3,b4⟩:=h1
   obtain ⟨c0,c1,c2,c3,c4⟩:=h2
   obtain ⟨d0,d1,d2,d3,d4⟩:=h3
   rw [a4,b4,c4,d4] at hs
   clear a4 b4 c4 d4
   generalize hiI (lw n 0)=u0 at *
   generalize hiI (lw n 1)=u1 at *
   generalize hiI (lw n 2)=u2 at *
   generalize hiI (lw n 3)=u3 at *
   generalize loI (lw n 0)=v0 at *
   generalize loI (lw n 1)=v1 at *
   generalize loI (lw n 2)=v2 at *
   generalize loI (lw n 3)=v3 at *
   simp only [RN]
   omega
  rw [e] at h
  exact h
 ·simp at hg
def X6:Cx:=X5.pure 104 gRest
theorem X6_ok:X6.Ok Tryz.prog:=gRest_ok X5_ok
theorem mod_run (h n:Nat):sfun Tryz.prog X6 60 Tryz.f71 (bodyOf Tryz.f71) [nv h,nv n]=some ([IsN (nv 0)∧num (nv 0)<LN∧IsN (nv h),IsN (nv ((num (nv 0)*RN+num (nv h)) % LN))∧num (nv ((num (nv 0)*RN+num (nv h)) % LN))<LN∧IsN (nv n)],nv ((num (nv ((num (nv 0)*RN+num (nv h)) % LN))*RN+num (nv n)) % LN)):=by kernel_rfl
theorem mod_stepR (x y:Nat):(x % LN*RN+y) % LN=(x*RN+y) % LN:=by
 rw [Nat.add_mod,Nat.mul_mod,Nat.mod_mod,←Nat.mul_mod,←Nat.add_mod]
def gMod:List Value→Option (List Prop × Value)
 | [H,N]=>some ([IsN H∧IsN N],nv ((num H*RN+num N) % LN))
 | _=>none
theorem gMod_ok {X:Cx} (hX:X.Ok Tryz.prog):(X.pure 71 gMod).Ok Tryz.prog:=by
 refine gBody_ok hX Tryz.func71 (by kernel_rfl) (by kernel_rfl) ?_
 intro args ps v ha hg hp
 unfold gMod at hg
 split at hg
 ·rename_i H N
  simp only [qG,qH] at hg
  obtain ⟨rfl,rfl⟩:=hg
  obtain ⟨hH,hN⟩:=hp _ (List.mem_singleton.2 rfl)
  refine ⟨.inl rfl,fun w => ?_⟩
  have lH:=num_lt hH
  have lN:=num_lt hN
  rw [hH,num_nv' lH,hN,num_nv' lN]
  clear hp ha hH hN
  generalize num H=h at *
  generalize num N=n at *
  have z0:num (nv 0)=0:=num_nv' (by decide)
  have hlt:h % LN<LN:=Nat.mod_lt _ (by decide)
  have e1:num (nv ((num (nv 0)*RN+num (nv h)) % LN))=h % LN:=by rw [z0,num_nv' lH,Nat.zero_mul,Nat.zero_add,num_nv' (lt_LN_RN hlt)]
  have k:=sfun_calls X6_ok mixed Tryz.func71 (by kernel_rfl) (mod_run h n) (by
   intro p hp
   simp only [List.mem_cons,List.not_mem_nil,or_false] at hp
   rcases hp with rfl | rfl
   ·exact ⟨isN_nv _,by rw [z0];decide,isN_nv _⟩
   ·exact ⟨isN_nv _,by rw [e1];exact hlt,isN_nv _⟩) rfl (.inl rfl) w
  rw [e1,num_nv' lN,mod_stepR] at k
  exact k
 ·simp at hg
def X7:Cx:=X6.pure 71 gMod
theorem X7_ok:X7.Ok Tryz.prog:=gMod_ok X6_ok
open Go Go.RowKit
def na (n:Nat):Array Value := #[.int .u64 (lw n 0),.int .u64 (lw n 1),.int .u64 (lw n 2),.int .u64 (lw n 3)]
def z4:Array Value := #[.int .u64 0,.int .u64 0,.int .u64 0,.int .u64 0]
theorem can_run (n:Nat):sfun Tryz.prog X7 60 Tryz.f12 (bodyOf Tryz.f12) [bv n]=some ([IsB (bv n),IsN (nv (bnum (bv n)))∧IsN (nv LN)],.bool ((if num (nv (bnum (bv n)))<num (nv LN) then 1 else 0:Int) == 1)):=by kernel_rfl
theorem Canonical_any (n:Nat) (h:n<RN) (w:World):Calls Tryz.prog 12 #[bv n] w fun e w'=>e = .returned (.bool (decide (n<LN)))∧Below w.heap.size w w':=by
 have k:=sfun_calls X7_ok mixed Tryz.func12 (by kernel_rfl) (can_run n) (by
  intro p hp
  simp only [List.mem_cons,List.not_mem_nil,or_false] at hp
  rcases hp with rfl | rfl
  ·exact isB_bv _
  ·exact ⟨isN_nv _,isN_nv _⟩) (by simp [flat_bv]) (.inl rfl) w
 rw [bnum_bv' h,num_nv' h,num_nv' (n:=LN) (by decide)] at k
 have e:((if n<LN then 1 else 0:Int) == 1)=decide (n<LN):=by
  by_cases hl:n<LN
  ·rw [if_pos hl,decide_eq_true hl];rfl
  ·rw [if_neg hl,decide_eq_false hl];rfl
 rw [e] at k
 exact k
def bv64 (n:Nat):Value := .agg (blm 64 n).toArray
def hiB (n:Nat):Value := .agg ((List.range 32).map fun i=>Value.int .u8 (by8 n (32+i))).toArray
theorem hiB_eq (n:Nat):hiB n=bv (n/RN):=by
 unfold hiB bv bl
 refine congrArg (fun l:List Value=>Value.agg l.toArray) (List.map_congr_left fun i _ => ?_)
 congr 1
 unfold by8
 rw [rn_pow,Nat.div_div_eq_div_mul,←Nat.pow_add]
theorem flat_bv64 (n:Nat):flat (bv64 n)=true:=by
 show ((blm 64 n).toArray.toList.all flat1)=true
 simp [blm,flat1]
theorem red_run (n:Nat):sfun Tryz.prog X7 60 Tryz.f34 (bodyOf Tryz.f34) [bv64 n]=some ([IsB (hiB n),IsB (bv n),IsN (nv (bnum (hiB n)))∧IsN (nv (bnum (bv n))),IsN (nv ((num (nv (bnum (hiB n)))*RN+num (nv (bnum (bv n)))) % LN))],bv (num (nv ((num (nv (bnum (hiB n)))*RN+num (nv (bnum (bv n)))) % LN)))):=by kernel_rfl
theorem Reduce_any (n:Nat) (hn:n<RN*RN) (w:World):Calls Tryz.prog 34 #[bv64 n] w fun e w'=>e = .returned (bv (n % LN))∧Below w.heap.size w w':=by
 have run:=red_run n
 have hh:n/RN<RN:=by rw [Nat.div_lt_iff_lt_mul (by decide)];exact hn
 rw [hiB_eq,bnum_bv' hh,num_nv' hh,bnum_bv,num_nv' (n:=n % RN) (Nat.mod_lt _ (by decide))] at run
 rw [num_nv' (lt_LN_RN (Nat.mod_lt _ (by decide)))] at run
 have e:n/RN*RN+n % RN=n:=by rw [Nat.mul_comm];exact Nat.div_add_mod _ _
 rw [e] at run
 exact sfun_calls X7_ok mixed Tryz.func34 (by kernel_rfl) run (by
  intro p hp
  simp only [List.mem_cons,List.not_mem_nil,or_false] at hp
  rcases hp with rfl | rfl | rfl | rfl
  ·exact isB_bv _
  ·exact isB_bv _
  ·exact ⟨isN_nv _,isN_nv _⟩
  ·exact isN_nv _) (by simp [flat_bv64]) (.inl (flat_bv _)) w
open Go Go.RowKit
theorem rn_pow2:RN*RN=256 ^ 64:=by decide
theorem ltL (x:Nat):x % LN<RN:=lt_LN_RN (Nat.mod_lt _ (by decide))
end Go.Proofs.YtkhjnjlinfbfoaaGreatDoor.Sc
