/- Package scalar: its calls. -/
import Derived.Test.YtkhjnjlinfbfoaaGreatDoorScpA
set_option linter.unusedSimpArgs false
set_option linter.unusedVariables false
namespace Go.Proofs.YtkhjnjlinfbfoaaGreatDoor.Sc
open Go Go.RowKit
open Go Go.RowKit
def dg (A:Value) (x:Int):Value:=nv ((num A*4294967296+x.toNat) % LN)
def dgO (A:Value) (x:Int):Prop:=IsN A∧num A<LN∧0≤x∧x<4294967296
def hiI (x:Int):Int:=Int.fdiv x (2 ^ 32)
def loI (x:Int):Int:=bits .and .u64 x 4294967295
theorem rest_run (r n:Nat):sfun Tryz.prog X5 60 Tryz.f104 (bodyOf Tryz.f104) [nv r,nv n]=some ([dgO (nv r) (hiI (lw n 3)),dgO (dg (nv r) (hiI (lw n 3))) (loI (lw n 3)),dgO (dg (dg (nv r) (hiI (lw n 3))) (loI (lw n 3))) (hiI (lw n 2)),dgO (dg (dg (dg (nv r) (hiI (lw n 3))) (loI (lw n 3))) (hiI (lw n 2))) (loI (lw n 2)),dgO (dg (dg (dg (dg (nv r) (hiI (lw n 3))) (loI (lw n 3))) (hiI (lw n 2))) (loI (lw n 2))) (hiI (lw n 1)),dgO (dg (dg (dg (dg (dg (nv r) (hiI (lw n 3))) (loI (lw n 3))) (hiI (lw n 2))) (loI (lw n 2))) (hiI (lw n 1))) (loI (lw n 1)),dgO (dg (dg (dg (dg (dg (dg (nv r) (hiI (lw n 3))) (loI (lw n 3))) (hiI (lw n 2))) (loI (lw n 2))) (hiI (lw n 1))) (loI (lw n 1))) (hiI (lw n 0)),dgO (dg (dg (dg (dg (dg (dg (dg (nv r) (hiI (lw n 3))) (loI (lw n 3))) (hiI (lw n 2))) (loI (lw n 2))) (hiI (lw n 1))) (loI (lw n 1))) (hiI (lw n 0))) (loI (lw n 0))],dg (dg (dg (dg (dg (dg (dg (dg (nv r) (hiI (lw n 3))) (loI (lw n 3))) (hiI (lw n 2))) (loI (lw n 2))) (hiI (lw n 1))) (loI (lw n 1))) (hiI (lw n 0))) (loI (lw n 0))):=by kernel_rfl
theorem hiI_eq (x:Int) (hx:Word x):0≤hiI x∧hiI x<4294967296∧0≤loI x∧loI x<4294967296∧x=hiI x*4294967296+loI x:=by
 obtain ⟨h0,h1⟩:=hx
 obtain ⟨x,rfl⟩:=Int.eq_ofNat_of_zero_le h0
 have h:=bits_and_u64_nat x 4294967295 (by omega) (by omega)
 have e:x &&& 4294967295=x % 4294967296:=Nat.and_two_pow_sub_one_eq_mod x 32
 rw [e] at h
 have h2:loI (x:Int)=((x % 4294967296:Nat):Int):=h
 have h3:hiI (x:Int)=((x/4294967296:Nat):Int):=by unfold hiI;rw [fdiv_nat]
 rw [h2,h3]
 omega
theorem mod_step (x y:Nat):(x % LN*4294967296+y) % LN=(x*4294967296+y) % LN:=by
 rw [Nat.add_mod,Nat.mul_mod,Nat.mod_mod,←Nat.mul_mod,←Nat.add_mod]
theorem dg_eq {A:Value} {z:Nat} (hA:A=nv (z % LN)) (x:Int) (h0:0≤x) (h1:x<4294967296):dgO A x∧dg A x=nv ((z*4294967296+x.toNat) % LN):=by
 have hlt:z % LN<LN:=Nat.mod_lt _ (by decide)
 have hn:num A=z % LN:=by rw [hA,num_nv' (lt_LN_RN hlt)]
 refine ⟨⟨by rw [hA];exact isN_nv _,by rw [hn];exact hlt,h0,h1⟩,?_⟩
 unfold dg
 rw [hn,mod_step]
def gRest:List Value→Option (List Prop × Value)
 | [A,N]=>some ([IsN A∧num A<LN∧IsN N],nv ((num A*RN+num N) % LN))
 | _=>none
theorem gRest_ok {X:Cx} (hX:X.Ok Tryz.prog):(X.pure 104 gRest).Ok Tryz.prog:=by
 refine gBody_ok hX Tryz.func104 (by kernel_rfl) (by kernel_rfl) ?_
 intro args ps v ha hg hp
 unfold gRest at hg
 split at hg
 ·rename_i A N
  simp only [Option.some.injEq,Prod.mk.injEq] at hg
  obtain ⟨rfl,rfl⟩:=hg
  obtain ⟨hA,hl,hN⟩:=hp _ (List.mem_singleton.2 rfl)
  refine ⟨.inl rfl,fun w => ?_⟩
  have lN:=num_lt hN
  rw [hA,num_nv' (num_lt hA),hN,num_nv' lN]
  clear hp ha hA hN
  generalize num A=r at *
  generalize num N=n at *
  have h0:=hiI_eq (lw n 0) (lw_word n 0)
  have h1:=hiI_eq (lw n 1) (lw_word n 1)
  have h2:=hiI_eq (lw n 2) (lw_word n 2)
  have h3:=hiI_eq (lw n 3) (lw_word n 3)
  have hs:=words_sum n
  rw [Nat.mod_eq_of_lt lN] at hs
  obtain ⟨o0,e0⟩:=dg_eq (show nv r=nv (r % LN) by rw [Nat.mod_eq_of_lt hl]) (hiI (lw n 3)) h3.1 h3.2.1
  obtain ⟨o1,e1⟩:=dg_eq e0 (loI (lw n 3)) h3.2.2.1 h3.2.2.2.1
  obtain ⟨o2,e2⟩:=dg_eq e1 (hiI (lw n 2)) h2.1 h2.2.1
  obtain ⟨o3,e3⟩:=dg_eq e2 (loI (lw n 2)) h2.2.2.1 h2.2.2.2.1
  obtain ⟨o4,e4⟩:=dg_eq e3 (hiI (lw n 1)) h1.1 h1.2.1
  obtain ⟨o5,e5⟩:=dg_eq e4 (loI (lw n 1)) h1.2.2.1 h1.2.2.2.1
  obtain ⟨o6,e6⟩:=dg_eq e5 (hiI (lw n 0)) h0.1 h0.2.1
  obtain ⟨o7,e7⟩:=dg_eq e6 (loI (lw n 0)) h0.2.2.1 h0.2.2.2.1
  have h:=sfun_calls X5_ok mixed Tryz.func104 (by kernel_rfl) (rest_run r n) (by
   intro p hp
   simp only [List.mem_cons,List.not_mem_nil,or_false] at hp
   rcases hp with rfl | rfl | rfl | rfl | rfl | rfl | rfl | rfl
   ·exact o0
   ·exact o1
   ·exact o2
   ·exact o3
   ·exact o4
   ·exact o5
   ·exact o6
   ·exact o7) rfl (.inl rfl) w
  rw [e7] at h
  have e:(((((((r*4294967296+(hiI (lw n 3)).toNat)*4294967296+(loI (lw n 3)).toNat)*4294967296+(hiI (lw n 2)).toNat)*4294967296+(loI (lw n 2)).toNat)*4294967296+(hiI (lw n 1)).toNat)*4294967296+(loI (lw n 1)).toNat)*4294967296+(hiI (lw n 0)).toNat)*4294967296+(loI (lw n 0)).toNat=r*RN+n:=by
   clear o0 o1 o2 o3 o4 o5 o6 o7 e0 e1 e2 e3 e4 e5 e6 e7 h
   obtain ⟨a0,a1,a2,a3,a4⟩:=h0
   obtain ⟨b0,b1,b2,b3,b4⟩:=h1
   obtain ⟨c0,c1,c2,c3,c4⟩:=h2
   obtain ⟨d0,d1,d2,d3,d4⟩:=h3
   rw [a4,b4,c4,d4] at hs
   clear a4 b4 c4 d4
   generalize hiI (lw n 0)=u0 at *
   generalize hiI (lw n 1)=u1 at *
   generalize hiI (lw n 2)=u2 at *
   generalize hiI (lw n 3)=u3 at *
   generalize loI (lw n 0)=v0 at *
   generalize loI (lw n 1)=v1 at *
   generalize loI (lw n 2)=v2 at *
   generalize loI (lw n 3)=v3 at *
   simp only [RN]
   omega
  rw [e] at h
  exact h
 ·simp at hg
def X6:Cx:=X5.pure 104 gRest
theorem X6_ok:X6.Ok Tryz.prog:=gRest_ok X5_ok
theorem mod_run (h n:Nat):sfun Tryz.prog X6 60 Tryz.f71 (bodyOf Tryz.f71) [nv h,nv n]=some ([IsN (nv 0)∧num (nv 0)<LN∧IsN (nv h),IsN (nv ((num (nv 0)*RN+num (nv h)) % LN))∧num (nv ((num (nv 0)*RN+num (nv h)) % LN))<LN∧IsN (nv n)],nv ((num (nv ((num (nv 0)*RN+num (nv h)) % LN))*RN+num (nv n)) % LN)):=by kernel_rfl
theorem mod_stepR (x y:Nat):(x % LN*RN+y) % LN=(x*RN+y) % LN:=by
 rw [Nat.add_mod,Nat.mul_mod,Nat.mod_mod,←Nat.mul_mod,←Nat.add_mod]
def gMod:List Value→Option (List Prop × Value)
 | [H,N]=>some ([IsN H∧IsN N],nv ((num H*RN+num N) % LN))
 | _=>none
theorem gMod_ok {X:Cx} (hX:X.Ok Tryz.prog):(X.pure 71 gMod).Ok Tryz.prog:=by
 refine gBody_ok hX Tryz.func71 (by kernel_rfl) (by kernel_rfl) ?_
 intro args ps v ha hg hp
 unfold gMod at hg
 split at hg
 ·rename_i H N
  simp only [Option.some.injEq,Prod.mk.injEq] at hg
  obtain ⟨rfl,rfl⟩:=hg
  obtain ⟨hH,hN⟩:=hp _ (List.mem_singleton.2 rfl)
  refine ⟨.inl rfl,fun w => ?_⟩
  have lH:=num_lt hH
  have lN:=num_lt hN
  rw [hH,num_nv' lH,hN,num_nv' lN]
  clear hp ha hH hN
  generalize num H=h at *
  generalize num N=n at *
  have z0:num (nv 0)=0:=num_nv' (by decide)
  have hlt:h % LN<LN:=Nat.mod_lt _ (by decide)
  have e1:num (nv ((num (nv 0)*RN+num (nv h)) % LN))=h % LN:=by rw [z0,num_nv' lH,Nat.zero_mul,Nat.zero_add,num_nv' (lt_LN_RN hlt)]
  have k:=sfun_calls X6_ok mixed Tryz.func71 (by kernel_rfl) (mod_run h n) (by
   intro p hp
   simp only [List.mem_cons,List.not_mem_nil,or_false] at hp
   rcases hp with rfl | rfl
   ·exact ⟨isN_nv _,by rw [z0];decide,isN_nv _⟩
   ·exact ⟨isN_nv _,by rw [e1];exact hlt,isN_nv _⟩) rfl (.inl rfl) w
  rw [e1,num_nv' lN,mod_stepR] at k
  exact k
 ·simp at hg
def X7:Cx:=X6.pure 71 gMod
theorem X7_ok:X7.Ok Tryz.prog:=gMod_ok X6_ok
open Go Go.RowKit
def na (n:Nat):Array Value := #[.int .u64 (lw n 0),.int .u64 (lw n 1),.int .u64 (lw n 2),.int .u64 (lw n 3)]
def z4:Array Value := #[.int .u64 0,.int .u64 0,.int .u64 0,.int .u64 0]
theorem can_run (n:Nat):sfun Tryz.prog X7 60 Tryz.f12 (bodyOf Tryz.f12) [bv n]=some ([IsB (bv n),IsN (nv (bnum (bv n)))∧IsN (nv LN)],.bool ((if num (nv (bnum (bv n)))<num (nv LN) then 1 else 0:Int) == 1)):=by kernel_rfl
theorem Canonical_any (n:Nat) (h:n<RN) (w:World):Calls Tryz.prog 12 #[bv n] w fun e w'=>e = .returned (.bool (decide (n<LN)))∧Below w.heap.size w w':=by
 have k:=sfun_calls X7_ok mixed Tryz.func12 (by kernel_rfl) (can_run n) (by
  intro p hp
  simp only [List.mem_cons,List.not_mem_nil,or_false] at hp
  rcases hp with rfl | rfl
  ·exact isB_bv _
  ·exact ⟨isN_nv _,isN_nv _⟩) (by simp [flat_bv]) (.inl rfl) w
 rw [bnum_bv' h,num_nv' h,num_nv' (n:=LN) (by decide)] at k
 have e:((if n<LN then 1 else 0:Int) == 1)=decide (n<LN):=by
  by_cases hl:n<LN
  ·rw [if_pos hl,decide_eq_true hl];rfl
  ·rw [if_neg hl,decide_eq_false hl];rfl
 rw [e] at k
 exact k
def bv64 (n:Nat):Value := .agg (blm 64 n).toArray
def hiB (n:Nat):Value := .agg ((List.range 32).map fun i=>Value.int .u8 (by8 n (32+i))).toArray
theorem hiB_eq (n:Nat):hiB n=bv (n/RN):=by
 unfold hiB bv bl
 refine congrArg (fun l:List Value=>Value.agg l.toArray) (List.map_congr_left fun i _ => ?_)
 congr 1
 unfold by8
 rw [rn_pow,Nat.div_div_eq_div_mul,←Nat.pow_add]
theorem flat_bv64 (n:Nat):flat (bv64 n)=true:=by
 show ((blm 64 n).toArray.toList.all flat1)=true
 simp [blm,flat1]
theorem red_run (n:Nat):sfun Tryz.prog X7 60 Tryz.f34 (bodyOf Tryz.f34) [bv64 n]=some ([IsB (hiB n),IsB (bv n),IsN (nv (bnum (hiB n)))∧IsN (nv (bnum (bv n))),IsN (nv ((num (nv (bnum (hiB n)))*RN+num (nv (bnum (bv n)))) % LN))],bv (num (nv ((num (nv (bnum (hiB n)))*RN+num (nv (bnum (bv n)))) % LN)))):=by kernel_rfl
theorem Reduce_any (n:Nat) (hn:n<RN*RN) (w:World):Calls Tryz.prog 34 #[bv64 n] w fun e w'=>e = .returned (bv (n % LN))∧Below w.heap.size w w':=by
 have run:=red_run n
 have hh:n/RN<RN:=by rw [Nat.div_lt_iff_lt_mul (by decide)];exact hn
 rw [hiB_eq,bnum_bv' hh,num_nv' hh,bnum_bv,num_nv' (n:=n % RN) (Nat.mod_lt _ (by decide))] at run
 rw [num_nv' (lt_LN_RN (Nat.mod_lt _ (by decide)))] at run
 have e:n/RN*RN+n % RN=n:=by rw [Nat.mul_comm];exact Nat.div_add_mod _ _
 rw [e] at run
 exact sfun_calls X7_ok mixed Tryz.func34 (by kernel_rfl) run (by
  intro p hp
  simp only [List.mem_cons,List.not_mem_nil,or_false] at hp
  rcases hp with rfl | rfl | rfl | rfl
  ·exact isB_bv _
  ·exact isB_bv _
  ·exact ⟨isN_nv _,isN_nv _⟩
  ·exact isN_nv _) (by simp [flat_bv64]) (.inl (flat_bv _)) w
open Go Go.RowKit
theorem rn_pow2:RN*RN=256 ^ 64:=by decide
theorem ltL (x:Nat):x % LN<RN:=lt_LN_RN (Nat.mod_lt _ (by decide))
end Go.Proofs.YtkhjnjlinfbfoaaGreatDoor.Sc
/- Package field on the engine: sums and differences. -/
namespace Go.Proofs.YtkhjnjlinfbfoaaGreatDoor.Fe
open Go Go.RowKit Sc
theorem plus_run (a0 a1 a2 a3 b0 b1 b2 b3:Int):sfun Tryz.prog X1 60 Tryz.f130 (bodyOf Tryz.f130) [.agg #[.int .u64 a0,.int .u64 a1,.int .u64 a2,.int .u64 a3],.agg #[.int .u64 b0,.int .u64 b1,.int .u64 b2,.int .u64 b3]]=some ([Word a0∧Word b0∧Bit (0),
  Word a1∧Word b1∧Bit (((a0+b0+0)/18446744073709551616)),
  Word a2∧Word b2∧Bit (((a1+b1+((a0+b0+0)/18446744073709551616))/18446744073709551616)),
  Word a3∧Word b3∧Bit (((a2+b2+((a1+b1+((a0+b0+0)/18446744073709551616))/18446744073709551616))/18446744073709551616))],.tuple #[.agg #[.int .u64 ((a0+b0+0) % 18446744073709551616),.int .u64 ((a1+b1+((a0+b0+0)/18446744073709551616)) % 18446744073709551616),.int .u64 ((a2+b2+((a1+b1+((a0+b0+0)/18446744073709551616))/18446744073709551616)) % 18446744073709551616),.int .u64 ((a3+b3+((a2+b2+((a1+b1+((a0+b0+0)/18446744073709551616))/18446744073709551616))/18446744073709551616)) % 18446744073709551616)],.int .u64 ((a3+b3+((a2+b2+((a1+b1+((a0+b0+0)/18446744073709551616))/18446744073709551616))/18446744073709551616))/18446744073709551616)]):=by kernel_rfl
theorem gPlus_ok {X:Cx} (hX:X.Ok Tryz.prog):(X.pure 130 gPlus).Ok Tryz.prog:=by
 refine gBody_ok hX Tryz.func130 (by kernel_rfl) (by kernel_rfl) ?_
 intro args ps v ha hg hp
 unfold gPlus at hg
 split at hg
 ·rename_i A B
  simp only [Option.some.injEq,Prod.mk.injEq] at hg
  obtain ⟨rfl,rfl⟩:=hg
  obtain ⟨hA,hB⟩:=hp _ (List.mem_singleton.2 rfl)
  refine ⟨.inl rfl,fun w => ?_⟩
  have lA:=num_lt hA
  have lB:=num_lt hB
  rw [hA,hB,num_nv' lA,num_nv' lB]
  generalize num A=a at *
  generalize num B=b at *
  have k:=plus_num (lw a 0) (lw a 1) (lw a 2) (lw a 3) (lw b 0) (lw b 1) (lw b 2) (lw b 3) (lw_word _ _) (lw_word _ _) (lw_word _ _) (lw_word _ _) (lw_word _ _) (lw_word _ _) (lw_word _ _) (lw_word _ _) a b (by rw [words_sum,Nat.mod_eq_of_lt lA]) (by rw [words_sum,Nat.mod_eq_of_lt lB])
  have h:=sfun_calls X1_ok mixed Tryz.func130 (by kernel_rfl) (plus_run (lw a 0) (lw a 1) (lw a 2) (lw a 3) (lw b 0) (lw b 1) (lw b 2) (lw b 3)) k.1 rfl (.inl rfl) w
  rw [k.2] at h
  exact h
 ·simp at hg
theorem minus_run (a0 a1 a2 a3 b0 b1 b2 b3:Int):sfun Tryz.prog X1 60 Tryz.f133 (bodyOf Tryz.f133) [.agg #[.int .u64 a0,.int .u64 a1,.int .u64 a2,.int .u64 a3],.agg #[.int .u64 b0,.int .u64 b1,.int .u64 b2,.int .u64 b3]]=some ([Word a0∧Word b0∧Bit (0),
  Word a1∧Word b1∧Bit ((bor a0 (b0+0))),
  Word a2∧Word b2∧Bit ((bor a1 (b1+(bor a0 (b0+0))))),
  Word a3∧Word b3∧Bit ((bor a2 (b2+(bor a1 (b1+(bor a0 (b0+0)))))))],.tuple #[.agg #[.int .u64 ((a0 - b0 - 0) % 18446744073709551616),.int .u64 ((a1 - b1 - (bor a0 (b0+0))) % 18446744073709551616),.int .u64 ((a2 - b2 - (bor a1 (b1+(bor a0 (b0+0))))) % 18446744073709551616),.int .u64 ((a3 - b3 - (bor a2 (b2+(bor a1 (b1+(bor a0 (b0+0))))))) % 18446744073709551616)],.int .u64 (bor a3 (b3+(bor a2 (b2+(bor a1 (b1+(bor a0 (b0+0))))))))]):=by kernel_rfl
theorem gMinus_ok {X:Cx} (hX:X.Ok Tryz.prog):(X.pure 133 gMinus).Ok Tryz.prog:=by
 refine gBody_ok hX Tryz.func133 (by kernel_rfl) (by kernel_rfl) ?_
 intro args ps v ha hg hp
 unfold gMinus at hg
 split at hg
 ·rename_i A B
  simp only [Option.some.injEq,Prod.mk.injEq] at hg
  obtain ⟨rfl,rfl⟩:=hg
  obtain ⟨hA,hB⟩:=hp _ (List.mem_singleton.2 rfl)
  refine ⟨.inl rfl,fun w => ?_⟩
  have lA:=num_lt hA
  have lB:=num_lt hB
  rw [hA,hB,num_nv' lA,num_nv' lB]
  generalize num A=a at *
  generalize num B=b at *
  have k:=minus_num (lw a 0) (lw a 1) (lw a 2) (lw a 3) (lw b 0) (lw b 1) (lw b 2) (lw b 3) (lw_word _ _) (lw_word _ _) (lw_word _ _) (lw_word _ _) (lw_word _ _) (lw_word _ _) (lw_word _ _) (lw_word _ _) a b lA lB (by rw [words_sum,Nat.mod_eq_of_lt lA]) (by rw [words_sum,Nat.mod_eq_of_lt lB])
  have h:=sfun_calls X1_ok mixed Tryz.func133 (by kernel_rfl) (minus_run (lw a 0) (lw a 1) (lw a 2) (lw a 3) (lw b 0) (lw b 1) (lw b 2) (lw b 3)) k.1 rfl (.inl rfl) w
  rw [k.2] at h
  exact h
 ·simp at hg
theorem shift_run (n0 n1 n2 n3 t:Int):sfun Tryz.prog X1 60 Tryz.f128 (bodyOf Tryz.f128) [.agg #[.int .u64 n0,.int .u64 n1,.int .u64 n2,.int .u64 n3],.int .u64 t]=some ([],.tuple #[.int .u64 n0,.agg #[.int .u64 n1,.int .u64 n2,.int .u64 n3,.int .u64 t]]):=by kernel_rfl
def gShift:List Value→Option (List Prop × Value)
 | [A,.int .u64 t]=>some ([IsN A∧Word t],.tuple #[.int .u64 (lw (num A) 0),nv (num A/18446744073709551616+t.toNat*6277101735386680763835789423207666416102355444464034512896)])
 | _=>none
def F1:Cx:=(X1.pure 130 gPlus).pure 133 gMinus
theorem F1_ok:F1.Ok Tryz.prog:=gMinus_ok (gPlus_ok X1_ok)
def foldN (n o:Nat):Nat:=((n+38*o) % RN+38*((n+38*o)/RN)) % RN
theorem fold_run (n:Nat) (o:Int):sfun Tryz.prog F1 60 Tryz.f131 (bodyOf Tryz.f131) [nv n,.int .u64 o]=some ([IsN (nv n)∧IsN (.agg #[.int .u64 (IntKind.u64.wrap (o*38)),.int .u64 0,.int .u64 0,.int .u64 0]),IsN (nv ((num (nv n)+num (.agg #[.int .u64 (IntKind.u64.wrap (o*38)),.int .u64 0,.int .u64 0,.int .u64 0])) % RN))∧IsN (.agg #[.int .u64 (IntKind.u64.wrap ((((num (nv n)+num (.agg #[.int .u64 (IntKind.u64.wrap (o*38)),.int .u64 0,.int .u64 0,.int .u64 0]))/RN:Nat):Int)*38)),.int .u64 0,.int .u64 0,.int .u64 0])],nv ((num (nv ((num (nv n)+num (.agg #[.int .u64 (IntKind.u64.wrap (o*38)),.int .u64 0,.int .u64 0,.int .u64 0])) % RN))+num (.agg #[.int .u64 (IntKind.u64.wrap ((((num (nv n)+num (.agg #[.int .u64 (IntKind.u64.wrap (o*38)),.int .u64 0,.int .u64 0,.int .u64 0]))/RN:Nat):Int)*38)),.int .u64 0,.int .u64 0,.int .u64 0])) % RN)):=by kernel_rfl
theorem word1 (x:Nat) (hx:x<18446744073709551616):Value.agg #[.int .u64 (x:Int),.int .u64 0,.int .u64 0,.int .u64 0]=nv x:=by
 refine nv_mk ⟨by omega,by omega⟩ word0 word0 word0 ?_
 omega
def gFold:List Value→Option (List Prop × Value)
 | [A,.int .u64 o]=>some ([IsN A∧0≤o∧o≤100],nv (foldN (num A) o.toNat))
 | _=>none
theorem foldN_lt (n o:Nat):foldN n o<RN:=Nat.mod_lt _ (by decide)
theorem fold_any (n k:Nat) (hn:n<RN) (hk:k≤100) (w:World):Calls Tryz.prog 131 #[nv n,.int .u64 (k:Int)] w fun e w'=>e = .returned (nv (foldN n k))∧Below w.heap.size w w':=by
 have run:=fold_run n (k:Int)
 have e1:IntKind.u64.wrap ((k:Int)*38)=((38*k:Nat):Int):=by rw [IntKind.wrap_u64];omega
 have l1:38*k<RN:=Nat.lt_of_le_of_lt (show 38*k≤3800 by omega) (by decide)
 have lt1:(n+38*k)/RN≤1:=by
  have:(n+38*k)/RN<2:=Nat.div_lt_of_lt_mul (by omega)
  omega
 rw [e1,word1 _ (by omega),num_nv' hn,num_nv' l1,num_nv' (Nat.mod_lt _ (by decide))] at run
 generalize hc:(n+38*k)/RN=c at run lt1
 have e2:IntKind.u64.wrap ((c:Int)*38)=((38*c:Nat):Int):=by rw [IntKind.wrap_u64];omega
 have l2:38*c<RN:=Nat.lt_of_le_of_lt (show 38*c≤38 by omega) (by decide)
 rw [e2,word1 _ (by omega),num_nv' l2] at run
 have ef:foldN n k=((n+38*k) % RN+38*c) % RN:=by unfold foldN;rw [hc]
 rw [ef]
 exact sfun_calls F1_ok mixed Tryz.func131 (by kernel_rfl) run (fun p hp=>by
  simp only [List.mem_cons,List.not_mem_nil,or_false] at hp
  rcases hp with rfl | rfl <;> exact ⟨isN_nv _,isN_nv _⟩) rfl (.inl rfl) w
theorem gFold_ok {X:Cx} (hX:X.Ok Tryz.prog):(X.pure 131 gFold).Ok Tryz.prog:=by
 refine gBody_ok hX Tryz.func131 (by kernel_rfl) (by kernel_rfl) ?_
 intro args ps v ha hg hp
 unfold gFold at hg
 split at hg
 ·rename_i A o
  simp only [Option.some.injEq,Prod.mk.injEq] at hg
  obtain ⟨rfl,rfl⟩:=hg
  obtain ⟨hA,h0,h1⟩:=hp _ (List.mem_singleton.2 rfl)
  refine ⟨.inl rfl,fun w => ?_⟩
  have h:=fold_any (num A) o.toNat (num_lt hA) (by omega) w
  rw [← (show A=nv (num A) from hA),show ((o.toNat:Nat):Int)=o by omega] at h
  exact h
 ·simp at hg
theorem gShift_ok {X:Cx} (hX:X.Ok Tryz.prog):(X.pure 128 gShift).Ok Tryz.prog:=by
 refine gBody_ok hX Tryz.func128 (by kernel_rfl) (by kernel_rfl) ?_
 intro args ps v ha hg hp
 unfold gShift at hg
 split at hg
 ·rename_i A t
  simp only [Option.some.injEq,Prod.mk.injEq] at hg
  obtain ⟨rfl,rfl⟩:=hg
  obtain ⟨hA,ht⟩:=hp _ (List.mem_singleton.2 rfl)
  refine ⟨.inl rfl,fun w => ?_⟩
  have lA:=num_lt hA
  rw [hA,num_nv' lA]
  generalize num A=a at *
  have h:=sfun_calls X1_ok mixed Tryz.func128 (by kernel_rfl) (shift_run (lw a 0) (lw a 1) (lw a 2) (lw a 3) t) (by simp) rfl (.inl rfl) w
  have hs:=words_sum a
  rw [Nat.mod_eq_of_lt lA] at hs
  have k0:=lw_word a 0
  have k1:=lw_word a 1
  have k2:=lw_word a 2
  have k3:=lw_word a 3
  have e:Value.agg #[.int .u64 (lw a 1),.int .u64 (lw a 2),.int .u64 (lw a 3),.int .u64 t]=nv (a/18446744073709551616+t.toNat*6277101735386680763835789423207666416102355444464034512896):=by
   refine nv_mk k1 k2 k3 ht ?_
   unfold Word at *
   omega
  rw [e] at h
  exact h
 ·simp at hg
def F2:Cx:=(F1.pure 131 gFold).pure 128 gShift
theorem F2_ok:F2.Ok Tryz.prog:=gShift_ok (gFold_ok F1_ok)
theorem scale_run (n0 n1 n2 n3 x:Int):sfun Tryz.prog X1 60 Tryz.f127 (bodyOf Tryz.f127) [.agg #[.int .u64 n0,.int .u64 n1,.int .u64 n2,.int .u64 n3],.int .u64 x]=some ([Word n0∧Word x,Word n1∧Word x,Word n2∧Word x,Word n3∧Word x,Word (n1*x % 18446744073709551616)∧Word (n0*x/18446744073709551616)∧Bit 0,Word (n2*x % 18446744073709551616)∧Word (n1*x/18446744073709551616)∧Bit (((n1*x % 18446744073709551616)+(n0*x/18446744073709551616)+0)/18446744073709551616),Word (n3*x % 18446744073709551616)∧Word (n2*x/18446744073709551616)∧Bit (((n2*x % 18446744073709551616)+(n1*x/18446744073709551616)+(((n1*x % 18446744073709551616)+(n0*x/18446744073709551616)+0)/18446744073709551616))/18446744073709551616)],.tuple #[.agg #[.int .u64 (n0*x % 18446744073709551616),.int .u64 (((n1*x % 18446744073709551616)+(n0*x/18446744073709551616)+0) % 18446744073709551616),.int .u64 (((n2*x % 18446744073709551616)+(n1*x/18446744073709551616)+(((n1*x % 18446744073709551616)+(n0*x/18446744073709551616)+0)/18446744073709551616)) % 18446744073709551616),.int .u64 (((n3*x % 18446744073709551616)+(n2*x/18446744073709551616)+(((n2*x % 18446744073709551616)+(n1*x/18446744073709551616)+(((n1*x % 18446744073709551616)+(n0*x/18446744073709551616)+0)/18446744073709551616))/18446744073709551616)) % 18446744073709551616)],.int .u64 (IntKind.u64.wrap ((n3*x/18446744073709551616)+(((n3*x % 18446744073709551616)+(n2*x/18446744073709551616)+(((n2*x % 18446744073709551616)+(n1*x/18446744073709551616)+(((n1*x % 18446744073709551616)+(n0*x/18446744073709551616)+0)/18446744073709551616))/18446744073709551616))/18446744073709551616)))]):=by kernel_rfl
theorem scale_num (y0 y1 y2 y3:Int) (k0:0≤y0∧y0≤340282366920938463426481119284349108225) (k1:0≤y1∧y1≤340282366920938463426481119284349108225) (k2:0≤y2∧y2≤340282366920938463426481119284349108225) (k3:0≤y3∧y3≤340282366920938463426481119284349108225) (s1 s2 s3 c1 c2 c3:Int)
  (e1:s1=y1 % 18446744073709551616+y0/18446744073709551616+0) (f1:c1=s1/18446744073709551616) (e2:s2=y2 % 18446744073709551616+y1/18446744073709551616+c1) (f2:c2=s2/18446744073709551616) (e3:s3=y3 % 18446744073709551616+y2/18446744073709551616+c2) (f3:c3=s3/18446744073709551616) :
  Bit c1∧Bit c2∧Word (y3/18446744073709551616+c3)∧(y0 % 18446744073709551616)+(s1 % 18446744073709551616)*18446744073709551616+(s2 % 18446744073709551616)*340282366920938463463374607431768211456+(s3 % 18446744073709551616)*6277101735386680763835789423207666416102355444464034512896+(y3/18446744073709551616+c3)*115792089237316195423570985008687907853269984665640564039457584007913129639936=y0+y1*18446744073709551616+y2*340282366920938463463374607431768211456+y3*6277101735386680763835789423207666416102355444464034512896:=by
 unfold Bit Word
 omega
theorem prod_le (n x:Int) (hn:Word n) (hx:Word x):0≤n*x∧n*x≤340282366920938463426481119284349108225:=by
 obtain ⟨a,b⟩:=hn
 obtain ⟨c,d⟩:=hx
 have:n*x≤18446744073709551615*18446744073709551615:=Int.mul_le_mul (by omega) (by omega) c (by omega)
 exact ⟨Int.mul_nonneg a c,by omega⟩
theorem scale_any (a:Nat) (x:Int) (lA:a<RN) (hx:Word x) (w:World):Calls Tryz.prog 127 #[nv a,.int .u64 x] w fun e w'=>e = .returned (.tuple #[nv (a*x.toNat % RN),.int .u64 ((a*x.toNat/RN:Nat):Int)])∧Below w.heap.size w w':=by
 have run:=scale_run (lw a 0) (lw a 1) (lw a 2) (lw a 3) x
 have p0:=prod_le _ _ (lw_word a 0) hx
 have p1:=prod_le _ _ (lw_word a 1) hx
 have p2:=prod_le _ _ (lw_word a 2) hx
 have p3:=prod_le _ _ (lw_word a 3) hx
 have hs:=words_sum a
 rw [Nat.mod_eq_of_lt lA] at hs
 have hm:lw a 0*x+lw a 1*x*18446744073709551616+lw a 2*x*340282366920938463463374607431768211456+lw a 3*x*6277101735386680763835789423207666416102355444464034512896=((a*x.toNat:Nat):Int):=by
  rw [Int.natCast_mul,←hs,show ((x.toNat:Nat):Int)=x from Int.toNat_of_nonneg hx.1]
  simp only [Int.add_mul]
  simp only [Int.mul_right_comm _ _ x]
 have w0:=lw_word a 0
 have w1:=lw_word a 1
 have w2:=lw_word a 2
 have w3:=lw_word a 3
 generalize lw a 0*x=y0 at *
 generalize lw a 1*x=y1 at *
 generalize lw a 2*x=y2 at *
 generalize lw a 3*x=y3 at *
 obtain ⟨q1,q2,q3,q4⟩:=scale_num y0 y1 y2 y3 p0 p1 p2 p3 _ _ _ _ _ _ rfl rfl rfl rfl rfl rfl
 generalize hs1:y1 % 18446744073709551616+y0/18446744073709551616+0=s1 at *
 generalize hc1:s1/18446744073709551616=c1 at *
 generalize hs2:y2 % 18446744073709551616+y1/18446744073709551616+c1=s2 at *
 generalize hc2:s2/18446744073709551616=c2 at *
 generalize hs3:y3 % 18446744073709551616+y2/18446744073709551616+c2=s3 at *
 generalize hc3:s3/18446744073709551616=c3 at *
 have wv : ∀ z:Int,Word (z % 18446744073709551616):=fun z=>by unfold Word;omega
 have hh : ∀ z:Int,0≤z∧z≤340282366920938463426481119284349108225→Word (z/18446744073709551616):=fun z hz=>by unfold Word;omega
 generalize htot:a*x.toNat=t at *
 have hr:((t % RN:Nat):Int)=(y0 % 18446744073709551616)+(s1 % 18446744073709551616)*18446744073709551616+(s2 % 18446744073709551616)*340282366920938463463374607431768211456+(s3 % 18446744073709551616)*6277101735386680763835789423207666416102355444464034512896∧((t/RN:Nat):Int)=y3/18446744073709551616+c3:=by
  have a0:=wv y0;have a1:=wv s1;have a2:=wv s2;have a3:=wv s3
  unfold Word at *
  simp only [RN] at *
  omega
 rw [show IntKind.u64.wrap (y3/18446744073709551616+c3)=((t/RN:Nat):Int) by rw [hr.2,IntKind.wrap_u64];unfold Word at q3;omega,nv_mk (wv _) (wv _) (wv _) (wv _) hr.1.symm] at run
 exact sfun_calls X1_ok mixed Tryz.func127 (by kernel_rfl) run (fun p hp=>by
  simp only [List.mem_cons,List.not_mem_nil,or_false] at hp
  rcases hp with rfl | rfl | rfl | rfl | rfl | rfl | rfl
  ·exact ⟨w0,hx⟩
  ·exact ⟨w1,hx⟩
  ·exact ⟨w2,hx⟩
  ·exact ⟨w3,hx⟩
  ·exact ⟨wv _,hh _ p0,bit0⟩
  ·exact ⟨wv _,hh _ p1,q1⟩
  ·exact ⟨wv _,hh _ p2,q2⟩) rfl (.inl rfl) w
end Go.Proofs.YtkhjnjlinfbfoaaGreatDoor.Fe
