import Derived.Test.YtajehiidpecknaaGreatDoorScpA
set_option linter.all false
namespace Go.Proofs.YtajehiidpecknaaGreatDoor.Sc
open Go Go.RowKit
open Go Go.RowKit
def dg (A:Value) (x:Int):Value:=nv ((num A*4294967296+x.toNat) % LN)
def dgO (A:Value) (x:Int):Prop:=IsN A∧num A<LN∧0≤x∧x<4294967296
def hiI (x:Int):Int:=Int.fdiv x (2 ^ 32)
def loI (x:Int):Int:=bits .and .u64 x 4294967295
theorem Bk (r n:Nat):sfun Tryz.prog X5 60 Tryz.f101 (ag Tryz.f101) [nv r,nv n]=some ([dgO (nv r) (hiI (lw n 3)),dgO (dg (nv r) (hiI (lw n 3))) (loI (lw n 3)),dgO (dg (dg (nv r) (hiI (lw n 3))) (loI (lw n 3))) (hiI (lw n 2)),dgO (dg (dg (dg (nv r) (hiI (lw n 3))) (loI (lw n 3))) (hiI (lw n 2))) (loI (lw n 2)),dgO (dg (dg (dg (dg (nv r) (hiI (lw n 3))) (loI (lw n 3))) (hiI (lw n 2))) (loI (lw n 2))) (hiI (lw n 1)),dgO (dg (dg (dg (dg (dg (nv r) (hiI (lw n 3))) (loI (lw n 3))) (hiI (lw n 2))) (loI (lw n 2))) (hiI (lw n 1))) (loI (lw n 1)),dgO (dg (dg (dg (dg (dg (dg (nv r) (hiI (lw n 3))) (loI (lw n 3))) (hiI (lw n 2))) (loI (lw n 2))) (hiI (lw n 1))) (loI (lw n 1))) (hiI (lw n 0)),dgO (dg (dg (dg (dg (dg (dg (dg (nv r) (hiI (lw n 3))) (loI (lw n 3))) (hiI (lw n 2))) (loI (lw n 2))) (hiI (lw n 1))) (loI (lw n 1))) (hiI (lw n 0))) (loI (lw n 0))],dg (dg (dg (dg (dg (dg (dg (dg (nv r) (hiI (lw n 3))) (loI (lw n 3))) (hiI (lw n 2))) (loI (lw n 2))) (hiI (lw n 1))) (loI (lw n 1))) (hiI (lw n 0))) (loI (lw n 0))):=by kernel_rfl
theorem tv (x:Int) (hx:Word x):0≤hiI x∧hiI x<4294967296∧0≤loI x∧loI x<4294967296∧x=hiI x*4294967296+loI x:=by
 obtain ⟨h0,h1⟩:=hx
 obtain ⟨x,rfl⟩:=Int.eq_ofNat_of_zero_le h0
 have h:=bits_and_u64_nat x 4294967295 (by omega) (by omega)
 have e:x &&& 4294967295=x % 4294967296:=Nat.and_two_pow_sub_one_eq_mod x 32
 rw [e] at h
 have h2:loI (x:Int)=((x % 4294967296:Nat):Int):=h
 have h3:hiI (x:Int)=((x/4294967296:Nat):Int):=by unfold hiI;rw [eB]
 rw [h2,h3]
 omega
theorem EK (x y:Nat):(x % LN*4294967296+y) % LN=(x*4294967296+y) % LN:=by
 rw [Nat.add_mod,Nat.mul_mod,Nat.mod_mod,←Nat.mul_mod,←Nat.add_mod]
theorem lY {A:Value} {z:Nat} (hA:A=nv (z % LN)) (x:Int) (h0:0≤x) (h1:x<4294967296):dgO A x∧dg A x=nv ((z*4294967296+x.toNat) % LN):=by
 have hlt:z % LN<LN:=Nat.mod_lt _ (by decide)
 have hn:num A=z % LN:=by rw [hA,ak (cC hlt)]
 refine ⟨⟨by rw [hA];exact aI _,by rw [hn];exact hlt,h0,h1⟩,?_⟩
 unfold dg
 rw [hn,EK]
def gRest:List Value→Option (List Prop × Value)
 | [A,N]=>some ([IsN A∧num A<LN∧IsN N],nv ((num A*RN+num N) % LN))
 | _=>none
theorem DS {X:Cx} (hX:X.Ok Tryz.prog):(X.pure 101 gRest).Ok Tryz.prog:=by
 refine aA hX Tryz.func101 (by kernel_rfl) (by kernel_rfl) ?_
 intro args ps v ha hg hp
 unfold gRest at hg
 split at hg
 ·rename_i A N
  simp only [qG,qH] at hg
  obtain ⟨rfl,rfl⟩:=hg
  obtain ⟨hA,hl,hN⟩:=hp _ (YJ.2 rfl)
  refine ⟨.inl rfl,fun w => ?_⟩
  have lN:=aX hN
  rw [hA,ak (aX hA),hN,ak lN]
  clear hp ha hA hN
  generalize num A=r at *
  generalize num N=n at *
  have h0:=tv (lw n 0) (ah n 0)
  have h1:=tv (lw n 1) (ah n 1)
  have h2:=tv (lw n 2) (ah n 2)
  have h3:=tv (lw n 3) (ah n 3)
  have hs:=aQ n
  rw [YK lN] at hs
  obtain ⟨o0,e0⟩:=lY (show nv r=nv (r % LN) by rw [YK hl]) (hiI (lw n 3)) h3.1 h3.2.1
  obtain ⟨o1,e1⟩:=lY e0 (loI (lw n 3)) h3.2.2.1 h3.2.2.2.1
  obtain ⟨o2,e2⟩:=lY e1 (hiI (lw n 2)) h2.1 h2.2.1
  obtain ⟨o3,e3⟩:=lY e2 (loI (lw n 2)) h2.2.2.1 h2.2.2.2.1
  obtain ⟨o4,e4⟩:=lY e3 (hiI (lw n 1)) h1.1 h1.2.1
  obtain ⟨o5,e5⟩:=lY e4 (loI (lw n 1)) h1.2.2.1 h1.2.2.2.1
  obtain ⟨o6,e6⟩:=lY e5 (hiI (lw n 0)) h0.1 h0.2.1
  obtain ⟨o7,e7⟩:=lY e6 (loI (lw n 0)) h0.2.2.1 h0.2.2.2.1
  have h:=aq Jg mixed Tryz.func101 (by kernel_rfl) (Bk r n) (by
   intro p hp
   simp only [List.mem_cons,List.not_mem_nil,or_false] at hp
   rcases hp with rfl | rfl | rfl | rfl | rfl | rfl | rfl | rfl
   ·exact o0
   ·exact o1
   ·exact o2
   ·exact o3
   ·exact o4
   ·exact o5
   ·exact o6
   ·exact o7) rfl (.inl rfl) w
  rw [e7] at h
  have e:(((((((r*4294967296+(hiI (lw n 3)).toNat)*4294967296+(loI (lw n 3)).toNat)*4294967296+(hiI (lw n 2)).toNat)*4294967296+(loI (lw n 2)).toNat)*4294967296+(hiI (lw n 1)).toNat)*4294967296+(loI (lw n 1)).toNat)*4294967296+(hiI (lw n 0)).toNat)*4294967296+(loI (lw n 0)).toNat=r*RN+n:=by
   clear o0 o1 o2 o3 o4 o5 o6 o7 e0 e1 e2 e3 e4 e5 e6 e7 h
   obtain ⟨a0,a1,a2,a3,a4⟩:=h0
   obtain ⟨b0,b1,b2,b3,b4⟩:=h1
   obtain ⟨c0,c1,c2,c3,c4⟩:=h2
   obtain ⟨d0,d1,d2,d3,d4⟩:=h3
   rw [a4,b4,c4,d4] at hs
   clear a4 b4 c4 d4
   generalize hiI (lw n 0)=u0 at *
   generalize hiI (lw n 1)=u1 at *
   generalize hiI (lw n 2)=u2 at *
   generalize hiI (lw n 3)=u3 at *
   generalize loI (lw n 0)=v0 at *
   generalize loI (lw n 1)=v1 at *
   generalize loI (lw n 2)=v2 at *
   generalize loI (lw n 3)=v3 at *
   simp only [RN]
   omega
  rw [e] at h
  exact h
 ·simp at hg
def X6:Cx:=X5.pure 101 gRest
theorem JA:X6.Ok Tryz.prog:=DS Jg
theorem Gq (h n:Nat):sfun Tryz.prog X6 60 Tryz.f57 (ag Tryz.f57) [nv h,nv n]=some ([IsN (nv 0)∧num (nv 0)<LN∧IsN (nv h),IsN (nv ((num (nv 0)*RN+num (nv h)) % LN))∧num (nv ((num (nv 0)*RN+num (nv h)) % LN))<LN∧IsN (nv n)],nv ((num (nv ((num (nv 0)*RN+num (nv h)) % LN))*RN+num (nv n)) % LN)):=by kernel_rfl
theorem Ac (x y:Nat):(x % LN*RN+y) % LN=(x*RN+y) % LN:=by
 rw [Nat.add_mod,Nat.mul_mod,Nat.mod_mod,←Nat.mul_mod,←Nat.add_mod]
def KZ:List Value→Option (List Prop × Value)
 | [H,N]=>some ([IsN H∧IsN N],nv ((num H*RN+num N) % LN))
 | _=>none
theorem Gj {X:Cx} (hX:X.Ok Tryz.prog):(X.pure 57 KZ).Ok Tryz.prog:=by
 refine aA hX Tryz.func57 (by kernel_rfl) (by kernel_rfl) ?_
 intro args ps v ha hg hp
 unfold KZ at hg
 split at hg
 ·rename_i H N
  simp only [qG,qH] at hg
  obtain ⟨rfl,rfl⟩:=hg
  obtain ⟨hH,hN⟩:=hp _ (YJ.2 rfl)
  refine ⟨.inl rfl,fun w => ?_⟩
  have lH:=aX hH
  have lN:=aX hN
  rw [hH,ak lH,hN,ak lN]
  clear hp ha hH hN
  generalize num H=h at *
  generalize num N=n at *
  have z0:num (nv 0)=0:=ak (by decide)
  have hlt:h % LN<LN:=Nat.mod_lt _ (by decide)
  have e1:num (nv ((num (nv 0)*RN+num (nv h)) % LN))=h % LN:=by rw [z0,ak lH,Nat.zero_mul,Nat.zero_add,ak (cC hlt)]
  have k:=aq JA mixed Tryz.func57 (by kernel_rfl) (Gq h n) (by
   intro p hp
   simp only [List.mem_cons,List.not_mem_nil,or_false] at hp
   rcases hp with rfl | rfl
   ·exact ⟨aI _,by rw [z0];decide,aI _⟩
   ·exact ⟨aI _,by rw [e1];exact hlt,aI _⟩) rfl (.inl rfl) w
  rw [e1,ak lN,Ac] at k
  exact k
 ·simp at hg
def X7:Cx:=X6.pure 57 KZ
theorem JD:X7.Ok Tryz.prog:=Gj JA
def ppS (H:Value) (b:Nat) (x:Int):Nat:=(num H+num (nv (num (nv b)*x.toNat % RN))) % RN
def ppH (H:Value) (b:Nat) (x:Int):Value := .agg #[.int .u64 (lw (ppS H b x) 1),.int .u64 (lw (ppS H b x) 2),.int .u64 (lw (ppS H b x) 3),.int .u64 (IntKind.u64.wrap (((num (nv b)*x.toNat/RN:Nat):Int)+(((num H+num (nv (num (nv b)*x.toNat % RN)))/RN:Nat):Int)))]
def ppO (H:Value) (b:Nat) (x:Int):List Prop:=[IsN (nv b)∧Word x,IsN H∧IsN (nv (num (nv b)*x.toNat % RN))]
theorem Co (a b c:Nat):sfun Tryz.prog X7 60 Tryz.f64 (ag Tryz.f64) [nv a,nv b,nv c]=some (ppO (nv c) b (lw a 0) ++ ppO (ppH (nv c) b (lw a 0)) b (lw a 1) ++ ppO (ppH (ppH (nv c) b (lw a 0)) b (lw a 1)) b (lw a 2) ++ ppO (ppH (ppH (ppH (nv c) b (lw a 0)) b (lw a 1)) b (lw a 2)) b (lw a 3),.tuple #[(ppH (ppH (ppH (ppH (nv c) b (lw a 0)) b (lw a 1)) b (lw a 2)) b (lw a 3)),.agg #[.int .u64 (lw (ppS (nv c) b (lw a 0)) 0),.int .u64 (lw (ppS (ppH (nv c) b (lw a 0)) b (lw a 1)) 0),.int .u64 (lw (ppS (ppH (ppH (nv c) b (lw a 0)) b (lw a 1)) b (lw a 2)) 0),.int .u64 (lw (ppS (ppH (ppH (ppH (nv c) b (lw a 0)) b (lw a 1)) b (lw a 2)) b (lw a 3)) 0)]]):=by kernel_rfl
theorem mU {H:Value} {h:Nat} (hH:H=nv h) (hh:h<RN) (b:Nat) (hb:b<RN) (x:Nat) (hx:x<18446744073709551616):(∀ p ∈ ppO H b x,p) ∧
  ∃ h',ppH H b x=nv h'∧h'<RN∧h+b*x=ppS H b x % 18446744073709551616+18446744073709551616*h':=by
 have nb:num (nv b)=b:=ak hb
 have nh:num H=h:=by rw [hH,ak hh]
 have hrow:num (nv (num (nv b)*(x:Int).toNat % RN))=b*x % RN:=by rw [nb,Int.toNat_natCast,jI,Nat.mod_mod]
 refine ⟨?_,?_⟩
 ·intro p hp
  simp only [ppO,List.mem_cons,List.not_mem_nil,or_false] at hp
  rcases hp with rfl | rfl
  ·exact ⟨aI _,by unfold Word;omega⟩
  ·exact ⟨by rw [hH];exact aI _,aI _⟩
 ·have hS:ppS H b x=(h+b*x % RN) % RN:=by unfold ppS;rw [nh,hrow]
  have hbx:b*x≤(RN - 1)*18446744073709551615:=Nat.mul_le_mul (by omega) (by omega)
  have hH':ppH H b x = .agg #[.int .u64 (lw (ppS H b x) 1),.int .u64 (lw (ppS H b x) 2),.int .u64 (lw (ppS H b x) 3),.int .u64 (IntKind.u64.wrap (((b*x/RN:Nat):Int)+(((h+b*x % RN)/RN:Nat):Int)))]:=by
   unfold ppH;rw [nh,hrow,nb,Int.toNat_natCast]
  rw [hH']
  have hlt:ppS H b x<RN:=by rw [hS];exact Nat.mod_lt _ (by decide)
  have hs:=aQ (ppS H b x)
  rw [YK hlt] at hs
  have w0:=ah (ppS H b x) 0;have w1:=ah (ppS H b x) 1;have w2:=ah (ppS H b x) 2;have w3:=ah (ppS H b x) 3
  have e0:=lw0 (ppS H b x)
  generalize lw (ppS H b x) 0=s0 at *
  generalize lw (ppS H b x) 1=s1 at *
  generalize lw (ppS H b x) 2=s2 at *
  generalize lw (ppS H b x) 3=s3 at *
  generalize ppS H b x=S at *
  generalize b*x=q at *
  simp only [RN] at *
  have ht:q/115792089237316195423570985008687907853269984665640564039457584007913129639936+(h+q % 115792089237316195423570985008687907853269984665640564039457584007913129639936)/115792089237316195423570985008687907853269984665640564039457584007913129639936<18446744073709551616:=by omega
  have hw:IntKind.u64.wrap (((q/115792089237316195423570985008687907853269984665640564039457584007913129639936:Nat):Int)+(((h+q % 115792089237316195423570985008687907853269984665640564039457584007913129639936)/115792089237316195423570985008687907853269984665640564039457584007913129639936:Nat):Int))=((q/115792089237316195423570985008687907853269984665640564039457584007913129639936+(h+q % 115792089237316195423570985008687907853269984665640564039457584007913129639936)/115792089237316195423570985008687907853269984665640564039457584007913129639936:Nat):Int):=by
   rw [IntKind.wrap_u64];omega
  rw [hw]
  unfold Word at *
  refine ⟨S/18446744073709551616+(q/115792089237316195423570985008687907853269984665640564039457584007913129639936+(h+q % 115792089237316195423570985008687907853269984665640564039457584007913129639936)/115792089237316195423570985008687907853269984665640564039457584007913129639936)*6277101735386680763835789423207666416102355444464034512896,gy w1 w2 w3 (by unfold Word;omega) ?_,?_,?_⟩
  ·omega
  ·omega
  ·omega
def gProd:List Value→Option (List Prop × Value)
 | [A,B,C]=>some ([IsN A∧IsN B∧IsN C],.tuple #[nv ((num A*num B+num C)/RN),nv ((num A*num B+num C) % RN)])
 | _=>none
theorem lwN (a k:Nat) : ∃ x:Nat,lw a k=(x:Int)∧x<18446744073709551616:=by
 obtain ⟨h0,h1⟩:=ah a k
 obtain ⟨x,hx⟩:=Int.eq_ofNat_of_zero_le h0
 exact ⟨x,hx,by omega⟩
theorem DM {X:Cx} (hX:X.Ok Tryz.prog):(X.pure 64 gProd).Ok Tryz.prog:=by
 refine aA hX Tryz.func64 (by kernel_rfl) (by kernel_rfl) ?_
 intro args ps v ha hg hp
 unfold gProd at hg
 split at hg
 ·rename_i A B C
  simp only [qG,qH] at hg
  obtain ⟨rfl,rfl⟩:=hg
  obtain ⟨hA,hB,hC⟩:=hp _ (YJ.2 rfl)
  refine ⟨.inl rfl,fun w => ?_⟩
  have lA:=aX hA
  have lB:=aX hB
  have lC:=aX hC
  rw [hA,ak lA,hB,ak lB,hC,ak lC]
  clear hp ha hA hB hC
  generalize num A=a at *
  generalize num B=b at *
  generalize num C=c at *
  have run:=Co a b c
  have hs:=aQ a
  rw [YK lA] at hs
  obtain ⟨x0,f0,g0⟩:=lwN a 0
  obtain ⟨x1,f1,g1⟩:=lwN a 1
  obtain ⟨x2,f2,g2⟩:=lwN a 2
  obtain ⟨x3,f3,g3⟩:=lwN a 3
  rw [f0,f1,f2,f3] at run hs
  obtain ⟨o0,h0,e0,l0,v0⟩:=mU (rfl:nv c=nv c) lC b lB x0 g0
  obtain ⟨o1,h1,e1,l1,v1⟩:=mU e0 l0 b lB x1 g1
  obtain ⟨o2,h2,e2,l2,v2⟩:=mU e1 l1 b lB x2 g2
  obtain ⟨o3,h3,e3,l3,v3⟩:=mU e2 l2 b lB x3 g3
  have h:=aq JD mixed Tryz.func64 (by kernel_rfl) run (by
   intro p hp
   rcases List.mem_append.1 hp with hp | hp
   ·rcases List.mem_append.1 hp with hp | hp
    ·rcases List.mem_append.1 hp with hp | hp
     ·exact o0 p hp
     ·exact o1 p hp
    ·exact o2 p hp
   ·exact o3 p hp) rfl (.inl rfl) w
  rw [e3,lw0,lw0,lw0,lw0] at h
  generalize ppS (nv c) b x0=s0 at *
  generalize ppS (ppH (nv c) b x0) b x1=s1 at *
  generalize ppS (ppH (ppH (nv c) b x0) b x1) b x2=s2 at *
  generalize ppS (ppH (ppH (ppH (nv c) b x0) b x1) b x2) b x3=s3 at *
  have ht:a*b+c=s0 % 18446744073709551616+s1 % 18446744073709551616*18446744073709551616+s2 % 18446744073709551616*340282366920938463463374607431768211456+s3 % 18446744073709551616*6277101735386680763835789423207666416102355444464034512896+RN*h3:=by
   have ea:a=x0+x1*18446744073709551616+x2*340282366920938463463374607431768211456+x3*6277101735386680763835789423207666416102355444464034512896:=by omega
   have eb:a*b=b*x0+b*x1*18446744073709551616+b*x2*340282366920938463463374607431768211456+b*x3*6277101735386680763835789423207666416102355444464034512896:=by
    rw [ea,Nat.mul_comm _ b,Nat.mul_add,Nat.mul_add,Nat.mul_add,Nat.mul_assoc,Nat.mul_assoc,Nat.mul_assoc]
   rw [eb]
   generalize b*x0=q0 at *
   generalize b*x1=q1 at *
   generalize b*x2=q2 at *
   generalize b*x3=q3 at *
   simp only [RN]
   omega
  generalize a*b+c=T at *
  rw [gy (n:=T % RN) (by unfold Word;omega) (by unfold Word;omega) (by unfold Word;omega) (by unfold Word;omega) (by simp only [RN] at *;omega)] at h
  have:h3=T/RN:=by simp only [RN] at *;omega
  rw [this] at h
  exact h
 ·simp at hg
def X8:Cx:=X7.pure 64 gProd
theorem Cm:X8.Ok Tryz.prog:=DM JD
open Go Go.RowKit
def na (n:Nat):Array Value := #[.int .u64 (lw n 0),.int .u64 (lw n 1),.int .u64 (lw n 2),.int .u64 (lw n 3)]
def z4:Array Value := #[.int .u64 0,.int .u64 0,.int .u64 0,.int .u64 0]
theorem GG (n:Nat):sfun Tryz.prog X8 60 Tryz.f36 (ag Tryz.f36) [bv n]=some ([IsB (bv n),IsN (nv (ai (bv n)))∧IsN (nv LN)],.bool ((if num (nv (ai (bv n)))<num (nv LN) then 1 else 0:Int) == 1)):=by kernel_rfl
theorem fU (n:Nat) (h:n<RN) (w:World):Calls Tryz.prog 36 #[bv n] w fun e w'=>e = .returned (.bool (decide (n<LN)))∧Below w.heap.size w w':=by
 have k:=aq Cm mixed Tryz.func36 (by kernel_rfl) (GG n) (by
  intro p hp
  simp only [List.mem_cons,List.not_mem_nil,or_false] at hp
  rcases hp with rfl | rfl
  ·exact aJ _
  ·exact ⟨aI _,aI _⟩) (by simp [aB]) (.inl rfl) w
 rw [ao h,ak h,ak (n:=LN) (by decide)] at k
 have e:((if n<LN then 1 else 0:Int) == 1)=decide (n<LN):=by
  by_cases hl:n<LN
  ·rw [if_pos hl,decide_eq_true hl];rfl
  ·rw [if_neg hl,decide_eq_false hl];rfl
 rw [e] at k
 exact k
theorem Eh (a b c:Nat):sfun Tryz.prog X8 60 Tryz.f25 (ag Tryz.f25) [bv a,bv b,bv c]=some ([IsB (bv a),IsB (bv b),IsB (bv c),IsN (nv (ai (bv a)))∧IsN (nv (ai (bv b)))∧IsN (nv (ai (bv c))),IsN (nv ((num (nv (ai (bv a)))*num (nv (ai (bv b)))+num (nv (ai (bv c))))/RN))∧IsN (nv ((num (nv (ai (bv a)))*num (nv (ai (bv b)))+num (nv (ai (bv c)))) % RN)),IsN (nv ((num (nv ((num (nv (ai (bv a)))*num (nv (ai (bv b)))+num (nv (ai (bv c))))/RN))*RN+num (nv ((num (nv (ai (bv a)))*num (nv (ai (bv b)))+num (nv (ai (bv c)))) % RN))) % LN))],bv (num (nv ((num (nv ((num (nv (ai (bv a)))*num (nv (ai (bv b)))+num (nv (ai (bv c))))/RN))*RN+num (nv ((num (nv (ai (bv a)))*num (nv (ai (bv b)))+num (nv (ai (bv c)))) % RN))) % LN)))):=by kernel_rfl
theorem Fl (a b c:Nat) (ha:a<RN) (hb:b<RN) (hc:c<RN):(a*b+c)/RN<RN:=by
 have h:a*b≤(RN - 1)*(RN - 1):=Nat.mul_le_mul (by omega) (by omega)
 rw [Nat.div_lt_iff_lt_mul (by decide)]
 generalize a*b=q at *
 have h2:(RN - 1)*(RN - 1)=RN*RN - 2*RN+1:=by decide
 have h3:2*RN≤RN*RN:=by decide
 have h4:0<RN:=by decide
 generalize RN*RN=z at *
 omega
theorem vV (a b c:Nat) (ha:a<RN) (hb:b<RN) (hc:c<RN) (w:World):Calls Tryz.prog 25 #[bv a,bv b,bv c] w fun e w'=>e = .returned (bv ((a*b+c) % LN))∧Below w.heap.size w w':=by
 have run:=Eh a b c
 rw [ao ha,ao hb,ao hc,ak ha,ak hb,ak hc] at run
 rw [ak (Fl a b c ha hb hc),ak (n:=(a*b+c) % RN) (Nat.mod_lt _ (by decide))] at run
 rw [ak (cC (Nat.mod_lt _ (by decide)))] at run
 have e:(a*b+c)/RN*RN+(a*b+c) % RN=a*b+c:=by rw [Nat.mul_comm];exact Nat.div_add_mod _ _
 rw [e] at run
 exact aq Cm mixed Tryz.func25 (by kernel_rfl) run (by
  intro p hp
  simp only [List.mem_cons,List.not_mem_nil,or_false] at hp
  rcases hp with rfl | rfl | rfl | rfl | rfl | rfl
  ·exact aJ _
  ·exact aJ _
  ·exact aJ _
  ·exact ⟨aI _,aI _,aI _⟩
  ·exact ⟨aI _,aI _⟩
  ·exact aI _) (by simp [aB]) (.inl (aB _)) w
def xK (n:Nat):Value := .agg (blm 64 n).toArray
def hiB (n:Nat):Value := .agg ((List.range 32).map fun i=>Value.int .u8 (by8 n (32+i))).toArray
theorem Lf (n:Nat):hiB n=bv (n/RN):=by
 unfold hiB bv bl
 refine congrArg (fun l:List Value=>Value.agg l.toArray) (List.map_congr_left fun i _ => ?_)
 congr 1
 unfold by8
 rw [iy,YL,←Nat.pow_add]
theorem qP (n:Nat):flat (xK n)=true:=by
 show ((blm 64 n).toArray.toList.all flat1)=true
 simp [blm,flat1]
theorem GC (n:Nat):sfun Tryz.prog X8 60 Tryz.f21 (ag Tryz.f21) [xK n]=some ([IsB (hiB n),IsB (bv n),IsN (nv (ai (hiB n)))∧IsN (nv (ai (bv n))),IsN (nv ((num (nv (ai (hiB n)))*RN+num (nv (ai (bv n)))) % LN))],bv (num (nv ((num (nv (ai (hiB n)))*RN+num (nv (ai (bv n)))) % LN)))):=by kernel_rfl
theorem xN (n:Nat) (hn:n<RN*RN) (w:World):Calls Tryz.prog 21 #[xK n] w fun e w'=>e = .returned (bv (n % LN))∧Below w.heap.size w w':=by
 have run:=GC n
 have hh:n/RN<RN:=by rw [Nat.div_lt_iff_lt_mul (by decide)];exact hn
 rw [Lf,ao hh,ak hh,fP,ak (n:=n % RN) (Nat.mod_lt _ (by decide))] at run
 rw [ak (cC (Nat.mod_lt _ (by decide)))] at run
 have e:n/RN*RN+n % RN=n:=by rw [Nat.mul_comm];exact Nat.div_add_mod _ _
 rw [e] at run
 exact aq Cm mixed Tryz.func21 (by kernel_rfl) run (by
  intro p hp
  simp only [List.mem_cons,List.not_mem_nil,or_false] at hp
  rcases hp with rfl | rfl | rfl | rfl
  ·exact aJ _
  ·exact aJ _
  ·exact ⟨aI _,aI _⟩
  ·exact aI _) (by simp [qP]) (.inl (aB _)) w
open Go Go.RowKit
theorem GZ:RN*RN=256 ^ 64:=by decide
theorem ltL (x:Nat):x % LN<RN:=cC (Nat.mod_lt _ (by decide))
end Go.Proofs.YtajehiidpecknaaGreatDoor.Sc
