/- Package field on the engine: sums and differences. -/
import Derived.Test.YtmaehekekkfpmaaDoorScpB
set_option linter.unusedSimpArgs false
set_option linter.unusedVariables false
namespace Go.Proofs.YtmaehekekkfpmaaDoor.Fe
open Go Go.RowKit Sc
theorem plus_run (a0 a1 a2 a3 b0 b1 b2 b3:Int):sfun Tryd.prog X1 60 Tryd.f83 (bodyOf Tryd.f83) [.agg #[.int .u64 a0,.int .u64 a1,.int .u64 a2,.int .u64 a3],.agg #[.int .u64 b0,.int .u64 b1,.int .u64 b2,.int .u64 b3]]=some ([Word a0∧Word b0∧Bit (0),
  Word a1∧Word b1∧Bit (((a0+b0+0)/18446744073709551616)),
  Word a2∧Word b2∧Bit (((a1+b1+((a0+b0+0)/18446744073709551616))/18446744073709551616)),
  Word a3∧Word b3∧Bit (((a2+b2+((a1+b1+((a0+b0+0)/18446744073709551616))/18446744073709551616))/18446744073709551616))],.tuple #[.agg #[.int .u64 ((a0+b0+0) % 18446744073709551616),.int .u64 ((a1+b1+((a0+b0+0)/18446744073709551616)) % 18446744073709551616),.int .u64 ((a2+b2+((a1+b1+((a0+b0+0)/18446744073709551616))/18446744073709551616)) % 18446744073709551616),.int .u64 ((a3+b3+((a2+b2+((a1+b1+((a0+b0+0)/18446744073709551616))/18446744073709551616))/18446744073709551616)) % 18446744073709551616)],.int .u64 ((a3+b3+((a2+b2+((a1+b1+((a0+b0+0)/18446744073709551616))/18446744073709551616))/18446744073709551616))/18446744073709551616)]):=by kernel_rfl
theorem gPlus_ok {X:Cx} (hX:X.Ok Tryd.prog):(X.pure 83 gPlus).Ok Tryd.prog:=by
 refine gBody_ok hX Tryd.func83 (by kernel_rfl) (by kernel_rfl) ?_
 intro args ps v ha hg hp
 unfold gPlus at hg
 split at hg
 ·rename_i A B
  simp only [Option.some.injEq,Prod.mk.injEq] at hg
  obtain ⟨rfl,rfl⟩:=hg
  obtain ⟨hA,hB⟩:=hp _ (List.mem_singleton.2 rfl)
  refine ⟨.inl rfl,fun w => ?_⟩
  have lA:=num_lt hA
  have lB:=num_lt hB
  rw [hA,hB,num_nv' lA,num_nv' lB]
  generalize num A=a at *
  generalize num B=b at *
  have k:=plus_num (lw a 0) (lw a 1) (lw a 2) (lw a 3) (lw b 0) (lw b 1) (lw b 2) (lw b 3) (lw_word _ _) (lw_word _ _) (lw_word _ _) (lw_word _ _) (lw_word _ _) (lw_word _ _) (lw_word _ _) (lw_word _ _) a b (by rw [words_sum,Nat.mod_eq_of_lt lA]) (by rw [words_sum,Nat.mod_eq_of_lt lB])
  have h:=sfun_calls X1_ok mixed Tryd.func83 (by kernel_rfl) (plus_run (lw a 0) (lw a 1) (lw a 2) (lw a 3) (lw b 0) (lw b 1) (lw b 2) (lw b 3)) k.1 rfl (.inl rfl) w
  rw [k.2] at h
  exact h
 ·simp at hg
theorem minus_run (a0 a1 a2 a3 b0 b1 b2 b3:Int):sfun Tryd.prog X1 60 Tryd.f88 (bodyOf Tryd.f88) [.agg #[.int .u64 a0,.int .u64 a1,.int .u64 a2,.int .u64 a3],.agg #[.int .u64 b0,.int .u64 b1,.int .u64 b2,.int .u64 b3]]=some ([Word a0∧Word b0∧Bit (0),
  Word a1∧Word b1∧Bit ((bor a0 (b0+0))),
  Word a2∧Word b2∧Bit ((bor a1 (b1+(bor a0 (b0+0))))),
  Word a3∧Word b3∧Bit ((bor a2 (b2+(bor a1 (b1+(bor a0 (b0+0)))))))],.tuple #[.agg #[.int .u64 ((a0 - b0 - 0) % 18446744073709551616),.int .u64 ((a1 - b1 - (bor a0 (b0+0))) % 18446744073709551616),.int .u64 ((a2 - b2 - (bor a1 (b1+(bor a0 (b0+0))))) % 18446744073709551616),.int .u64 ((a3 - b3 - (bor a2 (b2+(bor a1 (b1+(bor a0 (b0+0))))))) % 18446744073709551616)],.int .u64 (bor a3 (b3+(bor a2 (b2+(bor a1 (b1+(bor a0 (b0+0))))))))]):=by kernel_rfl
theorem gMinus_ok {X:Cx} (hX:X.Ok Tryd.prog):(X.pure 88 gMinus).Ok Tryd.prog:=by
 refine gBody_ok hX Tryd.func88 (by kernel_rfl) (by kernel_rfl) ?_
 intro args ps v ha hg hp
 unfold gMinus at hg
 split at hg
 ·rename_i A B
  simp only [Option.some.injEq,Prod.mk.injEq] at hg
  obtain ⟨rfl,rfl⟩:=hg
  obtain ⟨hA,hB⟩:=hp _ (List.mem_singleton.2 rfl)
  refine ⟨.inl rfl,fun w => ?_⟩
  have lA:=num_lt hA
  have lB:=num_lt hB
  rw [hA,hB,num_nv' lA,num_nv' lB]
  generalize num A=a at *
  generalize num B=b at *
  have k:=minus_num (lw a 0) (lw a 1) (lw a 2) (lw a 3) (lw b 0) (lw b 1) (lw b 2) (lw b 3) (lw_word _ _) (lw_word _ _) (lw_word _ _) (lw_word _ _) (lw_word _ _) (lw_word _ _) (lw_word _ _) (lw_word _ _) a b lA lB (by rw [words_sum,Nat.mod_eq_of_lt lA]) (by rw [words_sum,Nat.mod_eq_of_lt lB])
  have h:=sfun_calls X1_ok mixed Tryd.func88 (by kernel_rfl) (minus_run (lw a 0) (lw a 1) (lw a 2) (lw a 3) (lw b 0) (lw b 1) (lw b 2) (lw b 3)) k.1 rfl (.inl rfl) w
  rw [k.2] at h
  exact h
 ·simp at hg
theorem shift_run (n0 n1 n2 n3 t:Int):sfun Tryd.prog X1 60 Tryd.f81 (bodyOf Tryd.f81) [.agg #[.int .u64 n0,.int .u64 n1,.int .u64 n2,.int .u64 n3],.int .u64 t]=some ([],.tuple #[.int .u64 n0,.agg #[.int .u64 n1,.int .u64 n2,.int .u64 n3,.int .u64 t]]):=by kernel_rfl
def gShift:List Value→Option (List Prop × Value)
 | [A,.int .u64 t]=>some ([IsN A∧Word t],.tuple #[.int .u64 (lw (num A) 0),nv (num A/18446744073709551616+t.toNat*6277101735386680763835789423207666416102355444464034512896)])
 | _=>none
def F1:Cx:=(X1.pure 83 gPlus).pure 88 gMinus
theorem F1_ok:F1.Ok Tryd.prog:=gMinus_ok (gPlus_ok X1_ok)
def foldN (n o:Nat):Nat:=((n+38*o) % RN+38*((n+38*o)/RN)) % RN
theorem fold_run (n:Nat) (o:Int):sfun Tryd.prog F1 60 Tryd.f84 (bodyOf Tryd.f84) [nv n,.int .u64 o]=some ([IsN (nv n)∧IsN (.agg #[.int .u64 (IntKind.u64.wrap (o*38)),.int .u64 0,.int .u64 0,.int .u64 0]),IsN (nv ((num (nv n)+num (.agg #[.int .u64 (IntKind.u64.wrap (o*38)),.int .u64 0,.int .u64 0,.int .u64 0])) % RN))∧IsN (.agg #[.int .u64 (IntKind.u64.wrap ((((num (nv n)+num (.agg #[.int .u64 (IntKind.u64.wrap (o*38)),.int .u64 0,.int .u64 0,.int .u64 0]))/RN:Nat):Int)*38)),.int .u64 0,.int .u64 0,.int .u64 0])],nv ((num (nv ((num (nv n)+num (.agg #[.int .u64 (IntKind.u64.wrap (o*38)),.int .u64 0,.int .u64 0,.int .u64 0])) % RN))+num (.agg #[.int .u64 (IntKind.u64.wrap ((((num (nv n)+num (.agg #[.int .u64 (IntKind.u64.wrap (o*38)),.int .u64 0,.int .u64 0,.int .u64 0]))/RN:Nat):Int)*38)),.int .u64 0,.int .u64 0,.int .u64 0])) % RN)):=by kernel_rfl
theorem word1 (x:Nat) (hx:x<18446744073709551616):Value.agg #[.int .u64 (x:Int),.int .u64 0,.int .u64 0,.int .u64 0]=nv x:=by
 refine nv_mk ⟨by omega,by omega⟩ word0 word0 word0 ?_
 omega
def gFold:List Value→Option (List Prop × Value)
 | [A,.int .u64 o]=>some ([IsN A∧0≤o∧o≤100],nv (foldN (num A) o.toNat))
 | _=>none
theorem foldN_lt (n o:Nat):foldN n o<RN:=Nat.mod_lt _ (by decide)
theorem fold_any (n k:Nat) (hn:n<RN) (hk:k≤100) (w:World):Calls Tryd.prog 84 #[nv n,.int .u64 (k:Int)] w fun e w'=>e = .returned (nv (foldN n k))∧Below w.heap.size w w':=by
 have run:=fold_run n (k:Int)
 have e1:IntKind.u64.wrap ((k:Int)*38)=((38*k:Nat):Int):=by rw [IntKind.wrap_u64];omega
 have l1:38*k<RN:=Nat.lt_of_le_of_lt (show 38*k≤3800 by omega) (by decide)
 have lt1:(n+38*k)/RN≤1:=by
  have:(n+38*k)/RN<2:=Nat.div_lt_of_lt_mul (by omega)
  omega
 rw [e1,word1 _ (by omega),num_nv' hn,num_nv' l1,num_nv' (Nat.mod_lt _ (by decide))] at run
 generalize hc:(n+38*k)/RN=c at run lt1
 have e2:IntKind.u64.wrap ((c:Int)*38)=((38*c:Nat):Int):=by rw [IntKind.wrap_u64];omega
 have l2:38*c<RN:=Nat.lt_of_le_of_lt (show 38*c≤38 by omega) (by decide)
 rw [e2,word1 _ (by omega),num_nv' l2] at run
 have ef:foldN n k=((n+38*k) % RN+38*c) % RN:=by unfold foldN;rw [hc]
 rw [ef]
 exact sfun_calls F1_ok mixed Tryd.func84 (by kernel_rfl) run (fun p hp=>by
  simp only [List.mem_cons,List.not_mem_nil,or_false] at hp
  rcases hp with rfl | rfl <;> exact ⟨isN_nv _,isN_nv _⟩) rfl (.inl rfl) w
theorem gFold_ok {X:Cx} (hX:X.Ok Tryd.prog):(X.pure 84 gFold).Ok Tryd.prog:=by
 refine gBody_ok hX Tryd.func84 (by kernel_rfl) (by kernel_rfl) ?_
 intro args ps v ha hg hp
 unfold gFold at hg
 split at hg
 ·rename_i A o
  simp only [Option.some.injEq,Prod.mk.injEq] at hg
  obtain ⟨rfl,rfl⟩:=hg
  obtain ⟨hA,h0,h1⟩:=hp _ (List.mem_singleton.2 rfl)
  refine ⟨.inl rfl,fun w => ?_⟩
  have h:=fold_any (num A) o.toNat (num_lt hA) (by omega) w
  rw [← (show A=nv (num A) from hA),show ((o.toNat:Nat):Int)=o by omega] at h
  exact h
 ·simp at hg
theorem gShift_ok {X:Cx} (hX:X.Ok Tryd.prog):(X.pure 81 gShift).Ok Tryd.prog:=by
 refine gBody_ok hX Tryd.func81 (by kernel_rfl) (by kernel_rfl) ?_
 intro args ps v ha hg hp
 unfold gShift at hg
 split at hg
 ·rename_i A t
  simp only [Option.some.injEq,Prod.mk.injEq] at hg
  obtain ⟨rfl,rfl⟩:=hg
  obtain ⟨hA,ht⟩:=hp _ (List.mem_singleton.2 rfl)
  refine ⟨.inl rfl,fun w => ?_⟩
  have lA:=num_lt hA
  rw [hA,num_nv' lA]
  generalize num A=a at *
  have h:=sfun_calls X1_ok mixed Tryd.func81 (by kernel_rfl) (shift_run (lw a 0) (lw a 1) (lw a 2) (lw a 3) t) (by simp) rfl (.inl rfl) w
  have hs:=words_sum a
  rw [Nat.mod_eq_of_lt lA] at hs
  have k0:=lw_word a 0
  have k1:=lw_word a 1
  have k2:=lw_word a 2
  have k3:=lw_word a 3
  have e:Value.agg #[.int .u64 (lw a 1),.int .u64 (lw a 2),.int .u64 (lw a 3),.int .u64 t]=nv (a/18446744073709551616+t.toNat*6277101735386680763835789423207666416102355444464034512896):=by
   refine nv_mk k1 k2 k3 ht ?_
   unfold Word at *
   omega
  rw [e] at h
  exact h
 ·simp at hg
def F2:Cx:=(F1.pure 84 gFold).pure 81 gShift
theorem F2_ok:F2.Ok Tryd.prog:=gShift_ok (gFold_ok F1_ok)
theorem scale_run (n0 n1 n2 n3 x:Int):sfun Tryd.prog X1 60 Tryd.f80 (bodyOf Tryd.f80) [.agg #[.int .u64 n0,.int .u64 n1,.int .u64 n2,.int .u64 n3],.int .u64 x]=some ([Word n0∧Word x,Word n1∧Word x,Word n2∧Word x,Word n3∧Word x,Word (n1*x % 18446744073709551616)∧Word (n0*x/18446744073709551616)∧Bit 0,Word (n2*x % 18446744073709551616)∧Word (n1*x/18446744073709551616)∧Bit (((n1*x % 18446744073709551616)+(n0*x/18446744073709551616)+0)/18446744073709551616),Word (n3*x % 18446744073709551616)∧Word (n2*x/18446744073709551616)∧Bit (((n2*x % 18446744073709551616)+(n1*x/18446744073709551616)+(((n1*x % 18446744073709551616)+(n0*x/18446744073709551616)+0)/18446744073709551616))/18446744073709551616)],.tuple #[.agg #[.int .u64 (n0*x % 18446744073709551616),.int .u64 (((n1*x % 18446744073709551616)+(n0*x/18446744073709551616)+0) % 18446744073709551616),.int .u64 (((n2*x % 18446744073709551616)+(n1*x/18446744073709551616)+(((n1*x % 18446744073709551616)+(n0*x/18446744073709551616)+0)/18446744073709551616)) % 18446744073709551616),.int .u64 (((n3*x % 18446744073709551616)+(n2*x/18446744073709551616)+(((n2*x % 18446744073709551616)+(n1*x/18446744073709551616)+(((n1*x % 18446744073709551616)+(n0*x/18446744073709551616)+0)/18446744073709551616))/18446744073709551616)) % 18446744073709551616)],.int .u64 (IntKind.u64.wrap ((n3*x/18446744073709551616)+(((n3*x % 18446744073709551616)+(n2*x/18446744073709551616)+(((n2*x % 18446744073709551616)+(n1*x/18446744073709551616)+(((n1*x % 18446744073709551616)+(n0*x/18446744073709551616)+0)/18446744073709551616))/18446744073709551616))/18446744073709551616)))]):=by kernel_rfl
theorem scale_num (y0 y1 y2 y3:Int) (k0:0≤y0∧y0≤340282366920938463426481119284349108225) (k1:0≤y1∧y1≤340282366920938463426481119284349108225) (k2:0≤y2∧y2≤340282366920938463426481119284349108225) (k3:0≤y3∧y3≤340282366920938463426481119284349108225) (s1 s2 s3 c1 c2 c3:Int)
  (e1:s1=y1 % 18446744073709551616+y0/18446744073709551616+0) (f1:c1=s1/18446744073709551616) (e2:s2=y2 % 18446744073709551616+y1/18446744073709551616+c1) (f2:c2=s2/18446744073709551616) (e3:s3=y3 % 18446744073709551616+y2/18446744073709551616+c2) (f3:c3=s3/18446744073709551616) :
  Bit c1∧Bit c2∧Word (y3/18446744073709551616+c3)∧(y0 % 18446744073709551616)+(s1 % 18446744073709551616)*18446744073709551616+(s2 % 18446744073709551616)*340282366920938463463374607431768211456+(s3 % 18446744073709551616)*6277101735386680763835789423207666416102355444464034512896+(y3/18446744073709551616+c3)*115792089237316195423570985008687907853269984665640564039457584007913129639936=y0+y1*18446744073709551616+y2*340282366920938463463374607431768211456+y3*6277101735386680763835789423207666416102355444464034512896:=by
 unfold Bit Word
 omega
theorem prod_le (n x:Int) (hn:Word n) (hx:Word x):0≤n*x∧n*x≤340282366920938463426481119284349108225:=by
 obtain ⟨a,b⟩:=hn
 obtain ⟨c,d⟩:=hx
 have:n*x≤18446744073709551615*18446744073709551615:=Int.mul_le_mul (by omega) (by omega) c (by omega)
 exact ⟨Int.mul_nonneg a c,by omega⟩
theorem scale_any (a:Nat) (x:Int) (lA:a<RN) (hx:Word x) (w:World):Calls Tryd.prog 80 #[nv a,.int .u64 x] w fun e w'=>e = .returned (.tuple #[nv (a*x.toNat % RN),.int .u64 ((a*x.toNat/RN:Nat):Int)])∧Below w.heap.size w w':=by
 have run:=scale_run (lw a 0) (lw a 1) (lw a 2) (lw a 3) x
 have p0:=prod_le _ _ (lw_word a 0) hx
 have p1:=prod_le _ _ (lw_word a 1) hx
 have p2:=prod_le _ _ (lw_word a 2) hx
 have p3:=prod_le _ _ (lw_word a 3) hx
 have hs:=words_sum a
 rw [Nat.mod_eq_of_lt lA] at hs
 have hm:lw a 0*x+lw a 1*x*18446744073709551616+lw a 2*x*340282366920938463463374607431768211456+lw a 3*x*6277101735386680763835789423207666416102355444464034512896=((a*x.toNat:Nat):Int):=by
  rw [Int.natCast_mul,←hs,show ((x.toNat:Nat):Int)=x from Int.toNat_of_nonneg hx.1]
  simp only [Int.add_mul]
  simp only [Int.mul_right_comm _ _ x]
 have w0:=lw_word a 0
 have w1:=lw_word a 1
 have w2:=lw_word a 2
 have w3:=lw_word a 3
 generalize lw a 0*x=y0 at *
 generalize lw a 1*x=y1 at *
 generalize lw a 2*x=y2 at *
 generalize lw a 3*x=y3 at *
 obtain ⟨q1,q2,q3,q4⟩:=scale_num y0 y1 y2 y3 p0 p1 p2 p3 _ _ _ _ _ _ rfl rfl rfl rfl rfl rfl
 generalize hs1:y1 % 18446744073709551616+y0/18446744073709551616+0=s1 at *
 generalize hc1:s1/18446744073709551616=c1 at *
 generalize hs2:y2 % 18446744073709551616+y1/18446744073709551616+c1=s2 at *
 generalize hc2:s2/18446744073709551616=c2 at *
 generalize hs3:y3 % 18446744073709551616+y2/18446744073709551616+c2=s3 at *
 generalize hc3:s3/18446744073709551616=c3 at *
 have wv : ∀ z:Int,Word (z % 18446744073709551616):=fun z=>by unfold Word;omega
 have hh : ∀ z:Int,0≤z∧z≤340282366920938463426481119284349108225→Word (z/18446744073709551616):=fun z hz=>by unfold Word;omega
 generalize htot:a*x.toNat=t at *
 have hr:((t % RN:Nat):Int)=(y0 % 18446744073709551616)+(s1 % 18446744073709551616)*18446744073709551616+(s2 % 18446744073709551616)*340282366920938463463374607431768211456+(s3 % 18446744073709551616)*6277101735386680763835789423207666416102355444464034512896∧((t/RN:Nat):Int)=y3/18446744073709551616+c3:=by
  have a0:=wv y0;have a1:=wv s1;have a2:=wv s2;have a3:=wv s3
  unfold Word at *
  simp only [RN] at *
  omega
 rw [show IntKind.u64.wrap (y3/18446744073709551616+c3)=((t/RN:Nat):Int) by rw [hr.2,IntKind.wrap_u64];unfold Word at q3;omega,nv_mk (wv _) (wv _) (wv _) (wv _) hr.1.symm] at run
 exact sfun_calls X1_ok mixed Tryd.func80 (by kernel_rfl) run (fun p hp=>by
  simp only [List.mem_cons,List.not_mem_nil,or_false] at hp
  rcases hp with rfl | rfl | rfl | rfl | rfl | rfl | rfl
  ·exact ⟨w0,hx⟩
  ·exact ⟨w1,hx⟩
  ·exact ⟨w2,hx⟩
  ·exact ⟨w3,hx⟩
  ·exact ⟨wv _,hh _ p0,bit0⟩
  ·exact ⟨wv _,hh _ p1,q1⟩
  ·exact ⟨wv _,hh _ p2,q2⟩) rfl (.inl rfl) w
end Go.Proofs.YtmaehekekkfpmaaDoor.Fe
