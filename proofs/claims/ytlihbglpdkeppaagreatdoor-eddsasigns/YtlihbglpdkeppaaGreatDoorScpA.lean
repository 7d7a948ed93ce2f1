/- Package scalar: numbers of four words and of 32 bytes. -/
import Derived.Test.YtlihbglpdkeppaaGreatDoorMemE
import Derived.Laws.Externs
import Derived.Lib.Mul64
import Derived.Laws.Bits64b
import Derived.Shelf.Spec.BitsCarry
set_option linter.unusedSimpArgs false
set_option linter.unusedVariables false
namespace Go.Proofs.YtlihbglpdkeppaaGreatDoor.Sc
open Go Go.RowKit
open Go Go.RowKit
def Word (x:Int):Prop:=0≤x∧x<18446744073709551616
def Bit (c:Int):Prop:=0≤c∧c≤1
def bor (x y:Int):Int:=if x<y then 1 else 0
theorem bor_bit (x y:Int):Bit (bor x y):=by unfold bor Bit;split <;> decide
theorem add64 (x y c:Int) (hx:0≤x) (hy:0≤y) (hc0:0≤c) (hc:c≤1) (w:World):(callFunc 89 #[.int .u64 x,.int .u64 y,.int .u64 c]).run Tryz.prog w =
  .ok (.value (.tuple #[.int .u64 ((x+y+c) % 18446744073709551616),.int .u64 ((x+y+c)/18446744073709551616)])) w:=by
 rw [run_callFunc_extern Tryz.func89 (by kernel_rfl) (by kernel_rfl) (by kernel_rfl) (e:=add64Entry) (by kernel_rfl),run_add64 x y c hx hy hc0 hc]
 rfl
theorem sub64 (x y b:Int) (hx:0≤x) (hy:0≤y) (hy':y<18446744073709551616) (hb0:0≤b) (hb:b≤1) (w:World):(callFunc 93 #[.int .u64 x,.int .u64 y,.int .u64 b]).run Tryz.prog w =
  .ok (.value (.tuple #[.int .u64 ((x - y - b) % 18446744073709551616),.int .u64 (bor x (y+b))])) w:=by
 obtain ⟨x,rfl⟩:=Int.eq_ofNat_of_zero_le hx
 obtain ⟨y,rfl⟩:=Int.eq_ofNat_of_zero_le hy
 obtain ⟨b,rfl⟩:=Int.eq_ofNat_of_zero_le hb0
 have e1:(((x+18446744073709551616 - y - b) % 18446744073709551616:Nat):Int)=((x:Int) - y - b) % 18446744073709551616:=by omega
 have e2:((if x<y+b then 1 else 0:Nat):Int)=bor x (y+b):=by unfold bor;split <;> split <;> omega
 rw [←e1,←e2]
 rw [run_callFunc_extern Tryz.func93 (by kernel_rfl) (by kernel_rfl) (by kernel_rfl) (e:=sub64Entry) (by kernel_rfl),run_sub64 x y b (by omega)]
 rfl
def gAdd:List Value→Option (List Prop × Value)
 | [.int .u64 x,.int .u64 y,.int .u64 c]=>some ([Word x∧Word y∧Bit c],.tuple #[.int .u64 ((x+y+c) % 18446744073709551616),.int .u64 ((x+y+c)/18446744073709551616)])
 | _=>none
def gSub:List Value→Option (List Prop × Value)
 | [.int .u64 x,.int .u64 y,.int .u64 c]=>some ([Word x∧Word y∧Bit c],.tuple #[.int .u64 ((x - y - c) % 18446744073709551616),.int .u64 (bor x (y+c))])
 | _=>none
def gMul:List Value→Option (List Prop × Value)
 | [.int .u64 x,.int .u64 y]=>some ([Word x∧Word y],.tuple #[.int .u64 (x*y/18446744073709551616),.int .u64 (x*y % 18446744073709551616)])
 | _=>none
theorem gAdd_ok {X:Cx} (hX:X.Ok Tryz.prog):(X.pure 89 gAdd).Ok Tryz.prog:=by
 refine Cx.pure_ok hX ?_
 intro args ps v ha hg hp
 unfold gAdd at hg
 split at hg
 ·rename_i x y c
  simp only [Option.some.injEq,Prod.mk.injEq] at hg
  obtain ⟨rfl,rfl⟩:=hg
  obtain ⟨⟨x0,x1⟩,⟨y0,y1⟩,c0,c1⟩:=hp _ (List.mem_singleton.2 rfl)
  exact ⟨.inl rfl,fun w => .inl ⟨_,w,add64 x y c x0 y0 c0 c1 w,rfl,Below.refl _ _⟩⟩
 ·simp at hg
theorem gSub_ok {X:Cx} (hX:X.Ok Tryz.prog):(X.pure 93 gSub).Ok Tryz.prog:=by
 refine Cx.pure_ok hX ?_
 intro args ps v ha hg hp
 unfold gSub at hg
 split at hg
 ·rename_i x y c
  simp only [Option.some.injEq,Prod.mk.injEq] at hg
  obtain ⟨rfl,rfl⟩:=hg
  obtain ⟨⟨x0,x1⟩,⟨y0,y1⟩,c0,c1⟩:=hp _ (List.mem_singleton.2 rfl)
  exact ⟨.inl rfl,fun w => .inl ⟨_,w,sub64 x y c x0 y0 y1 c0 c1 w,rfl,Below.refl _ _⟩⟩
 ·simp at hg
open Go Go.RowKit
abbrev RN:Nat:=115792089237316195423570985008687907853269984665640564039457584007913129639936
def lw (n k:Nat):Int:=((n/18446744073709551616 ^ k % 18446744073709551616:Nat):Int)
def by8 (n i:Nat):Int:=((n/256 ^ i % 256:Nat):Int)
theorem lw_word (n k:Nat):Word (lw n k):=by unfold lw Word;omega
theorem by8_bound (n i:Nat):0≤by8 n i∧by8 n i<256:=by unfold by8;omega
def nv (n:Nat):Value := .agg #[.int .u64 (lw n 0),.int .u64 (lw n 1),.int .u64 (lw n 2),.int .u64 (lw n 3)]
def num:Value→Nat
 | .agg cs=>match cs.toList with
  | [.int _ a,.int _ b,.int _ c,.int _ d]=>(a+b*18446744073709551616+c*340282366920938463463374607431768211456+d*6277101735386680763835789423207666416102355444464034512896).toNat
  | _=>0
 | _=>0
theorem lw0 (n:Nat):lw n 0=((n % 18446744073709551616:Nat):Int):=by simp [lw]
theorem lw1 (n:Nat):lw n 1=((n/18446744073709551616 % 18446744073709551616:Nat):Int):=by simp [lw]
theorem lw2 (n:Nat):lw n 2=((n/340282366920938463463374607431768211456 % 18446744073709551616:Nat):Int):=by unfold lw;rw [show (18446744073709551616:Nat) ^ 2=340282366920938463463374607431768211456 from by decide]
theorem lw3 (n:Nat):lw n 3=((n/6277101735386680763835789423207666416102355444464034512896 % 18446744073709551616:Nat):Int):=by unfold lw;rw [show (18446744073709551616:Nat) ^ 3=6277101735386680763835789423207666416102355444464034512896 from by decide]
theorem words_sum (n:Nat):lw n 0+lw n 1*18446744073709551616+lw n 2*340282366920938463463374607431768211456+lw n 3*6277101735386680763835789423207666416102355444464034512896=((n % RN:Nat):Int):=by
 rw [lw0,lw1,lw2,lw3]
 have e2:n/340282366920938463463374607431768211456=n/18446744073709551616/18446744073709551616:=by rw [Nat.div_div_eq_div_mul]
 have e3:n/6277101735386680763835789423207666416102355444464034512896=n/18446744073709551616/18446744073709551616/18446744073709551616:=by rw [Nat.div_div_eq_div_mul,Nat.div_div_eq_div_mul]
 rw [e2,e3]
 simp only [RN]
 omega
theorem nv_mk {s0 s1 s2 s3:Int} (h0:Word s0) (h1:Word s1) (h2:Word s2) (h3:Word s3) {n:Nat} (h:s0+s1*18446744073709551616+s2*340282366920938463463374607431768211456+s3*6277101735386680763835789423207666416102355444464034512896=(n:Int)) :
  Value.agg #[.int .u64 s0,.int .u64 s1,.int .u64 s2,.int .u64 s3]=nv n:=by
 obtain ⟨_,_⟩:=h0;obtain ⟨_,_⟩:=h1;obtain ⟨_,_⟩:=h2;obtain ⟨_,_⟩:=h3
 have e0:s0=lw n 0:=by rw [lw0];omega
 have e1:s1=lw n 1:=by rw [lw1];omega
 have e2:s2=lw n 2:=by rw [lw2];omega
 have e3:s3=lw n 3:=by rw [lw3];omega
 rw [nv,←e0,←e1,←e2,←e3]
theorem nv_mod (n:Nat):nv (n % RN)=nv n:=(nv_mk (lw_word n 0) (lw_word n 1) (lw_word n 2) (lw_word n 3) (words_sum n)).symm
theorem num_nv (n:Nat):num (nv n)=n % RN:=by
 show (lw n 0+lw n 1*18446744073709551616+lw n 2*340282366920938463463374607431768211456+lw n 3*6277101735386680763835789423207666416102355444464034512896).toNat=_
 rw [words_sum];rfl
theorem num_nv' {n:Nat} (h:n<RN):num (nv n)=n:=by rw [num_nv,Nat.mod_eq_of_lt h]
def IsN (A:Value):Prop:=A=nv (num A)
theorem isN_nv (n:Nat):IsN (nv n):=by unfold IsN;rw [num_nv,nv_mod]
theorem num_lt {A:Value} (h:IsN A):num A<RN:=by
 have:num A=num A % RN:=by
  have e:=congrArg num h
  rw [num_nv] at e;exact e
 rw [this];exact Nat.mod_lt _ (by decide)
def bl (n:Nat):List Value:=(List.range 32).map fun i=>Value.int .u8 (by8 n i)
def bv (n:Nat):Value := .agg (bl n).toArray
def bsum:List Value→Nat
 | []=>0
 | .int _ x :: l=>x.toNat+256*bsum l
 | _ :: l=>256*bsum l
def bnum:Value→Nat
 | .agg cs=>bsum cs.toList
 | _=>0
def IsB (A:Value):Prop:=A=bv (bnum A)
open Go Go.RowKit
def X0:Cx:=(Cx.none.pure 89 gAdd).pure 93 gSub
theorem bit0:Bit 0:=⟨by decide,by decide⟩
theorem word0:Word 0:=⟨by decide,by decide⟩
theorem X0_ok:X0.Ok Tryz.prog:=gSub_ok (gAdd_ok Cx.none_ok)
namespace M64
theorem maskN (a:Nat) (ha:a<18446744073709551616):bits .and .u64 (a:Int) 4294967295=((a % 4294967296:Nat):Int):=by
 have h:=bits_and_u64_nat a 4294967295 ha (by omega)
 have e:a &&& 4294967295=a % 4294967296:=Nat.and_two_pow_sub_one_eq_mod a 32
 rw [e] at h
 exact h
theorem divN (a:Nat):(a:Int)/4294967296=((a/4294967296:Nat):Int):=by omega
theorem mulN (a b:Nat):(a:Int)*(b:Int)=((a*b:Nat):Int):=(Int.natCast_mul a b).symm
theorem addN (a b:Nat):(a:Int)+(b:Int)=((a+b:Nat):Int):=(Int.natCast_add a b).symm
theorem wrapN (a:Nat) (ha:a<18446744073709551616):IntKind.u64.wrap (a:Int)=(a:Int):=by rw [IntKind.wrap_u64];omega
theorem wrapM (a:Nat):IntKind.u64.wrap (a:Int)=((a % 18446744073709551616:Nat):Int):=by rw [IntKind.wrap_u64];omega
end M64
set_option maxHeartbeats 1000000 in
theorem mul64_nat (x y:Nat) (hx:x<18446744073709551616) (hy:y<18446744073709551616) (w:World) :
  Calls Tryz.prog 73 #[.int .u64 x,.int .u64 y] w fun e w'=>e = .returned (.tuple #[.int .u64 ((x*y/18446744073709551616:Nat):Int),.int .u64 ((x*y % 18446744073709551616:Nat):Int)])∧w'=w:=by
 obtain ⟨bd,bt,bw,hhi⟩:=Lib.mul64_hi x y hx hy
 have ba:=Lib.half_mul_le (a:=x/4294967296) (b:=y/4294967296) (by omega) (by omega)
 have bb:=Lib.half_mul_le (a:=x/4294967296) (b:=y % 4294967296) (by omega) (by omega)
 have bc:=Lib.half_mul_le (a:=x % 4294967296) (b:=y/4294967296) (by omega) (by omega)
 have ba':x/4294967296*(y/4294967296)<18446744073709551616:=by omega
 have bb':x/4294967296*(y % 4294967296)<18446744073709551616:=by omega
 have bc':x % 4294967296*(y/4294967296)<18446744073709551616:=by omega
 have bh1:x/4294967296*(y/4294967296)+(x/4294967296*(y % 4294967296)+x % 4294967296*(y % 4294967296)/4294967296)/4294967296<18446744073709551616:=by omega
 have bh:x/4294967296*(y/4294967296)+(x/4294967296*(y % 4294967296)+x % 4294967296*(y % 4294967296)/4294967296)/4294967296+((x/4294967296*(y % 4294967296)+x % 4294967296*(y % 4294967296)/4294967296) % 4294967296+x % 4294967296*(y/4294967296))/4294967296<18446744073709551616:=by omega
 go_enter Tryz.func73,Tryz.ntmps73
 go_wp2
 simp only [M64.maskN x hx,M64.maskN y hy,M64.divN,M64.mulN,M64.addN,M64.wrapN _ bd,M64.wrapN _ bb',M64.wrapN _ bt,M64.maskN _ bt,M64.wrapN _ bc',M64.wrapN _ bw,M64.wrapN _ ba',M64.wrapN _ bh1,M64.wrapN _ bh,M64.wrapM (x*y)]
 rw [hhi]
 go_ret2
 exact ⟨rfl,rfl⟩
theorem gMul_ok {X:Cx} (hX:X.Ok Tryz.prog):(X.pure 73 gMul).Ok Tryz.prog:=by
 refine gBody_ok hX Tryz.func73 (by kernel_rfl) (by kernel_rfl) ?_
 intro args ps v ha hg hp
 unfold gMul at hg
 split at hg
 ·rename_i x y
  simp only [Option.some.injEq,Prod.mk.injEq] at hg
  obtain ⟨rfl,rfl⟩:=hg
  obtain ⟨⟨x0,x1⟩,y0,y1⟩:=hp _ (List.mem_singleton.2 rfl)
  refine ⟨.inl rfl,fun w => ?_⟩
  obtain ⟨x,rfl⟩:=Int.eq_ofNat_of_zero_le x0
  obtain ⟨y,rfl⟩:=Int.eq_ofNat_of_zero_le y0
  refine (mul64_nat x y (by omega) (by omega) w).mono ?_
  rintro e w' ⟨rfl,rfl⟩
  exact ⟨rfl,Below.refl _ _⟩
 ·simp at hg
def X1:Cx:=X0.pure 73 gMul
theorem X1_ok:X1.Ok Tryz.prog:=gMul_ok X0_ok
theorem plus_run (a0 a1 a2 a3 b0 b1 b2 b3:Int):sfun Tryz.prog X1 60 Tryz.f88 (bodyOf Tryz.f88) [.agg #[.int .u64 a0,.int .u64 a1,.int .u64 a2,.int .u64 a3],.agg #[.int .u64 b0,.int .u64 b1,.int .u64 b2,.int .u64 b3]]=some ([Word a0∧Word b0∧Bit (0),
  Word a1∧Word b1∧Bit (((a0+b0+0)/18446744073709551616)),
  Word a2∧Word b2∧Bit (((a1+b1+((a0+b0+0)/18446744073709551616))/18446744073709551616)),
  Word a3∧Word b3∧Bit (((a2+b2+((a1+b1+((a0+b0+0)/18446744073709551616))/18446744073709551616))/18446744073709551616))],.tuple #[.agg #[.int .u64 ((a0+b0+0) % 18446744073709551616),.int .u64 ((a1+b1+((a0+b0+0)/18446744073709551616)) % 18446744073709551616),.int .u64 ((a2+b2+((a1+b1+((a0+b0+0)/18446744073709551616))/18446744073709551616)) % 18446744073709551616),.int .u64 ((a3+b3+((a2+b2+((a1+b1+((a0+b0+0)/18446744073709551616))/18446744073709551616))/18446744073709551616)) % 18446744073709551616)],.int .u64 ((a3+b3+((a2+b2+((a1+b1+((a0+b0+0)/18446744073709551616))/18446744073709551616))/18446744073709551616))/18446744073709551616)]):=by kernel_rfl
def gPlus:List Value→Option (List Prop × Value)
 | [A,B]=>some ([IsN A∧IsN B],.tuple #[nv ((num A+num B) % RN),.int .u64 (((num A+num B)/RN:Nat):Int)])
 | _=>none
theorem plus_num (a0 a1 a2 a3 b0 b1 b2 b3:Int) (x0:Word a0) (x1:Word a1) (x2:Word a2) (x3:Word a3) (y0:Word b0) (y1:Word b1) (y2:Word b2) (y3:Word b3) (a b:Nat)
  (ha:a0+a1*18446744073709551616+a2*340282366920938463463374607431768211456+a3*6277101735386680763835789423207666416102355444464034512896=(a:Int)) (hb:b0+b1*18446744073709551616+b2*340282366920938463463374607431768211456+b3*6277101735386680763835789423207666416102355444464034512896=(b:Int)) :
  (∀ p ∈ [Word a0∧Word b0∧Bit (0),
  Word a1∧Word b1∧Bit (((a0+b0+0)/18446744073709551616)),
  Word a2∧Word b2∧Bit (((a1+b1+((a0+b0+0)/18446744073709551616))/18446744073709551616)),
  Word a3∧Word b3∧Bit (((a2+b2+((a1+b1+((a0+b0+0)/18446744073709551616))/18446744073709551616))/18446744073709551616))],p)∧Value.tuple #[.agg #[.int .u64 ((a0+b0+0) % 18446744073709551616),.int .u64 ((a1+b1+((a0+b0+0)/18446744073709551616)) % 18446744073709551616),.int .u64 ((a2+b2+((a1+b1+((a0+b0+0)/18446744073709551616))/18446744073709551616)) % 18446744073709551616),.int .u64 ((a3+b3+((a2+b2+((a1+b1+((a0+b0+0)/18446744073709551616))/18446744073709551616))/18446744073709551616)) % 18446744073709551616)],.int .u64 ((a3+b3+((a2+b2+((a1+b1+((a0+b0+0)/18446744073709551616))/18446744073709551616))/18446744073709551616))/18446744073709551616)] = .tuple #[nv ((a+b) % RN),.int .u64 (((a+b)/RN:Nat):Int)]:=by
 have hx:=x0;have hx1:=x1;have hx2:=x2;have hx3:=x3;have hy:=y0;have hy1:=y1;have hy2:=y2;have hy3:=y3
 unfold Word at hx hx1 hx2 hx3 hy hy1 hy2 hy3
 obtain ⟨c0,hc0⟩ : ∃ c,c=(a0+b0+0)/18446744073709551616:=⟨_,rfl⟩
 rw [←hc0]
 obtain ⟨c1,hc1⟩ : ∃ c,c=(a1+b1+c0)/18446744073709551616:=⟨_,rfl⟩
 rw [←hc1]
 obtain ⟨c2,hc2⟩ : ∃ c,c=(a2+b2+c1)/18446744073709551616:=⟨_,rfl⟩
 rw [←hc2]
 obtain ⟨c3,hc3⟩ : ∃ c,c=(a3+b3+c2)/18446744073709551616:=⟨_,rfl⟩
 rw [←hc3]
 have k0:Bit c0:=by unfold Bit;omega
 have k1:Bit c1:=by unfold Bit at *;omega
 have k2:Bit c2:=by unfold Bit at *;omega
 have k3:Bit c3:=by unfold Bit at *;omega
 refine ⟨?_,?_⟩
 ·intro p hp
  simp only [List.mem_cons,List.not_mem_nil,or_false] at hp
  rcases hp with rfl | rfl | rfl | rfl
  ·exact ⟨x0,y0,bit0⟩
  ·exact ⟨x1,y1,k0⟩
  ·exact ⟨x2,y2,k1⟩
  ·exact ⟨x3,y3,k2⟩
 ·unfold Bit at *
  have hs:(a0+b0+0) % 18446744073709551616+(a1+b1+c0) % 18446744073709551616*18446744073709551616+(a2+b2+c1) % 18446744073709551616*340282366920938463463374607431768211456+(a3+b3+c2) % 18446744073709551616*6277101735386680763835789423207666416102355444464034512896+c3*115792089237316195423570985008687907853269984665640564039457584007913129639936=(a:Int)+b:=by omega
  rw [nv_mk (n:=(a+b) % RN) (by unfold Word;omega) (by unfold Word;omega) (by unfold Word;omega) (by unfold Word;omega) (by simp only [RN];omega)]
  have:c3=(((a+b)/RN:Nat):Int):=by simp only [RN];omega
  rw [this]
theorem gPlus_ok {X:Cx} (hX:X.Ok Tryz.prog):(X.pure 88 gPlus).Ok Tryz.prog:=by
 refine gBody_ok hX Tryz.func88 (by kernel_rfl) (by kernel_rfl) ?_
 intro args ps v ha hg hp
 unfold gPlus at hg
 split at hg
 ·rename_i A B
  simp only [Option.some.injEq,Prod.mk.injEq] at hg
  obtain ⟨rfl,rfl⟩:=hg
  obtain ⟨hA,hB⟩:=hp _ (List.mem_singleton.2 rfl)
  refine ⟨.inl rfl,fun w => ?_⟩
  have lA:=num_lt hA
  have lB:=num_lt hB
  rw [hA,hB,num_nv' lA,num_nv' lB]
  generalize num A=a at *
  generalize num B=b at *
  have k:=plus_num (lw a 0) (lw a 1) (lw a 2) (lw a 3) (lw b 0) (lw b 1) (lw b 2) (lw b 3) (lw_word _ _) (lw_word _ _) (lw_word _ _) (lw_word _ _) (lw_word _ _) (lw_word _ _) (lw_word _ _) (lw_word _ _) a b (by rw [words_sum,Nat.mod_eq_of_lt lA]) (by rw [words_sum,Nat.mod_eq_of_lt lB])
  have h:=sfun_calls X1_ok mixed Tryz.func88 (by kernel_rfl) (plus_run (lw a 0) (lw a 1) (lw a 2) (lw a 3) (lw b 0) (lw b 1) (lw b 2) (lw b 3)) k.1 rfl (.inl rfl) w
  rw [k.2] at h
  exact h
 ·simp at hg
theorem minus_run (a0 a1 a2 a3 b0 b1 b2 b3:Int):sfun Tryz.prog X1 60 Tryz.f50 (bodyOf Tryz.f50) [.agg #[.int .u64 a0,.int .u64 a1,.int .u64 a2,.int .u64 a3],.agg #[.int .u64 b0,.int .u64 b1,.int .u64 b2,.int .u64 b3]]=some ([Word a0∧Word b0∧Bit (0),
  Word a1∧Word b1∧Bit ((bor a0 (b0+0))),
  Word a2∧Word b2∧Bit ((bor a1 (b1+(bor a0 (b0+0))))),
  Word a3∧Word b3∧Bit ((bor a2 (b2+(bor a1 (b1+(bor a0 (b0+0)))))))],.tuple #[.agg #[.int .u64 ((a0 - b0 - 0) % 18446744073709551616),.int .u64 ((a1 - b1 - (bor a0 (b0+0))) % 18446744073709551616),.int .u64 ((a2 - b2 - (bor a1 (b1+(bor a0 (b0+0))))) % 18446744073709551616),.int .u64 ((a3 - b3 - (bor a2 (b2+(bor a1 (b1+(bor a0 (b0+0))))))) % 18446744073709551616)],.int .u64 (bor a3 (b3+(bor a2 (b2+(bor a1 (b1+(bor a0 (b0+0))))))))]):=by kernel_rfl
def gMinus:List Value→Option (List Prop × Value)
 | [A,B]=>some ([IsN A∧IsN B],.tuple #[nv ((num A+RN - num B) % RN),.int .u64 (if num A<num B then 1 else 0)])
 | _=>none
theorem minus_num (a0 a1 a2 a3 b0 b1 b2 b3:Int) (x0:Word a0) (x1:Word a1) (x2:Word a2) (x3:Word a3) (y0:Word b0) (y1:Word b1) (y2:Word b2) (y3:Word b3) (a b:Nat) (hla:a<RN) (hlb:b<RN)
  (ha:a0+a1*18446744073709551616+a2*340282366920938463463374607431768211456+a3*6277101735386680763835789423207666416102355444464034512896=(a:Int)) (hb:b0+b1*18446744073709551616+b2*340282366920938463463374607431768211456+b3*6277101735386680763835789423207666416102355444464034512896=(b:Int)) :
  (∀ p ∈ [Word a0∧Word b0∧Bit (0),
  Word a1∧Word b1∧Bit ((bor a0 (b0+0))),
  Word a2∧Word b2∧Bit ((bor a1 (b1+(bor a0 (b0+0))))),
  Word a3∧Word b3∧Bit ((bor a2 (b2+(bor a1 (b1+(bor a0 (b0+0)))))))],p)∧Value.tuple #[.agg #[.int .u64 ((a0 - b0 - 0) % 18446744073709551616),.int .u64 ((a1 - b1 - (bor a0 (b0+0))) % 18446744073709551616),.int .u64 ((a2 - b2 - (bor a1 (b1+(bor a0 (b0+0))))) % 18446744073709551616),.int .u64 ((a3 - b3 - (bor a2 (b2+(bor a1 (b1+(bor a0 (b0+0))))))) % 18446744073709551616)],.int .u64 (bor a3 (b3+(bor a2 (b2+(bor a1 (b1+(bor a0 (b0+0))))))))] = .tuple #[nv ((a+RN - b) % RN),.int .u64 (if a<b then 1 else 0)]:=by
 have hx:=x0;have hx1:=x1;have hx2:=x2;have hx3:=x3;have hy:=y0;have hy1:=y1;have hy2:=y2;have hy3:=y3
 unfold Word at hx hx1 hx2 hx3 hy hy1 hy2 hy3
 obtain ⟨c0,hc0⟩ : ∃ c,c=bor a0 (b0+0):=⟨_,rfl⟩
 rw [←hc0]
 obtain ⟨c1,hc1⟩ : ∃ c,c=bor a1 (b1+c0):=⟨_,rfl⟩
 rw [←hc1]
 obtain ⟨c2,hc2⟩ : ∃ c,c=bor a2 (b2+c1):=⟨_,rfl⟩
 rw [←hc2]
 obtain ⟨c3,hc3⟩ : ∃ c,c=bor a3 (b3+c2):=⟨_,rfl⟩
 rw [←hc3]
 have k0:Bit c0:=hc0 ▸ bor_bit _ _
 have k1:Bit c1:=hc1 ▸ bor_bit _ _
 have k2:Bit c2:=hc2 ▸ bor_bit _ _
 have k3:Bit c3:=hc3 ▸ bor_bit _ _
 refine ⟨?_,?_⟩
 ·intro p hp
  simp only [List.mem_cons,List.not_mem_nil,or_false] at hp
  rcases hp with rfl | rfl | rfl | rfl
  ·exact ⟨x0,y0,bit0⟩
  ·exact ⟨x1,y1,k0⟩
  ·exact ⟨x2,y2,k1⟩
  ·exact ⟨x3,y3,k2⟩
 ·unfold Bit at *
  have e0:(a0 - b0 - 0) % 18446744073709551616=a0 - b0+c0*18446744073709551616:=by unfold bor at hc0;split at hc0 <;> omega
  have e1:(a1 - b1 - c0) % 18446744073709551616=a1 - b1 - c0+c1*18446744073709551616:=by unfold bor at hc1;split at hc1 <;> omega
  have e2:(a2 - b2 - c1) % 18446744073709551616=a2 - b2 - c1+c2*18446744073709551616:=by unfold bor at hc2;split at hc2 <;> omega
  have e3:(a3 - b3 - c2) % 18446744073709551616=a3 - b3 - c2+c3*18446744073709551616:=by unfold bor at hc3;split at hc3 <;> omega
  have w0:Word ((a0 - b0 - 0) % 18446744073709551616):=by unfold Word;omega
  have w1:Word ((a1 - b1 - c0) % 18446744073709551616):=by unfold Word;omega
  have w2:Word ((a2 - b2 - c1) % 18446744073709551616):=by unfold Word;omega
  have w3:Word ((a3 - b3 - c2) % 18446744073709551616):=by unfold Word;omega
  have hs:(a0 - b0 - 0) % 18446744073709551616+(a1 - b1 - c0) % 18446744073709551616*18446744073709551616+(a2 - b2 - c1) % 18446744073709551616*340282366920938463463374607431768211456+(a3 - b3 - c2) % 18446744073709551616*6277101735386680763835789423207666416102355444464034512896=(a:Int) - b+c3*115792089237316195423570985008687907853269984665640564039457584007913129639936:=by omega
  clear hc0 hc1 hc2 hc3 e0 e1 e2 e3
  generalize (a0 - b0 - 0) % 18446744073709551616=s0 at *
  generalize (a1 - b1 - c0) % 18446744073709551616=s1 at *
  generalize (a2 - b2 - c1) % 18446744073709551616=s2 at *
  generalize (a3 - b3 - c2) % 18446744073709551616=s3 at *
  simp only [RN] at hla hlb
  have hsb:0≤s0+s1*18446744073709551616+s2*340282366920938463463374607431768211456+s3*6277101735386680763835789423207666416102355444464034512896∧s0+s1*18446744073709551616+s2*340282366920938463463374607431768211456+s3*6277101735386680763835789423207666416102355444464034512896<115792089237316195423570985008687907853269984665640564039457584007913129639936:=by unfold Word at *;omega
  rw [nv_mk (n:=(a+RN - b) % RN) w0 w1 w2 w3 (by simp only [RN];omega)]
  have:c3=(if a<b then 1 else 0):=by split <;> omega
  rw [this]
theorem gMinus_ok {X:Cx} (hX:X.Ok Tryz.prog):(X.pure 50 gMinus).Ok Tryz.prog:=by
 refine gBody_ok hX Tryz.func50 (by kernel_rfl) (by kernel_rfl) ?_
 intro args ps v ha hg hp
 unfold gMinus at hg
 split at hg
 ·rename_i A B
  simp only [Option.some.injEq,Prod.mk.injEq] at hg
  obtain ⟨rfl,rfl⟩:=hg
  obtain ⟨hA,hB⟩:=hp _ (List.mem_singleton.2 rfl)
  refine ⟨.inl rfl,fun w => ?_⟩
  have lA:=num_lt hA
  have lB:=num_lt hB
  rw [hA,hB,num_nv' lA,num_nv' lB]
  generalize num A=a at *
  generalize num B=b at *
  have k:=minus_num (lw a 0) (lw a 1) (lw a 2) (lw a 3) (lw b 0) (lw b 1) (lw b 2) (lw b 3) (lw_word _ _) (lw_word _ _) (lw_word _ _) (lw_word _ _) (lw_word _ _) (lw_word _ _) (lw_word _ _) (lw_word _ _) a b lA lB (by rw [words_sum,Nat.mod_eq_of_lt lA]) (by rw [words_sum,Nat.mod_eq_of_lt lB])
  have h:=sfun_calls X1_ok mixed Tryz.func50 (by kernel_rfl) (minus_run (lw a 0) (lw a 1) (lw a 2) (lw a 3) (lw b 0) (lw b 1) (lw b 2) (lw b 3)) k.1 rfl (.inl rfl) w
  rw [k.2] at h
  exact h
 ·simp at hg
theorem scale_run (n0 n1 n2 n3 x:Int):sfun Tryz.prog X1 60 Tryz.f87 (bodyOf Tryz.f87) [.agg #[.int .u64 n0,.int .u64 n1,.int .u64 n2,.int .u64 n3],.int .u64 x]=some ([Word n0∧Word x,
  Word (n0*x % 18446744073709551616)∧Word 0∧Bit 0,
  Word n1∧Word x,
  Word (n1*x % 18446744073709551616)∧Word (IntKind.u64.wrap ((n0*x/18446744073709551616)+((n0*x % 18446744073709551616)+0+0)/18446744073709551616))∧Bit 0,
  Word n2∧Word x,
  Word (n2*x % 18446744073709551616)∧Word (IntKind.u64.wrap ((n1*x/18446744073709551616)+((n1*x % 18446744073709551616)+(IntKind.u64.wrap ((n0*x/18446744073709551616)+((n0*x % 18446744073709551616)+0+0)/18446744073709551616))+0)/18446744073709551616))∧Bit 0,
  Word n3∧Word x,
  Word (n3*x % 18446744073709551616)∧Word (IntKind.u64.wrap ((n2*x/18446744073709551616)+((n2*x % 18446744073709551616)+(IntKind.u64.wrap ((n1*x/18446744073709551616)+((n1*x % 18446744073709551616)+(IntKind.u64.wrap ((n0*x/18446744073709551616)+((n0*x % 18446744073709551616)+0+0)/18446744073709551616))+0)/18446744073709551616))+0)/18446744073709551616))∧Bit 0],.tuple #[.agg #[.int .u64 (((n0*x % 18446744073709551616)+0+0) % 18446744073709551616),.int .u64 (((n1*x % 18446744073709551616)+(IntKind.u64.wrap ((n0*x/18446744073709551616)+((n0*x % 18446744073709551616)+0+0)/18446744073709551616))+0) % 18446744073709551616),.int .u64 (((n2*x % 18446744073709551616)+(IntKind.u64.wrap ((n1*x/18446744073709551616)+((n1*x % 18446744073709551616)+(IntKind.u64.wrap ((n0*x/18446744073709551616)+((n0*x % 18446744073709551616)+0+0)/18446744073709551616))+0)/18446744073709551616))+0) % 18446744073709551616),.int .u64 (((n3*x % 18446744073709551616)+(IntKind.u64.wrap ((n2*x/18446744073709551616)+((n2*x % 18446744073709551616)+(IntKind.u64.wrap ((n1*x/18446744073709551616)+((n1*x % 18446744073709551616)+(IntKind.u64.wrap ((n0*x/18446744073709551616)+((n0*x % 18446744073709551616)+0+0)/18446744073709551616))+0)/18446744073709551616))+0)/18446744073709551616))+0) % 18446744073709551616)],.int .u64 (IntKind.u64.wrap ((n3*x/18446744073709551616)+((n3*x % 18446744073709551616)+(IntKind.u64.wrap ((n2*x/18446744073709551616)+((n2*x % 18446744073709551616)+(IntKind.u64.wrap ((n1*x/18446744073709551616)+((n1*x % 18446744073709551616)+(IntKind.u64.wrap ((n0*x/18446744073709551616)+((n0*x % 18446744073709551616)+0+0)/18446744073709551616))+0)/18446744073709551616))+0)/18446744073709551616))+0)/18446744073709551616))]):=by kernel_rfl
def gScale:List Value→Option (List Prop × Value)
 | [A,.int .u64 x]=>some ([IsN A∧Word x],.tuple #[nv (num A*x.toNat % RN),.int .u64 ((num A*x.toNat/RN:Nat):Int)])
 | _=>none
theorem scale_step (n x o:Int) (hn:Word n) (hx:Word x) (ho:Word o) : ∃ s k,(n*x % 18446744073709551616+o+0) % 18446744073709551616=s∧IntKind.u64.wrap (n*x/18446744073709551616+(n*x % 18446744073709551616+o+0)/18446744073709551616)=k∧Word s∧Word k∧s+k*18446744073709551616=n*x+o∧Word (n*x % 18446744073709551616):=by
 obtain ⟨n0,n1⟩:=hn
 obtain ⟨x0,x1⟩:=hx
 obtain ⟨o0,o1⟩:=ho
 have hp:n*x≤18446744073709551615*18446744073709551615:=Int.mul_le_mul (by omega) (by omega) x0 (by omega)
 have hp0:0≤n*x:=Int.mul_nonneg n0 x0
 generalize n*x=y at *
 refine ⟨_,_,rfl,rfl,?_,?_,?_,?_⟩
 all_goals (try rw [IntKind.wrap_u64])
 all_goals (try unfold Word)
 all_goals omega
theorem scale_num (n0 n1 n2 n3 x:Int) (y0:Word n0) (y1:Word n1) (y2:Word n2) (y3:Word n3) (hx:Word x) (a:Nat)
  (ha:n0+n1*18446744073709551616+n2*340282366920938463463374607431768211456+n3*6277101735386680763835789423207666416102355444464034512896=(a:Int)) :
  (∀ p ∈ [Word n0∧Word x,
  Word (n0*x % 18446744073709551616)∧Word 0∧Bit 0,
  Word n1∧Word x,
  Word (n1*x % 18446744073709551616)∧Word (IntKind.u64.wrap ((n0*x/18446744073709551616)+((n0*x % 18446744073709551616)+0+0)/18446744073709551616))∧Bit 0,
  Word n2∧Word x,
  Word (n2*x % 18446744073709551616)∧Word (IntKind.u64.wrap ((n1*x/18446744073709551616)+((n1*x % 18446744073709551616)+(IntKind.u64.wrap ((n0*x/18446744073709551616)+((n0*x % 18446744073709551616)+0+0)/18446744073709551616))+0)/18446744073709551616))∧Bit 0,
  Word n3∧Word x,
  Word (n3*x % 18446744073709551616)∧Word (IntKind.u64.wrap ((n2*x/18446744073709551616)+((n2*x % 18446744073709551616)+(IntKind.u64.wrap ((n1*x/18446744073709551616)+((n1*x % 18446744073709551616)+(IntKind.u64.wrap ((n0*x/18446744073709551616)+((n0*x % 18446744073709551616)+0+0)/18446744073709551616))+0)/18446744073709551616))+0)/18446744073709551616))∧Bit 0],p)∧Value.tuple #[.agg #[.int .u64 (((n0*x % 18446744073709551616)+0+0) % 18446744073709551616),.int .u64 (((n1*x % 18446744073709551616)+(IntKind.u64.wrap ((n0*x/18446744073709551616)+((n0*x % 18446744073709551616)+0+0)/18446744073709551616))+0) % 18446744073709551616),.int .u64 (((n2*x % 18446744073709551616)+(IntKind.u64.wrap ((n1*x/18446744073709551616)+((n1*x % 18446744073709551616)+(IntKind.u64.wrap ((n0*x/18446744073709551616)+((n0*x % 18446744073709551616)+0+0)/18446744073709551616))+0)/18446744073709551616))+0) % 18446744073709551616),.int .u64 (((n3*x % 18446744073709551616)+(IntKind.u64.wrap ((n2*x/18446744073709551616)+((n2*x % 18446744073709551616)+(IntKind.u64.wrap ((n1*x/18446744073709551616)+((n1*x % 18446744073709551616)+(IntKind.u64.wrap ((n0*x/18446744073709551616)+((n0*x % 18446744073709551616)+0+0)/18446744073709551616))+0)/18446744073709551616))+0)/18446744073709551616))+0) % 18446744073709551616)],.int .u64 (IntKind.u64.wrap ((n3*x/18446744073709551616)+((n3*x % 18446744073709551616)+(IntKind.u64.wrap ((n2*x/18446744073709551616)+((n2*x % 18446744073709551616)+(IntKind.u64.wrap ((n1*x/18446744073709551616)+((n1*x % 18446744073709551616)+(IntKind.u64.wrap ((n0*x/18446744073709551616)+((n0*x % 18446744073709551616)+0+0)/18446744073709551616))+0)/18446744073709551616))+0)/18446744073709551616))+0)/18446744073709551616))] = .tuple #[nv (a*x.toNat % RN),.int .u64 ((a*x.toNat/RN:Nat):Int)]:=by
 obtain ⟨s0,k0,e0,f0,g0,h0,i0,j0⟩:=scale_step n0 x 0 y0 hx word0
 rw [e0,f0]
 obtain ⟨s1,k1,e1,f1,g1,h1,i1,j1⟩:=scale_step n1 x k0 y1 hx h0
 rw [e1,f1]
 obtain ⟨s2,k2,e2,f2,g2,h2,i2,j2⟩:=scale_step n2 x k1 y2 hx h1
 rw [e2,f2]
 obtain ⟨s3,k3,e3,f3,g3,h3,i3,j3⟩:=scale_step n3 x k2 y3 hx h2
 rw [e3,f3]
 refine ⟨?_,?_⟩
 ·intro p hp
  simp only [List.mem_cons,List.not_mem_nil,or_false] at hp
  rcases hp with rfl | rfl | rfl | rfl | rfl | rfl | rfl | rfl
  ·exact ⟨y0,hx⟩
  ·exact ⟨j0,word0,bit0⟩
  ·exact ⟨y1,hx⟩
  ·exact ⟨j1,h0,bit0⟩
  ·exact ⟨y2,hx⟩
  ·exact ⟨j2,h1,bit0⟩
  ·exact ⟨y3,hx⟩
  ·exact ⟨j3,h2,bit0⟩
 ·obtain ⟨x,rfl⟩:=Int.eq_ofNat_of_zero_le hx.1
  have hv:s0+s1*18446744073709551616+s2*340282366920938463463374607431768211456+s3*6277101735386680763835789423207666416102355444464034512896+k3*115792089237316195423570985008687907853269984665640564039457584007913129639936=((a*x:Nat):Int):=by
   rw [Int.natCast_mul,←ha,Int.add_mul (n0+_+_),Int.add_mul (n0+_),Int.add_mul n0,Int.mul_right_comm n1,Int.mul_right_comm n2,Int.mul_right_comm n3]
   omega
  rw [Int.toNat_natCast]
  generalize a*x=q at *
  unfold Word at *
  have hsb:0≤s0+s1*18446744073709551616+s2*340282366920938463463374607431768211456+s3*6277101735386680763835789423207666416102355444464034512896∧s0+s1*18446744073709551616+s2*340282366920938463463374607431768211456+s3*6277101735386680763835789423207666416102355444464034512896<115792089237316195423570985008687907853269984665640564039457584007913129639936:=by omega
  rw [nv_mk (n:=q % RN) g0 g1 g2 g3 (by simp only [RN];omega)]
  have:k3=((q/RN:Nat):Int):=by simp only [RN];omega
  rw [this]
theorem gScale_ok {X:Cx} (hX:X.Ok Tryz.prog):(X.pure 87 gScale).Ok Tryz.prog:=by
 refine gBody_ok hX Tryz.func87 (by kernel_rfl) (by kernel_rfl) ?_
 intro args ps v ha hg hp
 unfold gScale at hg
 split at hg
 ·rename_i A x
  simp only [Option.some.injEq,Prod.mk.injEq] at hg
  obtain ⟨rfl,rfl⟩:=hg
  obtain ⟨hA,hx⟩:=hp _ (List.mem_singleton.2 rfl)
  refine ⟨.inl rfl,fun w => ?_⟩
  have lA:=num_lt hA
  rw [hA,num_nv' lA]
  generalize num A=a at *
  have k:=scale_num (lw a 0) (lw a 1) (lw a 2) (lw a 3) x (lw_word _ _) (lw_word _ _) (lw_word _ _) (lw_word _ _) hx a (by rw [words_sum,Nat.mod_eq_of_lt lA])
  have h:=sfun_calls X1_ok mixed Tryz.func87 (by kernel_rfl) (scale_run (lw a 0) (lw a 1) (lw a 2) (lw a 3) x) k.1 rfl (.inl rfl) w
  rw [k.2] at h
  exact h
 ·simp at hg
abbrev TN:Nat:=27742317777372353535851937790883648493
abbrev LN:Nat:=7237005577332262213973186563042994240857116359379907606001950938285454250989
def gTail:List Value→Option (List Prop × Value)
 | []=>some ([],nv TN)
 | _=>none
def gOrder:List Value→Option (List Prop × Value)
 | []=>some ([],nv LN)
 | _=>none
theorem gTail_ok {X:Cx} (hX:X.Ok Tryz.prog):(X.pure 94 gTail).Ok Tryz.prog:=by
 refine gBody_ok hX Tryz.func94 (by kernel_rfl) (by kernel_rfl) ?_
 intro args ps v ha hg hp
 unfold gTail at hg
 split at hg
 ·simp only [Option.some.injEq,Prod.mk.injEq] at hg
  obtain ⟨rfl,rfl⟩:=hg
  have hr:sfun Tryz.prog X1 60 Tryz.f94 (bodyOf Tryz.f94) []=some ([],nv TN):=by kernel_rfl
  exact ⟨.inl rfl,sfun_calls X1_ok mixed Tryz.func94 (by kernel_rfl) hr (by simp) rfl (.inl rfl)⟩
 ·simp at hg
def X2:Cx:=(((X1.pure 88 gPlus).pure 50 gMinus).pure 87 gScale).pure 94 gTail
theorem X2_ok:X2.Ok Tryz.prog:=gTail_ok (gScale_ok (gMinus_ok (gPlus_ok X1_ok)))
theorem gOrder_ok {X:Cx} (hX:X.Ok Tryz.prog):(X.pure 51 gOrder).Ok Tryz.prog:=by
 refine gBody_ok hX Tryz.func51 (by kernel_rfl) (by kernel_rfl) ?_
 intro args ps v ha hg hp
 unfold gOrder at hg
 split at hg
 ·simp only [Option.some.injEq,Prod.mk.injEq] at hg
  obtain ⟨rfl,rfl⟩:=hg
  have hr:sfun Tryz.prog X2 60 Tryz.f51 (bodyOf Tryz.f51) []=some ([],nv LN):=by kernel_rfl
  exact ⟨.inl rfl,sfun_calls X2_ok mixed Tryz.func51 (by kernel_rfl) hr (by simp) rfl (.inl rfl)⟩
 ·simp at hg
def X3:Cx:=X2.pure 51 gOrder
theorem X3_ok:X3.Ok Tryz.prog:=gOrder_ok X2_ok
open Go Go.RowKit
def blm (m n:Nat):List Value:=(List.range m).map fun i=>Value.int .u8 (by8 n i)
theorem bsum_range (n:Nat) : ∀ (m o:Nat),bsum ((List.range' o m).map fun i=>Value.int .u8 (by8 n i))=n/256 ^ o % 256 ^ m
 | 0,o=>by simp [bsum,Nat.mod_one]
 | m+1,o=>by
  rw [List.range'_succ,List.map_cons,bsum,bsum_range n m (o+1)]
  simp only [by8,Int.toNat_natCast]
  rw [Nat.pow_succ 256 o,←Nat.div_div_eq_div_mul,Nat.pow_succ 256 m,Nat.mul_comm (256 ^ m) 256,Nat.mod_mul]
theorem bsum_blm (m n:Nat):bsum (blm m n)=n % 256 ^ m:=by
 unfold blm;rw [List.range_eq_range',bsum_range,Nat.pow_zero,Nat.div_one]
theorem by8_mod (n m i:Nat) (h:i<m):by8 (n % 256 ^ m) i=by8 n i:=by
 unfold by8
 congr 1
 have:256 ^ m=256 ^ i*(256*256 ^ (m - i - 1)):=by rw [←Nat.pow_succ',←Nat.pow_add];congr 1;omega
 rw [this,Nat.mod_mul_right_div_self,Nat.mod_mul_right_mod]
theorem blm_mod (m n:Nat):blm m (n % 256 ^ m)=blm m n:=by
 unfold blm
 exact List.map_congr_left fun i hi=>by rw [by8_mod n m i (by simpa using hi)]
theorem rn_pow:RN=256 ^ 32:=by decide
theorem bnum_bv (n:Nat):bnum (bv n)=n % RN:=by rw [rn_pow];exact bsum_blm 32 n
theorem bv_mod (n:Nat):bv (n % RN)=bv n:=by
 rw [rn_pow];unfold bv;exact congrArg (fun l:List Value=>Value.agg l.toArray) (blm_mod 32 n)
theorem isB_bv (n:Nat):IsB (bv n):=by unfold IsB;rw [bnum_bv,bv_mod]
theorem bnum_lt {A:Value} (h:IsB A):bnum A<RN:=by
 have:bnum A=bnum A % RN:=by
  have e:=congrArg bnum h
  rw [bnum_bv] at e;exact e
 rw [this];exact Nat.mod_lt _ (by decide)
theorem bnum_bv' {n:Nat} (h:n<RN):bnum (bv n)=n:=by rw [bnum_bv,Nat.mod_eq_of_lt h]
theorem flat_bv (n:Nat):flat (bv n)=true:=by
 show ((bl n).toArray.toList.all flat1)=true
 simp [bl,flat1]
theorem by8_word (n k j:Nat) (hj:j<8):n/256 ^ (8*k+j) % 256=n/18446744073709551616 ^ k % 18446744073709551616/256 ^ j % 256:=by
 have e:(256:Nat) ^ (8*k+j)=18446744073709551616 ^ k*256 ^ j:=by rw [Nat.pow_add,Nat.pow_mul]
 rw [e,←Nat.div_div_eq_div_mul]
 have e2:(18446744073709551616:Nat)=256 ^ j*(256*256 ^ (7 - j)):=by
  rw [←Nat.pow_succ',←Nat.pow_add,show j+(7 - j).succ=8 by omega]
 generalize n/18446744073709551616 ^ k=x
 rw [e2,Nat.mod_mul_right_div_self,Nat.mod_mul_right_mod]
theorem or_add (x y k:Nat) (hx:x<2 ^ k) (hy:y*2 ^ k<18446744073709551616) (hx2:x<18446744073709551616) :
  bits .or .u64 (x:Int) ((y*2 ^ k:Nat):Int)=((x+y*2 ^ k:Nat):Int):=by
 rw [bits_or_u64_nat x (y*2 ^ k) hx2 hy]
 congr 1
 rw [←Nat.shiftLeft_eq,Nat.or_comm,←Nat.shiftLeft_add_eq_or_of_lt hx,Nat.add_comm]
def orf (n k:Nat):Nat→Int
 | 0=>0
 | j+1=>bits .or .u64 (orf n k j) (IntKind.u64.wrap (IntKind.u64.wrap (by8 n (8*k+j))*2 ^ (8*j)))
theorem orf_eq (n k:Nat) : ∀ j,j≤8→orf n k j=((n/18446744073709551616 ^ k % 18446744073709551616 % 256 ^ j:Nat):Int)
 | 0,_=>by simp [orf,Nat.mod_one]
 | j+1,h=>by
  have hb:by8 n (8*k+j)=((n/18446744073709551616 ^ k % 18446744073709551616/256 ^ j % 256:Nat):Int):=by
   unfold by8;rw [by8_word n k j (by omega)]
  rw [orf,orf_eq n k j (by omega),hb]
  generalize n/18446744073709551616 ^ k % 18446744073709551616=x
  have e:(2:Nat) ^ (8*j)=256 ^ j:=by rw [Nat.pow_mul]
  have hlt:256 ^ j*256≤18446744073709551616:=by
   have:(256:Nat) ^ j*256≤256 ^ 8:=by rw [←Nat.pow_succ];exact Nat.pow_le_pow_right (by omega) h
   simpa using this
  have hb2:x/256 ^ j % 256<256:=Nat.mod_lt _ (by omega)
  have hy:x/256 ^ j % 256*2 ^ (8*j)<18446744073709551616:=by
   rw [e]
   calc x/256 ^ j % 256*256 ^ j<256*256 ^ j:=Nat.mul_lt_mul_of_pos_right hb2 (Nat.pow_pos (by omega))
    _≤18446744073709551616:=by rw [Nat.mul_comm];exact hlt
  have w1:IntKind.u64.wrap ((x/256 ^ j % 256:Nat):Int)=((x/256 ^ j % 256:Nat):Int):=by rw [IntKind.wrap_u64];omega
  have w2:IntKind.u64.wrap (((x/256 ^ j % 256:Nat):Int)*2 ^ (8*j))=((x/256 ^ j % 256*2 ^ (8*j):Nat):Int):=by
   have:(((x/256 ^ j % 256:Nat):Int)*2 ^ (8*j))=((x/256 ^ j % 256*2 ^ (8*j):Nat):Int):=by
    rw [Int.natCast_mul,Int.natCast_pow];rfl
   rw [this,IntKind.wrap_u64];omega
  have hm:x % 256 ^ j<256 ^ j:=Nat.mod_lt _ (Nat.pow_pos (by omega))
  rw [w1,w2,or_add _ _ _ (by rw [e];exact hm) hy (by omega),e]
  congr 1
  rw [Nat.pow_succ,Nat.mod_mul,Nat.mul_comm (x/256 ^ j % 256)]
theorem orf_lw (n k:Nat):orf n k 8=lw n k:=by
 rw [orf_eq n k 8 (Nat.le_refl _)]
 unfold lw
 congr 1
 exact Nat.mod_mod _ _
theorem load_run1 (n:Nat):sfun Tryz.prog X3 200 Tryz.f41 (bodyOf Tryz.f41) [bv n]=some ([],.agg #[.int .u64 (orf n 0 8),.int .u64 (orf n 1 8),.int .u64 (orf n 2 8),.int .u64 (orf n 3 8)]):=by kernel_rfl
def gLoad:List Value→Option (List Prop × Value)
 | [A]=>some ([IsB A],nv (bnum A))
 | _=>none
theorem gLoad_ok {X:Cx} (hX:X.Ok Tryz.prog):(X.pure 41 gLoad).Ok Tryz.prog:=by
 refine gBody_ok hX Tryz.func41 (by kernel_rfl) (by kernel_rfl) ?_
 intro args ps v ha hg hp
 unfold gLoad at hg
 split at hg
 ·rename_i A
  simp only [Option.some.injEq,Prod.mk.injEq] at hg
  obtain ⟨rfl,rfl⟩:=hg
  have hA:=hp _ (List.mem_singleton.2 rfl)
  refine ⟨.inl rfl,fun w => ?_⟩
  have lA:=bnum_lt hA
  rw [hA,bnum_bv' lA]
  generalize bnum A=a at *
  have h:=sfun_calls X3_ok mixed Tryz.func41 (by kernel_rfl) (load_run1 a) (by simp) (by simp [flat_bv]) (.inl rfl) w
  rw [orf_lw,orf_lw,orf_lw,orf_lw] at h
  exact h
 ·simp at hg
theorem store_run1 (n:Nat):sfun Tryz.prog X3 200 Tryz.f38 (bodyOf Tryz.f38) [nv n]=some ([],.agg ((List.range 32).map fun i => .int .u8 (IntKind.u8.wrap (Int.fdiv (lw n (i/8)) (2 ^ (8*(i % 8)))))).toArray):=by kernel_rfl
theorem byte_of (n i:Nat):IntKind.u8.wrap (Int.fdiv (lw n (i/8)) (2 ^ (8*(i % 8))))=by8 n i:=by
 have hb:=by8_word n (i/8) (i % 8) (Nat.mod_lt _ (by omega))
 rw [Nat.div_add_mod] at hb
 unfold by8 lw
 rw [hb]
 have e:(2:Int) ^ (8*(i % 8))=((256 ^ (i % 8):Nat):Int):=by
  rw [Int.natCast_pow,Int.pow_mul];rfl
 rw [e,Int.fdiv_eq_ediv_of_nonneg _ (Int.natCast_nonneg _),←Int.natCast_ediv,IntKind.wrap_u8]
 omega
def gStore:List Value→Option (List Prop × Value)
 | [A]=>some ([IsN A],bv (num A))
 | _=>none
theorem gStore_ok {X:Cx} (hX:X.Ok Tryz.prog):(X.pure 38 gStore).Ok Tryz.prog:=by
 refine gBody_ok hX Tryz.func38 (by kernel_rfl) (by kernel_rfl) ?_
 intro args ps v ha hg hp
 unfold gStore at hg
 split at hg
 ·rename_i A
  simp only [Option.some.injEq,Prod.mk.injEq] at hg
  obtain ⟨rfl,rfl⟩:=hg
  have hA:=hp _ (List.mem_singleton.2 rfl)
  refine ⟨.inl (flat_bv _),fun w => ?_⟩
  have lA:=num_lt hA
  rw [hA,num_nv' lA]
  generalize num A=a at *
  have h:=sfun_calls X3_ok mixed Tryz.func38 (by kernel_rfl) (store_run1 a) (by simp) rfl (.inl (by simp [flat,flat2,flat1])) w
  have e:((List.range 32).map fun i=>Value.int .u8 (IntKind.u8.wrap (Int.fdiv (lw a (i/8)) (2 ^ (8*(i % 8))))))=bl a:=List.map_congr_left fun i _=>by rw [byte_of]
  rw [e] at h
  exact h
 ·simp at hg
def X4:Cx:=(X3.pure 41 gLoad).pure 38 gStore
theorem X4_ok:X4.Ok Tryz.prog:=gStore_ok (gLoad_ok X3_ok)
open Go Go.RowKit
def leftV (r:Nat) (d:Int):Value := .agg #[.int .u64 (bits .or .u64 (IntKind.u64.wrap (lw r 0*2 ^ 32)) d),.int .u64 (bits .or .u64 (IntKind.u64.wrap (lw r 1*2 ^ 32)) (Int.fdiv (lw r 0) (2 ^ 32))),.int .u64 (bits .or .u64 (IntKind.u64.wrap (lw r 2*2 ^ 32)) (Int.fdiv (lw r 1) (2 ^ 32))),.int .u64 (bits .or .u64 (IntKind.u64.wrap (bits .and .u64 (lw r 3) 268435455*2 ^ 32)) (Int.fdiv (lw r 2) (2 ^ 32)))]
def overI (r:Nat):Int:=Int.fdiv (lw r 3) (2 ^ 28)
def worthV (r:Nat):Value:=nv (num (nv TN)*(overI r).toNat % RN)
def diffV (r:Nat) (d:Int):Value:=nv ((num (leftV r d)+RN - num (worthV r)) % RN)
def digObs (r:Nat) (d:Int):List Prop:=[IsN (nv TN)∧Word (overI r),IsN (leftV r d)∧IsN (worthV r)]
theorem dig_run1 (r:Nat) (d:Int):sfun Tryz.prog (X4.tell [(57,true)]) 60 Tryz.f115 (bodyOf Tryz.f115) [nv r,.int .u64 d] =
  some (digObs r d ++ [((if num (leftV r d)<num (worthV r) then 1 else 0:Int) == 1)=true,IsN (diffV r d)∧IsN (nv LN)],nv ((num (diffV r d)+num (nv LN)) % RN)):=by kernel_rfl
theorem dig_run0 (r:Nat) (d:Int):sfun Tryz.prog (X4.tell [(57,false)]) 60 Tryz.f115 (bodyOf Tryz.f115) [nv r,.int .u64 d] =
  some (digObs r d ++ [((if num (leftV r d)<num (worthV r) then 1 else 0:Int) == 1)=false],diffV r d):=by kernel_rfl
theorem shl_or (x y:Nat) (hx:x<18446744073709551616) (hy:y<4294967296):bits .or .u64 (IntKind.u64.wrap ((x:Int)*2 ^ 32)) (y:Int)=((x % 4294967296*4294967296+y:Nat):Int):=by
 have e:IntKind.u64.wrap ((x:Int)*2 ^ 32)=((x % 4294967296*2 ^ 32:Nat):Int):=by rw [IntKind.wrap_u64];omega
 rw [e,bits_or_u64_nat _ _ (by omega) (by omega)]
 congr 1
 rw [←Nat.shiftLeft_eq,←Nat.shiftLeft_add_eq_or_of_lt (i:=32) (by omega),Nat.shiftLeft_eq]
theorem and28 (x:Nat) (hx:x<18446744073709551616):bits .and .u64 (x:Int) 268435455=((x % 268435456:Nat):Int):=by
 have h:=bits_and_u64_nat x 268435455 hx (by omega)
 have e:x &&& 268435455=x % 268435456:=Nat.and_two_pow_sub_one_eq_mod x 28
 rw [e] at h
 exact h
theorem fdiv_nat (x k:Nat):Int.fdiv (x:Int) (2 ^ k)=((x/2 ^ k:Nat):Int):=by
 have e:(2:Int) ^ k=((2 ^ k:Nat):Int):=by rw [Int.natCast_pow];rfl
 rw [e,Int.fdiv_eq_ediv_of_nonneg _ (Int.natCast_nonneg _),←Int.natCast_ediv]
theorem leftV_eq (r d:Nat) (hr:r<RN) (hd:d<4294967296):leftV r d=nv (r % 1684996666696914987166688442938726917102321526408785780068975640576*4294967296+d):=by
 have hs:=words_sum r
 rw [Nat.mod_eq_of_lt hr] at hs
 have w0:=lw_word r 0;have w1:=lw_word r 1;have w2:=lw_word r 2;have w3:=lw_word r 3
 unfold leftV
 generalize lw r 0=x0 at *
 generalize lw r 1=x1 at *
 generalize lw r 2=x2 at *
 generalize lw r 3=x3 at *
 obtain ⟨a0,b0⟩:=w0;obtain ⟨a1,b1⟩:=w1;obtain ⟨a2,b2⟩:=w2;obtain ⟨a3,b3⟩:=w3
 obtain ⟨x0,rfl⟩:=Int.eq_ofNat_of_zero_le a0
 obtain ⟨x1,rfl⟩:=Int.eq_ofNat_of_zero_le a1
 obtain ⟨x2,rfl⟩:=Int.eq_ofNat_of_zero_le a2
 obtain ⟨x3,rfl⟩:=Int.eq_ofNat_of_zero_le a3
 rw [and28 x3 (by omega),fdiv_nat,fdiv_nat,fdiv_nat]
 simp only [show (2:Nat) ^ 32=4294967296 from rfl]
 rw [shl_or x0 d (by omega) hd,shl_or x1 _ (by omega) (by omega),shl_or x2 _ (by omega) (by omega),shl_or (x3 % 268435456) _ (by omega) (by omega)]
 refine nv_mk ?_ ?_ ?_ ?_ ?_
 ·unfold Word;omega
 ·unfold Word;omega
 ·unfold Word;omega
 ·unfold Word;omega
 ·have hr2:r % 1684996666696914987166688442938726917102321526408785780068975640576=x0+x1*18446744073709551616+x2*340282366920938463463374607431768211456+x3 % 268435456*6277101735386680763835789423207666416102355444464034512896:=by omega
  rw [hr2]
  omega
theorem overI_eq (r:Nat) (hr:r<RN):overI r=((r/1684996666696914987166688442938726917102321526408785780068975640576:Nat):Int):=by
 have hs:=words_sum r
 rw [Nat.mod_eq_of_lt hr] at hs
 have w0:=lw_word r 0;have w1:=lw_word r 1;have w2:=lw_word r 2;have w3:=lw_word r 3
 unfold overI
 generalize lw r 0=x0 at *
 generalize lw r 1=x1 at *
 generalize lw r 2=x2 at *
 generalize lw r 3=x3 at *
 obtain ⟨a0,b0⟩:=w0;obtain ⟨a1,b1⟩:=w1;obtain ⟨a2,b2⟩:=w2;obtain ⟨a3,b3⟩:=w3
 obtain ⟨x3,rfl⟩:=Int.eq_ofNat_of_zero_le a3
 rw [fdiv_nat]
 simp only [show (2:Nat) ^ 28=268435456 from rfl]
 omega
theorem lt_LN_RN {x:Nat} (h:x<LN):x<RN:=by simp only [LN,RN] at *;omega
theorem dig_num (r d:Nat) (hr:r<LN) (hd:d<4294967296) :
  num (leftV r d)=r % 1684996666696914987166688442938726917102321526408785780068975640576*4294967296+d∧num (worthV r)=TN*(r/1684996666696914987166688442938726917102321526408785780068975640576)∧(∀ p ∈ digObs r d,p) ∧
  (num (leftV r d)<num (worthV r)→(num (leftV r d)+RN - num (worthV r)) % RN+LN - RN=(r*4294967296+d) % LN∧RN≤(num (leftV r d)+RN - num (worthV r)) % RN+LN) ∧
  (¬ num (leftV r d)<num (worthV r)→(num (leftV r d)+RN - num (worthV r)) % RN=(r*4294967296+d) % LN):=by
 have h1:=leftV_eq r d (lt_LN_RN hr) hd
 have h2:=overI_eq r (lt_LN_RN hr)
 have h3:worthV r=nv (TN*(r/1684996666696914987166688442938726917102321526408785780068975640576)):=by
  unfold worthV
  rw [h2,num_nv' (by decide),Int.toNat_natCast,nv_mod]
 have e1:num (leftV r d)=r % 1684996666696914987166688442938726917102321526408785780068975640576*4294967296+d:=by rw [h1,num_nv' (by simp only [RN];omega)]
 have e2:num (worthV r)=TN*(r/1684996666696914987166688442938726917102321526408785780068975640576):=by rw [h3,num_nv' (by simp only [RN,LN,TN] at *;omega)]
 refine ⟨e1,e2,?_,?_,?_⟩
 ·intro p hp
  simp only [digObs,List.mem_cons,List.not_mem_nil,or_false] at hp
  rcases hp with rfl | rfl
  ·exact ⟨isN_nv _,by rw [h2];simp only [LN] at hr;unfold Word;omega⟩
  ·exact ⟨by rw [h1];exact isN_nv _,isN_nv _⟩
 ·rw [e1,e2]
  intro h
  simp only [LN,RN,TN] at *
  omega
 ·rw [e1,e2]
  intro h
  simp only [LN,RN,TN] at *
  omega
theorem sub_once (D:Nat) (h:D<RN) (h2:RN≤D+LN):(D+LN) % RN=D+LN - RN:=by
 simp only [LN,RN] at *
 omega
def gDig:List Value→Option (List Prop × Value)
 | [A,.int .u64 d]=>some ([IsN A∧num A<LN∧0≤d∧d<4294967296],nv ((num A*4294967296+d.toNat) % LN))
 | _=>none
theorem gDig_ok {X:Cx} (hX:X.Ok Tryz.prog):(X.pure 115 gDig).Ok Tryz.prog:=by
 refine gBody_ok hX Tryz.func115 (by kernel_rfl) (by kernel_rfl) ?_
 intro args ps v ha hg hp
 unfold gDig at hg
 split at hg
 ·rename_i A d
  simp only [Option.some.injEq,Prod.mk.injEq] at hg
  obtain ⟨rfl,rfl⟩:=hg
  obtain ⟨hA,hl,d0,d1⟩:=hp _ (List.mem_singleton.2 rfl)
  refine ⟨.inl rfl,fun w => ?_⟩
  rw [hA,num_nv' (num_lt hA)]
  clear hp ha hA
  generalize num A=r at *
  obtain ⟨d,rfl⟩:=Int.eq_ofNat_of_zero_le d0
  rw [Int.toNat_natCast]
  obtain ⟨e1,e2,ho,k1,k0⟩:=dig_num r d hl (by omega)
  by_cases hlt:num (leftV r d)<num (worthV r)
  ·obtain ⟨k1,k2⟩:=k1 hlt
   have h:=sfun_calls (Cx.tell_ok X4_ok _) mixed Tryz.func115 (by kernel_rfl) (dig_run1 r d) (by
    intro p hp
    rcases List.mem_append.1 hp with hp | hp
    ·exact ho p hp
    ·simp only [List.mem_cons,List.not_mem_nil,or_false] at hp
     rcases hp with rfl | rfl
     ·rw [if_pos hlt];rfl
     ·exact ⟨isN_nv _,isN_nv _⟩) rfl (.inl rfl) w
   have e:nv ((num (diffV r d)+num (nv LN)) % RN)=nv ((r*4294967296+d) % LN):=by
    rw [←k1]
    unfold diffV
    rw [num_nv,num_nv' (n:=LN) (by decide),Nat.mod_mod]
    exact congrArg nv (sub_once _ (Nat.mod_lt _ (by decide)) k2)
   rw [e] at h
   exact h
  ·have k0:=k0 hlt
   have h:=sfun_calls (Cx.tell_ok X4_ok _) mixed Tryz.func115 (by kernel_rfl) (dig_run0 r d) (by
    intro p hp
    rcases List.mem_append.1 hp with hp | hp
    ·exact ho p hp
    ·simp only [List.mem_cons,List.not_mem_nil,or_false] at hp
     rcases hp with rfl
     rw [if_neg hlt];rfl) rfl (.inl rfl) w
   unfold diffV at h
   rw [k0] at h
   exact h
 ·simp at hg
def X5:Cx:=X4.pure 115 gDig
theorem X5_ok:X5.Ok Tryz.prog:=gDig_ok X4_ok
end Go.Proofs.YtlihbglpdkeppaaGreatDoor.Sc
namespace Go.Proofs.YtlihbglpdkeppaaGreatDoor.Sc
open Go Go.RowKit
open Go Go.RowKit
def dg (A:Value) (x:Int):Value:=nv ((num A*4294967296+x.toNat) % LN)
def dgO (A:Value) (x:Int):Prop:=IsN A∧num A<LN∧0≤x∧x<4294967296
def hiI (x:Int):Int:=Int.fdiv x (2 ^ 32)
def loI (x:Int):Int:=bits .and .u64 x 4294967295
theorem rest_run (r n:Nat):sfun Tryz.prog X5 60 Tryz.f86 (bodyOf Tryz.f86) [nv r,nv n]=some ([dgO (nv r) (hiI (lw n 3)),dgO (dg (nv r) (hiI (lw n 3))) (loI (lw n 3)),dgO (dg (dg (nv r) (hiI (lw n 3))) (loI (lw n 3))) (hiI (lw n 2)),dgO (dg (dg (dg (nv r) (hiI (lw n 3))) (loI (lw n 3))) (hiI (lw n 2))) (loI (lw n 2)),dgO (dg (dg (dg (dg (nv r) (hiI (lw n 3))) (loI (lw n 3))) (hiI (lw n 2))) (loI (lw n 2))) (hiI (lw n 1)),dgO (dg (dg (dg (dg (dg (nv r) (hiI (lw n 3))) (loI (lw n 3))) (hiI (lw n 2))) (loI (lw n 2))) (hiI (lw n 1))) (loI (lw n 1)),dgO (dg (dg (dg (dg (dg (dg (nv r) (hiI (lw n 3))) (loI (lw n 3))) (hiI (lw n 2))) (loI (lw n 2))) (hiI (lw n 1))) (loI (lw n 1))) (hiI (lw n 0)),dgO (dg (dg (dg (dg (dg (dg (dg (nv r) (hiI (lw n 3))) (loI (lw n 3))) (hiI (lw n 2))) (loI (lw n 2))) (hiI (lw n 1))) (loI (lw n 1))) (hiI (lw n 0))) (loI (lw n 0))],dg (dg (dg (dg (dg (dg (dg (dg (nv r) (hiI (lw n 3))) (loI (lw n 3))) (hiI (lw n 2))) (loI (lw n 2))) (hiI (lw n 1))) (loI (lw n 1))) (hiI (lw n 0))) (loI (lw n 0))):=by kernel_rfl
theorem hiI_eq (x:Int) (hx:Word x):0≤hiI x∧hiI x<4294967296∧0≤loI x∧loI x<4294967296∧x=hiI x*4294967296+loI x:=by
 obtain ⟨h0,h1⟩:=hx
 obtain ⟨x,rfl⟩:=Int.eq_ofNat_of_zero_le h0
 have h:=bits_and_u64_nat x 4294967295 (by omega) (by omega)
 have e:x &&& 4294967295=x % 4294967296:=Nat.and_two_pow_sub_one_eq_mod x 32
 rw [e] at h
 have h2:loI (x:Int)=((x % 4294967296:Nat):Int):=h
 have h3:hiI (x:Int)=((x/4294967296:Nat):Int):=by unfold hiI;rw [fdiv_nat]
 rw [h2,h3]
 omega
theorem mod_step (x y:Nat):(x % LN*4294967296+y) % LN=(x*4294967296+y) % LN:=by
 rw [Nat.add_mod,Nat.mul_mod,Nat.mod_mod,←Nat.mul_mod,←Nat.add_mod]
theorem dg_eq {A:Value} {z:Nat} (hA:A=nv (z % LN)) (x:Int) (h0:0≤x) (h1:x<4294967296):dgO A x∧dg A x=nv ((z*4294967296+x.toNat) % LN):=by
 have hlt:z % LN<LN:=Nat.mod_lt _ (by decide)
 have hn:num A=z % LN:=by rw [hA,num_nv' (lt_LN_RN hlt)]
 refine ⟨⟨by rw [hA];exact isN_nv _,by rw [hn];exact hlt,h0,h1⟩,?_⟩
 unfold dg
 rw [hn,mod_step]
def gRest:List Value→Option (List Prop × Value)
 | [A,N]=>some ([IsN A∧num A<LN∧IsN N],nv ((num A*RN+num N) % LN))
 | _=>none
theorem gRest_ok {X:Cx} (hX:X.Ok Tryz.prog):(X.pure 86 gRest).Ok Tryz.prog:=by
 refine gBody_ok hX Tryz.func86 (by kernel_rfl) (by kernel_rfl) ?_
 intro args ps v ha hg hp
 unfold gRest at hg
 split at hg
 ·rename_i A N
  simp only [Option.some.injEq,Prod.mk.injEq] at hg
  obtain ⟨rfl,rfl⟩:=hg
  obtain ⟨hA,hl,hN⟩:=hp _ (List.mem_singleton.2 rfl)
  refine ⟨.inl rfl,fun w => ?_⟩
  have lN:=num_lt hN
  rw [hA,num_nv' (num_lt hA),hN,num_nv' lN]
  clear hp ha hA hN
  generalize num A=r at *
  generalize num N=n at *
  have h0:=hiI_eq (lw n 0) (lw_word n 0)
  have h1:=hiI_eq (lw n 1) (lw_word n 1)
  have h2:=hiI_eq (lw n 2) (lw_word n 2)
  have h3:=hiI_eq (lw n 3) (lw_word n 3)
  have hs:=words_sum n
  rw [Nat.mod_eq_of_lt lN] at hs
  obtain ⟨o0,e0⟩:=dg_eq (show nv r=nv (r % LN) by rw [Nat.mod_eq_of_lt hl]) (hiI (lw n 3)) h3.1 h3.2.1
  obtain ⟨o1,e1⟩:=dg_eq e0 (loI (lw n 3)) h3.2.2.1 h3.2.2.2.1
  obtain ⟨o2,e2⟩:=dg_eq e1 (hiI (lw n 2)) h2.1 h2.2.1
  obtain ⟨o3,e3⟩:=dg_eq e2 (loI (lw n 2)) h2.2.2.1 h2.2.2.2.1
  obtain ⟨o4,e4⟩:=dg_eq e3 (hiI (lw n 1)) h1.1 h1.2.1
  obtain ⟨o5,e5⟩:=dg_eq e4 (loI (lw n 1)) h1.2.2.1 h1.2.2.2.1
  obtain ⟨o6,e6⟩:=dg_eq e5 (hiI (lw n 0)) h0.1 h0.2.1
  obtain ⟨o7,e7⟩:=dg_eq e6 (loI (lw n 0)) h0.2.2.1 h0.2.2.2.1
  have h:=sfun_calls X5_ok mixed Tryz.func86 (by kernel_rfl) (rest_run r n) (by
   intro p hp
   simp only [List.mem_cons,List.not_mem_nil,or_false] at hp
   rcases hp with rfl | rfl | rfl | rfl | rfl | rfl | rfl | rfl
   ·exact o0
   ·exact o1
   ·exact o2
   ·exact o3
   ·exact o4
   ·exact o5
   ·exact o6
   ·exact o7) rfl (.inl rfl) w
  rw [e7] at h
  have e:(((((((r*4294967296+(hiI (lw n 3)).toNat)*4294967296+(loI (lw n 3)).toNat)*4294967296+(hiI (lw n 2)).toNat)*4294967296+(loI (lw n 2)).toNat)*4294967296+(hiI (lw n 1)).toNat)*4294967296+(loI (lw n 1)).toNat)*4294967296+(hiI (lw n 0)).toNat)*4294967296+(loI (lw n 0)).toNat=r*RN+n:=by
   clear o0 o1 o2 o3 o4 o5 o6 o7 e0 e1 e2 e3 e4 e5 e6 e7 h
   obtain ⟨a0,a1,a2,a3,a4⟩:=h0
   obtain ⟨b0,b1,b2,b3,b4⟩:=h1
   obtain ⟨c0,c1,c2,c3,c4⟩:=h2
   obtain ⟨d0,d1,d2,d3,d4⟩:=h3
   rw [a4,b4,c4,d4] at hs
   clear a4 b4 c4 d4
   generalize hiI (lw n 0)=u0 at *
   generalize hiI (lw n 1)=u1 at *
   generalize hiI (lw n 2)=u2 at *
   generalize hiI (lw n 3)=u3 at *
   generalize loI (lw n 0)=v0 at *
   generalize loI (lw n 1)=v1 at *
   generalize loI (lw n 2)=v2 at *
   generalize loI (lw n 3)=v3 at *
   simp only [RN]
   omega
  rw [e] at h
  exact h
 ·simp at hg
def X6:Cx:=X5.pure 86 gRest
theorem X6_ok:X6.Ok Tryz.prog:=gRest_ok X5_ok
theorem mod_run (h n:Nat):sfun Tryz.prog X6 60 Tryz.f39 (bodyOf Tryz.f39) [nv h,nv n]=some ([IsN (nv 0)∧num (nv 0)<LN∧IsN (nv h),IsN (nv ((num (nv 0)*RN+num (nv h)) % LN))∧num (nv ((num (nv 0)*RN+num (nv h)) % LN))<LN∧IsN (nv n)],nv ((num (nv ((num (nv 0)*RN+num (nv h)) % LN))*RN+num (nv n)) % LN)):=by kernel_rfl
theorem mod_stepR (x y:Nat):(x % LN*RN+y) % LN=(x*RN+y) % LN:=by
 rw [Nat.add_mod,Nat.mul_mod,Nat.mod_mod,←Nat.mul_mod,←Nat.add_mod]
def gMod:List Value→Option (List Prop × Value)
 | [H,N]=>some ([IsN H∧IsN N],nv ((num H*RN+num N) % LN))
 | _=>none
theorem gMod_ok {X:Cx} (hX:X.Ok Tryz.prog):(X.pure 39 gMod).Ok Tryz.prog:=by
 refine gBody_ok hX Tryz.func39 (by kernel_rfl) (by kernel_rfl) ?_
 intro args ps v ha hg hp
 unfold gMod at hg
 split at hg
 ·rename_i H N
  simp only [Option.some.injEq,Prod.mk.injEq] at hg
  obtain ⟨rfl,rfl⟩:=hg
  obtain ⟨hH,hN⟩:=hp _ (List.mem_singleton.2 rfl)
  refine ⟨.inl rfl,fun w => ?_⟩
  have lH:=num_lt hH
  have lN:=num_lt hN
  rw [hH,num_nv' lH,hN,num_nv' lN]
  clear hp ha hH hN
  generalize num H=h at *
  generalize num N=n at *
  have z0:num (nv 0)=0:=num_nv' (by decide)
  have hlt:h % LN<LN:=Nat.mod_lt _ (by decide)
  have e1:num (nv ((num (nv 0)*RN+num (nv h)) % LN))=h % LN:=by rw [z0,num_nv' lH,Nat.zero_mul,Nat.zero_add,num_nv' (lt_LN_RN hlt)]
  have k:=sfun_calls X6_ok mixed Tryz.func39 (by kernel_rfl) (mod_run h n) (by
   intro p hp
   simp only [List.mem_cons,List.not_mem_nil,or_false] at hp
   rcases hp with rfl | rfl
   ·exact ⟨isN_nv _,by rw [z0];decide,isN_nv _⟩
   ·exact ⟨isN_nv _,by rw [e1];exact hlt,isN_nv _⟩) rfl (.inl rfl) w
  rw [e1,num_nv' lN,mod_stepR] at k
  exact k
 ·simp at hg
def X7:Cx:=X6.pure 39 gMod
theorem X7_ok:X7.Ok Tryz.prog:=gMod_ok X6_ok
def ppS (H:Value) (b:Nat) (x:Int):Nat:=(num H+num (nv (num (nv b)*x.toNat % RN))) % RN
def ppH (H:Value) (b:Nat) (x:Int):Value := .agg #[.int .u64 (lw (ppS H b x) 1),.int .u64 (lw (ppS H b x) 2),.int .u64 (lw (ppS H b x) 3),.int .u64 (IntKind.u64.wrap (((num (nv b)*x.toNat/RN:Nat):Int)+(((num H+num (nv (num (nv b)*x.toNat % RN)))/RN:Nat):Int)))]
def ppO (H:Value) (b:Nat) (x:Int):List Prop:=[IsN (nv b)∧Word x,IsN H∧IsN (nv (num (nv b)*x.toNat % RN))]
theorem prod_run (a b c:Nat):sfun Tryz.prog X7 60 Tryz.f40 (bodyOf Tryz.f40) [nv a,nv b,nv c]=some (ppO (nv c) b (lw a 0) ++ ppO (ppH (nv c) b (lw a 0)) b (lw a 1) ++ ppO (ppH (ppH (nv c) b (lw a 0)) b (lw a 1)) b (lw a 2) ++ ppO (ppH (ppH (ppH (nv c) b (lw a 0)) b (lw a 1)) b (lw a 2)) b (lw a 3),.tuple #[(ppH (ppH (ppH (ppH (nv c) b (lw a 0)) b (lw a 1)) b (lw a 2)) b (lw a 3)),.agg #[.int .u64 (lw (ppS (nv c) b (lw a 0)) 0),.int .u64 (lw (ppS (ppH (nv c) b (lw a 0)) b (lw a 1)) 0),.int .u64 (lw (ppS (ppH (ppH (nv c) b (lw a 0)) b (lw a 1)) b (lw a 2)) 0),.int .u64 (lw (ppS (ppH (ppH (ppH (nv c) b (lw a 0)) b (lw a 1)) b (lw a 2)) b (lw a 3)) 0)]]):=by kernel_rfl
theorem pp_step {H:Value} {h:Nat} (hH:H=nv h) (hh:h<RN) (b:Nat) (hb:b<RN) (x:Nat) (hx:x<18446744073709551616):(∀ p ∈ ppO H b x,p) ∧
  ∃ h',ppH H b x=nv h'∧h'<RN∧h+b*x=ppS H b x % 18446744073709551616+18446744073709551616*h':=by
 have nb:num (nv b)=b:=num_nv' hb
 have nh:num H=h:=by rw [hH,num_nv' hh]
 have hrow:num (nv (num (nv b)*(x:Int).toNat % RN))=b*x % RN:=by rw [nb,Int.toNat_natCast,num_nv,Nat.mod_mod]
 refine ⟨?_,?_⟩
 ·intro p hp
  simp only [ppO,List.mem_cons,List.not_mem_nil,or_false] at hp
  rcases hp with rfl | rfl
  ·exact ⟨isN_nv _,by unfold Word;omega⟩
  ·exact ⟨by rw [hH];exact isN_nv _,isN_nv _⟩
 ·have hS:ppS H b x=(h+b*x % RN) % RN:=by unfold ppS;rw [nh,hrow]
  have hbx:b*x≤(RN - 1)*18446744073709551615:=Nat.mul_le_mul (by omega) (by omega)
  have hH':ppH H b x = .agg #[.int .u64 (lw (ppS H b x) 1),.int .u64 (lw (ppS H b x) 2),.int .u64 (lw (ppS H b x) 3),.int .u64 (IntKind.u64.wrap (((b*x/RN:Nat):Int)+(((h+b*x % RN)/RN:Nat):Int)))]:=by
   unfold ppH;rw [nh,hrow,nb,Int.toNat_natCast]
  rw [hH']
  have hlt:ppS H b x<RN:=by rw [hS];exact Nat.mod_lt _ (by decide)
  have hs:=words_sum (ppS H b x)
  rw [Nat.mod_eq_of_lt hlt] at hs
  have w0:=lw_word (ppS H b x) 0;have w1:=lw_word (ppS H b x) 1;have w2:=lw_word (ppS H b x) 2;have w3:=lw_word (ppS H b x) 3
  have e0:=lw0 (ppS H b x)
  generalize lw (ppS H b x) 0=s0 at *
  generalize lw (ppS H b x) 1=s1 at *
  generalize lw (ppS H b x) 2=s2 at *
  generalize lw (ppS H b x) 3=s3 at *
  generalize ppS H b x=S at *
  generalize b*x=q at *
  simp only [RN] at *
  have ht:q/115792089237316195423570985008687907853269984665640564039457584007913129639936+(h+q % 115792089237316195423570985008687907853269984665640564039457584007913129639936)/115792089237316195423570985008687907853269984665640564039457584007913129639936<18446744073709551616:=by omega
  have hw:IntKind.u64.wrap (((q/115792089237316195423570985008687907853269984665640564039457584007913129639936:Nat):Int)+(((h+q % 115792089237316195423570985008687907853269984665640564039457584007913129639936)/115792089237316195423570985008687907853269984665640564039457584007913129639936:Nat):Int))=((q/115792089237316195423570985008687907853269984665640564039457584007913129639936+(h+q % 115792089237316195423570985008687907853269984665640564039457584007913129639936)/115792089237316195423570985008687907853269984665640564039457584007913129639936:Nat):Int):=by
   rw [IntKind.wrap_u64];omega
  rw [hw]
  unfold Word at *
  refine ⟨S/18446744073709551616+(q/115792089237316195423570985008687907853269984665640564039457584007913129639936+(h+q % 115792089237316195423570985008687907853269984665640564039457584007913129639936)/115792089237316195423570985008687907853269984665640564039457584007913129639936)*6277101735386680763835789423207666416102355444464034512896,nv_mk w1 w2 w3 (by unfold Word;omega) ?_,?_,?_⟩
  ·omega
  ·omega
  ·omega
def gProd:List Value→Option (List Prop × Value)
 | [A,B,C]=>some ([IsN A∧IsN B∧IsN C],.tuple #[nv ((num A*num B+num C)/RN),nv ((num A*num B+num C) % RN)])
 | _=>none
theorem lwN (a k:Nat) : ∃ x:Nat,lw a k=(x:Int)∧x<18446744073709551616:=by
 obtain ⟨h0,h1⟩:=lw_word a k
 obtain ⟨x,hx⟩:=Int.eq_ofNat_of_zero_le h0
 exact ⟨x,hx,by omega⟩
theorem gProd_ok {X:Cx} (hX:X.Ok Tryz.prog):(X.pure 40 gProd).Ok Tryz.prog:=by
 refine gBody_ok hX Tryz.func40 (by kernel_rfl) (by kernel_rfl) ?_
 intro args ps v ha hg hp
 unfold gProd at hg
 split at hg
 ·rename_i A B C
  simp only [Option.some.injEq,Prod.mk.injEq] at hg
  obtain ⟨rfl,rfl⟩:=hg
  obtain ⟨hA,hB,hC⟩:=hp _ (List.mem_singleton.2 rfl)
  refine ⟨.inl rfl,fun w => ?_⟩
  have lA:=num_lt hA
  have lB:=num_lt hB
  have lC:=num_lt hC
  rw [hA,num_nv' lA,hB,num_nv' lB,hC,num_nv' lC]
  clear hp ha hA hB hC
  generalize num A=a at *
  generalize num B=b at *
  generalize num C=c at *
  have run:=prod_run a b c
  have hs:=words_sum a
  rw [Nat.mod_eq_of_lt lA] at hs
  obtain ⟨x0,f0,g0⟩:=lwN a 0
  obtain ⟨x1,f1,g1⟩:=lwN a 1
  obtain ⟨x2,f2,g2⟩:=lwN a 2
  obtain ⟨x3,f3,g3⟩:=lwN a 3
  rw [f0,f1,f2,f3] at run hs
  obtain ⟨o0,h0,e0,l0,v0⟩:=pp_step (rfl:nv c=nv c) lC b lB x0 g0
  obtain ⟨o1,h1,e1,l1,v1⟩:=pp_step e0 l0 b lB x1 g1
  obtain ⟨o2,h2,e2,l2,v2⟩:=pp_step e1 l1 b lB x2 g2
  obtain ⟨o3,h3,e3,l3,v3⟩:=pp_step e2 l2 b lB x3 g3
  have h:=sfun_calls X7_ok mixed Tryz.func40 (by kernel_rfl) run (by
   intro p hp
   rcases List.mem_append.1 hp with hp | hp
   ·rcases List.mem_append.1 hp with hp | hp
    ·rcases List.mem_append.1 hp with hp | hp
     ·exact o0 p hp
     ·exact o1 p hp
    ·exact o2 p hp
   ·exact o3 p hp) rfl (.inl rfl) w
  rw [e3,lw0,lw0,lw0,lw0] at h
  generalize ppS (nv c) b x0=s0 at *
  generalize ppS (ppH (nv c) b x0) b x1=s1 at *
  generalize ppS (ppH (ppH (nv c) b x0) b x1) b x2=s2 at *
  generalize ppS (ppH (ppH (ppH (nv c) b x0) b x1) b x2) b x3=s3 at *
  have ht:a*b+c=s0 % 18446744073709551616+s1 % 18446744073709551616*18446744073709551616+s2 % 18446744073709551616*340282366920938463463374607431768211456+s3 % 18446744073709551616*6277101735386680763835789423207666416102355444464034512896+RN*h3:=by
   have ea:a=x0+x1*18446744073709551616+x2*340282366920938463463374607431768211456+x3*6277101735386680763835789423207666416102355444464034512896:=by omega
   have eb:a*b=b*x0+b*x1*18446744073709551616+b*x2*340282366920938463463374607431768211456+b*x3*6277101735386680763835789423207666416102355444464034512896:=by
    rw [ea,Nat.mul_comm _ b,Nat.mul_add,Nat.mul_add,Nat.mul_add,Nat.mul_assoc,Nat.mul_assoc,Nat.mul_assoc]
   rw [eb]
   generalize b*x0=q0 at *
   generalize b*x1=q1 at *
   generalize b*x2=q2 at *
   generalize b*x3=q3 at *
   simp only [RN]
   omega
  generalize a*b+c=T at *
  rw [nv_mk (n:=T % RN) (by unfold Word;omega) (by unfold Word;omega) (by unfold Word;omega) (by unfold Word;omega) (by simp only [RN] at *;omega)] at h
  have:h3=T/RN:=by simp only [RN] at *;omega
  rw [this] at h
  exact h
 ·simp at hg
def X8:Cx:=X7.pure 40 gProd
theorem X8_ok:X8.Ok Tryz.prog:=gProd_ok X7_ok
open Go Go.RowKit
def na (n:Nat):Array Value := #[.int .u64 (lw n 0),.int .u64 (lw n 1),.int .u64 (lw n 2),.int .u64 (lw n 3)]
def z4:Array Value := #[.int .u64 0,.int .u64 0,.int .u64 0,.int .u64 0]
def gNegative:List Value→Option (List Prop × Value)
 | [A]=>some ([IsN A∧num A<LN],nv ((LN - num A) % LN))
 | _=>none
theorem can_run (n:Nat):sfun Tryz.prog X8 60 Tryz.f22 (bodyOf Tryz.f22) [bv n]=some ([IsB (bv n),IsN (nv (bnum (bv n)))∧IsN (nv LN)],.bool ((if num (nv (bnum (bv n)))<num (nv LN) then 1 else 0:Int) == 1)):=by kernel_rfl
theorem Canonical_any (n:Nat) (h:n<RN) (w:World):Calls Tryz.prog 22 #[bv n] w fun e w'=>e = .returned (.bool (decide (n<LN)))∧Below w.heap.size w w':=by
 have k:=sfun_calls X8_ok mixed Tryz.func22 (by kernel_rfl) (can_run n) (by
  intro p hp
  simp only [List.mem_cons,List.not_mem_nil,or_false] at hp
  rcases hp with rfl | rfl
  ·exact isB_bv _
  ·exact ⟨isN_nv _,isN_nv _⟩) (by simp [flat_bv]) (.inl rfl) w
 rw [bnum_bv' h,num_nv' h,num_nv' (n:=LN) (by decide)] at k
 have e:((if n<LN then 1 else 0:Int) == 1)=decide (n<LN):=by
  by_cases hl:n<LN
  ·rw [if_pos hl,decide_eq_true hl];rfl
  ·rw [if_neg hl,decide_eq_false hl];rfl
 rw [e] at k
 exact k
theorem mula_run (a b c:Nat):sfun Tryz.prog X8 60 Tryz.f17 (bodyOf Tryz.f17) [bv a,bv b,bv c]=some ([IsB (bv a),IsB (bv b),IsB (bv c),IsN (nv (bnum (bv a)))∧IsN (nv (bnum (bv b)))∧IsN (nv (bnum (bv c))),IsN (nv ((num (nv (bnum (bv a)))*num (nv (bnum (bv b)))+num (nv (bnum (bv c))))/RN))∧IsN (nv ((num (nv (bnum (bv a)))*num (nv (bnum (bv b)))+num (nv (bnum (bv c)))) % RN)),IsN (nv ((num (nv ((num (nv (bnum (bv a)))*num (nv (bnum (bv b)))+num (nv (bnum (bv c))))/RN))*RN+num (nv ((num (nv (bnum (bv a)))*num (nv (bnum (bv b)))+num (nv (bnum (bv c)))) % RN))) % LN))],bv (num (nv ((num (nv ((num (nv (bnum (bv a)))*num (nv (bnum (bv b)))+num (nv (bnum (bv c))))/RN))*RN+num (nv ((num (nv (bnum (bv a)))*num (nv (bnum (bv b)))+num (nv (bnum (bv c)))) % RN))) % LN)))):=by kernel_rfl
theorem prod_lt (a b c:Nat) (ha:a<RN) (hb:b<RN) (hc:c<RN):(a*b+c)/RN<RN:=by
 have h:a*b≤(RN - 1)*(RN - 1):=Nat.mul_le_mul (by omega) (by omega)
 rw [Nat.div_lt_iff_lt_mul (by decide)]
 generalize a*b=q at *
 have h2:(RN - 1)*(RN - 1)=RN*RN - 2*RN+1:=by decide
 have h3:2*RN≤RN*RN:=by decide
 have h4:0<RN:=by decide
 generalize RN*RN=z at *
 omega
theorem MulAdd_any (a b c:Nat) (ha:a<RN) (hb:b<RN) (hc:c<RN) (w:World):Calls Tryz.prog 17 #[bv a,bv b,bv c] w fun e w'=>e = .returned (bv ((a*b+c) % LN))∧Below w.heap.size w w':=by
 have run:=mula_run a b c
 rw [bnum_bv' ha,bnum_bv' hb,bnum_bv' hc,num_nv' ha,num_nv' hb,num_nv' hc] at run
 rw [num_nv' (prod_lt a b c ha hb hc),num_nv' (n:=(a*b+c) % RN) (Nat.mod_lt _ (by decide))] at run
 rw [num_nv' (lt_LN_RN (Nat.mod_lt _ (by decide)))] at run
 have e:(a*b+c)/RN*RN+(a*b+c) % RN=a*b+c:=by rw [Nat.mul_comm];exact Nat.div_add_mod _ _
 rw [e] at run
 exact sfun_calls X8_ok mixed Tryz.func17 (by kernel_rfl) run (by
  intro p hp
  simp only [List.mem_cons,List.not_mem_nil,or_false] at hp
  rcases hp with rfl | rfl | rfl | rfl | rfl | rfl
  ·exact isB_bv _
  ·exact isB_bv _
  ·exact isB_bv _
  ·exact ⟨isN_nv _,isN_nv _,isN_nv _⟩
  ·exact ⟨isN_nv _,isN_nv _⟩
  ·exact isN_nv _) (by simp [flat_bv]) (.inl (flat_bv _)) w
def bv64 (n:Nat):Value := .agg (blm 64 n).toArray
def hiB (n:Nat):Value := .agg ((List.range 32).map fun i=>Value.int .u8 (by8 n (32+i))).toArray
theorem hiB_eq (n:Nat):hiB n=bv (n/RN):=by
 unfold hiB bv bl
 refine congrArg (fun l:List Value=>Value.agg l.toArray) (List.map_congr_left fun i _ => ?_)
 congr 1
 unfold by8
 rw [rn_pow,Nat.div_div_eq_div_mul,←Nat.pow_add]
theorem flat_bv64 (n:Nat):flat (bv64 n)=true:=by
 show ((blm 64 n).toArray.toList.all flat1)=true
 simp [blm,flat1]
theorem red_run (n:Nat):sfun Tryz.prog X8 60 Tryz.f37 (bodyOf Tryz.f37) [bv64 n]=some ([IsB (hiB n),IsB (bv n),IsN (nv (bnum (hiB n)))∧IsN (nv (bnum (bv n))),IsN (nv ((num (nv (bnum (hiB n)))*RN+num (nv (bnum (bv n)))) % LN))],bv (num (nv ((num (nv (bnum (hiB n)))*RN+num (nv (bnum (bv n)))) % LN)))):=by kernel_rfl
theorem Reduce_any (n:Nat) (hn:n<RN*RN) (w:World):Calls Tryz.prog 37 #[bv64 n] w fun e w'=>e = .returned (bv (n % LN))∧Below w.heap.size w w':=by
 have run:=red_run n
 have hh:n/RN<RN:=by rw [Nat.div_lt_iff_lt_mul (by decide)];exact hn
 rw [hiB_eq,bnum_bv' hh,num_nv' hh,bnum_bv,num_nv' (n:=n % RN) (Nat.mod_lt _ (by decide))] at run
 rw [num_nv' (lt_LN_RN (Nat.mod_lt _ (by decide)))] at run
 have e:n/RN*RN+n % RN=n:=by rw [Nat.mul_comm];exact Nat.div_add_mod _ _
 rw [e] at run
 exact sfun_calls X8_ok mixed Tryz.func37 (by kernel_rfl) run (by
  intro p hp
  simp only [List.mem_cons,List.not_mem_nil,or_false] at hp
  rcases hp with rfl | rfl | rfl | rfl
  ·exact isB_bv _
  ·exact isB_bv _
  ·exact ⟨isN_nv _,isN_nv _⟩
  ·exact isN_nv _) (by simp [flat_bv64]) (.inl (flat_bv _)) w
open Go Go.RowKit
def CA (A:Value):Bool:=decide (bnum A<LN)
def AD (A B:Value):Value:=bv ((bnum A+bnum B) % LN)
def MU (A B C:Value):Value:=bv ((bnum A*bnum B+bnum C) % LN)
def RD (A:Value):Value:=bv (bnum A % LN)
def IsB64 (A:Value):Prop:=A=bv64 (bnum A)
def gCanS:List Value→Option (List Prop × Value)
 | [A]=>some ([IsB A],.bool (CA A))
 | _=>none
def gMulS:List Value→Option (List Prop × Value)
 | [A,B,C]=>some ([IsB A∧IsB B∧IsB C],MU A B C)
 | _=>none
def gRedS:List Value→Option (List Prop × Value)
 | [A]=>some ([IsB64 A],RD A)
 | _=>none
theorem rn_pow2:RN*RN=256 ^ 64:=by decide
theorem bnum_bv64 (n:Nat):bnum (bv64 n)=n % (RN*RN):=by
 have:RN*RN=256 ^ 64:=by decide
 rw [this];exact bsum_blm 64 n
theorem bnum_lt64 {A:Value} (h:IsB64 A):bnum A<RN*RN:=by
 have:bnum A=bnum A % (RN*RN):=by
  have e:=congrArg bnum h
  rw [bnum_bv64] at e;exact e
 rw [this];exact Nat.mod_lt _ (by decide)
theorem gCanS_ok {X:Cx} (hX:X.Ok Tryz.prog):(X.pure 22 gCanS).Ok Tryz.prog:=by
 refine gBody_ok hX Tryz.func22 (by kernel_rfl) (by kernel_rfl) ?_
 intro args ps v ha hg hp
 unfold gCanS at hg
 split at hg
 ·rename_i A
  simp only [Option.some.injEq,Prod.mk.injEq] at hg
  obtain ⟨rfl,rfl⟩:=hg
  obtain hA:=hp _ (List.mem_singleton.2 rfl)
  refine ⟨.inl rfl,fun w => ?_⟩
  have lA:=bnum_lt hA
  have h:=Canonical_any (bnum A) lA w
  rw [← (show A=bv (bnum A) from hA)] at h
  exact h
 ·simp at hg
theorem gMulS_ok {X:Cx} (hX:X.Ok Tryz.prog):(X.pure 17 gMulS).Ok Tryz.prog:=by
 refine gBody_ok hX Tryz.func17 (by kernel_rfl) (by kernel_rfl) ?_
 intro args ps v ha hg hp
 unfold gMulS at hg
 split at hg
 ·rename_i A B C
  simp only [Option.some.injEq,Prod.mk.injEq] at hg
  obtain ⟨rfl,rfl⟩:=hg
  obtain ⟨hA,hB,hC⟩:=hp _ (List.mem_singleton.2 rfl)
  refine ⟨.inl (flat_bv _),fun w => ?_⟩
  have lA:=bnum_lt hA
  have lB:=bnum_lt hB
  have lC:=bnum_lt hC
  have h:=MulAdd_any (bnum A) (bnum B) (bnum C) lA lB lC w
  rw [← (show A=bv (bnum A) from hA),← (show B=bv (bnum B) from hB),← (show C=bv (bnum C) from hC)] at h
  exact h
 ·simp at hg
theorem gRedS_ok {X:Cx} (hX:X.Ok Tryz.prog):(X.pure 37 gRedS).Ok Tryz.prog:=by
 refine gBody_ok hX Tryz.func37 (by kernel_rfl) (by kernel_rfl) ?_
 intro args ps v ha hg hp
 unfold gRedS at hg
 split at hg
 ·rename_i A
  simp only [Option.some.injEq,Prod.mk.injEq] at hg
  obtain ⟨rfl,rfl⟩:=hg
  obtain hA:=hp _ (List.mem_singleton.2 rfl)
  refine ⟨.inl (flat_bv _),fun w => ?_⟩
  have lA:=bnum_lt64 hA
  have h:=Reduce_any (bnum A) lA w
  rw [← (show A=bv64 (bnum A) from hA)] at h
  exact h
 ·simp at hg
theorem low_eq {m n:Nat} : ∀ k,(∀ i,i<k→by8 m i=by8 n i)→m % 256 ^ k=n % 256 ^ k
 | 0,_=>by simp [Nat.mod_one]
 | k+1,h=>by
  have e:=h k (by omega)
  have ih:=low_eq k (fun i hi=>h i (by omega))
  unfold by8 at e
  rw [Nat.mod_pow_succ,Nat.mod_pow_succ,ih]
  have:m/256 ^ k % 256=n/256 ^ k % 256:=by omega
  rw [this]
theorem ltL (x:Nat):x % LN<RN:=lt_LN_RN (Nat.mod_lt _ (by decide))
end Go.Proofs.YtlihbglpdkeppaaGreatDoor.Sc
