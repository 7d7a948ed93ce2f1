import Derived.Test.YtajehiidpecknaaGreatDoorMemG
import Derived.Laws.Externs
import Derived.Lib.Mul64
import Derived.Laws.Bits64b
import Derived.Shelf.Spec.BitsCarry
set_option linter.all false
namespace Go.Proofs.YtajehiidpecknaaGreatDoor.Sc
open Go Go.RowKit
open Go Go.RowKit
def Word (x:Int):Prop:=0≤x∧x<18446744073709551616
def Bit (c:Int):Prop:=0≤c∧c≤1
def bor (x y:Int):Int:=if x<y then 1 else 0
theorem m8 (x y:Int):Bit (bor x y):=by unfold bor Bit;split <;> decide
theorem nC (x y c:Int) (hx:0≤x) (hy:0≤y) (hc0:0≤c) (hc:c≤1) (w:World):(callFunc 108 #[.int .u64 x,.int .u64 y,.int .u64 c]).run Tryz.prog w =
  .ok (.value (.tuple #[.int .u64 ((x+y+c) % 18446744073709551616),.int .u64 ((x+y+c)/18446744073709551616)])) w:=by
 rw [run_callFunc_extern Tryz.func108 (by kernel_rfl) (by kernel_rfl) (by kernel_rfl) (e:=add64Entry) (by kernel_rfl),run_add64 x y c hx hy hc0 hc]
 rfl
theorem Ox (x y b:Int) (hx:0≤x) (hy:0≤y) (hy':y<18446744073709551616) (hb0:0≤b) (hb:b≤1) (w:World):(callFunc 116 #[.int .u64 x,.int .u64 y,.int .u64 b]).run Tryz.prog w =
  .ok (.value (.tuple #[.int .u64 ((x - y - b) % 18446744073709551616),.int .u64 (bor x (y+b))])) w:=by
 obtain ⟨x,rfl⟩:=Int.eq_ofNat_of_zero_le hx
 obtain ⟨y,rfl⟩:=Int.eq_ofNat_of_zero_le hy
 obtain ⟨b,rfl⟩:=Int.eq_ofNat_of_zero_le hb0
 have e1:(((x+18446744073709551616 - y - b) % 18446744073709551616:Nat):Int)=((x:Int) - y - b) % 18446744073709551616:=by omega
 have e2:((if x<y+b then 1 else 0:Nat):Int)=bor x (y+b):=by unfold bor;split <;> split <;> omega
 rw [←e1,←e2]
 rw [run_callFunc_extern Tryz.func116 (by kernel_rfl) (by kernel_rfl) (by kernel_rfl) (e:=sub64Entry) (by kernel_rfl),run_sub64 x y b (by omega)]
 rfl
def gAdd:List Value→Option (List Prop × Value)
 | [.int .u64 x,.int .u64 y,.int .u64 c]=>some ([Word x∧Word y∧Bit c],.tuple #[.int .u64 ((x+y+c) % 18446744073709551616),.int .u64 ((x+y+c)/18446744073709551616)])
 | _=>none
def J5:List Value→Option (List Prop × Value)
 | [.int .u64 x,.int .u64 y,.int .u64 c]=>some ([Word x∧Word y∧Bit c],.tuple #[.int .u64 ((x - y - c) % 18446744073709551616),.int .u64 (bor x (y+c))])
 | _=>none
def gMul:List Value→Option (List Prop × Value)
 | [.int .u64 x,.int .u64 y]=>some ([Word x∧Word y],.tuple #[.int .u64 (x*y/18446744073709551616),.int .u64 (x*y % 18446744073709551616)])
 | _=>none
theorem Hz {X:Cx} (hX:X.Ok Tryz.prog):(X.pure 108 gAdd).Ok Tryz.prog:=by
 refine Cx.pure_ok hX ?_
 intro args ps v ha hg hp
 unfold gAdd at hg
 split at hg
 ·rename_i x y c
  simp only [qG,qH] at hg
  obtain ⟨rfl,rfl⟩:=hg
  obtain ⟨⟨x0,x1⟩,⟨y0,y1⟩,c0,c1⟩:=hp _ (YJ.2 rfl)
  exact ⟨.inl rfl,fun w => .inl ⟨_,w,nC x y c x0 y0 c0 c1 w,rfl,Below.refl _ _⟩⟩
 ·simp at hg
theorem Ia {X:Cx} (hX:X.Ok Tryz.prog):(X.pure 116 J5).Ok Tryz.prog:=by
 refine Cx.pure_ok hX ?_
 intro args ps v ha hg hp
 unfold J5 at hg
 split at hg
 ·rename_i x y c
  simp only [qG,qH] at hg
  obtain ⟨rfl,rfl⟩:=hg
  obtain ⟨⟨x0,x1⟩,⟨y0,y1⟩,c0,c1⟩:=hp _ (YJ.2 rfl)
  exact ⟨.inl rfl,fun w => .inl ⟨_,w,Ox x y c x0 y0 y1 c0 c1 w,rfl,Below.refl _ _⟩⟩
 ·simp at hg
open Go Go.RowKit
abbrev RN:Nat:=115792089237316195423570985008687907853269984665640564039457584007913129639936
def lw (n k:Nat):Int:=((n/18446744073709551616 ^ k % 18446744073709551616:Nat):Int)
def by8 (n i:Nat):Int:=((n/256 ^ i % 256:Nat):Int)
theorem ah (n k:Nat):Word (lw n k):=by unfold lw Word;omega
def nv (n:Nat):Value := .agg #[.int .u64 (lw n 0),.int .u64 (lw n 1),.int .u64 (lw n 2),.int .u64 (lw n 3)]
def num:Value→Nat
 | .agg cs=>match cs.toList with
  | [.int _ a,.int _ b,.int _ c,.int _ d]=>(a+b*18446744073709551616+c*340282366920938463463374607431768211456+d*6277101735386680763835789423207666416102355444464034512896).toNat
  | _=>0
 | _=>0
theorem lw0 (n:Nat):lw n 0=((n % 18446744073709551616:Nat):Int):=by simp [lw]
theorem lw1 (n:Nat):lw n 1=((n/18446744073709551616 % 18446744073709551616:Nat):Int):=by simp [lw]
theorem lw2 (n:Nat):lw n 2=((n/340282366920938463463374607431768211456 % 18446744073709551616:Nat):Int):=by unfold lw;rw [show (18446744073709551616:Nat) ^ 2=340282366920938463463374607431768211456 from by decide]
theorem lw3 (n:Nat):lw n 3=((n/6277101735386680763835789423207666416102355444464034512896 % 18446744073709551616:Nat):Int):=by unfold lw;rw [show (18446744073709551616:Nat) ^ 3=6277101735386680763835789423207666416102355444464034512896 from by decide]
theorem aQ (n:Nat):lw n 0+lw n 1*18446744073709551616+lw n 2*340282366920938463463374607431768211456+lw n 3*6277101735386680763835789423207666416102355444464034512896=((n % RN:Nat):Int):=by
 rw [lw0,lw1,lw2,lw3]
 have e2:n/340282366920938463463374607431768211456=n/18446744073709551616/18446744073709551616:=by rw [YL]
 have e3:n/6277101735386680763835789423207666416102355444464034512896=n/18446744073709551616/18446744073709551616/18446744073709551616:=by rw [YL,YL]
 rw [e2,e3]
 simp only [RN]
 omega
theorem gy {s0 s1 s2 s3:Int} (h0:Word s0) (h1:Word s1) (h2:Word s2) (h3:Word s3) {n:Nat} (h:s0+s1*18446744073709551616+s2*340282366920938463463374607431768211456+s3*6277101735386680763835789423207666416102355444464034512896=(n:Int)) :
  Value.agg #[.int .u64 s0,.int .u64 s1,.int .u64 s2,.int .u64 s3]=nv n:=by
 obtain ⟨_,_⟩:=h0;obtain ⟨_,_⟩:=h1;obtain ⟨_,_⟩:=h2;obtain ⟨_,_⟩:=h3
 have e0:s0=lw n 0:=by rw [lw0];omega
 have e1:s1=lw n 1:=by rw [lw1];omega
 have e2:s2=lw n 2:=by rw [lw2];omega
 have e3:s3=lw n 3:=by rw [lw3];omega
 rw [nv,←e0,←e1,←e2,←e3]
theorem EI (n:Nat):nv (n % RN)=nv n:=(gy (ah n 0) (ah n 1) (ah n 2) (ah n 3) (aQ n)).symm
theorem jI (n:Nat):num (nv n)=n % RN:=by
 show (lw n 0+lw n 1*18446744073709551616+lw n 2*340282366920938463463374607431768211456+lw n 3*6277101735386680763835789423207666416102355444464034512896).toNat=_
 rw [aQ];rfl
theorem ak {n:Nat} (h:n<RN):num (nv n)=n:=by rw [jI,YK h]
def IsN (A:Value):Prop:=A=nv (num A)
theorem aI (n:Nat):IsN (nv n):=by unfold IsN;rw [jI,EI]
theorem aX {A:Value} (h:IsN A):num A<RN:=by
 have:num A=num A % RN:=by
  have e:=congrArg num h
  rw [jI] at e;exact e
 rw [this];exact Nat.mod_lt _ (by decide)
def bl (n:Nat):List Value:=(List.range 32).map fun i=>Value.int .u8 (by8 n i)
def bv (n:Nat):Value := .agg (bl n).toArray
def bsum:List Value→Nat
 | []=>0
 | .int _ x :: l=>x.toNat+256*bsum l
 | _ :: l=>256*bsum l
def ai:Value→Nat
 | .agg cs=>bsum cs.toList
 | _=>0
def IsB (A:Value):Prop:=A=bv (ai A)
open Go Go.RowKit
def X0:Cx:=(Cx.none.pure 108 gAdd).pure 116 J5
theorem xU:Bit 0:=⟨by decide,by decide⟩
theorem uq:Word 0:=⟨by decide,by decide⟩
theorem dL:X0.Ok Tryz.prog:=Ia (Hz Cx.none_ok)
namespace M64
theorem maskN (a:Nat) (ha:a<18446744073709551616):bits .and .u64 (a:Int) 4294967295=((a % 4294967296:Nat):Int):=by
 have h:=bits_and_u64_nat a 4294967295 ha (by omega)
 have e:a &&& 4294967295=a % 4294967296:=Nat.and_two_pow_sub_one_eq_mod a 32
 rw [e] at h
 exact h
theorem divN (a:Nat):(a:Int)/4294967296=((a/4294967296:Nat):Int):=by omega
theorem mulN (a b:Nat):(a:Int)*(b:Int)=((a*b:Nat):Int):=(Int.natCast_mul a b).symm
theorem addN (a b:Nat):(a:Int)+(b:Int)=((a+b:Nat):Int):=(Int.natCast_add a b).symm
theorem wrapN (a:Nat) (ha:a<18446744073709551616):IntKind.u64.wrap (a:Int)=(a:Int):=by rw [IntKind.wrap_u64];omega
theorem wrapM (a:Nat):IntKind.u64.wrap (a:Int)=((a % 18446744073709551616:Nat):Int):=by rw [IntKind.wrap_u64];omega
end M64
set_option maxHeartbeats 1000000 in
theorem gu (x y:Nat) (hx:x<18446744073709551616) (hy:y<18446744073709551616) (w:World) :
  Calls Tryz.prog 60 #[.int .u64 x,.int .u64 y] w fun e w'=>e = .returned (.tuple #[.int .u64 ((x*y/18446744073709551616:Nat):Int),.int .u64 ((x*y % 18446744073709551616:Nat):Int)])∧w'=w:=by
 obtain ⟨bd,bt,bw,hhi⟩:=Lib.mul64_hi x y hx hy
 have ba:=Lib.half_mul_le (a:=x/4294967296) (b:=y/4294967296) (by omega) (by omega)
 have bb:=Lib.half_mul_le (a:=x/4294967296) (b:=y % 4294967296) (by omega) (by omega)
 have bc:=Lib.half_mul_le (a:=x % 4294967296) (b:=y/4294967296) (by omega) (by omega)
 have ba':x/4294967296*(y/4294967296)<18446744073709551616:=by omega
 have bb':x/4294967296*(y % 4294967296)<18446744073709551616:=by omega
 have bc':x % 4294967296*(y/4294967296)<18446744073709551616:=by omega
 have bh1:x/4294967296*(y/4294967296)+(x/4294967296*(y % 4294967296)+x % 4294967296*(y % 4294967296)/4294967296)/4294967296<18446744073709551616:=by omega
 have bh:x/4294967296*(y/4294967296)+(x/4294967296*(y % 4294967296)+x % 4294967296*(y % 4294967296)/4294967296)/4294967296+((x/4294967296*(y % 4294967296)+x % 4294967296*(y % 4294967296)/4294967296) % 4294967296+x % 4294967296*(y/4294967296))/4294967296<18446744073709551616:=by omega
 go_enter Tryz.func60,Tryz.ntmps60
 go_wp2
 simp only [M64.maskN x hx,M64.maskN y hy,M64.divN,M64.mulN,M64.addN,M64.wrapN _ bd,M64.wrapN _ bb',M64.wrapN _ bt,M64.maskN _ bt,M64.wrapN _ bc',M64.wrapN _ bw,M64.wrapN _ ba',M64.wrapN _ bh1,M64.wrapN _ bh,M64.wrapM (x*y)]
 rw [hhi]
 go_ret2
 exact ⟨rfl,rfl⟩
theorem FY {X:Cx} (hX:X.Ok Tryz.prog):(X.pure 60 gMul).Ok Tryz.prog:=by
 refine aA hX Tryz.func60 (by kernel_rfl) (by kernel_rfl) ?_
 intro args ps v ha hg hp
 unfold gMul at hg
 split at hg
 ·rename_i x y
  simp only [qG,qH] at hg
  obtain ⟨rfl,rfl⟩:=hg
  obtain ⟨⟨x0,x1⟩,y0,y1⟩:=hp _ (YJ.2 rfl)
  refine ⟨.inl rfl,fun w => ?_⟩
  obtain ⟨x,rfl⟩:=Int.eq_ofNat_of_zero_le x0
  obtain ⟨y,rfl⟩:=Int.eq_ofNat_of_zero_le y0
  refine (gu x y (by omega) (by omega) w).mono ?_
  rintro e w' ⟨rfl,rfl⟩
  exact ⟨rfl,Below.refl _ _⟩
 ·simp at hg
def X1:Cx:=X0.pure 60 gMul
theorem jD:X1.Ok Tryz.prog:=FY dL
theorem oC (a0 a1 a2 a3 b0 b1 b2 b3:Int):sfun Tryz.prog X1 60 Tryz.f107 (ag Tryz.f107) [.agg #[.int .u64 a0,.int .u64 a1,.int .u64 a2,.int .u64 a3],.agg #[.int .u64 b0,.int .u64 b1,.int .u64 b2,.int .u64 b3]]=some ([Word a0∧Word b0∧Bit (0),
  Word a1∧Word b1∧Bit (((a0+b0+0)/18446744073709551616)),
  Word a2∧Word b2∧Bit (((a1+b1+((a0+b0+0)/18446744073709551616))/18446744073709551616)),
  Word a3∧Word b3∧Bit (((a2+b2+((a1+b1+((a0+b0+0)/18446744073709551616))/18446744073709551616))/18446744073709551616))],.tuple #[.agg #[.int .u64 ((a0+b0+0) % 18446744073709551616),.int .u64 ((a1+b1+((a0+b0+0)/18446744073709551616)) % 18446744073709551616),.int .u64 ((a2+b2+((a1+b1+((a0+b0+0)/18446744073709551616))/18446744073709551616)) % 18446744073709551616),.int .u64 ((a3+b3+((a2+b2+((a1+b1+((a0+b0+0)/18446744073709551616))/18446744073709551616))/18446744073709551616)) % 18446744073709551616)],.int .u64 ((a3+b3+((a2+b2+((a1+b1+((a0+b0+0)/18446744073709551616))/18446744073709551616))/18446744073709551616))/18446744073709551616)]):=by kernel_rfl
def gPlus:List Value→Option (List Prop × Value)
 | [A,B]=>some ([IsN A∧IsN B],.tuple #[nv ((num A+num B) % RN),.int .u64 (((num A+num B)/RN:Nat):Int)])
 | _=>none
theorem kO (a0 a1 a2 a3 b0 b1 b2 b3:Int) (x0:Word a0) (x1:Word a1) (x2:Word a2) (x3:Word a3) (y0:Word b0) (y1:Word b1) (y2:Word b2) (y3:Word b3) (a b:Nat)
  (ha:a0+a1*18446744073709551616+a2*340282366920938463463374607431768211456+a3*6277101735386680763835789423207666416102355444464034512896=(a:Int)) (hb:b0+b1*18446744073709551616+b2*340282366920938463463374607431768211456+b3*6277101735386680763835789423207666416102355444464034512896=(b:Int)) :
  (∀ p ∈ [Word a0∧Word b0∧Bit (0),
  Word a1∧Word b1∧Bit (((a0+b0+0)/18446744073709551616)),
  Word a2∧Word b2∧Bit (((a1+b1+((a0+b0+0)/18446744073709551616))/18446744073709551616)),
  Word a3∧Word b3∧Bit (((a2+b2+((a1+b1+((a0+b0+0)/18446744073709551616))/18446744073709551616))/18446744073709551616))],p)∧Value.tuple #[.agg #[.int .u64 ((a0+b0+0) % 18446744073709551616),.int .u64 ((a1+b1+((a0+b0+0)/18446744073709551616)) % 18446744073709551616),.int .u64 ((a2+b2+((a1+b1+((a0+b0+0)/18446744073709551616))/18446744073709551616)) % 18446744073709551616),.int .u64 ((a3+b3+((a2+b2+((a1+b1+((a0+b0+0)/18446744073709551616))/18446744073709551616))/18446744073709551616)) % 18446744073709551616)],.int .u64 ((a3+b3+((a2+b2+((a1+b1+((a0+b0+0)/18446744073709551616))/18446744073709551616))/18446744073709551616))/18446744073709551616)] = .tuple #[nv ((a+b) % RN),.int .u64 (((a+b)/RN:Nat):Int)]:=by
 have hx:=x0;have hx1:=x1;have hx2:=x2;have hx3:=x3;have hy:=y0;have hy1:=y1;have hy2:=y2;have hy3:=y3
 unfold Word at hx hx1 hx2 hx3 hy hy1 hy2 hy3
 obtain ⟨c0,hc0⟩ : ∃ c,c=(a0+b0+0)/18446744073709551616:=⟨_,rfl⟩
 rw [←hc0]
 obtain ⟨c1,hc1⟩ : ∃ c,c=(a1+b1+c0)/18446744073709551616:=⟨_,rfl⟩
 rw [←hc1]
 obtain ⟨c2,hc2⟩ : ∃ c,c=(a2+b2+c1)/18446744073709551616:=⟨_,rfl⟩
 rw [←hc2]
 obtain ⟨c3,hc3⟩ : ∃ c,c=(a3+b3+c2)/18446744073709551616:=⟨_,rfl⟩
 rw [←hc3]
 have k0:Bit c0:=by unfold Bit;omega
 have k1:Bit c1:=by unfold Bit at *;omega
 have k2:Bit c2:=by unfold Bit at *;omega
 have k3:Bit c3:=by unfold Bit at *;omega
 refine ⟨?_,?_⟩
 ·intro p hp
  simp only [List.mem_cons,List.not_mem_nil,or_false] at hp
  rcases hp with rfl | rfl | rfl | rfl
  ·exact ⟨x0,y0,xU⟩
  ·exact ⟨x1,y1,k0⟩
  ·exact ⟨x2,y2,k1⟩
  ·exact ⟨x3,y3,k2⟩
 ·unfold Bit at *
  have hs:(a0+b0+0) % 18446744073709551616+(a1+b1+c0) % 18446744073709551616*18446744073709551616+(a2+b2+c1) % 18446744073709551616*340282366920938463463374607431768211456+(a3+b3+c2) % 18446744073709551616*6277101735386680763835789423207666416102355444464034512896+c3*115792089237316195423570985008687907853269984665640564039457584007913129639936=(a:Int)+b:=by omega
  rw [gy (n:=(a+b) % RN) (by unfold Word;omega) (by unfold Word;omega) (by unfold Word;omega) (by unfold Word;omega) (by simp only [RN];omega)]
  have:c3=(((a+b)/RN:Nat):Int):=by simp only [RN];omega
  rw [this]
theorem pd {X:Cx} (hX:X.Ok Tryz.prog):(X.pure 107 gPlus).Ok Tryz.prog:=by
 refine aA hX Tryz.func107 (by kernel_rfl) (by kernel_rfl) ?_
 intro args ps v ha hg hp
 unfold gPlus at hg
 split at hg
 ·rename_i A B
  simp only [qG,qH] at hg
  obtain ⟨rfl,rfl⟩:=hg
  obtain ⟨hA,hB⟩:=hp _ (YJ.2 rfl)
  refine ⟨.inl rfl,fun w => ?_⟩
  have lA:=aX hA
  have lB:=aX hB
  rw [hA,hB,ak lA,ak lB]
  generalize num A=a at *
  generalize num B=b at *
  have k:=kO (lw a 0) (lw a 1) (lw a 2) (lw a 3) (lw b 0) (lw b 1) (lw b 2) (lw b 3) (ah _ _) (ah _ _) (ah _ _) (ah _ _) (ah _ _) (ah _ _) (ah _ _) (ah _ _) a b (by rw [aQ,YK lA]) (by rw [aQ,YK lB])
  have h:=aq jD mixed Tryz.func107 (by kernel_rfl) (oC (lw a 0) (lw a 1) (lw a 2) (lw a 3) (lw b 0) (lw b 1) (lw b 2) (lw b 3)) k.1 rfl (.inl rfl) w
  rw [k.2] at h
  exact h
 ·simp at hg
theorem kZ (a0 a1 a2 a3 b0 b1 b2 b3:Int):sfun Tryz.prog X1 60 Tryz.f72 (ag Tryz.f72) [.agg #[.int .u64 a0,.int .u64 a1,.int .u64 a2,.int .u64 a3],.agg #[.int .u64 b0,.int .u64 b1,.int .u64 b2,.int .u64 b3]]=some ([Word a0∧Word b0∧Bit (0),
  Word a1∧Word b1∧Bit ((bor a0 (b0+0))),
  Word a2∧Word b2∧Bit ((bor a1 (b1+(bor a0 (b0+0))))),
  Word a3∧Word b3∧Bit ((bor a2 (b2+(bor a1 (b1+(bor a0 (b0+0)))))))],.tuple #[.agg #[.int .u64 ((a0 - b0 - 0) % 18446744073709551616),.int .u64 ((a1 - b1 - (bor a0 (b0+0))) % 18446744073709551616),.int .u64 ((a2 - b2 - (bor a1 (b1+(bor a0 (b0+0))))) % 18446744073709551616),.int .u64 ((a3 - b3 - (bor a2 (b2+(bor a1 (b1+(bor a0 (b0+0))))))) % 18446744073709551616)],.int .u64 (bor a3 (b3+(bor a2 (b2+(bor a1 (b1+(bor a0 (b0+0))))))))]):=by kernel_rfl
def lg:List Value→Option (List Prop × Value)
 | [A,B]=>some ([IsN A∧IsN B],.tuple #[nv ((num A+RN - num B) % RN),.int .u64 (if num A<num B then 1 else 0)])
 | _=>none
theorem kS (a0 a1 a2 a3 b0 b1 b2 b3:Int) (x0:Word a0) (x1:Word a1) (x2:Word a2) (x3:Word a3) (y0:Word b0) (y1:Word b1) (y2:Word b2) (y3:Word b3) (a b:Nat) (hla:a<RN) (hlb:b<RN)
  (ha:a0+a1*18446744073709551616+a2*340282366920938463463374607431768211456+a3*6277101735386680763835789423207666416102355444464034512896=(a:Int)) (hb:b0+b1*18446744073709551616+b2*340282366920938463463374607431768211456+b3*6277101735386680763835789423207666416102355444464034512896=(b:Int)) :
  (∀ p ∈ [Word a0∧Word b0∧Bit (0),
  Word a1∧Word b1∧Bit ((bor a0 (b0+0))),
  Word a2∧Word b2∧Bit ((bor a1 (b1+(bor a0 (b0+0))))),
  Word a3∧Word b3∧Bit ((bor a2 (b2+(bor a1 (b1+(bor a0 (b0+0)))))))],p)∧Value.tuple #[.agg #[.int .u64 ((a0 - b0 - 0) % 18446744073709551616),.int .u64 ((a1 - b1 - (bor a0 (b0+0))) % 18446744073709551616),.int .u64 ((a2 - b2 - (bor a1 (b1+(bor a0 (b0+0))))) % 18446744073709551616),.int .u64 ((a3 - b3 - (bor a2 (b2+(bor a1 (b1+(bor a0 (b0+0))))))) % 18446744073709551616)],.int .u64 (bor a3 (b3+(bor a2 (b2+(bor a1 (b1+(bor a0 (b0+0))))))))] = .tuple #[nv ((a+RN - b) % RN),.int .u64 (if a<b then 1 else 0)]:=by
 have hx:=x0;have hx1:=x1;have hx2:=x2;have hx3:=x3;have hy:=y0;have hy1:=y1;have hy2:=y2;have hy3:=y3
 unfold Word at hx hx1 hx2 hx3 hy hy1 hy2 hy3
 obtain ⟨c0,hc0⟩ : ∃ c,c=bor a0 (b0+0):=⟨_,rfl⟩
 rw [←hc0]
 obtain ⟨c1,hc1⟩ : ∃ c,c=bor a1 (b1+c0):=⟨_,rfl⟩
 rw [←hc1]
 obtain ⟨c2,hc2⟩ : ∃ c,c=bor a2 (b2+c1):=⟨_,rfl⟩
 rw [←hc2]
 obtain ⟨c3,hc3⟩ : ∃ c,c=bor a3 (b3+c2):=⟨_,rfl⟩
 rw [←hc3]
 have k0:Bit c0:=hc0 ▸ m8 _ _
 have k1:Bit c1:=hc1 ▸ m8 _ _
 have k2:Bit c2:=hc2 ▸ m8 _ _
 have k3:Bit c3:=hc3 ▸ m8 _ _
 refine ⟨?_,?_⟩
 ·intro p hp
  simp only [List.mem_cons,List.not_mem_nil,or_false] at hp
  rcases hp with rfl | rfl | rfl | rfl
  ·exact ⟨x0,y0,xU⟩
  ·exact ⟨x1,y1,k0⟩
  ·exact ⟨x2,y2,k1⟩
  ·exact ⟨x3,y3,k2⟩
 ·unfold Bit at *
  have e0:(a0 - b0 - 0) % 18446744073709551616=a0 - b0+c0*18446744073709551616:=by unfold bor at hc0;split at hc0 <;> omega
  have e1:(a1 - b1 - c0) % 18446744073709551616=a1 - b1 - c0+c1*18446744073709551616:=by unfold bor at hc1;split at hc1 <;> omega
  have e2:(a2 - b2 - c1) % 18446744073709551616=a2 - b2 - c1+c2*18446744073709551616:=by unfold bor at hc2;split at hc2 <;> omega
  have e3:(a3 - b3 - c2) % 18446744073709551616=a3 - b3 - c2+c3*18446744073709551616:=by unfold bor at hc3;split at hc3 <;> omega
  have w0:Word ((a0 - b0 - 0) % 18446744073709551616):=by unfold Word;omega
  have w1:Word ((a1 - b1 - c0) % 18446744073709551616):=by unfold Word;omega
  have w2:Word ((a2 - b2 - c1) % 18446744073709551616):=by unfold Word;omega
  have w3:Word ((a3 - b3 - c2) % 18446744073709551616):=by unfold Word;omega
  have hs:(a0 - b0 - 0) % 18446744073709551616+(a1 - b1 - c0) % 18446744073709551616*18446744073709551616+(a2 - b2 - c1) % 18446744073709551616*340282366920938463463374607431768211456+(a3 - b3 - c2) % 18446744073709551616*6277101735386680763835789423207666416102355444464034512896=(a:Int) - b+c3*115792089237316195423570985008687907853269984665640564039457584007913129639936:=by omega
  clear hc0 hc1 hc2 hc3 e0 e1 e2 e3
  generalize (a0 - b0 - 0) % 18446744073709551616=s0 at *
  generalize (a1 - b1 - c0) % 18446744073709551616=s1 at *
  generalize (a2 - b2 - c1) % 18446744073709551616=s2 at *
  generalize (a3 - b3 - c2) % 18446744073709551616=s3 at *
  simp only [RN] at hla hlb
  have hsb:0≤s0+s1*18446744073709551616+s2*340282366920938463463374607431768211456+s3*6277101735386680763835789423207666416102355444464034512896∧s0+s1*18446744073709551616+s2*340282366920938463463374607431768211456+s3*6277101735386680763835789423207666416102355444464034512896<115792089237316195423570985008687907853269984665640564039457584007913129639936:=by unfold Word at *;omega
  rw [gy (n:=(a+RN - b) % RN) w0 w1 w2 w3 (by simp only [RN];omega)]
  have:c3=(if a<b then 1 else 0):=by split <;> omega
  rw [this]
theorem lk {X:Cx} (hX:X.Ok Tryz.prog):(X.pure 72 lg).Ok Tryz.prog:=by
 refine aA hX Tryz.func72 (by kernel_rfl) (by kernel_rfl) ?_
 intro args ps v ha hg hp
 unfold lg at hg
 split at hg
 ·rename_i A B
  simp only [qG,qH] at hg
  obtain ⟨rfl,rfl⟩:=hg
  obtain ⟨hA,hB⟩:=hp _ (YJ.2 rfl)
  refine ⟨.inl rfl,fun w => ?_⟩
  have lA:=aX hA
  have lB:=aX hB
  rw [hA,hB,ak lA,ak lB]
  generalize num A=a at *
  generalize num B=b at *
  have k:=kS (lw a 0) (lw a 1) (lw a 2) (lw a 3) (lw b 0) (lw b 1) (lw b 2) (lw b 3) (ah _ _) (ah _ _) (ah _ _) (ah _ _) (ah _ _) (ah _ _) (ah _ _) (ah _ _) a b lA lB (by rw [aQ,YK lA]) (by rw [aQ,YK lB])
  have h:=aq jD mixed Tryz.func72 (by kernel_rfl) (kZ (lw a 0) (lw a 1) (lw a 2) (lw a 3) (lw b 0) (lw b 1) (lw b 2) (lw b 3)) k.1 rfl (.inl rfl) w
  rw [k.2] at h
  exact h
 ·simp at hg
theorem kT (n0 n1 n2 n3 x:Int):sfun Tryz.prog X1 60 Tryz.f106 (ag Tryz.f106) [.agg #[.int .u64 n0,.int .u64 n1,.int .u64 n2,.int .u64 n3],.int .u64 x]=some ([Word n0∧Word x,
  Word (n0*x % 18446744073709551616)∧Word 0∧Bit 0,
  Word n1∧Word x,
  Word (n1*x % 18446744073709551616)∧Word (IntKind.u64.wrap ((n0*x/18446744073709551616)+((n0*x % 18446744073709551616)+0+0)/18446744073709551616))∧Bit 0,
  Word n2∧Word x,
  Word (n2*x % 18446744073709551616)∧Word (IntKind.u64.wrap ((n1*x/18446744073709551616)+((n1*x % 18446744073709551616)+(IntKind.u64.wrap ((n0*x/18446744073709551616)+((n0*x % 18446744073709551616)+0+0)/18446744073709551616))+0)/18446744073709551616))∧Bit 0,
  Word n3∧Word x,
  Word (n3*x % 18446744073709551616)∧Word (IntKind.u64.wrap ((n2*x/18446744073709551616)+((n2*x % 18446744073709551616)+(IntKind.u64.wrap ((n1*x/18446744073709551616)+((n1*x % 18446744073709551616)+(IntKind.u64.wrap ((n0*x/18446744073709551616)+((n0*x % 18446744073709551616)+0+0)/18446744073709551616))+0)/18446744073709551616))+0)/18446744073709551616))∧Bit 0],.tuple #[.agg #[.int .u64 (((n0*x % 18446744073709551616)+0+0) % 18446744073709551616),.int .u64 (((n1*x % 18446744073709551616)+(IntKind.u64.wrap ((n0*x/18446744073709551616)+((n0*x % 18446744073709551616)+0+0)/18446744073709551616))+0) % 18446744073709551616),.int .u64 (((n2*x % 18446744073709551616)+(IntKind.u64.wrap ((n1*x/18446744073709551616)+((n1*x % 18446744073709551616)+(IntKind.u64.wrap ((n0*x/18446744073709551616)+((n0*x % 18446744073709551616)+0+0)/18446744073709551616))+0)/18446744073709551616))+0) % 18446744073709551616),.int .u64 (((n3*x % 18446744073709551616)+(IntKind.u64.wrap ((n2*x/18446744073709551616)+((n2*x % 18446744073709551616)+(IntKind.u64.wrap ((n1*x/18446744073709551616)+((n1*x % 18446744073709551616)+(IntKind.u64.wrap ((n0*x/18446744073709551616)+((n0*x % 18446744073709551616)+0+0)/18446744073709551616))+0)/18446744073709551616))+0)/18446744073709551616))+0) % 18446744073709551616)],.int .u64 (IntKind.u64.wrap ((n3*x/18446744073709551616)+((n3*x % 18446744073709551616)+(IntKind.u64.wrap ((n2*x/18446744073709551616)+((n2*x % 18446744073709551616)+(IntKind.u64.wrap ((n1*x/18446744073709551616)+((n1*x % 18446744073709551616)+(IntKind.u64.wrap ((n0*x/18446744073709551616)+((n0*x % 18446744073709551616)+0+0)/18446744073709551616))+0)/18446744073709551616))+0)/18446744073709551616))+0)/18446744073709551616))]):=by kernel_rfl
def gScale:List Value→Option (List Prop × Value)
 | [A,.int .u64 x]=>some ([IsN A∧Word x],.tuple #[nv (num A*x.toNat % RN),.int .u64 ((num A*x.toNat/RN:Nat):Int)])
 | _=>none
theorem gP (n x o:Int) (hn:Word n) (hx:Word x) (ho:Word o) : ∃ s k,(n*x % 18446744073709551616+o+0) % 18446744073709551616=s∧IntKind.u64.wrap (n*x/18446744073709551616+(n*x % 18446744073709551616+o+0)/18446744073709551616)=k∧Word s∧Word k∧s+k*18446744073709551616=n*x+o∧Word (n*x % 18446744073709551616):=by
 obtain ⟨n0,n1⟩:=hn
 obtain ⟨x0,x1⟩:=hx
 obtain ⟨o0,o1⟩:=ho
 have hp:n*x≤18446744073709551615*18446744073709551615:=Int.mul_le_mul (by omega) (by omega) x0 (by omega)
 have hp0:0≤n*x:=Int.mul_nonneg n0 x0
 generalize n*x=y at *
 refine ⟨_,_,rfl,rfl,?_,?_,?_,?_⟩
 all_goals (try rw [IntKind.wrap_u64])
 all_goals (try unfold Word)
 all_goals omega
theorem lK (n0 n1 n2 n3 x:Int) (y0:Word n0) (y1:Word n1) (y2:Word n2) (y3:Word n3) (hx:Word x) (a:Nat)
  (ha:n0+n1*18446744073709551616+n2*340282366920938463463374607431768211456+n3*6277101735386680763835789423207666416102355444464034512896=(a:Int)) :
  (∀ p ∈ [Word n0∧Word x,
  Word (n0*x % 18446744073709551616)∧Word 0∧Bit 0,
  Word n1∧Word x,
  Word (n1*x % 18446744073709551616)∧Word (IntKind.u64.wrap ((n0*x/18446744073709551616)+((n0*x % 18446744073709551616)+0+0)/18446744073709551616))∧Bit 0,
  Word n2∧Word x,
  Word (n2*x % 18446744073709551616)∧Word (IntKind.u64.wrap ((n1*x/18446744073709551616)+((n1*x % 18446744073709551616)+(IntKind.u64.wrap ((n0*x/18446744073709551616)+((n0*x % 18446744073709551616)+0+0)/18446744073709551616))+0)/18446744073709551616))∧Bit 0,
  Word n3∧Word x,
  Word (n3*x % 18446744073709551616)∧Word (IntKind.u64.wrap ((n2*x/18446744073709551616)+((n2*x % 18446744073709551616)+(IntKind.u64.wrap ((n1*x/18446744073709551616)+((n1*x % 18446744073709551616)+(IntKind.u64.wrap ((n0*x/18446744073709551616)+((n0*x % 18446744073709551616)+0+0)/18446744073709551616))+0)/18446744073709551616))+0)/18446744073709551616))∧Bit 0],p)∧Value.tuple #[.agg #[.int .u64 (((n0*x % 18446744073709551616)+0+0) % 18446744073709551616),.int .u64 (((n1*x % 18446744073709551616)+(IntKind.u64.wrap ((n0*x/18446744073709551616)+((n0*x % 18446744073709551616)+0+0)/18446744073709551616))+0) % 18446744073709551616),.int .u64 (((n2*x % 18446744073709551616)+(IntKind.u64.wrap ((n1*x/18446744073709551616)+((n1*x % 18446744073709551616)+(IntKind.u64.wrap ((n0*x/18446744073709551616)+((n0*x % 18446744073709551616)+0+0)/18446744073709551616))+0)/18446744073709551616))+0) % 18446744073709551616),.int .u64 (((n3*x % 18446744073709551616)+(IntKind.u64.wrap ((n2*x/18446744073709551616)+((n2*x % 18446744073709551616)+(IntKind.u64.wrap ((n1*x/18446744073709551616)+((n1*x % 18446744073709551616)+(IntKind.u64.wrap ((n0*x/18446744073709551616)+((n0*x % 18446744073709551616)+0+0)/18446744073709551616))+0)/18446744073709551616))+0)/18446744073709551616))+0) % 18446744073709551616)],.int .u64 (IntKind.u64.wrap ((n3*x/18446744073709551616)+((n3*x % 18446744073709551616)+(IntKind.u64.wrap ((n2*x/18446744073709551616)+((n2*x % 18446744073709551616)+(IntKind.u64.wrap ((n1*x/18446744073709551616)+((n1*x % 18446744073709551616)+(IntKind.u64.wrap ((n0*x/18446744073709551616)+((n0*x % 18446744073709551616)+0+0)/18446744073709551616))+0)/18446744073709551616))+0)/18446744073709551616))+0)/18446744073709551616))] = .tuple #[nv (a*x.toNat % RN),.int .u64 ((a*x.toNat/RN:Nat):Int)]:=by
 obtain ⟨s0,k0,e0,f0,g0,h0,i0,j0⟩:=gP n0 x 0 y0 hx uq
 rw [e0,f0]
 obtain ⟨s1,k1,e1,f1,g1,h1,i1,j1⟩:=gP n1 x k0 y1 hx h0
 rw [e1,f1]
 obtain ⟨s2,k2,e2,f2,g2,h2,i2,j2⟩:=gP n2 x k1 y2 hx h1
 rw [e2,f2]
 obtain ⟨s3,k3,e3,f3,g3,h3,i3,j3⟩:=gP n3 x k2 y3 hx h2
 rw [e3,f3]
 refine ⟨?_,?_⟩
 ·intro p hp
  simp only [List.mem_cons,List.not_mem_nil,or_false] at hp
  rcases hp with rfl | rfl | rfl | rfl | rfl | rfl | rfl | rfl
  ·exact ⟨y0,hx⟩
  ·exact ⟨j0,uq,xU⟩
  ·exact ⟨y1,hx⟩
  ·exact ⟨j1,h0,xU⟩
  ·exact ⟨y2,hx⟩
  ·exact ⟨j2,h1,xU⟩
  ·exact ⟨y3,hx⟩
  ·exact ⟨j3,h2,xU⟩
 ·obtain ⟨x,rfl⟩:=Int.eq_ofNat_of_zero_le hx.1
  have hv:s0+s1*18446744073709551616+s2*340282366920938463463374607431768211456+s3*6277101735386680763835789423207666416102355444464034512896+k3*115792089237316195423570985008687907853269984665640564039457584007913129639936=((a*x:Nat):Int):=by
   rw [Int.natCast_mul,←ha,Int.add_mul (n0+_+_),Int.add_mul (n0+_),Int.add_mul n0,Int.mul_right_comm n1,Int.mul_right_comm n2,Int.mul_right_comm n3]
   omega
  rw [Int.toNat_natCast]
  generalize a*x=q at *
  unfold Word at *
  have hsb:0≤s0+s1*18446744073709551616+s2*340282366920938463463374607431768211456+s3*6277101735386680763835789423207666416102355444464034512896∧s0+s1*18446744073709551616+s2*340282366920938463463374607431768211456+s3*6277101735386680763835789423207666416102355444464034512896<115792089237316195423570985008687907853269984665640564039457584007913129639936:=by omega
  rw [gy (n:=q % RN) g0 g1 g2 g3 (by simp only [RN];omega)]
  have:k3=((q/RN:Nat):Int):=by simp only [RN];omega
  rw [this]
theorem lJ {X:Cx} (hX:X.Ok Tryz.prog):(X.pure 106 gScale).Ok Tryz.prog:=by
 refine aA hX Tryz.func106 (by kernel_rfl) (by kernel_rfl) ?_
 intro args ps v ha hg hp
 unfold gScale at hg
 split at hg
 ·rename_i A x
  simp only [qG,qH] at hg
  obtain ⟨rfl,rfl⟩:=hg
  obtain ⟨hA,hx⟩:=hp _ (YJ.2 rfl)
  refine ⟨.inl rfl,fun w => ?_⟩
  have lA:=aX hA
  rw [hA,ak lA]
  generalize num A=a at *
  have k:=lK (lw a 0) (lw a 1) (lw a 2) (lw a 3) x (ah _ _) (ah _ _) (ah _ _) (ah _ _) hx a (by rw [aQ,YK lA])
  have h:=aq jD mixed Tryz.func106 (by kernel_rfl) (kT (lw a 0) (lw a 1) (lw a 2) (lw a 3) x) k.1 rfl (.inl rfl) w
  rw [k.2] at h
  exact h
 ·simp at hg
abbrev TN:Nat:=27742317777372353535851937790883648493
abbrev LN:Nat:=7237005577332262213973186563042994240857116359379907606001950938285454250989
def gTail:List Value→Option (List Prop × Value)
 | []=>some ([],nv TN)
 | _=>none
def lO:List Value→Option (List Prop × Value)
 | []=>some ([],nv LN)
 | _=>none
theorem EE {X:Cx} (hX:X.Ok Tryz.prog):(X.pure 117 gTail).Ok Tryz.prog:=by
 refine aA hX Tryz.func117 (by kernel_rfl) (by kernel_rfl) ?_
 intro args ps v ha hg hp
 unfold gTail at hg
 split at hg
 ·simp only [qG,qH] at hg
  obtain ⟨rfl,rfl⟩:=hg
  have hr:sfun Tryz.prog X1 60 Tryz.f117 (ag Tryz.f117) []=some ([],nv TN):=by kernel_rfl
  exact ⟨.inl rfl,aq jD mixed Tryz.func117 (by kernel_rfl) hr (by simp) rfl (.inl rfl)⟩
 ·simp at hg
def X2:Cx:=(((X1.pure 107 gPlus).pure 72 lg).pure 106 gScale).pure 117 gTail
theorem Jy:X2.Ok Tryz.prog:=EE (lJ (lk (pd jD)))
theorem AV {X:Cx} (hX:X.Ok Tryz.prog):(X.pure 73 lO).Ok Tryz.prog:=by
 refine aA hX Tryz.func73 (by kernel_rfl) (by kernel_rfl) ?_
 intro args ps v ha hg hp
 unfold lO at hg
 split at hg
 ·simp only [qG,qH] at hg
  obtain ⟨rfl,rfl⟩:=hg
  have hr:sfun Tryz.prog X2 60 Tryz.f73 (ag Tryz.f73) []=some ([],nv LN):=by kernel_rfl
  exact ⟨.inl rfl,aq Jy mixed Tryz.func73 (by kernel_rfl) hr (by simp) rfl (.inl rfl)⟩
 ·simp at hg
def X3:Cx:=X2.pure 73 lO
theorem Bz:X3.Ok Tryz.prog:=AV Jy
open Go Go.RowKit
def blm (m n:Nat):List Value:=(List.range m).map fun i=>Value.int .u8 (by8 n i)
theorem fb (n:Nat) : ∀ (m o:Nat),bsum ((List.range' o m).map fun i=>Value.int .u8 (by8 n i))=n/256 ^ o % 256 ^ m
 | 0,o=>by simp [bsum,Nat.mod_one]
 | m+1,o=>by
  rw [List.range'_succ,List.map_cons,bsum,fb n m (o+1)]
  simp only [by8,Int.toNat_natCast]
  rw [Nat.pow_succ 256 o,←YL,Nat.pow_succ 256 m,Nat.mul_comm (256 ^ m) 256,Nat.mod_mul]
theorem kf (m n:Nat):bsum (blm m n)=n % 256 ^ m:=by
 unfold blm;rw [List.range_eq_range',fb,Nat.pow_zero,Nat.div_one]
theorem kv (n m i:Nat) (h:i<m):by8 (n % 256 ^ m) i=by8 n i:=by
 unfold by8
 congr 1
 have:256 ^ m=256 ^ i*(256*256 ^ (m - i - 1)):=by rw [←Nat.pow_succ',←Nat.pow_add];congr 1;omega
 rw [this,Nat.mod_mul_right_div_self,Nat.mod_mul_right_mod]
theorem GK (m n:Nat):blm m (n % 256 ^ m)=blm m n:=by
 unfold blm
 exact List.map_congr_left fun i hi=>by rw [kv n m i (by simpa using hi)]
theorem iy:RN=256 ^ 32:=by decide
theorem fP (n:Nat):ai (bv n)=n % RN:=by rw [iy];exact kf 32 n
theorem xF (n:Nat):bv (n % RN)=bv n:=by
 rw [iy];unfold bv;exact congrArg (fun l:List Value=>Value.agg l.toArray) (GK 32 n)
theorem aJ (n:Nat):IsB (bv n):=by unfold IsB;rw [fP,xF]
theorem aT {A:Value} (h:IsB A):ai A<RN:=by
 have:ai A=ai A % RN:=by
  have e:=congrArg ai h
  rw [fP] at e;exact e
 rw [this];exact Nat.mod_lt _ (by decide)
theorem ao {n:Nat} (h:n<RN):ai (bv n)=n:=by rw [fP,YK h]
theorem aB (n:Nat):flat (bv n)=true:=by
 show ((bl n).toArray.toList.all flat1)=true
 simp [bl,flat1]
theorem gO (n k j:Nat) (hj:j<8):n/256 ^ (8*k+j) % 256=n/18446744073709551616 ^ k % 18446744073709551616/256 ^ j % 256:=by
 have e:(256:Nat) ^ (8*k+j)=18446744073709551616 ^ k*256 ^ j:=by rw [Nat.pow_add,Nat.pow_mul]
 rw [e,←YL]
 have e2:(18446744073709551616:Nat)=256 ^ j*(256*256 ^ (7 - j)):=by
  rw [←Nat.pow_succ',←Nat.pow_add,show j+(7 - j).succ=8 by omega]
 generalize n/18446744073709551616 ^ k=x
 rw [e2,Nat.mod_mul_right_div_self,Nat.mod_mul_right_mod]
theorem dH (x y k:Nat) (hx:x<2 ^ k) (hy:y*2 ^ k<18446744073709551616) (hx2:x<18446744073709551616) :
  bits .or .u64 (x:Int) ((y*2 ^ k:Nat):Int)=((x+y*2 ^ k:Nat):Int):=by
 rw [bits_or_u64_nat x (y*2 ^ k) hx2 hy]
 congr 1
 rw [←Nat.shiftLeft_eq,Nat.or_comm,←Nat.shiftLeft_add_eq_or_of_lt hx,Nat.add_comm]
def orf (n k:Nat):Nat→Int
 | 0=>0
 | j+1=>bits .or .u64 (orf n k j) (IntKind.u64.wrap (IntKind.u64.wrap (by8 n (8*k+j))*2 ^ (8*j)))
theorem DP (n k:Nat) : ∀ j,j≤8→orf n k j=((n/18446744073709551616 ^ k % 18446744073709551616 % 256 ^ j:Nat):Int)
 | 0,_=>by simp [orf,Nat.mod_one]
 | j+1,h=>by
  have hb:by8 n (8*k+j)=((n/18446744073709551616 ^ k % 18446744073709551616/256 ^ j % 256:Nat):Int):=by
   unfold by8;rw [gO n k j (by omega)]
  rw [orf,DP n k j (by omega),hb]
  generalize n/18446744073709551616 ^ k % 18446744073709551616=x
  have e:(2:Nat) ^ (8*j)=256 ^ j:=by rw [Nat.pow_mul]
  have hlt:256 ^ j*256≤18446744073709551616:=by
   have:(256:Nat) ^ j*256≤256 ^ 8:=by rw [←Nat.pow_succ];exact Nat.pow_le_pow_right (by omega) h
   simpa using this
  have hb2:x/256 ^ j % 256<256:=Nat.mod_lt _ (by omega)
  have hy:x/256 ^ j % 256*2 ^ (8*j)<18446744073709551616:=by
   rw [e]
   calc x/256 ^ j % 256*256 ^ j<256*256 ^ j:=Nat.mul_lt_mul_of_pos_right hb2 (Nat.pow_pos (by omega))
    _≤18446744073709551616:=by rw [Nat.mul_comm];exact hlt
  have w1:IntKind.u64.wrap ((x/256 ^ j % 256:Nat):Int)=((x/256 ^ j % 256:Nat):Int):=by rw [IntKind.wrap_u64];omega
  have w2:IntKind.u64.wrap (((x/256 ^ j % 256:Nat):Int)*2 ^ (8*j))=((x/256 ^ j % 256*2 ^ (8*j):Nat):Int):=by
   have:(((x/256 ^ j % 256:Nat):Int)*2 ^ (8*j))=((x/256 ^ j % 256*2 ^ (8*j):Nat):Int):=by
    rw [Int.natCast_mul,Int.natCast_pow];rfl
   rw [this,IntKind.wrap_u64];omega
  have hm:x % 256 ^ j<256 ^ j:=Nat.mod_lt _ (Nat.pow_pos (by omega))
  rw [w1,w2,dH _ _ _ (by rw [e];exact hm) hy (by omega),e]
  congr 1
  rw [Nat.pow_succ,Nat.mod_mul,Nat.mul_comm (x/256 ^ j % 256)]
theorem iW (n k:Nat):orf n k 8=lw n k:=by
 rw [DP n k 8 (Nat.le_refl _)]
 unfold lw
 congr 1
 exact Nat.mod_mod _ _
theorem zP (n:Nat):sfun Tryz.prog X3 200 Tryz.f58 (ag Tryz.f58) [bv n]=some ([],.agg #[.int .u64 (orf n 0 8),.int .u64 (orf n 1 8),.int .u64 (orf n 2 8),.int .u64 (orf n 3 8)]):=by kernel_rfl
def gLoad:List Value→Option (List Prop × Value)
 | [A]=>some ([IsB A],nv (ai A))
 | _=>none
theorem Dm {X:Cx} (hX:X.Ok Tryz.prog):(X.pure 58 gLoad).Ok Tryz.prog:=by
 refine aA hX Tryz.func58 (by kernel_rfl) (by kernel_rfl) ?_
 intro args ps v ha hg hp
 unfold gLoad at hg
 split at hg
 ·rename_i A
  simp only [qG,qH] at hg
  obtain ⟨rfl,rfl⟩:=hg
  have hA:=hp _ (YJ.2 rfl)
  refine ⟨.inl rfl,fun w => ?_⟩
  have lA:=aT hA
  rw [hA,ao lA]
  generalize ai A=a at *
  have h:=aq Bz mixed Tryz.func58 (by kernel_rfl) (zP a) (by simp) (by simp [aB]) (.inl rfl) w
  rw [iW,iW,iW,iW] at h
  exact h
 ·simp at hg
theorem yb (n:Nat):sfun Tryz.prog X3 200 Tryz.f56 (ag Tryz.f56) [nv n]=some ([],.agg ((List.range 32).map fun i => .int .u8 (IntKind.u8.wrap (Int.fdiv (lw n (i/8)) (2 ^ (8*(i % 8)))))).toArray):=by kernel_rfl
theorem mS (n i:Nat):IntKind.u8.wrap (Int.fdiv (lw n (i/8)) (2 ^ (8*(i % 8))))=by8 n i:=by
 have hb:=gO n (i/8) (i % 8) (Nat.mod_lt _ (by omega))
 rw [Nat.div_add_mod] at hb
 unfold by8 lw
 rw [hb]
 have e:(2:Int) ^ (8*(i % 8))=((256 ^ (i % 8):Nat):Int):=by
  rw [Int.natCast_pow,Int.pow_mul];rfl
 rw [e,Int.fdiv_eq_ediv_of_nonneg _ (Int.natCast_nonneg _),←Int.natCast_ediv,IntKind.wrap_u8]
 omega
def kQ:List Value→Option (List Prop × Value)
 | [A]=>some ([IsN A],bv (num A))
 | _=>none
theorem z8 {X:Cx} (hX:X.Ok Tryz.prog):(X.pure 56 kQ).Ok Tryz.prog:=by
 refine aA hX Tryz.func56 (by kernel_rfl) (by kernel_rfl) ?_
 intro args ps v ha hg hp
 unfold kQ at hg
 split at hg
 ·rename_i A
  simp only [qG,qH] at hg
  obtain ⟨rfl,rfl⟩:=hg
  have hA:=hp _ (YJ.2 rfl)
  refine ⟨.inl (aB _),fun w => ?_⟩
  have lA:=aX hA
  rw [hA,ak lA]
  generalize num A=a at *
  have h:=aq Bz mixed Tryz.func56 (by kernel_rfl) (yb a) (by simp) rfl (.inl (by simp [flat,flat2,flat1])) w
  have e:((List.range 32).map fun i=>Value.int .u8 (IntKind.u8.wrap (Int.fdiv (lw a (i/8)) (2 ^ (8*(i % 8))))))=bl a:=List.map_congr_left fun i _=>by rw [mS]
  rw [e] at h
  exact h
 ·simp at hg
def X4:Cx:=(X3.pure 58 gLoad).pure 56 kQ
theorem C6:X4.Ok Tryz.prog:=z8 (Dm Bz)
open Go Go.RowKit
def fL (r:Nat) (d:Int):Value := .agg #[.int .u64 (bits .or .u64 (IntKind.u64.wrap (lw r 0*2 ^ 32)) d),.int .u64 (bits .or .u64 (IntKind.u64.wrap (lw r 1*2 ^ 32)) (Int.fdiv (lw r 0) (2 ^ 32))),.int .u64 (bits .or .u64 (IntKind.u64.wrap (lw r 2*2 ^ 32)) (Int.fdiv (lw r 1) (2 ^ 32))),.int .u64 (bits .or .u64 (IntKind.u64.wrap (bits .and .u64 (lw r 3) 268435455*2 ^ 32)) (Int.fdiv (lw r 2) (2 ^ 32)))]
def zF (r:Nat):Int:=Int.fdiv (lw r 3) (2 ^ 28)
def dE (r:Nat):Value:=nv (num (nv TN)*(zF r).toNat % RN)
def ql (r:Nat) (d:Int):Value:=nv ((num (fL r d)+RN - num (dE r)) % RN)
def th (r:Nat) (d:Int):List Prop:=[IsN (nv TN)∧Word (zF r),IsN (fL r d)∧IsN (dE r)]
theorem Dh (r:Nat) (d:Int):sfun Tryz.prog (X4.tell [(57,true)]) 60 Tryz.f130 (ag Tryz.f130) [nv r,.int .u64 d] =
  some (th r d ++ [((if num (fL r d)<num (dE r) then 1 else 0:Int) == 1)=true,IsN (ql r d)∧IsN (nv LN)],nv ((num (ql r d)+num (nv LN)) % RN)):=by kernel_rfl
theorem E6 (r:Nat) (d:Int):sfun Tryz.prog (X4.tell [(57,false)]) 60 Tryz.f130 (ag Tryz.f130) [nv r,.int .u64 d] =
  some (th r d ++ [((if num (fL r d)<num (dE r) then 1 else 0:Int) == 1)=false],ql r d):=by kernel_rfl
theorem sn (x y:Nat) (hx:x<18446744073709551616) (hy:y<4294967296):bits .or .u64 (IntKind.u64.wrap ((x:Int)*2 ^ 32)) (y:Int)=((x % 4294967296*4294967296+y:Nat):Int):=by
 have e:IntKind.u64.wrap ((x:Int)*2 ^ 32)=((x % 4294967296*2 ^ 32:Nat):Int):=by rw [IntKind.wrap_u64];omega
 rw [e,bits_or_u64_nat _ _ (by omega) (by omega)]
 congr 1
 rw [←Nat.shiftLeft_eq,←Nat.shiftLeft_add_eq_or_of_lt (i:=32) (by omega),Nat.shiftLeft_eq]
theorem N9 (x:Nat) (hx:x<18446744073709551616):bits .and .u64 (x:Int) 268435455=((x % 268435456:Nat):Int):=by
 have h:=bits_and_u64_nat x 268435455 hx (by omega)
 have e:x &&& 268435455=x % 268435456:=Nat.and_two_pow_sub_one_eq_mod x 28
 rw [e] at h
 exact h
theorem eB (x k:Nat):Int.fdiv (x:Int) (2 ^ k)=((x/2 ^ k:Nat):Int):=by
 have e:(2:Int) ^ k=((2 ^ k:Nat):Int):=by rw [Int.natCast_pow];rfl
 rw [e,Int.fdiv_eq_ediv_of_nonneg _ (Int.natCast_nonneg _),←Int.natCast_ediv]
theorem BS (r d:Nat) (hr:r<RN) (hd:d<4294967296):fL r d=nv (r % 1684996666696914987166688442938726917102321526408785780068975640576*4294967296+d):=by
 have hs:=aQ r
 rw [YK hr] at hs
 have w0:=ah r 0;have w1:=ah r 1;have w2:=ah r 2;have w3:=ah r 3
 unfold fL
 generalize lw r 0=x0 at *
 generalize lw r 1=x1 at *
 generalize lw r 2=x2 at *
 generalize lw r 3=x3 at *
 obtain ⟨a0,b0⟩:=w0;obtain ⟨a1,b1⟩:=w1;obtain ⟨a2,b2⟩:=w2;obtain ⟨a3,b3⟩:=w3
 obtain ⟨x0,rfl⟩:=Int.eq_ofNat_of_zero_le a0
 obtain ⟨x1,rfl⟩:=Int.eq_ofNat_of_zero_le a1
 obtain ⟨x2,rfl⟩:=Int.eq_ofNat_of_zero_le a2
 obtain ⟨x3,rfl⟩:=Int.eq_ofNat_of_zero_le a3
 rw [N9 x3 (by omega),eB,eB,eB]
 simp only [show (2:Nat) ^ 32=4294967296 from rfl]
 rw [sn x0 d (by omega) hd,sn x1 _ (by omega) (by omega),sn x2 _ (by omega) (by omega),sn (x3 % 268435456) _ (by omega) (by omega)]
 refine gy ?_ ?_ ?_ ?_ ?_
 ·unfold Word;omega
 ·unfold Word;omega
 ·unfold Word;omega
 ·unfold Word;omega
 ·have hr2:r % 1684996666696914987166688442938726917102321526408785780068975640576=x0+x1*18446744073709551616+x2*340282366920938463463374607431768211456+x3 % 268435456*6277101735386680763835789423207666416102355444464034512896:=by omega
  rw [hr2]
  omega
theorem Eo (r:Nat) (hr:r<RN):zF r=((r/1684996666696914987166688442938726917102321526408785780068975640576:Nat):Int):=by
 have hs:=aQ r
 rw [YK hr] at hs
 have w0:=ah r 0;have w1:=ah r 1;have w2:=ah r 2;have w3:=ah r 3
 unfold zF
 generalize lw r 0=x0 at *
 generalize lw r 1=x1 at *
 generalize lw r 2=x2 at *
 generalize lw r 3=x3 at *
 obtain ⟨a0,b0⟩:=w0;obtain ⟨a1,b1⟩:=w1;obtain ⟨a2,b2⟩:=w2;obtain ⟨a3,b3⟩:=w3
 obtain ⟨x3,rfl⟩:=Int.eq_ofNat_of_zero_le a3
 rw [eB]
 simp only [show (2:Nat) ^ 28=268435456 from rfl]
 omega
theorem cC {x:Nat} (h:x<LN):x<RN:=by simp only [LN,RN] at *;omega
theorem H6 (r d:Nat) (hr:r<LN) (hd:d<4294967296) :
  num (fL r d)=r % 1684996666696914987166688442938726917102321526408785780068975640576*4294967296+d∧num (dE r)=TN*(r/1684996666696914987166688442938726917102321526408785780068975640576)∧(∀ p ∈ th r d,p) ∧
  (num (fL r d)<num (dE r)→(num (fL r d)+RN - num (dE r)) % RN+LN - RN=(r*4294967296+d) % LN∧RN≤(num (fL r d)+RN - num (dE r)) % RN+LN) ∧
  (¬ num (fL r d)<num (dE r)→(num (fL r d)+RN - num (dE r)) % RN=(r*4294967296+d) % LN):=by
 have h1:=BS r d (cC hr) hd
 have h2:=Eo r (cC hr)
 have h3:dE r=nv (TN*(r/1684996666696914987166688442938726917102321526408785780068975640576)):=by
  unfold dE
  rw [h2,ak (by decide),Int.toNat_natCast,EI]
 have e1:num (fL r d)=r % 1684996666696914987166688442938726917102321526408785780068975640576*4294967296+d:=by rw [h1,ak (by simp only [RN];omega)]
 have e2:num (dE r)=TN*(r/1684996666696914987166688442938726917102321526408785780068975640576):=by rw [h3,ak (by simp only [RN,LN,TN] at *;omega)]
 refine ⟨e1,e2,?_,?_,?_⟩
 ·intro p hp
  simp only [th,List.mem_cons,List.not_mem_nil,or_false] at hp
  rcases hp with rfl | rfl
  ·exact ⟨aI _,by rw [h2];simp only [LN] at hr;unfold Word;omega⟩
  ·exact ⟨by rw [h1];exact aI _,aI _⟩
 ·rw [e1,e2]
  intro h
  simp only [LN,RN,TN] at *
  omega
 ·rw [e1,e2]
  intro h
  simp only [LN,RN,TN] at *
  omega
theorem Cq (D:Nat) (h:D<RN) (h2:RN≤D+LN):(D+LN) % RN=D+LN - RN:=by
 simp only [LN,RN] at *
 omega
def LM:List Value→Option (List Prop × Value)
 | [A,.int .u64 d]=>some ([IsN A∧num A<LN∧0≤d∧d<4294967296],nv ((num A*4294967296+d.toNat) % LN))
 | _=>none
theorem Ga {X:Cx} (hX:X.Ok Tryz.prog):(X.pure 130 LM).Ok Tryz.prog:=by
 refine aA hX Tryz.func130 (by kernel_rfl) (by kernel_rfl) ?_
 intro args ps v ha hg hp
 unfold LM at hg
 split at hg
 ·rename_i A d
  simp only [qG,qH] at hg
  obtain ⟨rfl,rfl⟩:=hg
  obtain ⟨hA,hl,d0,d1⟩:=hp _ (YJ.2 rfl)
  refine ⟨.inl rfl,fun w => ?_⟩
  rw [hA,ak (aX hA)]
  clear hp ha hA
  generalize num A=r at *
  obtain ⟨d,rfl⟩:=Int.eq_ofNat_of_zero_le d0
  rw [Int.toNat_natCast]
  obtain ⟨e1,e2,ho,k1,k0⟩:=H6 r d hl (by omega)
  by_cases hlt:num (fL r d)<num (dE r)
  ·obtain ⟨k1,k2⟩:=k1 hlt
   have h:=aq (Cx.tell_ok C6 _) mixed Tryz.func130 (by kernel_rfl) (Dh r d) (by
    intro p hp
    rcases List.mem_append.1 hp with hp | hp
    ·exact ho p hp
    ·simp only [List.mem_cons,List.not_mem_nil,or_false] at hp
     rcases hp with rfl | rfl
     ·rw [if_pos hlt];rfl
     ·exact ⟨aI _,aI _⟩) rfl (.inl rfl) w
   have e:nv ((num (ql r d)+num (nv LN)) % RN)=nv ((r*4294967296+d) % LN):=by
    rw [←k1]
    unfold ql
    rw [jI,ak (n:=LN) (by decide),Nat.mod_mod]
    exact congrArg nv (Cq _ (Nat.mod_lt _ (by decide)) k2)
   rw [e] at h
   exact h
  ·have k0:=k0 hlt
   have h:=aq (Cx.tell_ok C6 _) mixed Tryz.func130 (by kernel_rfl) (E6 r d) (by
    intro p hp
    rcases List.mem_append.1 hp with hp | hp
    ·exact ho p hp
    ·simp only [List.mem_cons,List.not_mem_nil,or_false] at hp
     rcases hp with rfl
     rw [if_neg hlt];rfl) rfl (.inl rfl) w
   unfold ql at h
   rw [k0] at h
   exact h
 ·simp at hg
def X5:Cx:=X4.pure 130 LM
theorem Jg:X5.Ok Tryz.prog:=Ga C6
end Go.Proofs.YtajehiidpecknaaGreatDoor.Sc
