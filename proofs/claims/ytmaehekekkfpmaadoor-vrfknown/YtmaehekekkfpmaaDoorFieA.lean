/- Numbers of four words, and the calls of math/bits: Add64, Sub64, Mul64. -/
import Derived.Test.YtmaehekekkfpmaaDoorProg
import Derived.Test.YtmaehekekkfpmaaDoorChecked
import Derived.WalkKit
import Derived.WalkSpells
import Derived.Laws.Externs
import Derived.Laws.Pointers
import Derived.Lib.Mul64
import Derived.Laws.Bits64b
import Derived.Outline
import Derived.BigQuiet
import Derived.Deep.QuietTactic
import Derived.Deep.MidRow
import Derived.Deep.RegionHeld3
import Derived.Shelf.Spec.BitsCarry
set_option linter.unusedSimpArgs false
set_option linter.unusedVariables false
namespace Go.Proofs.YtmaehekekkfpmaaDoor
open Go Go.RowKit Go.Lib
theorem add64 (x y c:Int) (hx:0≤x) (hy:0≤y) (hc0:0≤c) (hc:c≤1) (w:World):(callFunc 70 #[.int .u64 x,.int .u64 y,.int .u64 c]).run Tryd.prog w =
  .ok (.value (.tuple #[.int .u64 ((x+y+c) % 18446744073709551616),.int .u64 ((x+y+c)/18446744073709551616)])) w:=by
 rw [run_callFunc_extern Tryd.func70 (by kernel_rfl) (by kernel_rfl) (by kernel_rfl) (e:=add64Entry) (by kernel_rfl),run_add64 x y c hx hy hc0 hc]
 rfl
theorem add64_0 (x y:Int) (hx:0≤x) (hy:0≤y) (w:World):(callFunc 70 #[.int .u64 x,.int .u64 y,.int .u64 0]).run Tryd.prog w =
  .ok (.value (.tuple #[.int .u64 ((x+y) % 18446744073709551616),.int .u64 ((x+y)/18446744073709551616)])) w:=by
 simpa using add64 x y 0 hx hy (Int.le_refl 0) (by decide) w
def bor (x y:Int):Int:=if x<y then 1 else 0
theorem bor_nonneg (x y:Int):0≤bor x y:=by unfold bor;split <;> decide
theorem bor_le (x y:Int):bor x y≤1:=by unfold bor;split <;> decide
theorem sub64 (x y b:Int) (hx:0≤x) (hy:0≤y) (hy':y<18446744073709551616) (hb0:0≤b) (hb:b≤1) (w:World):(callFunc 59 #[.int .u64 x,.int .u64 y,.int .u64 b]).run Tryd.prog w =
  .ok (.value (.tuple #[.int .u64 ((x - y - b) % 18446744073709551616),.int .u64 (bor x (y+b))])) w:=by
 obtain ⟨x,rfl⟩:=Int.eq_ofNat_of_zero_le hx
 obtain ⟨y,rfl⟩:=Int.eq_ofNat_of_zero_le hy
 obtain ⟨b,rfl⟩:=Int.eq_ofNat_of_zero_le hb0
 have e1:(((x+18446744073709551616 - y - b) % 18446744073709551616:Nat):Int)=((x:Int) - y - b) % 18446744073709551616:=by omega
 have e2:((if x<y+b then 1 else 0:Nat):Int)=bor x (y+b):=by unfold bor;split <;> split <;> omega
 rw [←e1,←e2]
 rw [run_callFunc_extern Tryd.func59 (by kernel_rfl) (by kernel_rfl) (by kernel_rfl) (e:=sub64Entry) (by kernel_rfl),run_sub64 x y b (by omega)]
 rfl
theorem sub64_0 (x y:Int) (hx:0≤x) (hy:0≤y) (hy':y<18446744073709551616) (w:World):(callFunc 59 #[.int .u64 x,.int .u64 y,.int .u64 0]).run Tryd.prog w =
  .ok (.value (.tuple #[.int .u64 ((x - y) % 18446744073709551616),.int .u64 (bor x y)])) w:=by
 simpa using sub64 x y 0 hx hy hy' (Int.le_refl 0) (by decide) w
namespace M64
theorem maskN (a:Nat) (ha:a<18446744073709551616):bits .and .u64 (a:Int) 4294967295=((a % 4294967296:Nat):Int):=by
 have h:=bits_and_u64_nat a 4294967295 ha (by omega)
 have e:a &&& 4294967295=a % 4294967296:=Nat.and_two_pow_sub_one_eq_mod a 32
 rw [e] at h
 exact h
theorem divN (a:Nat):(a:Int)/4294967296=((a/4294967296:Nat):Int):=by omega
theorem mulN (a b:Nat):(a:Int)*(b:Int)=((a*b:Nat):Int):=(Int.natCast_mul a b).symm
theorem addN (a b:Nat):(a:Int)+(b:Int)=((a+b:Nat):Int):=(Int.natCast_add a b).symm
theorem wrapN (a:Nat) (ha:a<18446744073709551616):IntKind.u64.wrap (a:Int)=(a:Int):=by rw [IntKind.wrap_u64];omega
theorem wrapM (a:Nat):IntKind.u64.wrap (a:Int)=((a % 18446744073709551616:Nat):Int):=by rw [IntKind.wrap_u64];omega
end M64
set_option maxHeartbeats 1000000 in
theorem mul64_nat (x y:Nat) (hx:x<18446744073709551616) (hy:y<18446744073709551616) (w:World) :
  Calls Tryd.prog 30 #[.int .u64 x,.int .u64 y] w fun e w'=>e = .returned (.tuple #[.int .u64 ((x*y/18446744073709551616:Nat):Int),.int .u64 ((x*y % 18446744073709551616:Nat):Int)])∧w'=w:=by
 obtain ⟨bd,bt,bw,hhi⟩:=Lib.mul64_hi x y hx hy
 have ba:=Lib.half_mul_le (a:=x/4294967296) (b:=y/4294967296) (by omega) (by omega)
 have bb:=Lib.half_mul_le (a:=x/4294967296) (b:=y % 4294967296) (by omega) (by omega)
 have bc:=Lib.half_mul_le (a:=x % 4294967296) (b:=y/4294967296) (by omega) (by omega)
 have ba':x/4294967296*(y/4294967296)<18446744073709551616:=by omega
 have bb':x/4294967296*(y % 4294967296)<18446744073709551616:=by omega
 have bc':x % 4294967296*(y/4294967296)<18446744073709551616:=by omega
 have bh1:x/4294967296*(y/4294967296)+(x/4294967296*(y % 4294967296)+x % 4294967296*(y % 4294967296)/4294967296)/4294967296<18446744073709551616:=by omega
 have bh:x/4294967296*(y/4294967296)+(x/4294967296*(y % 4294967296)+x % 4294967296*(y % 4294967296)/4294967296)/4294967296+((x/4294967296*(y % 4294967296)+x % 4294967296*(y % 4294967296)/4294967296) % 4294967296+x % 4294967296*(y/4294967296))/4294967296<18446744073709551616:=by omega
 go_enter Tryd.func30,Tryd.ntmps30
 go_wp2
 simp only [M64.maskN x hx,M64.maskN y hy,M64.divN,M64.mulN,M64.addN,M64.wrapN _ bd,M64.wrapN _ bb',M64.wrapN _ bt,M64.maskN _ bt,M64.wrapN _ bc',M64.wrapN _ bw,M64.wrapN _ ba',M64.wrapN _ bh1,M64.wrapN _ bh,M64.wrapM (x*y)]
 rw [hhi]
 go_ret2
 exact ⟨rfl,rfl⟩
def Word (x:Int):Prop:=0≤x∧x<18446744073709551616
theorem mul64 (x y:Int) (hx:Word x) (hy:Word y) (w:World) :
  Calls Tryd.prog 30 #[.int .u64 x,.int .u64 y] w fun e w' => ∃ h l:Int,e = .returned (.tuple #[.int .u64 h,.int .u64 l])∧Word h∧Word l∧x*y=h*18446744073709551616+l∧w=w':=by
 obtain ⟨hx0,hx1⟩:=hx
 obtain ⟨hy0,hy1⟩:=hy
 obtain ⟨x,rfl⟩:=Int.eq_ofNat_of_zero_le hx0
 obtain ⟨y,rfl⟩:=Int.eq_ofNat_of_zero_le hy0
 refine (mul64_nat x y (by omega) (by omega) w).mono ?_
 rintro e w' ⟨rfl,rfl⟩
 have hlt:x*y<18446744073709551616*18446744073709551616:=by
  have:=Nat.mul_le_mul (show x≤18446744073709551615 by omega) (show y≤18446744073709551615 by omega)
  omega
 refine ⟨_,_,rfl,⟨by omega,by omega⟩,⟨by omega,by omega⟩,?_,rfl⟩
 rw [←Int.natCast_mul]
 omega
abbrev RR:Int:=115792089237316195423570985008687907853269984665640564039457584007913129639936
structure Num where
 w0:Int
 w1:Int
 w2:Int
 w3:Int
def Num.ok (n:Num):Prop:=Word n.w0∧Word n.w1∧Word n.w2∧Word n.w3
def Num.val (n:Num):Int:=n.w0+n.w1*18446744073709551616+n.w2*340282366920938463463374607431768211456+n.w3*6277101735386680763835789423207666416102355444464034512896
def Num.v (n:Num):Value := .agg #[.int .u64 n.w0,.int .u64 n.w1,.int .u64 n.w2,.int .u64 n.w3]
theorem Num.bound {n:Num} (h:n.ok):0≤n.val∧n.val<RR:=by
 obtain ⟨⟨_,_⟩,⟨_,_⟩,⟨_,_⟩,⟨_,_⟩⟩:=h
 unfold Num.val RR;omega
theorem Num.inj {m n:Num} (hm:m.ok) (hn:n.ok) (h:m.val=n.val):m=n:=by
 obtain ⟨⟨_,_⟩,⟨_,_⟩,⟨_,_⟩,⟨_,_⟩⟩:=hm
 obtain ⟨⟨_,_⟩,⟨_,_⟩,⟨_,_⟩,⟨_,_⟩⟩:=hn
 obtain ⟨m0,m1,m2,m3⟩:=m
 obtain ⟨n0,n1,n2,n3⟩:=n
 simp only [Num.val] at *
 congr 1 <;> omega
set_option maxHeartbeats 400000 in
theorem plus_any (a b:Num) (ha:a.ok) (hb:b.ok) (w:World) :
  Calls Tryd.prog 83 #[a.v,b.v] w fun e w' => ∃ (s:Num) (c:Int),e = .returned (.tuple #[s.v,.int .u64 c])∧s.ok∧0≤c∧c≤1∧s.val+c*RR=a.val+b.val∧Below w.heap.size w w':=by
 obtain ⟨a0,a1,a2,a3⟩:=a
 obtain ⟨b0,b1,b2,b3⟩:=b
 obtain ⟨⟨p0,q0⟩,⟨p1,q1⟩,⟨p2,q2⟩,⟨p3,q3⟩⟩:=ha
 obtain ⟨⟨r0,t0⟩,⟨r1,t1⟩,⟨r2,t2⟩,⟨r3,t3⟩⟩:=hb
 simp only [Num.v,Num.val] at *
 obtain ⟨c0,hc0⟩ : ∃ c,c=(a0+b0)/18446744073709551616:=⟨_,rfl⟩
 have k0:0≤c0:=by omega
 have l0:c0≤1:=by omega
 obtain ⟨c1,hc1⟩ : ∃ c,c=(a1+b1+c0)/18446744073709551616:=⟨_,rfl⟩
 have k1:0≤c1:=by omega
 have l1:c1≤1:=by omega
 obtain ⟨c2,hc2⟩ : ∃ c,c=(a2+b2+c1)/18446744073709551616:=⟨_,rfl⟩
 have k2:0≤c2:=by omega
 have l2:c2≤1:=by omega
 go_enter Tryd.func83,Tryd.ntmps83
 go_wp2_with (first | simp only [add64_0 a0 b0 p0 r0,←hc0] | simp only [add64 a1 b1 c0 p1 r1 k0 l0,←hc1] | simp only [add64 a2 b2 c1 p2 r2 k1 l1,←hc2] | simp only [add64 a3 b3 c2 p3 r3 k2 l2])
 simp [bodyPost,results,Tryd.results83,go_sem]
 refine ⟨⟨_,_,_,_⟩,_,⟨⟨rfl,rfl,rfl,rfl⟩,rfl⟩,⟨⟨?_,?_⟩,⟨?_,?_⟩,⟨?_,?_⟩,?_,?_⟩,?_,?_,?_,(((Below.refl _ _).alloc (Nat.le_refl _) _).alloc (by simp) _).alloc (by simp;omega) _⟩
 all_goals (try simp only [RR])
 all_goals omega
set_option maxHeartbeats 400000 in
theorem minus_any (a b:Num) (ha:a.ok) (hb:b.ok) (w:World) :
  Calls Tryd.prog 88 #[a.v,b.v] w fun e w' => ∃ (s:Num) (c:Int),e = .returned (.tuple #[s.v,.int .u64 c])∧s.ok∧0≤c∧c≤1∧s.val - c*RR=a.val - b.val∧Below w.heap.size w w':=by
 obtain ⟨a0,a1,a2,a3⟩:=a
 obtain ⟨b0,b1,b2,b3⟩:=b
 obtain ⟨⟨p0,q0⟩,⟨p1,q1⟩,⟨p2,q2⟩,⟨p3,q3⟩⟩:=ha
 obtain ⟨⟨r0,t0⟩,⟨r1,t1⟩,⟨r2,t2⟩,⟨r3,t3⟩⟩:=hb
 simp only [Num.v,Num.val] at *
 obtain ⟨c0,hc0⟩ : ∃ c,c=bor a0 b0:=⟨_,rfl⟩
 have k0:0≤c0:=hc0 ▸ bor_nonneg _ _
 have l0:c0≤1:=hc0 ▸ bor_le _ _
 obtain ⟨c1,hc1⟩ : ∃ c,c=bor a1 (b1+c0):=⟨_,rfl⟩
 have k1:0≤c1:=hc1 ▸ bor_nonneg _ _
 have l1:c1≤1:=hc1 ▸ bor_le _ _
 obtain ⟨c2,hc2⟩ : ∃ c,c=bor a2 (b2+c1):=⟨_,rfl⟩
 have k2:0≤c2:=hc2 ▸ bor_nonneg _ _
 have l2:c2≤1:=hc2 ▸ bor_le _ _
 obtain ⟨c3,hc3⟩ : ∃ c,c=bor a3 (b3+c2):=⟨_,rfl⟩
 go_enter Tryd.func88,Tryd.ntmps88
 go_wp2_with (first | simp only [sub64_0 a0 b0 p0 r0 t0,←hc0] | simp only [sub64 a1 b1 c0 p1 r1 t1 k0 l0,←hc1] | simp only [sub64 a2 b2 c1 p2 r2 t2 k1 l1,←hc2] | simp only [sub64 a3 b3 c2 p3 r3 t3 k2 l2,←hc3])
 simp [bodyPost,results,Tryd.results88,go_sem]
 refine ⟨⟨_,_,_,_⟩,_,⟨⟨rfl,rfl,rfl,rfl⟩,rfl⟩,⟨⟨?_,?_⟩,⟨?_,?_⟩,⟨?_,?_⟩,?_,?_⟩,?_,?_,?_,(((Below.refl _ _).alloc (Nat.le_refl _) _).alloc (by simp) _).alloc (by simp;omega) _⟩
 all_goals (try simp only [RR])
 all_goals (try omega)
 ·rw [hc3];exact bor_nonneg _ _
 ·rw [hc3];exact bor_le _ _
 ·unfold bor at hc0 hc1 hc2 hc3
  split at hc0 <;> split at hc1 <;> split at hc2 <;> split at hc3 <;> omega
set_option maxHeartbeats 1000000 in
theorem scale_any (n:Num) (x:Int) (hn:n.ok) (hx:Word x) (w:World) :
  Calls Tryd.prog 80 #[n.v,.int .u64 x] w fun e w' => ∃ (s:Num) (t:Int),e = .returned (.tuple #[s.v,.int .u64 t])∧s.ok∧Word t∧s.val+t*RR=n.val*x∧Below w.heap.size w w':=by
 obtain ⟨n0,n1,n2,n3⟩:=n
 obtain ⟨h0,h1,h2,h3⟩:=hn
 simp only [Num.v,Num.val] at *
 go_enter Tryd.func80,Tryd.ntmps80
 go_wp2_with fail
 refine (mul64 n0 x h0 hx _).mono ?_
 rintro e w' ⟨u0,l0,rfl,⟨a1,a2⟩,⟨a3,a4⟩,e0,rfl⟩
 go_wp2_with fail
 refine (mul64 n1 x h1 hx _).mono ?_
 rintro e w' ⟨u1,l1,rfl,⟨b1,b2⟩,⟨b3,b4⟩,e1,rfl⟩
 go_wp2_with fail
 refine (mul64 n2 x h2 hx _).mono ?_
 rintro e w' ⟨u2,l2,rfl,⟨c1,c2⟩,⟨c3,c4⟩,e2,rfl⟩
 go_wp2_with fail
 refine (mul64 n3 x h3 hx _).mono ?_
 rintro e w' ⟨u3,l3,rfl,⟨d1,d2⟩,⟨d3,d4⟩,e3,rfl⟩
 obtain ⟨k1,hk1⟩ : ∃ c,c=(l1+u0)/18446744073709551616:=⟨_,rfl⟩
 have f1:0≤k1:=by omega
 have g1:k1≤1:=by omega
 obtain ⟨k2,hk2⟩ : ∃ c,c=(l2+u1+k1)/18446744073709551616:=⟨_,rfl⟩
 have f2:0≤k2:=by omega
 have g2:k2≤1:=by omega
 obtain ⟨k3,hk3⟩ : ∃ c,c=(l3+u2+k2)/18446744073709551616:=⟨_,rfl⟩
 have f3:0≤k3:=by omega
 have g3:k3≤1:=by omega
 -- the highest word: the product is below 2^320
 have top:u3+k3<18446744073709551616:=by
  obtain ⟨x1,x2⟩:=hx
  obtain ⟨m1,m2⟩:=h3
  have:n3*x≤18446744073709551615*18446744073709551615:=Int.mul_le_mul (by omega) (by omega) x1 (by omega)
  omega
 have hwr:IntKind.u64.wrap (u3+k3)=u3+k3:=by rw [IntKind.wrap_u64];omega
 go_wp2_with (first | simp only [add64_0 l1 u0 b3 a1,←hk1] | simp only [add64 l2 u1 k1 c3 b1 f1 g1,←hk2] | simp only [add64 l3 u2 k2 d3 c1 f2 g2,←hk3])
 simp [bodyPost,results,Tryd.results80,go_sem]
 refine ⟨⟨_,_,_,_⟩,_,⟨⟨rfl,rfl,rfl,rfl⟩,rfl⟩,⟨⟨?_,?_⟩,⟨?_,?_⟩,⟨?_,?_⟩,?_,?_⟩,⟨?_,?_⟩,?_,((Below.refl _ _).alloc (Nat.le_refl _) _).alloc (by simp) _⟩
 all_goals (try simp only [RR])
 all_goals (try omega)
 rw [Int.add_mul (n0+_+_),Int.add_mul (n0+_),Int.add_mul n0,Int.mul_right_comm n1,Int.mul_right_comm n2,Int.mul_right_comm n3,e0,e1,e2,e3]
 omega
end Go.Proofs.YtmaehekekkfpmaaDoor
