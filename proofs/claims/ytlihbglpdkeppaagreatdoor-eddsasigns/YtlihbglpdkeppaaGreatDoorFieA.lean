/- Numbers of four words, and the calls of math/bits: Add64, Sub64, Mul64. -/
import Derived.Test.YtlihbglpdkeppaaGreatDoorProg
import Derived.Test.YtlihbglpdkeppaaGreatDoorChecked
import Derived.WalkKit
import Derived.WalkSpells
import Derived.Laws.Externs
import Derived.Laws.Pointers
import Derived.Lib.Mul64
import Derived.Laws.Bits64b
import Derived.Outline
import Derived.BigQuiet
import Derived.Deep.QuietTactic
import Derived.Deep.MidRow
import Derived.Deep.RegionHeld3
import Derived.Shelf.Spec.BitsCarry
set_option linter.unusedSimpArgs false
set_option linter.unusedVariables false
namespace Go.Proofs.YtlihbglpdkeppaaGreatDoor
open Go Go.RowKit Go.Lib
theorem add64 (x y c:Int) (hx:0≤x) (hy:0≤y) (hc0:0≤c) (hc:c≤1) (w:World):(callFunc 89 #[.int .u64 x,.int .u64 y,.int .u64 c]).run Tryz.prog w =
  .ok (.value (.tuple #[.int .u64 ((x+y+c) % 18446744073709551616),.int .u64 ((x+y+c)/18446744073709551616)])) w:=by
 rw [run_callFunc_extern Tryz.func89 (by kernel_rfl) (by kernel_rfl) (by kernel_rfl) (e:=add64Entry) (by kernel_rfl),run_add64 x y c hx hy hc0 hc]
 rfl
theorem add64_0 (x y:Int) (hx:0≤x) (hy:0≤y) (w:World):(callFunc 89 #[.int .u64 x,.int .u64 y,.int .u64 0]).run Tryz.prog w =
  .ok (.value (.tuple #[.int .u64 ((x+y) % 18446744073709551616),.int .u64 ((x+y)/18446744073709551616)])) w:=by
 simpa using add64 x y 0 hx hy (Int.le_refl 0) (by decide) w
def bor (x y:Int):Int:=if x<y then 1 else 0
theorem bor_nonneg (x y:Int):0≤bor x y:=by unfold bor;split <;> decide
theorem bor_le (x y:Int):bor x y≤1:=by unfold bor;split <;> decide
theorem sub64 (x y b:Int) (hx:0≤x) (hy:0≤y) (hy':y<18446744073709551616) (hb0:0≤b) (hb:b≤1) (w:World):(callFunc 93 #[.int .u64 x,.int .u64 y,.int .u64 b]).run Tryz.prog w =
  .ok (.value (.tuple #[.int .u64 ((x - y - b) % 18446744073709551616),.int .u64 (bor x (y+b))])) w:=by
 obtain ⟨x,rfl⟩:=Int.eq_ofNat_of_zero_le hx
 obtain ⟨y,rfl⟩:=Int.eq_ofNat_of_zero_le hy
 obtain ⟨b,rfl⟩:=Int.eq_ofNat_of_zero_le hb0
 have e1:(((x+18446744073709551616 - y - b) % 18446744073709551616:Nat):Int)=((x:Int) - y - b) % 18446744073709551616:=by omega
 have e2:((if x<y+b then 1 else 0:Nat):Int)=bor x (y+b):=by unfold bor;split <;> split <;> omega
 rw [←e1,←e2]
 rw [run_callFunc_extern Tryz.func93 (by kernel_rfl) (by kernel_rfl) (by kernel_rfl) (e:=sub64Entry) (by kernel_rfl),run_sub64 x y b (by omega)]
 rfl
theorem sub64_0 (x y:Int) (hx:0≤x) (hy:0≤y) (hy':y<18446744073709551616) (w:World):(callFunc 93 #[.int .u64 x,.int .u64 y,.int .u64 0]).run Tryz.prog w =
  .ok (.value (.tuple #[.int .u64 ((x - y) % 18446744073709551616),.int .u64 (bor x y)])) w:=by
 simpa using sub64 x y 0 hx hy hy' (Int.le_refl 0) (by decide) w
namespace M64
theorem maskN (a:Nat) (ha:a<18446744073709551616):bits .and .u64 (a:Int) 4294967295=((a % 4294967296:Nat):Int):=by
 have h:=bits_and_u64_nat a 4294967295 ha (by omega)
 have e:a &&& 4294967295=a % 4294967296:=Nat.and_two_pow_sub_one_eq_mod a 32
 rw [e] at h
 exact h
theorem divN (a:Nat):(a:Int)/4294967296=((a/4294967296:Nat):Int):=by omega
theorem mulN (a b:Nat):(a:Int)*(b:Int)=((a*b:Nat):Int):=(Int.natCast_mul a b).symm
theorem addN (a b:Nat):(a:Int)+(b:Int)=((a+b:Nat):Int):=(Int.natCast_add a b).symm
theorem wrapN (a:Nat) (ha:a<18446744073709551616):IntKind.u64.wrap (a:Int)=(a:Int):=by rw [IntKind.wrap_u64];omega
theorem wrapM (a:Nat):IntKind.u64.wrap (a:Int)=((a % 18446744073709551616:Nat):Int):=by rw [IntKind.wrap_u64];omega
end M64
set_option maxHeartbeats 1000000 in
theorem mul64_nat (x y:Nat) (hx:x<18446744073709551616) (hy:y<18446744073709551616) (w:World) :
  Calls Tryz.prog 73 #[.int .u64 x,.int .u64 y] w fun e w'=>e = .returned (.tuple #[.int .u64 ((x*y/18446744073709551616:Nat):Int),.int .u64 ((x*y % 18446744073709551616:Nat):Int)])∧w'=w:=by
 obtain ⟨bd,bt,bw,hhi⟩:=Lib.mul64_hi x y hx hy
 have ba:=Lib.half_mul_le (a:=x/4294967296) (b:=y/4294967296) (by omega) (by omega)
 have bb:=Lib.half_mul_le (a:=x/4294967296) (b:=y % 4294967296) (by omega) (by omega)
 have bc:=Lib.half_mul_le (a:=x % 4294967296) (b:=y/4294967296) (by omega) (by omega)
 have ba':x/4294967296*(y/4294967296)<18446744073709551616:=by omega
 have bb':x/4294967296*(y % 4294967296)<18446744073709551616:=by omega
 have bc':x % 4294967296*(y/4294967296)<18446744073709551616:=by omega
 have bh1:x/4294967296*(y/4294967296)+(x/4294967296*(y % 4294967296)+x % 4294967296*(y % 4294967296)/4294967296)/4294967296<18446744073709551616:=by omega
 have bh:x/4294967296*(y/4294967296)+(x/4294967296*(y % 4294967296)+x % 4294967296*(y % 4294967296)/4294967296)/4294967296+((x/4294967296*(y % 4294967296)+x % 4294967296*(y % 4294967296)/4294967296) % 4294967296+x % 4294967296*(y/4294967296))/4294967296<18446744073709551616:=by omega
 go_enter Tryz.func73,Tryz.ntmps73
 go_wp2
 simp only [M64.maskN x hx,M64.maskN y hy,M64.divN,M64.mulN,M64.addN,M64.wrapN _ bd,M64.wrapN _ bb',M64.wrapN _ bt,M64.maskN _ bt,M64.wrapN _ bc',M64.wrapN _ bw,M64.wrapN _ ba',M64.wrapN _ bh1,M64.wrapN _ bh,M64.wrapM (x*y)]
 rw [hhi]
 go_ret2
 exact ⟨rfl,rfl⟩
def Word (x:Int):Prop:=0≤x∧x<18446744073709551616
theorem mul64 (x y:Int) (hx:Word x) (hy:Word y) (w:World) :
  Calls Tryz.prog 73 #[.int .u64 x,.int .u64 y] w fun e w' => ∃ h l:Int,e = .returned (.tuple #[.int .u64 h,.int .u64 l])∧Word h∧Word l∧x*y=h*18446744073709551616+l∧w=w':=by
 obtain ⟨hx0,hx1⟩:=hx
 obtain ⟨hy0,hy1⟩:=hy
 obtain ⟨x,rfl⟩:=Int.eq_ofNat_of_zero_le hx0
 obtain ⟨y,rfl⟩:=Int.eq_ofNat_of_zero_le hy0
 refine (mul64_nat x y (by omega) (by omega) w).mono ?_
 rintro e w' ⟨rfl,rfl⟩
 have hlt:x*y<18446744073709551616*18446744073709551616:=by
  have:=Nat.mul_le_mul (show x≤18446744073709551615 by omega) (show y≤18446744073709551615 by omega)
  omega
 refine ⟨_,_,rfl,⟨by omega,by omega⟩,⟨by omega,by omega⟩,?_,rfl⟩
 rw [←Int.natCast_mul]
 omega
abbrev RR:Int:=115792089237316195423570985008687907853269984665640564039457584007913129639936
structure Num where
 w0:Int
 w1:Int
 w2:Int
 w3:Int
def Num.ok (n:Num):Prop:=Word n.w0∧Word n.w1∧Word n.w2∧Word n.w3
def Num.val (n:Num):Int:=n.w0+n.w1*18446744073709551616+n.w2*340282366920938463463374607431768211456+n.w3*6277101735386680763835789423207666416102355444464034512896
def Num.v (n:Num):Value := .agg #[.int .u64 n.w0,.int .u64 n.w1,.int .u64 n.w2,.int .u64 n.w3]
theorem Num.bound {n:Num} (h:n.ok):0≤n.val∧n.val<RR:=by
 obtain ⟨⟨_,_⟩,⟨_,_⟩,⟨_,_⟩,⟨_,_⟩⟩:=h
 unfold Num.val RR;omega
theorem Num.inj {m n:Num} (hm:m.ok) (hn:n.ok) (h:m.val=n.val):m=n:=by
 obtain ⟨⟨_,_⟩,⟨_,_⟩,⟨_,_⟩,⟨_,_⟩⟩:=hm
 obtain ⟨⟨_,_⟩,⟨_,_⟩,⟨_,_⟩,⟨_,_⟩⟩:=hn
 obtain ⟨m0,m1,m2,m3⟩:=m
 obtain ⟨n0,n1,n2,n3⟩:=n
 simp only [Num.val] at *
 congr 1 <;> omega
set_option maxHeartbeats 400000 in
theorem plus_any (a b:Num) (ha:a.ok) (hb:b.ok) (w:World) :
  Calls Tryz.prog 131 #[a.v,b.v] w fun e w' => ∃ (s:Num) (c:Int),e = .returned (.tuple #[s.v,.int .u64 c])∧s.ok∧0≤c∧c≤1∧s.val+c*RR=a.val+b.val∧Below w.heap.size w w':=by
 obtain ⟨a0,a1,a2,a3⟩:=a
 obtain ⟨b0,b1,b2,b3⟩:=b
 obtain ⟨⟨p0,q0⟩,⟨p1,q1⟩,⟨p2,q2⟩,⟨p3,q3⟩⟩:=ha
 obtain ⟨⟨r0,t0⟩,⟨r1,t1⟩,⟨r2,t2⟩,⟨r3,t3⟩⟩:=hb
 simp only [Num.v,Num.val] at *
 obtain ⟨c0,hc0⟩ : ∃ c,c=(a0+b0)/18446744073709551616:=⟨_,rfl⟩
 have k0:0≤c0:=by omega
 have l0:c0≤1:=by omega
 obtain ⟨c1,hc1⟩ : ∃ c,c=(a1+b1+c0)/18446744073709551616:=⟨_,rfl⟩
 have k1:0≤c1:=by omega
 have l1:c1≤1:=by omega
 obtain ⟨c2,hc2⟩ : ∃ c,c=(a2+b2+c1)/18446744073709551616:=⟨_,rfl⟩
 have k2:0≤c2:=by omega
 have l2:c2≤1:=by omega
 go_enter Tryz.func131,Tryz.ntmps131
 go_wp2_with (first | simp only [add64_0 a0 b0 p0 r0,←hc0] | simp only [add64 a1 b1 c0 p1 r1 k0 l0,←hc1] | simp only [add64 a2 b2 c1 p2 r2 k1 l1,←hc2] | simp only [add64 a3 b3 c2 p3 r3 k2 l2])
 simp [bodyPost,results,Tryz.results131,go_sem]
 refine ⟨⟨_,_,_,_⟩,_,⟨⟨rfl,rfl,rfl,rfl⟩,rfl⟩,⟨⟨?_,?_⟩,⟨?_,?_⟩,⟨?_,?_⟩,?_,?_⟩,?_,?_,?_,(((Below.refl _ _).alloc (Nat.le_refl _) _).alloc (by simp) _).alloc (by simp;omega) _⟩
 all_goals (try simp only [RR])
 all_goals omega
set_option maxHeartbeats 400000 in
theorem minus_any (a b:Num) (ha:a.ok) (hb:b.ok) (w:World) :
  Calls Tryz.prog 139 #[a.v,b.v] w fun e w' => ∃ (s:Num) (c:Int),e = .returned (.tuple #[s.v,.int .u64 c])∧s.ok∧0≤c∧c≤1∧s.val - c*RR=a.val - b.val∧Below w.heap.size w w':=by
 obtain ⟨a0,a1,a2,a3⟩:=a
 obtain ⟨b0,b1,b2,b3⟩:=b
 obtain ⟨⟨p0,q0⟩,⟨p1,q1⟩,⟨p2,q2⟩,⟨p3,q3⟩⟩:=ha
 obtain ⟨⟨r0,t0⟩,⟨r1,t1⟩,⟨r2,t2⟩,⟨r3,t3⟩⟩:=hb
 simp only [Num.v,Num.val] at *
 obtain ⟨c0,hc0⟩ : ∃ c,c=bor a0 b0:=⟨_,rfl⟩
 have k0:0≤c0:=hc0 ▸ bor_nonneg _ _
 have l0:c0≤1:=hc0 ▸ bor_le _ _
 obtain ⟨c1,hc1⟩ : ∃ c,c=bor a1 (b1+c0):=⟨_,rfl⟩
 have k1:0≤c1:=hc1 ▸ bor_nonneg _ _
 have l1:c1≤1:=hc1 ▸ bor_le _ _
 obtain ⟨c2,hc2⟩ : ∃ c,c=bor a2 (b2+c1):=⟨_,rfl⟩
 have k2:0≤c2:=hc2 ▸ bor_nonneg _ _
 have l2:c2≤1:=hc2 ▸ bor_le _ _
 obtain ⟨c3,hc3⟩ : ∃ c,c=bor a3 (b3+c2):=⟨_,rfl⟩
 go_enter Tryz.func139,Tryz.ntmps139
 go_wp2_with (first | simp only [sub64_0 a0 b0 p0 r0 t0,←hc0] | simp only [sub64 a1 b1 c0 p1 r1 t1 k0 l0,←hc1] | simp only [sub64 a2 b2 c1 p2 r2 t2 k1 l1,←hc2] | simp only [sub64 a3 b3 c2 p3 r3 t3 k2 l2,←hc3])
 simp [bodyPost,results,Tryz.results139,go_sem]
 refine ⟨⟨_,_,_,_⟩,_,⟨⟨rfl,rfl,rfl,rfl⟩,rfl⟩,⟨⟨?_,?_⟩,⟨?_,?_⟩,⟨?_,?_⟩,?_,?_⟩,?_,?_,?_,(((Below.refl _ _).alloc (Nat.le_refl _) _).alloc (by simp) _).alloc (by simp;omega) _⟩
 all_goals (try simp only [RR])
 all_goals (try omega)
 ·rw [hc3];exact bor_nonneg _ _
 ·rw [hc3];exact bor_le _ _
 ·unfold bor at hc0 hc1 hc2 hc3
  split at hc0 <;> split at hc1 <;> split at hc2 <;> split at hc3 <;> omega
set_option maxHeartbeats 1000000 in
theorem scale_any (n:Num) (x:Int) (hn:n.ok) (hx:Word x) (w:World) :
  Calls Tryz.prog 128 #[n.v,.int .u64 x] w fun e w' => ∃ (s:Num) (t:Int),e = .returned (.tuple #[s.v,.int .u64 t])∧s.ok∧Word t∧s.val+t*RR=n.val*x∧Below w.heap.size w w':=by
 obtain ⟨n0,n1,n2,n3⟩:=n
 obtain ⟨h0,h1,h2,h3⟩:=hn
 simp only [Num.v,Num.val] at *
 go_enter Tryz.func128,Tryz.ntmps128
 go_wp2_with fail
 refine (mul64 n0 x h0 hx _).mono ?_
 rintro e w' ⟨u0,l0,rfl,⟨a1,a2⟩,⟨a3,a4⟩,e0,rfl⟩
 go_wp2_with fail
 refine (mul64 n1 x h1 hx _).mono ?_
 rintro e w' ⟨u1,l1,rfl,⟨b1,b2⟩,⟨b3,b4⟩,e1,rfl⟩
 go_wp2_with fail
 refine (mul64 n2 x h2 hx _).mono ?_
 rintro e w' ⟨u2,l2,rfl,⟨c1,c2⟩,⟨c3,c4⟩,e2,rfl⟩
 go_wp2_with fail
 refine (mul64 n3 x h3 hx _).mono ?_
 rintro e w' ⟨u3,l3,rfl,⟨d1,d2⟩,⟨d3,d4⟩,e3,rfl⟩
 obtain ⟨k1,hk1⟩ : ∃ c,c=(l1+u0)/18446744073709551616:=⟨_,rfl⟩
 have f1:0≤k1:=by omega
 have g1:k1≤1:=by omega
 obtain ⟨k2,hk2⟩ : ∃ c,c=(l2+u1+k1)/18446744073709551616:=⟨_,rfl⟩
 have f2:0≤k2:=by omega
 have g2:k2≤1:=by omega
 obtain ⟨k3,hk3⟩ : ∃ c,c=(l3+u2+k2)/18446744073709551616:=⟨_,rfl⟩
 have f3:0≤k3:=by omega
 have g3:k3≤1:=by omega
 -- the highest word: the product is below 2^320
 have top:u3+k3<18446744073709551616:=by
  obtain ⟨x1,x2⟩:=hx
  obtain ⟨m1,m2⟩:=h3
  have:n3*x≤18446744073709551615*18446744073709551615:=Int.mul_le_mul (by omega) (by omega) x1 (by omega)
  omega
 have hwr:IntKind.u64.wrap (u3+k3)=u3+k3:=by rw [IntKind.wrap_u64];omega
 go_wp2_with (first | simp only [add64_0 l1 u0 b3 a1,←hk1] | simp only [add64 l2 u1 k1 c3 b1 f1 g1,←hk2] | simp only [add64 l3 u2 k2 d3 c1 f2 g2,←hk3])
 simp [bodyPost,results,Tryz.results128,go_sem]
 refine ⟨⟨_,_,_,_⟩,_,⟨⟨rfl,rfl,rfl,rfl⟩,rfl⟩,⟨⟨?_,?_⟩,⟨?_,?_⟩,⟨?_,?_⟩,?_,?_⟩,⟨?_,?_⟩,?_,((Below.refl _ _).alloc (Nat.le_refl _) _).alloc (by simp) _⟩
 all_goals (try simp only [RR])
 all_goals (try omega)
 rw [Int.add_mul (n0+_+_),Int.add_mul (n0+_),Int.add_mul n0,Int.mul_right_comm n1,Int.mul_right_comm n2,Int.mul_right_comm n3,e0,e1,e2,e3]
 omega
end Go.Proofs.YtlihbglpdkeppaaGreatDoor
namespace Go.Proofs.YtlihbglpdkeppaaGreatDoor
open Go Go.RowKit Go.Lib
theorem andnot63 (x:Int) (hx:Word x):bits .andNot .u64 x 9223372036854775808=x % 9223372036854775808:=by
  obtain ⟨h0,h1⟩:=hx
  obtain ⟨n,rfl⟩:=Int.eq_ofNat_of_zero_le h0
  have hn:n<18446744073709551616:=by omega
  show IntKind.u64.wrap ((BitVec.ofInt 64 (n:Int) &&& ~~~ BitVec.ofInt 64 9223372036854775808).toNat:Int)=_
  rw [BitVec.toNat_and,show (~~~ BitVec.ofInt 64 9223372036854775808).toNat=2 ^ 63 - 1 from by decide,Nat.and_two_pow_sub_one_eq_mod,BitVec.ofInt_natCast,BitVec.toNat_ofNat,IntKind.wrap_u64]
  omega
theorem four {w:World} {b:Nat} {x0 x1 x2 x3:Value} {t:TypeId} (h:w.heap[b]? = some (.cells #[x0,x1,x2,x3] t (0,0))) :
    w.cell? ⟨b,0,none⟩=some x0∧w.cell? ⟨b,1,none⟩=some x1∧w.cell? ⟨b,2,none⟩=some x2∧w.cell? ⟨b,3,none⟩=some x3 ∧
    w.frozen? ⟨b,0,none⟩=false∧w.frozen? ⟨b,1,none⟩=false∧w.frozen? ⟨b,2,none⟩=false∧w.frozen? ⟨b,3,none⟩=false :=
  ⟨by rw [cell_of_row w b 0 _ t _ h];rfl,by rw [cell_of_row w b 1 _ t _ h];rfl,by rw [cell_of_row w b 2 _ t _ h];rfl,by rw [cell_of_row w b 3 _ t _ h];rfl,
   frozen_of_row _ _ _ _ _ h,frozen_of_row _ _ _ _ _ h,frozen_of_row _ _ _ _ _ h,frozen_of_row _ _ _ _ _ h⟩
abbrev PP:Int:=57896044618658097711785492504343953926634992332820282019728792003956564819949
theorem settle_num (A h S c T d N:Int) (hA0:0≤A) (hA:A<57896044618658097711785492504343953926634992332820282019728792003956564819968) (hh:h=0∨h=1) (hS:0≤S∧S<RR) (hT:0≤T∧T<RR) (c0:0≤c) (c1:c≤1) (d0:0≤d) (d1:d≤1)
    (he:S+c*RR=A+19*h) (hf:T+d*RR=S+19) (hN:N=A+h*57896044618658097711785492504343953926634992332820282019728792003956564819968) :
    (57896044618658097711785492504343953926634992332820282019728792003956564819968≤T→T - 57896044618658097711785492504343953926634992332820282019728792003956564819968=N % PP)∧(T<57896044618658097711785492504343953926634992332820282019728792003956564819968→S=N % PP):=by
  simp only [RR,PP] at *
  have hc:c=0:=by rcases hh with rfl | rfl <;> omega
  have hd:d=0:=by rcases hh with rfl | rfl <;> omega
  subst hc;subst hd
  rcases hh with rfl | rfl
  · constructor <;> intro h <;> omega
  · constructor <;> intro h <;> omega
theorem keep {B:Nat} {w w':World} (h:Below B w w') {b:Nat} (hb:b<B) {o:Obj} (hc:w.heap[b]? = some o):w'.heap[b]? = some o:=(h.block b hb).trans hc
theorem heap_alloc_here (w:World) (o:Obj) (b:Nat) (h:b=w.heap.size):(w.alloc o).heap[b]? = some o:=by subst h;exact heap_alloc_new _ _
theorem heap_alloc_past (w:World) (o:Obj) (b:Nat) (h:b<w.heap.size):(w.alloc o).heap[b]? = w.heap[b]? := by
  show (w.heap.push o)[b]? = _;rw [Array.getElem?_push,if_neg (by omega)]
def set4 (w:World) (b:Nat) (y0 y1 y2 y3:Value):World:=(((w.setCell ⟨b,0,none⟩ y0).setCell ⟨b,1,none⟩ y1).setCell ⟨b,2,none⟩ y2).setCell ⟨b,3,none⟩ y3
theorem set4_eq (w:World) (b:Nat) (y0 y1 y2 y3:Value):(((w.setCell ⟨b,0,none⟩ y0).setCell ⟨b,1,none⟩ y1).setCell ⟨b,2,none⟩ y2).setCell ⟨b,3,none⟩ y3=set4 w b y0 y1 y2 y3:=rfl
theorem set4_size (w:World) (b:Nat) (y0 y1 y2 y3:Value):(set4 w b y0 y1 y2 y3).heap.size=w.heap.size:=by simp [set4,World.setCell]
theorem set4_here {w:World} {b:Nat} {x0 x1 x2 x3:Value} {t:TypeId} (y0 y1 y2 y3:Value) (h:w.heap[b]? = some (.cells #[x0,x1,x2,x3] t (0,0))):(set4 w b y0 y1 y2 y3).heap[b]? = some (.cells #[y0,y1,y2,y3] t (0,0)):=by
  simp [set4,World.setCell,Array.getElem?_modify,h]
theorem set4_past (w:World) (b c:Nat) (y0 y1 y2 y3:Value) (h:c≠b):(set4 w b y0 y1 y2 y3).heap[c]? = w.heap[c]? := by
  simp [set4,World.setCell,Array.getElem?_modify,Ne.symm h]
theorem below_set4 {B:Nat} {a w:World} (h:Below B a w) {b:Nat} (hb:B≤b) (y0 y1 y2 y3:Value):Below B a (set4 w b y0 y1 y2 y3) :=
  (((h.setCell hb y0).setCell hb y1).setCell hb y2).setCell hb y3
theorem lt_of_heap {w:World} {b:Nat} {o:Obj} (h:w.heap[b]? = some o):b<w.heap.size:=(Array.getElem?_eq_some_iff.1 h).1
theorem keep' {w w':World} (h:Below w.heap.size w w') {b:Nat} {o:Obj} (hc:w.heap[b]? = some o):w'.heap[b]? = some o:=keep h (lt_of_heap hc) hc
theorem chain {a w w':World} (h:Below a.heap.size a w) (hb:Below w.heap.size w w'):Below a.heap.size a w':=h.trans (hb.mono h.size)
theorem ok1 {x:Int} (h0:0≤x) (h1:x<18446744073709551616):Num.ok ⟨x,0,0,0⟩:=⟨⟨h0,h1⟩,⟨by simp only;omega,by simp only;omega⟩,⟨by simp only;omega,by simp only;omega⟩,⟨by simp only;omega,by simp only;omega⟩⟩
theorem results_mid {P:Program} {fn:Func} {p:Tmp} {ty:TypeId} (h:fn.results = #[.cell p ty]) (tmps:Array Value) (w:World) (b o:Nat) (cs:List Value) (d:TypeDesc)
    (hp:tmps.getD p undef = .pointer (some ⟨b,o,none⟩)) (hc:w.rangeAt b o cs) (hu:P.underlying ty=some d) (hd:d.isRow=true) (hi:(P.info? ty).map (·.size)=some cs.length) :
    (results fn tmps).run P w = .ok (.agg cs.toArray) w:=by
  have hp':tmps[p]?.getD undef = .pointer (some ⟨b,o,none⟩):=by simpa using hp
  simp [results,h,hp',asAddr,run_loadVar_mid w b o ty cs d hc hu hd hi]
theorem results_mid_tmp {P:Program} {fn:Func} {p q:Tmp} {ty:TypeId} (h:fn.results = #[.cell p ty,.tmp q]) (tmps:Array Value) (w:World) (b o:Nat) (cs:List Value) (d:TypeDesc) (x:Value)
    (hp:tmps.getD p undef = .pointer (some ⟨b,o,none⟩)) (hq:tmps.getD q undef=x) (hc:w.rangeAt b o cs) (hu:P.underlying ty=some d) (hd:d.isRow=true) (hi:(P.info? ty).map (·.size)=some cs.length) :
    (results fn tmps).run P w = .ok (.tuple #[.agg cs.toArray,x]) w:=by
  have hp':tmps[p]?.getD undef = .pointer (some ⟨b,o,none⟩):=by simpa using hp
  have hq':tmps[q]?.getD undef=x:=by simpa using hq
  simp [results,h,hp',hq',asAddr,run_loadVar_mid w b o ty cs d hc hu hd hi]
theorem results_tmp_mid {P:Program} {fn:Func} {p q:Tmp} {ty:TypeId} (h:fn.results = #[.tmp q,.cell p ty]) (tmps:Array Value) (w:World) (b o:Nat) (cs:List Value) (d:TypeDesc) (x:Value)
    (hp:tmps.getD p undef = .pointer (some ⟨b,o,none⟩)) (hq:tmps.getD q undef=x) (hc:w.rangeAt b o cs) (hu:P.underlying ty=some d) (hd:d.isRow=true) (hi:(P.info? ty).map (·.size)=some cs.length) :
    (results fn tmps).run P w = .ok (.tuple #[x,.agg cs.toArray]) w:=by
  have hp':tmps[p]?.getD undef = .pointer (some ⟨b,o,none⟩):=by simpa using hp
  have hq':tmps[q]?.getD undef=x:=by simpa using hq
  simp [results,h,hp',hq',asAddr,run_loadVar_mid w b o ty cs d hc hu hd hi]
theorem range4 {w:World} {b:Nat} {x0 x1 x2 x3:Value} {t:TypeId} (h:w.heap[b]? = some (.cells #[x0,x1,x2,x3] t (0,0))):w.rangeAt b 0 [x0,x1,x2,x3]:=fun j v hv=>by
  rw [Nat.zero_add,cell_of_row w b j _ t _ h]
  simpa using hv
set_option maxHeartbeats 400000 in
theorem fold_any (n:Num) (o:Int) (hn:n.ok) (ho:0≤o∧o≤38) (w:World) :
    Calls Tryz.prog 132 #[n.v,.int .u64 o] w fun e w' => ∃ s:Num,e = .returned s.v∧s.ok∧s.val % PP=(n.val+o*RR) % PP∧Below w.heap.size w w':=by
  obtain ⟨n0,n1,n2,n3⟩:=n
  have hw1:IntKind.u64.wrap (o*38)=o*38:=by rw [IntKind.wrap_u64];omega
  simp only [Num.v] at *
  go_enter Tryz.func132,Tryz.ntmps132
  go_wp2_with fail
  refine (plus_any ⟨n0,n1,n2,n3⟩ ⟨o*38,0,0,0⟩ hn (ok1 (by omega) (by omega)) _).mono ?_
  rintro e w1 ⟨⟨s0,s1,s2,s3⟩,c,rfl,hs,c0,c1,he,hb⟩
  simp only [Num.v]
  have HB1:Hid (Below w.heap.size w w1):=chain (w:=((w.alloc (.cells #[.int .u64 n0,.int .u64 n1,.int .u64 n2,.int .u64 n3] 120)).alloc (.cells #[.int .u64 0,.int .u64 0,.int .u64 0,.int .u64 0] 120))) (Below.alloc (Below.alloc (Below.refl w.heap.size w) ((Below.refl w.heap.size w)).size _) ((Below.alloc (Below.refl w.heap.size w) ((Below.refl w.heap.size w)).size _)).size _) hb
  have z1:w.heap.size+2≤w1.heap.size:=by have:=(show Below (((w.alloc (.cells #[.int .u64 n0,.int .u64 n1,.int .u64 n2,.int .u64 n3] 120)).alloc (.cells #[.int .u64 0,.int .u64 0,.int .u64 0,.int .u64 0] 120))).heap.size ((w.alloc (.cells #[.int .u64 n0,.int .u64 n1,.int .u64 n2,.int .u64 n3] 120)).alloc (.cells #[.int .u64 0,.int .u64 0,.int .u64 0,.int .u64 0] 120)) w1 from hb).size;(try simp only [set4_size,World.size_alloc] at this);omega
  have B_n_1:w1.heap[w.heap.size]? = some (.cells #[.int .u64 n0,.int .u64 n1,.int .u64 n2,.int .u64 n3] 120):=keep' (w:=((w.alloc (.cells #[.int .u64 n0,.int .u64 n1,.int .u64 n2,.int .u64 n3] 120)).alloc (.cells #[.int .u64 0,.int .u64 0,.int .u64 0,.int .u64 0] 120))) hb ((heap_alloc_past _ _ _ (lt_of_heap (heap_alloc_here _ _ _ (by simp)))).trans (heap_alloc_here _ _ _ (by simp)))
  have B_r_1:w1.heap[w.heap.size+1]? = some (.cells #[.int .u64 0,.int .u64 0,.int .u64 0,.int .u64 0] 120):=keep' (w:=((w.alloc (.cells #[.int .u64 n0,.int .u64 n1,.int .u64 n2,.int .u64 n3] 120)).alloc (.cells #[.int .u64 0,.int .u64 0,.int .u64 0,.int .u64 0] 120))) hb (heap_alloc_here _ _ _ (by simp))
  clear hb
  have l_n_1:w.heap.size<w1.heap.size:=lt_of_heap B_n_1
  have l_r_1:w.heap.size+1<w1.heap.size:=lt_of_heap B_r_1
  obtain ⟨c_n_1_0,c_n_1_1,c_n_1_2,c_n_1_3,f_n_1_0,f_n_1_1,f_n_1_2,f_n_1_3⟩:=four B_n_1
  obtain ⟨c_r_1_0,c_r_1_1,c_r_1_2,c_r_1_3,f_r_1_0,f_r_1_1,f_r_1_2,f_r_1_3⟩:=four B_r_1
  have hw2:IntKind.u64.wrap (c*38)=c*38:=by rw [IntKind.wrap_u64];omega
  go_wp2_with fail
  refine (plus_any ⟨s0,s1,s2,s3⟩ ⟨c*38,0,0,0⟩ hs (ok1 (by omega) (by omega)) _).mono ?_
  rintro e w2 ⟨⟨t0,t1,t2,t3⟩,d,rfl,ht,d0,d1,hf,hb⟩
  simp only [Num.v]
  have HB2:Hid (Below w.heap.size w w2):=chain (w:=(set4 w1 (w.heap.size) (.int .u64 s0) (.int .u64 s1) (.int .u64 s2) (.int .u64 s3))) (below_set4 HB1.out (by omega) _ _ _ _) hb
  have z2:w1.heap.size+0≤w2.heap.size:=by have:=(show Below ((set4 w1 (w.heap.size) (.int .u64 s0) (.int .u64 s1) (.int .u64 s2) (.int .u64 s3))).heap.size (set4 w1 (w.heap.size) (.int .u64 s0) (.int .u64 s1) (.int .u64 s2) (.int .u64 s3)) w2 from hb).size;(try simp only [set4_size,World.size_alloc] at this);omega
  have B_n_2:w2.heap[w.heap.size]? = some (.cells #[.int .u64 s0,.int .u64 s1,.int .u64 s2,.int .u64 s3] 120):=keep' (w:=(set4 w1 (w.heap.size) (.int .u64 s0) (.int .u64 s1) (.int .u64 s2) (.int .u64 s3))) hb (set4_here _ _ _ _ B_n_1)
  have B_r_2:w2.heap[w.heap.size+1]? = some (.cells #[.int .u64 0,.int .u64 0,.int .u64 0,.int .u64 0] 120):=keep' (w:=(set4 w1 (w.heap.size) (.int .u64 s0) (.int .u64 s1) (.int .u64 s2) (.int .u64 s3))) hb ((set4_past _ _ _ _ _ _ _ (by omega)).trans B_r_1)
  clear hb
  have l_n_2:w.heap.size<w2.heap.size:=lt_of_heap B_n_2
  have l_r_2:w.heap.size+1<w2.heap.size:=lt_of_heap B_r_2
  obtain ⟨c_n_2_0,c_n_2_1,c_n_2_2,c_n_2_3,f_n_2_0,f_n_2_1,f_n_2_2,f_n_2_3⟩:=four B_n_2
  obtain ⟨c_r_2_0,c_r_2_1,c_r_2_2,c_r_2_3,f_r_2_0,f_r_2_1,f_r_2_2,f_r_2_3⟩:=four B_r_2
  go_wp2
  refine bodyPost_ret (v := .agg #[.int .u64 t0,.int .u64 t1,.int .u64 t2,.int .u64 t3]) (results_mid Tryz.results132 _ _ (w.heap.size+1) 0 [.int .u64 t0,.int .u64 t1,.int .u64 t2,.int .u64 t3] _ rfl (range4 (w:=(set4 (set4 w2 (w.heap.size) (.int .u64 t0) (.int .u64 t1) (.int .u64 t2) (.int .u64 t3)) (w.heap.size+1) (.int .u64 t0) (.int .u64 t1) (.int .u64 t2) (.int .u64 t3))) (t:=120) (set4_here _ _ _ _ ((set4_past _ _ _ _ _ _ _ (by omega)).trans B_r_2))) Tryz.underlying120 rfl (by kernel_rfl)) rfl ⟨⟨t0,t1,t2,t3⟩,rfl,ht,?_,(below_set4 (below_set4 HB2.out (by omega) _ _ _ _) (by omega) _ _ _ _)⟩
  obtain ⟨v0,v1⟩:=Num.bound hn
  obtain ⟨v2,v3⟩:=Num.bound hs
  obtain ⟨v4,v5⟩:=Num.bound ht
  generalize Num.val ⟨t0,t1,t2,t3⟩=T at *
  generalize Num.val ⟨s0,s1,s2,s3⟩=S at *
  generalize Num.val ⟨n0,n1,n2,n3⟩=N at *
  simp only [Num.val,RR,PP] at *
  have:d=0:=by omega
  subst this
  omega
set_option maxHeartbeats 400000 in
theorem add_any (a b:Num) (ha:a.ok) (hb:b.ok) (w:World) :
    Calls Tryz.prog 134 #[a.v,b.v] w fun e w' => ∃ s:Num,e = .returned s.v∧s.ok∧s.val % PP=(a.val+b.val) % PP∧Below w.heap.size w w':=by
  obtain ⟨a0,a1,a2,a3⟩:=a
  obtain ⟨b0,b1,b2,b3⟩:=b
  simp only [Num.v] at *
  go_enter Tryz.func134,Tryz.ntmps134
  go_wp2_with fail
  refine (plus_any ⟨a0,a1,a2,a3⟩ ⟨b0,b1,b2,b3⟩ ha hb _).mono ?_
  rintro e w1 ⟨⟨s0,s1,s2,s3⟩,c,rfl,hs,c0,c1,he,hb⟩
  simp only [Num.v]
  have HB1:Hid (Below w.heap.size w w1):=chain (w:=(((w.alloc (.cells #[.int .u64 a0,.int .u64 a1,.int .u64 a2,.int .u64 a3] 120)).alloc (.cells #[.int .u64 b0,.int .u64 b1,.int .u64 b2,.int .u64 b3] 120)).alloc (.cells #[.int .u64 0,.int .u64 0,.int .u64 0,.int .u64 0] 120))) (Below.alloc (Below.alloc (Below.alloc (Below.refl w.heap.size w) ((Below.refl w.heap.size w)).size _) ((Below.alloc (Below.refl w.heap.size w) ((Below.refl w.heap.size w)).size _)).size _) ((Below.alloc (Below.alloc (Below.refl w.heap.size w) ((Below.refl w.heap.size w)).size _) ((Below.alloc (Below.refl w.heap.size w) ((Below.refl w.heap.size w)).size _)).size _)).size _) hb
  have z1:w.heap.size+3≤w1.heap.size:=by have:=(show Below ((((w.alloc (.cells #[.int .u64 a0,.int .u64 a1,.int .u64 a2,.int .u64 a3] 120)).alloc (.cells #[.int .u64 b0,.int .u64 b1,.int .u64 b2,.int .u64 b3] 120)).alloc (.cells #[.int .u64 0,.int .u64 0,.int .u64 0,.int .u64 0] 120))).heap.size (((w.alloc (.cells #[.int .u64 a0,.int .u64 a1,.int .u64 a2,.int .u64 a3] 120)).alloc (.cells #[.int .u64 b0,.int .u64 b1,.int .u64 b2,.int .u64 b3] 120)).alloc (.cells #[.int .u64 0,.int .u64 0,.int .u64 0,.int .u64 0] 120)) w1 from hb).size;(try simp only [set4_size,World.size_alloc] at this);omega
  have B_r_1:w1.heap[w.heap.size+1+1]? = some (.cells #[.int .u64 0,.int .u64 0,.int .u64 0,.int .u64 0] 120):=keep' (w:=(((w.alloc (.cells #[.int .u64 a0,.int .u64 a1,.int .u64 a2,.int .u64 a3] 120)).alloc (.cells #[.int .u64 b0,.int .u64 b1,.int .u64 b2,.int .u64 b3] 120)).alloc (.cells #[.int .u64 0,.int .u64 0,.int .u64 0,.int .u64 0] 120))) hb (heap_alloc_here _ _ _ (by simp))
  clear hb
  have l_r_1:w.heap.size+1+1<w1.heap.size:=lt_of_heap B_r_1
  obtain ⟨c_r_1_0,c_r_1_1,c_r_1_2,c_r_1_3,f_r_1_0,f_r_1_1,f_r_1_2,f_r_1_3⟩:=four B_r_1
  go_wp2_with fail
  refine (fold_any ⟨s0,s1,s2,s3⟩ c hs (by omega) _).mono ?_
  rintro e w2 ⟨⟨t0,t1,t2,t3⟩,rfl,ht,hf,hb⟩
  simp only [Num.v]
  have HB2:Hid (Below w.heap.size w w2):=chain (w:=w1) HB1.out hb
  have z2:w1.heap.size+0≤w2.heap.size:=by have:=(show Below (w1).heap.size w1 w2 from hb).size;(try simp only [set4_size,World.size_alloc] at this);omega
  have B_r_2:w2.heap[w.heap.size+1+1]? = some (.cells #[.int .u64 0,.int .u64 0,.int .u64 0,.int .u64 0] 120):=keep' (w:=w1) hb B_r_1
  clear hb
  have l_r_2:w.heap.size+1+1<w2.heap.size:=lt_of_heap B_r_2
  obtain ⟨c_r_2_0,c_r_2_1,c_r_2_2,c_r_2_3,f_r_2_0,f_r_2_1,f_r_2_2,f_r_2_3⟩:=four B_r_2
  go_wp2
  refine bodyPost_ret (v := .agg #[.int .u64 t0,.int .u64 t1,.int .u64 t2,.int .u64 t3]) (results_mid Tryz.results134 _ _ (w.heap.size+1+1) 0 [.int .u64 t0,.int .u64 t1,.int .u64 t2,.int .u64 t3] _ rfl (range4 (w:=(set4 w2 (w.heap.size+1+1) (.int .u64 t0) (.int .u64 t1) (.int .u64 t2) (.int .u64 t3))) (t:=120) (set4_here _ _ _ _ B_r_2)) Tryz.underlying120 rfl (by kernel_rfl)) rfl ⟨⟨t0,t1,t2,t3⟩,rfl,ht,?_,(below_set4 HB2.out (by omega) _ _ _ _)⟩
  rw [hf,he]
set_option maxHeartbeats 400000 in
theorem sub_any (a b:Num) (ha:a.ok) (hb:b.ok) (w:World) :
    Calls Tryz.prog 133 #[a.v,b.v] w fun e w' => ∃ s:Num,e = .returned s.v∧s.ok∧s.val % PP=(a.val - b.val) % PP∧Below w.heap.size w w':=by
  obtain ⟨a0,a1,a2,a3⟩:=a
  obtain ⟨b0,b1,b2,b3⟩:=b
  simp only [Num.v] at *
  go_enter Tryz.func133,Tryz.ntmps133
  go_wp2_with fail
  refine (minus_any ⟨a0,a1,a2,a3⟩ ⟨b0,b1,b2,b3⟩ ha hb _).mono ?_
  rintro e w1 ⟨⟨s0,s1,s2,s3⟩,c,rfl,hs,c0,c1,he,hb⟩
  simp only [Num.v]
  have HB1:Hid (Below w.heap.size w w1):=chain (w:=(((w.alloc (.cells #[.int .u64 a0,.int .u64 a1,.int .u64 a2,.int .u64 a3] 120)).alloc (.cells #[.int .u64 b0,.int .u64 b1,.int .u64 b2,.int .u64 b3] 120)).alloc (.cells #[.int .u64 0,.int .u64 0,.int .u64 0,.int .u64 0] 120))) (Below.alloc (Below.alloc (Below.alloc (Below.refl w.heap.size w) ((Below.refl w.heap.size w)).size _) ((Below.alloc (Below.refl w.heap.size w) ((Below.refl w.heap.size w)).size _)).size _) ((Below.alloc (Below.alloc (Below.refl w.heap.size w) ((Below.refl w.heap.size w)).size _) ((Below.alloc (Below.refl w.heap.size w) ((Below.refl w.heap.size w)).size _)).size _)).size _) hb
  have z1:w.heap.size+3≤w1.heap.size:=by have:=(show Below ((((w.alloc (.cells #[.int .u64 a0,.int .u64 a1,.int .u64 a2,.int .u64 a3] 120)).alloc (.cells #[.int .u64 b0,.int .u64 b1,.int .u64 b2,.int .u64 b3] 120)).alloc (.cells #[.int .u64 0,.int .u64 0,.int .u64 0,.int .u64 0] 120))).heap.size (((w.alloc (.cells #[.int .u64 a0,.int .u64 a1,.int .u64 a2,.int .u64 a3] 120)).alloc (.cells #[.int .u64 b0,.int .u64 b1,.int .u64 b2,.int .u64 b3] 120)).alloc (.cells #[.int .u64 0,.int .u64 0,.int .u64 0,.int .u64 0] 120)) w1 from hb).size;(try simp only [set4_size,World.size_alloc] at this);omega
  have B_r_1:w1.heap[w.heap.size+1+1]? = some (.cells #[.int .u64 0,.int .u64 0,.int .u64 0,.int .u64 0] 120):=keep' (w:=(((w.alloc (.cells #[.int .u64 a0,.int .u64 a1,.int .u64 a2,.int .u64 a3] 120)).alloc (.cells #[.int .u64 b0,.int .u64 b1,.int .u64 b2,.int .u64 b3] 120)).alloc (.cells #[.int .u64 0,.int .u64 0,.int .u64 0,.int .u64 0] 120))) hb (heap_alloc_here _ _ _ (by simp))
  clear hb
  have l_r_1:w.heap.size+1+1<w1.heap.size:=lt_of_heap B_r_1
  obtain ⟨c_r_1_0,c_r_1_1,c_r_1_2,c_r_1_3,f_r_1_0,f_r_1_1,f_r_1_2,f_r_1_3⟩:=four B_r_1
  have hw1:IntKind.u64.wrap (c*38)=c*38:=by rw [IntKind.wrap_u64];omega
  go_wp2_with fail
  refine (minus_any ⟨s0,s1,s2,s3⟩ ⟨c*38,0,0,0⟩ hs (ok1 (by omega) (by omega)) _).mono ?_
  rintro e w2 ⟨⟨t0,t1,t2,t3⟩,d,rfl,ht,d0,d1,hf,hb⟩
  simp only [Num.v]
  have HB2:Hid (Below w.heap.size w w2):=chain (w:=(w1.alloc (.cells #[.int .u64 s0,.int .u64 s1,.int .u64 s2,.int .u64 s3] 120))) (Below.alloc HB1.out (HB1.out).size _) hb
  have z2:w1.heap.size+1≤w2.heap.size:=by have:=(show Below ((w1.alloc (.cells #[.int .u64 s0,.int .u64 s1,.int .u64 s2,.int .u64 s3] 120))).heap.size (w1.alloc (.cells #[.int .u64 s0,.int .u64 s1,.int .u64 s2,.int .u64 s3] 120)) w2 from hb).size;(try simp only [set4_size,World.size_alloc] at this);omega
  have B_r_2:w2.heap[w.heap.size+1+1]? = some (.cells #[.int .u64 0,.int .u64 0,.int .u64 0,.int .u64 0] 120):=keep' (w:=(w1.alloc (.cells #[.int .u64 s0,.int .u64 s1,.int .u64 s2,.int .u64 s3] 120))) hb ((heap_alloc_past _ _ _ (lt_of_heap B_r_1)).trans B_r_1)
  have B_n_2:w2.heap[w1.heap.size]? = some (.cells #[.int .u64 s0,.int .u64 s1,.int .u64 s2,.int .u64 s3] 120):=keep' (w:=(w1.alloc (.cells #[.int .u64 s0,.int .u64 s1,.int .u64 s2,.int .u64 s3] 120))) hb (heap_alloc_here _ _ _ (by simp))
  clear hb
  have l_r_2:w.heap.size+1+1<w2.heap.size:=lt_of_heap B_r_2
  have l_n_2:w1.heap.size<w2.heap.size:=lt_of_heap B_n_2
  obtain ⟨c_r_2_0,c_r_2_1,c_r_2_2,c_r_2_3,f_r_2_0,f_r_2_1,f_r_2_2,f_r_2_3⟩:=four B_r_2
  obtain ⟨c_n_2_0,c_n_2_1,c_n_2_2,c_n_2_3,f_n_2_0,f_n_2_1,f_n_2_2,f_n_2_3⟩:=four B_n_2
  have hw2:IntKind.u64.wrap (d*38)=d*38:=by rw [IntKind.wrap_u64];omega
  have ne1 : ¬ w.heap.size+1+1=w1.heap.size:=by omega
  have ne2 : ¬ w1.heap.size=w.heap.size+1+1:=by omega
  go_wp2_with fail
  refine (minus_any ⟨t0,t1,t2,t3⟩ ⟨d*38,0,0,0⟩ ht (ok1 (by omega) (by omega)) _).mono ?_
  rintro e w3 ⟨⟨u0,u1,u2,u3⟩,f,rfl,hu,f0,f1,hg,hb⟩
  simp only [Num.v]
  have HB3:Hid (Below w.heap.size w w3):=chain (w:=(set4 w2 (w1.heap.size) (.int .u64 t0) (.int .u64 t1) (.int .u64 t2) (.int .u64 t3))) (below_set4 HB2.out (by omega) _ _ _ _) hb
  have z3:w2.heap.size+0≤w3.heap.size:=by have:=(show Below ((set4 w2 (w1.heap.size) (.int .u64 t0) (.int .u64 t1) (.int .u64 t2) (.int .u64 t3))).heap.size (set4 w2 (w1.heap.size) (.int .u64 t0) (.int .u64 t1) (.int .u64 t2) (.int .u64 t3)) w3 from hb).size;(try simp only [set4_size,World.size_alloc] at this);omega
  have B_r_3:w3.heap[w.heap.size+1+1]? = some (.cells #[.int .u64 0,.int .u64 0,.int .u64 0,.int .u64 0] 120):=keep' (w:=(set4 w2 (w1.heap.size) (.int .u64 t0) (.int .u64 t1) (.int .u64 t2) (.int .u64 t3))) hb ((set4_past _ _ _ _ _ _ _ (by omega)).trans B_r_2)
  have B_n_3:w3.heap[w1.heap.size]? = some (.cells #[.int .u64 t0,.int .u64 t1,.int .u64 t2,.int .u64 t3] 120):=keep' (w:=(set4 w2 (w1.heap.size) (.int .u64 t0) (.int .u64 t1) (.int .u64 t2) (.int .u64 t3))) hb (set4_here _ _ _ _ B_n_2)
  clear hb
  have l_r_3:w.heap.size+1+1<w3.heap.size:=lt_of_heap B_r_3
  have l_n_3:w1.heap.size<w3.heap.size:=lt_of_heap B_n_3
  obtain ⟨c_r_3_0,c_r_3_1,c_r_3_2,c_r_3_3,f_r_3_0,f_r_3_1,f_r_3_2,f_r_3_3⟩:=four B_r_3
  obtain ⟨c_n_3_0,c_n_3_1,c_n_3_2,c_n_3_3,f_n_3_0,f_n_3_1,f_n_3_2,f_n_3_3⟩:=four B_n_3
  go_wp2
  refine bodyPost_ret (v := .agg #[.int .u64 u0,.int .u64 u1,.int .u64 u2,.int .u64 u3]) (results_mid Tryz.results133 _ _ (w.heap.size+1+1) 0 [.int .u64 u0,.int .u64 u1,.int .u64 u2,.int .u64 u3] _ rfl (range4 (w:=(set4 (set4 w3 (w1.heap.size) (.int .u64 u0) (.int .u64 u1) (.int .u64 u2) (.int .u64 u3)) (w.heap.size+1+1) (.int .u64 u0) (.int .u64 u1) (.int .u64 u2) (.int .u64 u3))) (t:=120) (set4_here _ _ _ _ ((set4_past _ _ _ _ _ _ _ (by omega)).trans B_r_3))) Tryz.underlying120 rfl (by kernel_rfl)) rfl ⟨⟨u0,u1,u2,u3⟩,rfl,hu,?_,(below_set4 (below_set4 HB3.out (by omega) _ _ _ _) (by omega) _ _ _ _)⟩
  obtain ⟨v0,v1⟩:=Num.bound ha
  obtain ⟨v2,v3⟩:=Num.bound hb
  obtain ⟨v4,v5⟩:=Num.bound hs
  obtain ⟨v6,v7⟩:=Num.bound ht
  obtain ⟨v8,v9⟩:=Num.bound hu
  generalize Num.val ⟨u0,u1,u2,u3⟩=U at *
  generalize Num.val ⟨t0,t1,t2,t3⟩=T at *
  generalize Num.val ⟨s0,s1,s2,s3⟩=S at *
  generalize Num.val ⟨a0,a1,a2,a3⟩=A at *
  generalize Num.val ⟨b0,b1,b2,b3⟩=B at *
  simp only [Num.val,RR,PP] at *
  have:f=0:=by omega
  subst this
  omega
set_option maxHeartbeats 400000 in
theorem shift_any (n:Num) (t:Int) (w:World) :
    Calls Tryz.prog 129 #[n.v,.int .u64 t] w fun e w'=>e = .returned (.tuple #[.int .u64 n.w0,(Num.mk n.w1 n.w2 n.w3 t).v])∧Below w.heap.size w w':=by
  obtain ⟨n0,n1,n2,n3⟩:=n
  simp only [Num.v] at *
  go_enter Tryz.func129,Tryz.ntmps129
  go_wp2
  go_region_held3 (fun w'=>w'.cell? ⟨w.heap.size,0,none⟩=some (.int .u64 n0)∧w'.cell? ⟨w.heap.size,1,none⟩=some (.int .u64 n1)∧w'.cell? ⟨w.heap.size,2,none⟩=some (.int .u64 n2)∧w'.cell? ⟨w.heap.size,3,none⟩=some (.int .u64 n3)) (simp [go_sem,World.cell?_alloc_past]) (fail)
  go_wp2
  simp [bodyPost,results,Tryz.results129,go_sem]
  exact (((Below.refl _ _).alloc (Nat.le_refl _) _).alloc (by simp) _).drew
set_option maxHeartbeats 400000 in
theorem nextRow_any (a b:Num) (t:Int) (ha:a.ok) (hb:b.ok) (ht:0≤t) (hlt:a.val+b.val+t*RR<RR*18446744073709551616) (w:World) :
    Calls Tryz.prog 130 #[a.v,b.v,.int .u64 t] w fun e w' => ∃ (l:Int) (s:Num),e = .returned (.tuple #[.int .u64 l,s.v])∧Word l∧s.ok∧l+s.val*18446744073709551616=a.val+b.val+t*RR∧Below w.heap.size w w':=by
  obtain ⟨a0,a1,a2,a3⟩:=a
  obtain ⟨b0,b1,b2,b3⟩:=b
  simp only [Num.v] at *
  go_enter Tryz.func130,Tryz.ntmps130
  go_wp2_with fail
  refine (plus_any ⟨a0,a1,a2,a3⟩ ⟨b0,b1,b2,b3⟩ ha hb _).mono ?_
  rintro e w1 ⟨⟨s0,s1,s2,s3⟩,c,rfl,hs,c0,c1,he,hb⟩
  simp only [Num.v]
  have HB1:Hid (Below w.heap.size w w1):=chain (w:=(((w.alloc (.cells #[.int .u64 a0,.int .u64 a1,.int .u64 a2,.int .u64 a3] 120)).alloc (.cells #[.int .u64 b0,.int .u64 b1,.int .u64 b2,.int .u64 b3] 120)).alloc (.cells #[.int .u64 0,.int .u64 0,.int .u64 0,.int .u64 0] 120))) (Below.alloc (Below.alloc (Below.alloc (Below.refl w.heap.size w) ((Below.refl w.heap.size w)).size _) ((Below.alloc (Below.refl w.heap.size w) ((Below.refl w.heap.size w)).size _)).size _) ((Below.alloc (Below.alloc (Below.refl w.heap.size w) ((Below.refl w.heap.size w)).size _) ((Below.alloc (Below.refl w.heap.size w) ((Below.refl w.heap.size w)).size _)).size _)).size _) hb
  have z1:w.heap.size+3≤w1.heap.size:=by have:=(show Below ((((w.alloc (.cells #[.int .u64 a0,.int .u64 a1,.int .u64 a2,.int .u64 a3] 120)).alloc (.cells #[.int .u64 b0,.int .u64 b1,.int .u64 b2,.int .u64 b3] 120)).alloc (.cells #[.int .u64 0,.int .u64 0,.int .u64 0,.int .u64 0] 120))).heap.size (((w.alloc (.cells #[.int .u64 a0,.int .u64 a1,.int .u64 a2,.int .u64 a3] 120)).alloc (.cells #[.int .u64 b0,.int .u64 b1,.int .u64 b2,.int .u64 b3] 120)).alloc (.cells #[.int .u64 0,.int .u64 0,.int .u64 0,.int .u64 0] 120)) w1 from hb).size;(try simp only [set4_size,World.size_alloc] at this);omega
  have B_a_1:w1.heap[w.heap.size]? = some (.cells #[.int .u64 a0,.int .u64 a1,.int .u64 a2,.int .u64 a3] 120):=keep' (w:=(((w.alloc (.cells #[.int .u64 a0,.int .u64 a1,.int .u64 a2,.int .u64 a3] 120)).alloc (.cells #[.int .u64 b0,.int .u64 b1,.int .u64 b2,.int .u64 b3] 120)).alloc (.cells #[.int .u64 0,.int .u64 0,.int .u64 0,.int .u64 0] 120))) hb ((heap_alloc_past _ _ _ (lt_of_heap ((heap_alloc_past _ _ _ (lt_of_heap (heap_alloc_here _ _ _ (by simp)))).trans (heap_alloc_here _ _ _ (by simp))))).trans ((heap_alloc_past _ _ _ (lt_of_heap (heap_alloc_here _ _ _ (by simp)))).trans (heap_alloc_here _ _ _ (by simp))))
  have B_r_1:w1.heap[w.heap.size+1+1]? = some (.cells #[.int .u64 0,.int .u64 0,.int .u64 0,.int .u64 0] 120):=keep' (w:=(((w.alloc (.cells #[.int .u64 a0,.int .u64 a1,.int .u64 a2,.int .u64 a3] 120)).alloc (.cells #[.int .u64 b0,.int .u64 b1,.int .u64 b2,.int .u64 b3] 120)).alloc (.cells #[.int .u64 0,.int .u64 0,.int .u64 0,.int .u64 0] 120))) hb (heap_alloc_here _ _ _ (by simp))
  clear hb
  have l_a_1:w.heap.size<w1.heap.size:=lt_of_heap B_a_1
  have l_r_1:w.heap.size+1+1<w1.heap.size:=lt_of_heap B_r_1
  obtain ⟨c_a_1_0,c_a_1_1,c_a_1_2,c_a_1_3,f_a_1_0,f_a_1_1,f_a_1_2,f_a_1_3⟩:=four B_a_1
  obtain ⟨c_r_1_0,c_r_1_1,c_r_1_2,c_r_1_3,f_r_1_0,f_r_1_1,f_r_1_2,f_r_1_3⟩:=four B_r_1
  obtain ⟨y0,y1⟩:=Num.bound hs
  have ht1:t+c<18446744073709551616:=by
    have e2:=he
    generalize Num.val ⟨s0,s1,s2,s3⟩=S at *
    generalize Num.val ⟨a0,a1,a2,a3⟩=A at *
    generalize Num.val ⟨b0,b1,b2,b3⟩=B at *
    simp only [RR] at *
    omega
  have hw1:IntKind.u64.wrap (t+c)=t+c:=by rw [IntKind.wrap_u64];omega
  go_wp2_with fail
  refine (shift_any ⟨s0,s1,s2,s3⟩ (t+c) _).mono ?_
  rintro e w2 ⟨rfl,hb⟩
  simp only [Num.v]
  have HB2:Hid (Below w.heap.size w w2):=chain (w:=(set4 w1 (w.heap.size) (.int .u64 s0) (.int .u64 s1) (.int .u64 s2) (.int .u64 s3))) (below_set4 HB1.out (by omega) _ _ _ _) hb
  have z2:w1.heap.size+0≤w2.heap.size:=by have:=(show Below ((set4 w1 (w.heap.size) (.int .u64 s0) (.int .u64 s1) (.int .u64 s2) (.int .u64 s3))).heap.size (set4 w1 (w.heap.size) (.int .u64 s0) (.int .u64 s1) (.int .u64 s2) (.int .u64 s3)) w2 from hb).size;(try simp only [set4_size,World.size_alloc] at this);omega
  have B_r_2:w2.heap[w.heap.size+1+1]? = some (.cells #[.int .u64 0,.int .u64 0,.int .u64 0,.int .u64 0] 120):=keep' (w:=(set4 w1 (w.heap.size) (.int .u64 s0) (.int .u64 s1) (.int .u64 s2) (.int .u64 s3))) hb ((set4_past _ _ _ _ _ _ _ (by omega)).trans B_r_1)
  clear hb
  have l_r_2:w.heap.size+1+1<w2.heap.size:=lt_of_heap B_r_2
  obtain ⟨c_r_2_0,c_r_2_1,c_r_2_2,c_r_2_3,f_r_2_0,f_r_2_1,f_r_2_2,f_r_2_3⟩:=four B_r_2
  go_wp2
  refine bodyPost_ret (v := .tuple #[.int .u64 s0,.agg #[.int .u64 s1,.int .u64 s2,.int .u64 s3,.int .u64 (t+c)]]) (results_tmp_mid Tryz.results130 _ _ (w.heap.size+1+1) 0 [.int .u64 s1,.int .u64 s2,.int .u64 s3,.int .u64 (t+c)] _ _ rfl rfl (range4 (w:=(set4 w2 (w.heap.size+1+1) (.int .u64 s1) (.int .u64 s2) (.int .u64 s3) (.int .u64 (t+c)))) (t:=120) (set4_here _ _ _ _ B_r_2)) Tryz.underlying120 rfl (by kernel_rfl)) rfl ⟨s0,⟨s1,s2,s3,t+c⟩,rfl,hs.1,⟨hs.2.1,hs.2.2.1,hs.2.2.2,by simp only;omega,ht1⟩,?_,(below_set4 HB2.out (by omega) _ _ _ _)⟩
  generalize Num.val ⟨a0,a1,a2,a3⟩=A at *
  generalize Num.val ⟨b0,b1,b2,b3⟩=B at *
  simp only [Num.val,RR] at *
  omega
set_option maxHeartbeats 400000 in
theorem settle_any (n:Num) (hn:n.ok) (w:World) :
    Calls Tryz.prog 123 #[n.v] w fun e w' => ∃ s:Num,e = .returned s.v∧s.ok∧s.val=n.val % PP∧Below w.heap.size w w':=by
  obtain ⟨n0,n1,n2,n3⟩:=n
  have han:=andnot63 n3 hn.2.2.2
  obtain ⟨q0,q1⟩:=hn.2.2.2
  simp only at q0 q1
  have hw1:IntKind.u64.wrap (19*(n3/9223372036854775808))=19*(n3/9223372036854775808):=by rw [IntKind.wrap_u64];omega
  simp only [Num.v] at *
  go_enter Tryz.func123,Tryz.ntmps123
  go_wp2_with fail
  refine (plus_any ⟨n0,n1,n2,n3 % 9223372036854775808⟩ ⟨19*(n3/9223372036854775808),0,0,0⟩ ⟨hn.1,hn.2.1,hn.2.2.1,by simp only;omega,by simp only;omega⟩ (ok1 (by omega) (by omega)) _).mono ?_
  rintro e w1 ⟨⟨s0,s1,s2,s3⟩,c,rfl,hs,c0,c1,he,hb⟩
  simp only [Num.v]
  have HB1:Hid (Below w.heap.size w w1):=chain (w:=((w.alloc (.cells #[.int .u64 n0,.int .u64 n1,.int .u64 n2,.int .u64 (n3 % 9223372036854775808)] 120)).alloc (.cells #[.int .u64 0,.int .u64 0,.int .u64 0,.int .u64 0] 120))) (Below.alloc (Below.alloc (Below.refl w.heap.size w) ((Below.refl w.heap.size w)).size _) ((Below.alloc (Below.refl w.heap.size w) ((Below.refl w.heap.size w)).size _)).size _) hb
  have z1:w.heap.size+2≤w1.heap.size:=by have:=(show Below (((w.alloc (.cells #[.int .u64 n0,.int .u64 n1,.int .u64 n2,.int .u64 (n3 % 9223372036854775808)] 120)).alloc (.cells #[.int .u64 0,.int .u64 0,.int .u64 0,.int .u64 0] 120))).heap.size ((w.alloc (.cells #[.int .u64 n0,.int .u64 n1,.int .u64 n2,.int .u64 (n3 % 9223372036854775808)] 120)).alloc (.cells #[.int .u64 0,.int .u64 0,.int .u64 0,.int .u64 0] 120)) w1 from hb).size;(try simp only [set4_size,World.size_alloc] at this);omega
  have B_n_1:w1.heap[w.heap.size]? = some (.cells #[.int .u64 n0,.int .u64 n1,.int .u64 n2,.int .u64 (n3 % 9223372036854775808)] 120):=keep' (w:=((w.alloc (.cells #[.int .u64 n0,.int .u64 n1,.int .u64 n2,.int .u64 (n3 % 9223372036854775808)] 120)).alloc (.cells #[.int .u64 0,.int .u64 0,.int .u64 0,.int .u64 0] 120))) hb ((heap_alloc_past _ _ _ (lt_of_heap (heap_alloc_here _ _ _ (by simp)))).trans (heap_alloc_here _ _ _ (by simp)))
  have B_r_1:w1.heap[w.heap.size+1]? = some (.cells #[.int .u64 0,.int .u64 0,.int .u64 0,.int .u64 0] 120):=keep' (w:=((w.alloc (.cells #[.int .u64 n0,.int .u64 n1,.int .u64 n2,.int .u64 (n3 % 9223372036854775808)] 120)).alloc (.cells #[.int .u64 0,.int .u64 0,.int .u64 0,.int .u64 0] 120))) hb (heap_alloc_here _ _ _ (by simp))
  clear hb
  have l_n_1:w.heap.size<w1.heap.size:=lt_of_heap B_n_1
  have l_r_1:w.heap.size+1<w1.heap.size:=lt_of_heap B_r_1
  obtain ⟨c_n_1_0,c_n_1_1,c_n_1_2,c_n_1_3,f_n_1_0,f_n_1_1,f_n_1_2,f_n_1_3⟩:=four B_n_1
  obtain ⟨c_r_1_0,c_r_1_1,c_r_1_2,c_r_1_3,f_r_1_0,f_r_1_1,f_r_1_2,f_r_1_3⟩:=four B_r_1
  go_wp2_with fail
  refine (plus_any ⟨s0,s1,s2,s3⟩ ⟨19,0,0,0⟩ hs (ok1 (by omega) (by omega)) _).mono ?_
  rintro e w2 ⟨⟨t0,t1,t2,t3⟩,d,rfl,ht,d0,d1,hf,hb⟩
  simp only [Num.v]
  have HB2:Hid (Below w.heap.size w w2):=chain (w:=(set4 w1 (w.heap.size) (.int .u64 s0) (.int .u64 s1) (.int .u64 s2) (.int .u64 s3))) (below_set4 HB1.out (by omega) _ _ _ _) hb
  have z2:w1.heap.size+0≤w2.heap.size:=by have:=(show Below ((set4 w1 (w.heap.size) (.int .u64 s0) (.int .u64 s1) (.int .u64 s2) (.int .u64 s3))).heap.size (set4 w1 (w.heap.size) (.int .u64 s0) (.int .u64 s1) (.int .u64 s2) (.int .u64 s3)) w2 from hb).size;(try simp only [set4_size,World.size_alloc] at this);omega
  have B_n_2:w2.heap[w.heap.size]? = some (.cells #[.int .u64 s0,.int .u64 s1,.int .u64 s2,.int .u64 s3] 120):=keep' (w:=(set4 w1 (w.heap.size) (.int .u64 s0) (.int .u64 s1) (.int .u64 s2) (.int .u64 s3))) hb (set4_here _ _ _ _ B_n_1)
  have B_r_2:w2.heap[w.heap.size+1]? = some (.cells #[.int .u64 0,.int .u64 0,.int .u64 0,.int .u64 0] 120):=keep' (w:=(set4 w1 (w.heap.size) (.int .u64 s0) (.int .u64 s1) (.int .u64 s2) (.int .u64 s3))) hb ((set4_past _ _ _ _ _ _ _ (by omega)).trans B_r_1)
  clear hb
  have l_n_2:w.heap.size<w2.heap.size:=lt_of_heap B_n_2
  have l_r_2:w.heap.size+1<w2.heap.size:=lt_of_heap B_r_2
  obtain ⟨c_n_2_0,c_n_2_1,c_n_2_2,c_n_2_3,f_n_2_0,f_n_2_1,f_n_2_2,f_n_2_3⟩:=four B_n_2
  obtain ⟨c_r_2_0,c_r_2_1,c_r_2_2,c_r_2_3,f_r_2_0,f_r_2_1,f_r_2_2,f_r_2_3⟩:=four B_r_2
  have han2:=andnot63 t3 ht.2.2.2
  have ne1 : ¬ w.heap.size+1=w2.heap.size:=by omega
  have ne2 : ¬ w2.heap.size=w.heap.size+1:=by omega
  have ne3 : ¬ w.heap.size=w2.heap.size:=by omega
  have ne4 : ¬ w2.heap.size=w.heap.size:=by omega
  obtain ⟨p0,p1⟩:=ht.2.2.2
  simp only at p0 p1
  have hb0:=Num.bound hs
  have hb1:=Num.bound ht
  have key:=settle_num (n0+n1*18446744073709551616+n2*340282366920938463463374607431768211456+(n3 % 9223372036854775808)*6277101735386680763835789423207666416102355444464034512896) (n3/9223372036854775808) _ c _ d (Num.val ⟨n0,n1,n2,n3⟩)
    (by have:=hn.1.1;have:=hn.2.1.1;have:=hn.2.2.1.1;simp only at *;omega) (by have:=hn.1.2;have:=hn.2.1.2;have:=hn.2.2.1.2;simp only at *;omega) (by omega) hb0 hb1 c0 c1 d0 d1 (by rw [he];simp only [Num.val];omega) (by rw [hf];simp only [Num.val];omega) (by simp only [Num.val];omega)
  obtain ⟨k1,k2⟩:=key
  have o0:=ht.1;have o1:=ht.2.1;have o2:=ht.2.2.1
  by_cases hq:t3/9223372036854775808=1
  · go_wp2
    refine bodyPost_ret (v := .agg #[.int .u64 t0,.int .u64 t1,.int .u64 t2,.int .u64 (t3 % 9223372036854775808)]) (results_mid Tryz.results123 _ _ (w.heap.size+1) 0 [.int .u64 t0,.int .u64 t1,.int .u64 t2,.int .u64 (t3 % 9223372036854775808)] _ rfl (range4 (w:=((set4 w2 (w.heap.size+1) (.int .u64 t0) (.int .u64 t1) (.int .u64 t2) (.int .u64 (t3 % 9223372036854775808))).alloc (.cells #[.int .u64 t0,.int .u64 t1,.int .u64 t2,.int .u64 (t3 % 9223372036854775808)] 120))) (t:=120) ((heap_alloc_past _ _ _ (lt_of_heap (set4_here _ _ _ _ B_r_2))).trans (set4_here _ _ _ _ B_r_2))) Tryz.underlying120 rfl (by kernel_rfl)) rfl ⟨⟨t0,t1,t2,t3 % 9223372036854775808⟩,rfl,⟨ht.1,ht.2.1,ht.2.2.1,by simp only;omega,by simp only;omega⟩,?_,(Below.alloc (below_set4 HB2.out (by omega) _ _ _ _) ((below_set4 HB2.out (by omega) _ _ _ _)).size _)⟩
    obtain ⟨_,_⟩:=o0;obtain ⟨_,_⟩:=o1;obtain ⟨_,_⟩:=o2
    have:=k1 (by simp only [Num.val] at *;omega)
    rw [←this]
    simp only [Num.val] at *
    rw [←han2]
    omega
  · go_wp2
    refine bodyPost_ret (v := .agg #[.int .u64 s0,.int .u64 s1,.int .u64 s2,.int .u64 s3]) (results_mid Tryz.results123 _ _ (w.heap.size+1) 0 [.int .u64 s0,.int .u64 s1,.int .u64 s2,.int .u64 s3] _ rfl (range4 (w:=((set4 w2 (w.heap.size+1) (.int .u64 s0) (.int .u64 s1) (.int .u64 s2) (.int .u64 s3)).alloc (.cells #[.int .u64 t0,.int .u64 t1,.int .u64 t2,.int .u64 t3] 120))) (t:=120) ((heap_alloc_past _ _ _ (lt_of_heap (set4_here _ _ _ _ B_r_2))).trans (set4_here _ _ _ _ B_r_2))) Tryz.underlying120 rfl (by kernel_rfl)) rfl ⟨⟨s0,s1,s2,s3⟩,rfl,hs,?_,(Below.alloc (below_set4 HB2.out (by omega) _ _ _ _) ((below_set4 HB2.out (by omega) _ _ _ _)).size _)⟩
    obtain ⟨_,_⟩:=o0;obtain ⟨_,_⟩:=o1;obtain ⟨_,_⟩:=o2
    exact k2 (by simp only [Num.val] at *;omega)
end Go.Proofs.YtlihbglpdkeppaaGreatDoor
namespace Go.Proofs.YtlihbglpdkeppaaGreatDoor
open Go Go.RowKit Go.Lib
theorem row_lt (S B x R t:Int) (hS:S<RR) (hB0:0≤B) (hB:B<RR) (hx:Word x) (he:R+t*RR=B*x):S+R+t*RR<RR*18446744073709551616:=by
 obtain ⟨h0,h1⟩:=hx
 have:B*x≤115792089237316195423570985008687907853269984665640564039457584007913129639935*18446744073709551615:=Int.mul_le_mul (by simp only [RR] at hB;omega) (by omega) h0 (by omega)
 simp only [RR] at *
 omega
theorem mul_num (A B a0 a1 a2 a3 l0 l1 l2 l3 H0 H1 H2 H3 r0 r1 r2 r3 t0 t1 t2 t3 R T n c s:Int)
  (hA:A=a0+a1*18446744073709551616+a2*340282366920938463463374607431768211456+a3*6277101735386680763835789423207666416102355444464034512896)
  (h0:r0+t0*RR=B*a0) (g0:l0+H0*18446744073709551616=r0+t0*RR)
  (h1:r1+t1*RR=B*a1) (g1:l1+H1*18446744073709551616=H0+r1+t1*RR)
  (h2:r2+t2*RR=B*a2) (g2:l2+H2*18446744073709551616=H1+r2+t2*RR)
  (h3:r3+t3*RR=B*a3) (g3:l3+H3*18446744073709551616=H2+r3+t3*RR)
  (h4:R+T*RR=H3*38) (h5:n+c*RR=l0+l1*18446744073709551616+l2*340282366920938463463374607431768211456+l3*6277101735386680763835789423207666416102355444464034512896+R)
  (h6:s % PP=(n+(T+c)*RR) % PP):s % PP=(A*B) % PP:=by
 have e:A*B=B*a0+(B*a1)*18446744073709551616+(B*a2)*340282366920938463463374607431768211456+(B*a3)*6277101735386680763835789423207666416102355444464034512896:=by
  rw [hA,Int.mul_comm]
  simp only [Int.mul_add,Int.mul_assoc]
 rw [h6,e,←h0,←h1,←h2,←h3]
 clear h6 e hA h0 h1 h2 h3
 simp only [RR,PP] at *
 omega
set_option maxHeartbeats 2000000 in
theorem mul_any (a b:Num) (ha:a.ok) (hb:b.ok) (w:World) :
  Calls Tryz.prog 111 #[a.v,b.v] w fun e w' => ∃ s:Num,e = .returned s.v∧s.ok∧s.val % PP=(a.val*b.val) % PP∧Below w.heap.size w w':=by
 obtain ⟨a0,a1,a2,a3⟩:=a
 obtain ⟨b0,b1,b2,b3⟩:=b
 simp only [Num.v] at *
 go_enter Tryz.func111,Tryz.ntmps111
 go_wp2_with fail
 refine (scale_any ⟨b0,b1,b2,b3⟩ a0 hb ha.1 _).mono ?_
 rintro e w1 ⟨⟨p0,p1,p2,p3⟩,t0,rfl,hp,ht0,ep,hb⟩
 simp only [Num.v]
 have HB1:Hid (Below w.heap.size w w1):=chain (w:=(((w.alloc (.cells #[.int .u64 a0,.int .u64 a1,.int .u64 a2,.int .u64 a3] 120)).alloc (.cells #[.int .u64 b0,.int .u64 b1,.int .u64 b2,.int .u64 b3] 120)).alloc (.cells #[.int .u64 0,.int .u64 0,.int .u64 0,.int .u64 0] 120))) (Below.alloc (Below.alloc (Below.alloc (Below.refl w.heap.size w) ((Below.refl w.heap.size w)).size _) ((Below.alloc (Below.refl w.heap.size w) ((Below.refl w.heap.size w)).size _)).size _) ((Below.alloc (Below.alloc (Below.refl w.heap.size w) ((Below.refl w.heap.size w)).size _) ((Below.alloc (Below.refl w.heap.size w) ((Below.refl w.heap.size w)).size _)).size _)).size _) hb
 have z1:w.heap.size+3≤w1.heap.size:=by have:=(show Below ((((w.alloc (.cells #[.int .u64 a0,.int .u64 a1,.int .u64 a2,.int .u64 a3] 120)).alloc (.cells #[.int .u64 b0,.int .u64 b1,.int .u64 b2,.int .u64 b3] 120)).alloc (.cells #[.int .u64 0,.int .u64 0,.int .u64 0,.int .u64 0] 120))).heap.size (((w.alloc (.cells #[.int .u64 a0,.int .u64 a1,.int .u64 a2,.int .u64 a3] 120)).alloc (.cells #[.int .u64 b0,.int .u64 b1,.int .u64 b2,.int .u64 b3] 120)).alloc (.cells #[.int .u64 0,.int .u64 0,.int .u64 0,.int .u64 0] 120)) w1 from hb).size;(try simp only [set4_size,World.size_alloc] at this);omega
 have B_a_1:w1.heap[w.heap.size]? = some (.cells #[.int .u64 a0,.int .u64 a1,.int .u64 a2,.int .u64 a3] 120):=keep' (w:=(((w.alloc (.cells #[.int .u64 a0,.int .u64 a1,.int .u64 a2,.int .u64 a3] 120)).alloc (.cells #[.int .u64 b0,.int .u64 b1,.int .u64 b2,.int .u64 b3] 120)).alloc (.cells #[.int .u64 0,.int .u64 0,.int .u64 0,.int .u64 0] 120))) hb ((heap_alloc_past _ _ _ (lt_of_heap ((heap_alloc_past _ _ _ (lt_of_heap (heap_alloc_here _ _ _ (by simp)))).trans (heap_alloc_here _ _ _ (by simp))))).trans ((heap_alloc_past _ _ _ (lt_of_heap (heap_alloc_here _ _ _ (by simp)))).trans (heap_alloc_here _ _ _ (by simp))))
 have B_b_1:w1.heap[w.heap.size+1]? = some (.cells #[.int .u64 b0,.int .u64 b1,.int .u64 b2,.int .u64 b3] 120):=keep' (w:=(((w.alloc (.cells #[.int .u64 a0,.int .u64 a1,.int .u64 a2,.int .u64 a3] 120)).alloc (.cells #[.int .u64 b0,.int .u64 b1,.int .u64 b2,.int .u64 b3] 120)).alloc (.cells #[.int .u64 0,.int .u64 0,.int .u64 0,.int .u64 0] 120))) hb ((heap_alloc_past _ _ _ (lt_of_heap (heap_alloc_here _ _ _ (by simp)))).trans (heap_alloc_here _ _ _ (by simp)))
 have B_r_1:w1.heap[w.heap.size+1+1]? = some (.cells #[.int .u64 0,.int .u64 0,.int .u64 0,.int .u64 0] 120):=keep' (w:=(((w.alloc (.cells #[.int .u64 a0,.int .u64 a1,.int .u64 a2,.int .u64 a3] 120)).alloc (.cells #[.int .u64 b0,.int .u64 b1,.int .u64 b2,.int .u64 b3] 120)).alloc (.cells #[.int .u64 0,.int .u64 0,.int .u64 0,.int .u64 0] 120))) hb (heap_alloc_here _ _ _ (by simp))
 clear hb
 have l_a_1:w.heap.size<w1.heap.size:=lt_of_heap B_a_1
 have l_b_1:w.heap.size+1<w1.heap.size:=lt_of_heap B_b_1
 have l_r_1:w.heap.size+1+1<w1.heap.size:=lt_of_heap B_r_1
 obtain ⟨c_a_1_0,c_a_1_1,c_a_1_2,c_a_1_3,f_a_1_0,f_a_1_1,f_a_1_2,f_a_1_3⟩:=four B_a_1
 obtain ⟨c_b_1_0,c_b_1_1,c_b_1_2,c_b_1_3,f_b_1_0,f_b_1_1,f_b_1_2,f_b_1_3⟩:=four B_b_1
 obtain ⟨c_r_1_0,c_r_1_1,c_r_1_2,c_r_1_3,f_r_1_0,f_r_1_1,f_r_1_2,f_r_1_3⟩:=four B_r_1
 go_wp2_with fail
 refine (shift_any ⟨p0,p1,p2,p3⟩ t0 _).mono ?_
 rintro e w2 ⟨rfl,hb⟩
 simp only [Num.v]
 have HB2:Hid (Below w.heap.size w w2):=chain (w:=(w1.alloc (.cells #[.int .u64 p0,.int .u64 p1,.int .u64 p2,.int .u64 p3] 120))) (Below.alloc HB1.out (HB1.out).size _) hb
 have z2:w1.heap.size+1≤w2.heap.size:=by have:=(show Below ((w1.alloc (.cells #[.int .u64 p0,.int .u64 p1,.int .u64 p2,.int .u64 p3] 120))).heap.size (w1.alloc (.cells #[.int .u64 p0,.int .u64 p1,.int .u64 p2,.int .u64 p3] 120)) w2 from hb).size;(try simp only [set4_size,World.size_alloc] at this);omega
 have B_a_2:w2.heap[w.heap.size]? = some (.cells #[.int .u64 a0,.int .u64 a1,.int .u64 a2,.int .u64 a3] 120):=keep' (w:=(w1.alloc (.cells #[.int .u64 p0,.int .u64 p1,.int .u64 p2,.int .u64 p3] 120))) hb ((heap_alloc_past _ _ _ (lt_of_heap B_a_1)).trans B_a_1)
 have B_b_2:w2.heap[w.heap.size+1]? = some (.cells #[.int .u64 b0,.int .u64 b1,.int .u64 b2,.int .u64 b3] 120):=keep' (w:=(w1.alloc (.cells #[.int .u64 p0,.int .u64 p1,.int .u64 p2,.int .u64 p3] 120))) hb ((heap_alloc_past _ _ _ (lt_of_heap B_b_1)).trans B_b_1)
 have B_r_2:w2.heap[w.heap.size+1+1]? = some (.cells #[.int .u64 0,.int .u64 0,.int .u64 0,.int .u64 0] 120):=keep' (w:=(w1.alloc (.cells #[.int .u64 p0,.int .u64 p1,.int .u64 p2,.int .u64 p3] 120))) hb ((heap_alloc_past _ _ _ (lt_of_heap B_r_1)).trans B_r_1)
 have B_row_2:w2.heap[w1.heap.size]? = some (.cells #[.int .u64 p0,.int .u64 p1,.int .u64 p2,.int .u64 p3] 120):=keep' (w:=(w1.alloc (.cells #[.int .u64 p0,.int .u64 p1,.int .u64 p2,.int .u64 p3] 120))) hb (heap_alloc_here _ _ _ (by simp))
 clear hb
 have l_a_2:w.heap.size<w2.heap.size:=lt_of_heap B_a_2
 have l_b_2:w.heap.size+1<w2.heap.size:=lt_of_heap B_b_2
 have l_r_2:w.heap.size+1+1<w2.heap.size:=lt_of_heap B_r_2
 have l_row_2:w1.heap.size<w2.heap.size:=lt_of_heap B_row_2
 obtain ⟨c_a_2_0,c_a_2_1,c_a_2_2,c_a_2_3,f_a_2_0,f_a_2_1,f_a_2_2,f_a_2_3⟩:=four B_a_2
 obtain ⟨c_b_2_0,c_b_2_1,c_b_2_2,c_b_2_3,f_b_2_0,f_b_2_1,f_b_2_2,f_b_2_3⟩:=four B_b_2
 obtain ⟨c_r_2_0,c_r_2_1,c_r_2_2,c_r_2_3,f_r_2_0,f_r_2_1,f_r_2_2,f_r_2_3⟩:=four B_r_2
 obtain ⟨c_row_2_0,c_row_2_1,c_row_2_2,c_row_2_3,f_row_2_0,f_row_2_1,f_row_2_2,f_row_2_3⟩:=four B_row_2
 have hh0:Num.ok ⟨p1,p2,p3,t0⟩:=⟨hp.2.1,hp.2.2.1,hp.2.2.2,ht0⟩
 have g0:p0+Num.val ⟨p1,p2,p3,t0⟩*18446744073709551616=Num.val ⟨p0,p1,p2,p3⟩+t0*RR:=by simp only [Num.val,RR];omega
 go_wp2_with fail
 refine (scale_any ⟨b0,b1,b2,b3⟩ a1 hb ha.2.1 _).mono ?_
 rintro e w3 ⟨⟨q0,q1,q2,q3⟩,t1,rfl,hq,ht1,eq,hb⟩
 simp only [Num.v]
 have HB3:Hid (Below w.heap.size w w3):=chain (w:=(w2.alloc (.cells #[.int .u64 p1,.int .u64 p2,.int .u64 p3,.int .u64 t0] 120))) (Below.alloc HB2.out (HB2.out).size _) hb
 have z3:w2.heap.size+1≤w3.heap.size:=by have:=(show Below ((w2.alloc (.cells #[.int .u64 p1,.int .u64 p2,.int .u64 p3,.int .u64 t0] 120))).heap.size (w2.alloc (.cells #[.int .u64 p1,.int .u64 p2,.int .u64 p3,.int .u64 t0] 120)) w3 from hb).size;(try simp only [set4_size,World.size_alloc] at this);omega
 have B_a_3:w3.heap[w.heap.size]? = some (.cells #[.int .u64 a0,.int .u64 a1,.int .u64 a2,.int .u64 a3] 120):=keep' (w:=(w2.alloc (.cells #[.int .u64 p1,.int .u64 p2,.int .u64 p3,.int .u64 t0] 120))) hb ((heap_alloc_past _ _ _ (lt_of_heap B_a_2)).trans B_a_2)
 have B_b_3:w3.heap[w.heap.size+1]? = some (.cells #[.int .u64 b0,.int .u64 b1,.int .u64 b2,.int .u64 b3] 120):=keep' (w:=(w2.alloc (.cells #[.int .u64 p1,.int .u64 p2,.int .u64 p3,.int .u64 t0] 120))) hb ((heap_alloc_past _ _ _ (lt_of_heap B_b_2)).trans B_b_2)
 have B_r_3:w3.heap[w.heap.size+1+1]? = some (.cells #[.int .u64 0,.int .u64 0,.int .u64 0,.int .u64 0] 120):=keep' (w:=(w2.alloc (.cells #[.int .u64 p1,.int .u64 p2,.int .u64 p3,.int .u64 t0] 120))) hb ((heap_alloc_past _ _ _ (lt_of_heap B_r_2)).trans B_r_2)
 have B_row_3:w3.heap[w1.heap.size]? = some (.cells #[.int .u64 p0,.int .u64 p1,.int .u64 p2,.int .u64 p3] 120):=keep' (w:=(w2.alloc (.cells #[.int .u64 p1,.int .u64 p2,.int .u64 p3,.int .u64 t0] 120))) hb ((heap_alloc_past _ _ _ (lt_of_heap B_row_2)).trans B_row_2)
 have B_hi_3:w3.heap[w2.heap.size]? = some (.cells #[.int .u64 p1,.int .u64 p2,.int .u64 p3,.int .u64 t0] 120):=keep' (w:=(w2.alloc (.cells #[.int .u64 p1,.int .u64 p2,.int .u64 p3,.int .u64 t0] 120))) hb (heap_alloc_here _ _ _ (by simp))
 clear hb
 have l_a_3:w.heap.size<w3.heap.size:=lt_of_heap B_a_3
 have l_b_3:w.heap.size+1<w3.heap.size:=lt_of_heap B_b_3
 have l_r_3:w.heap.size+1+1<w3.heap.size:=lt_of_heap B_r_3
 have l_row_3:w1.heap.size<w3.heap.size:=lt_of_heap B_row_3
 have l_hi_3:w2.heap.size<w3.heap.size:=lt_of_heap B_hi_3
 obtain ⟨c_a_3_0,c_a_3_1,c_a_3_2,c_a_3_3,f_a_3_0,f_a_3_1,f_a_3_2,f_a_3_3⟩:=four B_a_3
 obtain ⟨c_b_3_0,c_b_3_1,c_b_3_2,c_b_3_3,f_b_3_0,f_b_3_1,f_b_3_2,f_b_3_3⟩:=four B_b_3
 obtain ⟨c_r_3_0,c_r_3_1,c_r_3_2,c_r_3_3,f_r_3_0,f_r_3_1,f_r_3_2,f_r_3_3⟩:=four B_r_3
 obtain ⟨c_row_3_0,c_row_3_1,c_row_3_2,c_row_3_3,f_row_3_0,f_row_3_1,f_row_3_2,f_row_3_3⟩:=four B_row_3
 obtain ⟨c_hi_3_0,c_hi_3_1,c_hi_3_2,c_hi_3_3,f_hi_3_0,f_hi_3_1,f_hi_3_2,f_hi_3_3⟩:=four B_hi_3
 have n_r_row : ¬ w.heap.size+1+1=w1.heap.size:=by omega
 have n_row_r : ¬ w1.heap.size=w.heap.size+1+1:=by omega
 have n_r_hi : ¬ w.heap.size+1+1=w2.heap.size:=by omega
 have n_hi_r : ¬ w2.heap.size=w.heap.size+1+1:=by omega
 have n_row_hi : ¬ w1.heap.size=w2.heap.size:=by omega
 have n_hi_row : ¬ w2.heap.size=w1.heap.size:=by omega
 have n_b_row : ¬ w.heap.size+1=w1.heap.size:=by omega
 have n_row_b : ¬ w1.heap.size=w.heap.size+1:=by omega
 have n_b_hi : ¬ w.heap.size+1=w2.heap.size:=by omega
 have n_hi_b : ¬ w2.heap.size=w.heap.size+1:=by omega
 have n_a_row : ¬ w.heap.size=w1.heap.size:=by omega
 have n_row_a : ¬ w1.heap.size=w.heap.size:=by omega
 have n_a_hi : ¬ w.heap.size=w2.heap.size:=by omega
 have n_hi_a : ¬ w2.heap.size=w.heap.size:=by omega
 go_wp2_with fail
 refine (nextRow_any ⟨p1,p2,p3,t0⟩ ⟨q0,q1,q2,q3⟩ t1 hh0 hq ht1.1 (row_lt _ _ _ _ _ (Num.bound hh0).2 (Num.bound hb).1 (Num.bound hb).2 ha.2.1 eq) _).mono ?_
 rintro e w4 ⟨l1,⟨u0,u1,u2,u3⟩,rfl,hl1,hu,eu,hb⟩
 simp only [Num.v]
 have HB4:Hid (Below w.heap.size w w4):=chain (w:=(set4 w3 (w1.heap.size) (.int .u64 q0) (.int .u64 q1) (.int .u64 q2) (.int .u64 q3))) (below_set4 HB3.out (by omega) _ _ _ _) hb
 have z4:w3.heap.size+0≤w4.heap.size:=by have:=(show Below ((set4 w3 (w1.heap.size) (.int .u64 q0) (.int .u64 q1) (.int .u64 q2) (.int .u64 q3))).heap.size (set4 w3 (w1.heap.size) (.int .u64 q0) (.int .u64 q1) (.int .u64 q2) (.int .u64 q3)) w4 from hb).size;(try simp only [set4_size,World.size_alloc] at this);omega
 have B_a_4:w4.heap[w.heap.size]? = some (.cells #[.int .u64 a0,.int .u64 a1,.int .u64 a2,.int .u64 a3] 120):=keep' (w:=(set4 w3 (w1.heap.size) (.int .u64 q0) (.int .u64 q1) (.int .u64 q2) (.int .u64 q3))) hb ((set4_past _ _ _ _ _ _ _ (by omega)).trans B_a_3)
 have B_b_4:w4.heap[w.heap.size+1]? = some (.cells #[.int .u64 b0,.int .u64 b1,.int .u64 b2,.int .u64 b3] 120):=keep' (w:=(set4 w3 (w1.heap.size) (.int .u64 q0) (.int .u64 q1) (.int .u64 q2) (.int .u64 q3))) hb ((set4_past _ _ _ _ _ _ _ (by omega)).trans B_b_3)
 have B_r_4:w4.heap[w.heap.size+1+1]? = some (.cells #[.int .u64 0,.int .u64 0,.int .u64 0,.int .u64 0] 120):=keep' (w:=(set4 w3 (w1.heap.size) (.int .u64 q0) (.int .u64 q1) (.int .u64 q2) (.int .u64 q3))) hb ((set4_past _ _ _ _ _ _ _ (by omega)).trans B_r_3)
 have B_row_4:w4.heap[w1.heap.size]? = some (.cells #[.int .u64 q0,.int .u64 q1,.int .u64 q2,.int .u64 q3] 120):=keep' (w:=(set4 w3 (w1.heap.size) (.int .u64 q0) (.int .u64 q1) (.int .u64 q2) (.int .u64 q3))) hb (set4_here _ _ _ _ B_row_3)
 have B_hi_4:w4.heap[w2.heap.size]? = some (.cells #[.int .u64 p1,.int .u64 p2,.int .u64 p3,.int .u64 t0] 120):=keep' (w:=(set4 w3 (w1.heap.size) (.int .u64 q0) (.int .u64 q1) (.int .u64 q2) (.int .u64 q3))) hb ((set4_past _ _ _ _ _ _ _ (by omega)).trans B_hi_3)
 clear hb
 have l_a_4:w.heap.size<w4.heap.size:=lt_of_heap B_a_4
 have l_b_4:w.heap.size+1<w4.heap.size:=lt_of_heap B_b_4
 have l_r_4:w.heap.size+1+1<w4.heap.size:=lt_of_heap B_r_4
 have l_row_4:w1.heap.size<w4.heap.size:=lt_of_heap B_row_4
 have l_hi_4:w2.heap.size<w4.heap.size:=lt_of_heap B_hi_4
 obtain ⟨c_a_4_0,c_a_4_1,c_a_4_2,c_a_4_3,f_a_4_0,f_a_4_1,f_a_4_2,f_a_4_3⟩:=four B_a_4
 obtain ⟨c_b_4_0,c_b_4_1,c_b_4_2,c_b_4_3,f_b_4_0,f_b_4_1,f_b_4_2,f_b_4_3⟩:=four B_b_4
 obtain ⟨c_r_4_0,c_r_4_1,c_r_4_2,c_r_4_3,f_r_4_0,f_r_4_1,f_r_4_2,f_r_4_3⟩:=four B_r_4
 obtain ⟨c_row_4_0,c_row_4_1,c_row_4_2,c_row_4_3,f_row_4_0,f_row_4_1,f_row_4_2,f_row_4_3⟩:=four B_row_4
 obtain ⟨c_hi_4_0,c_hi_4_1,c_hi_4_2,c_hi_4_3,f_hi_4_0,f_hi_4_1,f_hi_4_2,f_hi_4_3⟩:=four B_hi_4
 go_wp2_with fail
 refine (scale_any ⟨b0,b1,b2,b3⟩ a2 hb ha.2.2.1 _).mono ?_
 rintro e w5 ⟨⟨x0,x1,x2,x3⟩,t2,rfl,hx,ht2,ex,hb⟩
 simp only [Num.v]
 have HB5:Hid (Below w.heap.size w w5):=chain (w:=(set4 w4 (w2.heap.size) (.int .u64 u0) (.int .u64 u1) (.int .u64 u2) (.int .u64 u3))) (below_set4 HB4.out (by omega) _ _ _ _) hb
 have z5:w4.heap.size+0≤w5.heap.size:=by have:=(show Below ((set4 w4 (w2.heap.size) (.int .u64 u0) (.int .u64 u1) (.int .u64 u2) (.int .u64 u3))).heap.size (set4 w4 (w2.heap.size) (.int .u64 u0) (.int .u64 u1) (.int .u64 u2) (.int .u64 u3)) w5 from hb).size;(try simp only [set4_size,World.size_alloc] at this);omega
 have B_a_5:w5.heap[w.heap.size]? = some (.cells #[.int .u64 a0,.int .u64 a1,.int .u64 a2,.int .u64 a3] 120):=keep' (w:=(set4 w4 (w2.heap.size) (.int .u64 u0) (.int .u64 u1) (.int .u64 u2) (.int .u64 u3))) hb ((set4_past _ _ _ _ _ _ _ (by omega)).trans B_a_4)
 have B_b_5:w5.heap[w.heap.size+1]? = some (.cells #[.int .u64 b0,.int .u64 b1,.int .u64 b2,.int .u64 b3] 120):=keep' (w:=(set4 w4 (w2.heap.size) (.int .u64 u0) (.int .u64 u1) (.int .u64 u2) (.int .u64 u3))) hb ((set4_past _ _ _ _ _ _ _ (by omega)).trans B_b_4)
 have B_r_5:w5.heap[w.heap.size+1+1]? = some (.cells #[.int .u64 0,.int .u64 0,.int .u64 0,.int .u64 0] 120):=keep' (w:=(set4 w4 (w2.heap.size) (.int .u64 u0) (.int .u64 u1) (.int .u64 u2) (.int .u64 u3))) hb ((set4_past _ _ _ _ _ _ _ (by omega)).trans B_r_4)
 have B_row_5:w5.heap[w1.heap.size]? = some (.cells #[.int .u64 q0,.int .u64 q1,.int .u64 q2,.int .u64 q3] 120):=keep' (w:=(set4 w4 (w2.heap.size) (.int .u64 u0) (.int .u64 u1) (.int .u64 u2) (.int .u64 u3))) hb ((set4_past _ _ _ _ _ _ _ (by omega)).trans B_row_4)
 have B_hi_5:w5.heap[w2.heap.size]? = some (.cells #[.int .u64 u0,.int .u64 u1,.int .u64 u2,.int .u64 u3] 120):=keep' (w:=(set4 w4 (w2.heap.size) (.int .u64 u0) (.int .u64 u1) (.int .u64 u2) (.int .u64 u3))) hb (set4_here _ _ _ _ B_hi_4)
 clear hb
 have l_a_5:w.heap.size<w5.heap.size:=lt_of_heap B_a_5
 have l_b_5:w.heap.size+1<w5.heap.size:=lt_of_heap B_b_5
 have l_r_5:w.heap.size+1+1<w5.heap.size:=lt_of_heap B_r_5
 have l_row_5:w1.heap.size<w5.heap.size:=lt_of_heap B_row_5
 have l_hi_5:w2.heap.size<w5.heap.size:=lt_of_heap B_hi_5
 obtain ⟨c_a_5_0,c_a_5_1,c_a_5_2,c_a_5_3,f_a_5_0,f_a_5_1,f_a_5_2,f_a_5_3⟩:=four B_a_5
 obtain ⟨c_b_5_0,c_b_5_1,c_b_5_2,c_b_5_3,f_b_5_0,f_b_5_1,f_b_5_2,f_b_5_3⟩:=four B_b_5
 obtain ⟨c_r_5_0,c_r_5_1,c_r_5_2,c_r_5_3,f_r_5_0,f_r_5_1,f_r_5_2,f_r_5_3⟩:=four B_r_5
 obtain ⟨c_row_5_0,c_row_5_1,c_row_5_2,c_row_5_3,f_row_5_0,f_row_5_1,f_row_5_2,f_row_5_3⟩:=four B_row_5
 obtain ⟨c_hi_5_0,c_hi_5_1,c_hi_5_2,c_hi_5_3,f_hi_5_0,f_hi_5_1,f_hi_5_2,f_hi_5_3⟩:=four B_hi_5
 go_wp2_with fail
 refine (nextRow_any ⟨u0,u1,u2,u3⟩ ⟨x0,x1,x2,x3⟩ t2 hu hx ht2.1 (row_lt _ _ _ _ _ (Num.bound hu).2 (Num.bound hb).1 (Num.bound hb).2 ha.2.2.1 ex) _).mono ?_
 rintro e w6 ⟨l2,⟨v0,v1,v2,v3⟩,rfl,hl2,hv,ev,hb⟩
 simp only [Num.v]
 have HB6:Hid (Below w.heap.size w w6):=chain (w:=(set4 w5 (w1.heap.size) (.int .u64 x0) (.int .u64 x1) (.int .u64 x2) (.int .u64 x3))) (below_set4 HB5.out (by omega) _ _ _ _) hb
 have z6:w5.heap.size+0≤w6.heap.size:=by have:=(show Below ((set4 w5 (w1.heap.size) (.int .u64 x0) (.int .u64 x1) (.int .u64 x2) (.int .u64 x3))).heap.size (set4 w5 (w1.heap.size) (.int .u64 x0) (.int .u64 x1) (.int .u64 x2) (.int .u64 x3)) w6 from hb).size;(try simp only [set4_size,World.size_alloc] at this);omega
 have B_a_6:w6.heap[w.heap.size]? = some (.cells #[.int .u64 a0,.int .u64 a1,.int .u64 a2,.int .u64 a3] 120):=keep' (w:=(set4 w5 (w1.heap.size) (.int .u64 x0) (.int .u64 x1) (.int .u64 x2) (.int .u64 x3))) hb ((set4_past _ _ _ _ _ _ _ (by omega)).trans B_a_5)
 have B_b_6:w6.heap[w.heap.size+1]? = some (.cells #[.int .u64 b0,.int .u64 b1,.int .u64 b2,.int .u64 b3] 120):=keep' (w:=(set4 w5 (w1.heap.size) (.int .u64 x0) (.int .u64 x1) (.int .u64 x2) (.int .u64 x3))) hb ((set4_past _ _ _ _ _ _ _ (by omega)).trans B_b_5)
 have B_r_6:w6.heap[w.heap.size+1+1]? = some (.cells #[.int .u64 0,.int .u64 0,.int .u64 0,.int .u64 0] 120):=keep' (w:=(set4 w5 (w1.heap.size) (.int .u64 x0) (.int .u64 x1) (.int .u64 x2) (.int .u64 x3))) hb ((set4_past _ _ _ _ _ _ _ (by omega)).trans B_r_5)
 have B_row_6:w6.heap[w1.heap.size]? = some (.cells #[.int .u64 x0,.int .u64 x1,.int .u64 x2,.int .u64 x3] 120):=keep' (w:=(set4 w5 (w1.heap.size) (.int .u64 x0) (.int .u64 x1) (.int .u64 x2) (.int .u64 x3))) hb (set4_here _ _ _ _ B_row_5)
 have B_hi_6:w6.heap[w2.heap.size]? = some (.cells #[.int .u64 u0,.int .u64 u1,.int .u64 u2,.int .u64 u3] 120):=keep' (w:=(set4 w5 (w1.heap.size) (.int .u64 x0) (.int .u64 x1) (.int .u64 x2) (.int .u64 x3))) hb ((set4_past _ _ _ _ _ _ _ (by omega)).trans B_hi_5)
 clear hb
 have l_a_6:w.heap.size<w6.heap.size:=lt_of_heap B_a_6
 have l_b_6:w.heap.size+1<w6.heap.size:=lt_of_heap B_b_6
 have l_r_6:w.heap.size+1+1<w6.heap.size:=lt_of_heap B_r_6
 have l_row_6:w1.heap.size<w6.heap.size:=lt_of_heap B_row_6
 have l_hi_6:w2.heap.size<w6.heap.size:=lt_of_heap B_hi_6
 obtain ⟨c_a_6_0,c_a_6_1,c_a_6_2,c_a_6_3,f_a_6_0,f_a_6_1,f_a_6_2,f_a_6_3⟩:=four B_a_6
 obtain ⟨c_b_6_0,c_b_6_1,c_b_6_2,c_b_6_3,f_b_6_0,f_b_6_1,f_b_6_2,f_b_6_3⟩:=four B_b_6
 obtain ⟨c_r_6_0,c_r_6_1,c_r_6_2,c_r_6_3,f_r_6_0,f_r_6_1,f_r_6_2,f_r_6_3⟩:=four B_r_6
 obtain ⟨c_row_6_0,c_row_6_1,c_row_6_2,c_row_6_3,f_row_6_0,f_row_6_1,f_row_6_2,f_row_6_3⟩:=four B_row_6
 obtain ⟨c_hi_6_0,c_hi_6_1,c_hi_6_2,c_hi_6_3,f_hi_6_0,f_hi_6_1,f_hi_6_2,f_hi_6_3⟩:=four B_hi_6
 go_wp2_with fail
 refine (scale_any ⟨b0,b1,b2,b3⟩ a3 hb ha.2.2.2 _).mono ?_
 rintro e w7 ⟨⟨y0,y1,y2,y3⟩,t3,rfl,hy,ht3,ey,hb⟩
 simp only [Num.v]
 have HB7:Hid (Below w.heap.size w w7):=chain (w:=(set4 w6 (w2.heap.size) (.int .u64 v0) (.int .u64 v1) (.int .u64 v2) (.int .u64 v3))) (below_set4 HB6.out (by omega) _ _ _ _) hb
 have z7:w6.heap.size+0≤w7.heap.size:=by have:=(show Below ((set4 w6 (w2.heap.size) (.int .u64 v0) (.int .u64 v1) (.int .u64 v2) (.int .u64 v3))).heap.size (set4 w6 (w2.heap.size) (.int .u64 v0) (.int .u64 v1) (.int .u64 v2) (.int .u64 v3)) w7 from hb).size;(try simp only [set4_size,World.size_alloc] at this);omega
 have B_r_7:w7.heap[w.heap.size+1+1]? = some (.cells #[.int .u64 0,.int .u64 0,.int .u64 0,.int .u64 0] 120):=keep' (w:=(set4 w6 (w2.heap.size) (.int .u64 v0) (.int .u64 v1) (.int .u64 v2) (.int .u64 v3))) hb ((set4_past _ _ _ _ _ _ _ (by omega)).trans B_r_6)
 have B_row_7:w7.heap[w1.heap.size]? = some (.cells #[.int .u64 x0,.int .u64 x1,.int .u64 x2,.int .u64 x3] 120):=keep' (w:=(set4 w6 (w2.heap.size) (.int .u64 v0) (.int .u64 v1) (.int .u64 v2) (.int .u64 v3))) hb ((set4_past _ _ _ _ _ _ _ (by omega)).trans B_row_6)
 have B_hi_7:w7.heap[w2.heap.size]? = some (.cells #[.int .u64 v0,.int .u64 v1,.int .u64 v2,.int .u64 v3] 120):=keep' (w:=(set4 w6 (w2.heap.size) (.int .u64 v0) (.int .u64 v1) (.int .u64 v2) (.int .u64 v3))) hb (set4_here _ _ _ _ B_hi_6)
 clear hb
 have l_r_7:w.heap.size+1+1<w7.heap.size:=lt_of_heap B_r_7
 have l_row_7:w1.heap.size<w7.heap.size:=lt_of_heap B_row_7
 have l_hi_7:w2.heap.size<w7.heap.size:=lt_of_heap B_hi_7
 obtain ⟨c_r_7_0,c_r_7_1,c_r_7_2,c_r_7_3,f_r_7_0,f_r_7_1,f_r_7_2,f_r_7_3⟩:=four B_r_7
 obtain ⟨c_row_7_0,c_row_7_1,c_row_7_2,c_row_7_3,f_row_7_0,f_row_7_1,f_row_7_2,f_row_7_3⟩:=four B_row_7
 obtain ⟨c_hi_7_0,c_hi_7_1,c_hi_7_2,c_hi_7_3,f_hi_7_0,f_hi_7_1,f_hi_7_2,f_hi_7_3⟩:=four B_hi_7
 go_wp2_with fail
 refine (nextRow_any ⟨v0,v1,v2,v3⟩ ⟨y0,y1,y2,y3⟩ t3 hv hy ht3.1 (row_lt _ _ _ _ _ (Num.bound hv).2 (Num.bound hb).1 (Num.bound hb).2 ha.2.2.2 ey) _).mono ?_
 rintro e w8 ⟨l3,⟨m0,m1,m2,m3⟩,rfl,hl3,hm,em,hb⟩
 simp only [Num.v]
 have HB8:Hid (Below w.heap.size w w8):=chain (w:=(set4 w7 (w1.heap.size) (.int .u64 y0) (.int .u64 y1) (.int .u64 y2) (.int .u64 y3))) (below_set4 HB7.out (by omega) _ _ _ _) hb
 have z8:w7.heap.size+0≤w8.heap.size:=by have:=(show Below ((set4 w7 (w1.heap.size) (.int .u64 y0) (.int .u64 y1) (.int .u64 y2) (.int .u64 y3))).heap.size (set4 w7 (w1.heap.size) (.int .u64 y0) (.int .u64 y1) (.int .u64 y2) (.int .u64 y3)) w8 from hb).size;(try simp only [set4_size,World.size_alloc] at this);omega
 have B_r_8:w8.heap[w.heap.size+1+1]? = some (.cells #[.int .u64 0,.int .u64 0,.int .u64 0,.int .u64 0] 120):=keep' (w:=(set4 w7 (w1.heap.size) (.int .u64 y0) (.int .u64 y1) (.int .u64 y2) (.int .u64 y3))) hb ((set4_past _ _ _ _ _ _ _ (by omega)).trans B_r_7)
 have B_row_8:w8.heap[w1.heap.size]? = some (.cells #[.int .u64 y0,.int .u64 y1,.int .u64 y2,.int .u64 y3] 120):=keep' (w:=(set4 w7 (w1.heap.size) (.int .u64 y0) (.int .u64 y1) (.int .u64 y2) (.int .u64 y3))) hb (set4_here _ _ _ _ B_row_7)
 have B_hi_8:w8.heap[w2.heap.size]? = some (.cells #[.int .u64 v0,.int .u64 v1,.int .u64 v2,.int .u64 v3] 120):=keep' (w:=(set4 w7 (w1.heap.size) (.int .u64 y0) (.int .u64 y1) (.int .u64 y2) (.int .u64 y3))) hb ((set4_past _ _ _ _ _ _ _ (by omega)).trans B_hi_7)
 clear hb
 have l_r_8:w.heap.size+1+1<w8.heap.size:=lt_of_heap B_r_8
 have l_row_8:w1.heap.size<w8.heap.size:=lt_of_heap B_row_8
 have l_hi_8:w2.heap.size<w8.heap.size:=lt_of_heap B_hi_8
 obtain ⟨c_r_8_0,c_r_8_1,c_r_8_2,c_r_8_3,f_r_8_0,f_r_8_1,f_r_8_2,f_r_8_3⟩:=four B_r_8
 obtain ⟨c_row_8_0,c_row_8_1,c_row_8_2,c_row_8_3,f_row_8_0,f_row_8_1,f_row_8_2,f_row_8_3⟩:=four B_row_8
 obtain ⟨c_hi_8_0,c_hi_8_1,c_hi_8_2,c_hi_8_3,f_hi_8_0,f_hi_8_1,f_hi_8_2,f_hi_8_3⟩:=four B_hi_8
 go_wp2_with fail
 refine (scale_any ⟨m0,m1,m2,m3⟩ 38 hm ⟨by decide,by decide⟩ _).mono ?_
 rintro e w9 ⟨⟨k0,k1,k2,k3⟩,t4,rfl,hz,ht4,ez,hb⟩
 simp only [Num.v]
 have HB9:Hid (Below w.heap.size w w9):=chain (w:=(set4 w8 (w2.heap.size) (.int .u64 m0) (.int .u64 m1) (.int .u64 m2) (.int .u64 m3))) (below_set4 HB8.out (by omega) _ _ _ _) hb
 have z9:w8.heap.size+0≤w9.heap.size:=by have:=(show Below ((set4 w8 (w2.heap.size) (.int .u64 m0) (.int .u64 m1) (.int .u64 m2) (.int .u64 m3))).heap.size (set4 w8 (w2.heap.size) (.int .u64 m0) (.int .u64 m1) (.int .u64 m2) (.int .u64 m3)) w9 from hb).size;(try simp only [set4_size,World.size_alloc] at this);omega
 have B_r_9:w9.heap[w.heap.size+1+1]? = some (.cells #[.int .u64 0,.int .u64 0,.int .u64 0,.int .u64 0] 120):=keep' (w:=(set4 w8 (w2.heap.size) (.int .u64 m0) (.int .u64 m1) (.int .u64 m2) (.int .u64 m3))) hb ((set4_past _ _ _ _ _ _ _ (by omega)).trans B_r_8)
 have B_row_9:w9.heap[w1.heap.size]? = some (.cells #[.int .u64 y0,.int .u64 y1,.int .u64 y2,.int .u64 y3] 120):=keep' (w:=(set4 w8 (w2.heap.size) (.int .u64 m0) (.int .u64 m1) (.int .u64 m2) (.int .u64 m3))) hb ((set4_past _ _ _ _ _ _ _ (by omega)).trans B_row_8)
 clear hb
 have l_r_9:w.heap.size+1+1<w9.heap.size:=lt_of_heap B_r_9
 have l_row_9:w1.heap.size<w9.heap.size:=lt_of_heap B_row_9
 obtain ⟨c_r_9_0,c_r_9_1,c_r_9_2,c_r_9_3,f_r_9_0,f_r_9_1,f_r_9_2,f_r_9_3⟩:=four B_r_9
 obtain ⟨c_row_9_0,c_row_9_1,c_row_9_2,c_row_9_3,f_row_9_0,f_row_9_1,f_row_9_2,f_row_9_3⟩:=four B_row_9
 go_wp2_with fail
 refine (plus_any ⟨p0,l1,l2,l3⟩ ⟨k0,k1,k2,k3⟩ ⟨hp.1,hl1,hl2,hl3⟩ hz _).mono ?_
 rintro e w10 ⟨⟨d0,d1,d2,d3⟩,c,rfl,hd,c0,c1,ed,hb⟩
 simp only [Num.v]
 have HB10:Hid (Below w.heap.size w w10):=chain (w:=(set4 w9 (w1.heap.size) (.int .u64 k0) (.int .u64 k1) (.int .u64 k2) (.int .u64 k3))) (below_set4 HB9.out (by omega) _ _ _ _) hb
 have z10:w9.heap.size+0≤w10.heap.size:=by have:=(show Below ((set4 w9 (w1.heap.size) (.int .u64 k0) (.int .u64 k1) (.int .u64 k2) (.int .u64 k3))).heap.size (set4 w9 (w1.heap.size) (.int .u64 k0) (.int .u64 k1) (.int .u64 k2) (.int .u64 k3)) w10 from hb).size;(try simp only [set4_size,World.size_alloc] at this);omega
 have B_r_10:w10.heap[w.heap.size+1+1]? = some (.cells #[.int .u64 0,.int .u64 0,.int .u64 0,.int .u64 0] 120):=keep' (w:=(set4 w9 (w1.heap.size) (.int .u64 k0) (.int .u64 k1) (.int .u64 k2) (.int .u64 k3))) hb ((set4_past _ _ _ _ _ _ _ (by omega)).trans B_r_9)
 clear hb
 have l_r_10:w.heap.size+1+1<w10.heap.size:=lt_of_heap B_r_10
 obtain ⟨c_r_10_0,c_r_10_1,c_r_10_2,c_r_10_3,f_r_10_0,f_r_10_1,f_r_10_2,f_r_10_3⟩:=four B_r_10
 have ht5:0≤t4+c∧t4+c≤38:=by have h1:=Num.bound hm;have h2:=Num.bound hz;have h3:=ht4.1;simp only [RR] at *;omega
 have hw1:IntKind.u64.wrap (t4+c)=t4+c:=by rw [IntKind.wrap_u64];omega
 go_wp2_with fail
 refine (fold_any ⟨d0,d1,d2,d3⟩ (t4+c) hd ht5 _).mono ?_
 rintro e w11 ⟨⟨s0,s1,s2,s3⟩,rfl,hs,es,hb⟩
 simp only [Num.v]
 have HB11:Hid (Below w.heap.size w w11):=chain (w:=(w10.alloc (.cells #[.int .u64 d0,.int .u64 d1,.int .u64 d2,.int .u64 d3] 120))) (Below.alloc HB10.out (HB10.out).size _) hb
 have z11:w10.heap.size+1≤w11.heap.size:=by have:=(show Below ((w10.alloc (.cells #[.int .u64 d0,.int .u64 d1,.int .u64 d2,.int .u64 d3] 120))).heap.size (w10.alloc (.cells #[.int .u64 d0,.int .u64 d1,.int .u64 d2,.int .u64 d3] 120)) w11 from hb).size;(try simp only [set4_size,World.size_alloc] at this);omega
 have B_r_11:w11.heap[w.heap.size+1+1]? = some (.cells #[.int .u64 0,.int .u64 0,.int .u64 0,.int .u64 0] 120):=keep' (w:=(w10.alloc (.cells #[.int .u64 d0,.int .u64 d1,.int .u64 d2,.int .u64 d3] 120))) hb ((heap_alloc_past _ _ _ (lt_of_heap B_r_10)).trans B_r_10)
 clear hb
 have l_r_11:w.heap.size+1+1<w11.heap.size:=lt_of_heap B_r_11
 obtain ⟨c_r_11_0,c_r_11_1,c_r_11_2,c_r_11_3,f_r_11_0,f_r_11_1,f_r_11_2,f_r_11_3⟩:=four B_r_11
 go_wp2
 refine bodyPost_ret (v := .agg #[.int .u64 s0,.int .u64 s1,.int .u64 s2,.int .u64 s3]) (results_mid Tryz.results111 _ _ (w.heap.size+1+1) 0 [.int .u64 s0,.int .u64 s1,.int .u64 s2,.int .u64 s3] _ rfl (range4 (w:=(set4 w11 (w.heap.size+1+1) (.int .u64 s0) (.int .u64 s1) (.int .u64 s2) (.int .u64 s3))) (t:=120) (set4_here _ _ _ _ B_r_11)) Tryz.underlying120 rfl (by kernel_rfl)) rfl ⟨⟨s0,s1,s2,s3⟩,rfl,hs,?_,(below_set4 HB11.out (by omega) _ _ _ _)⟩
 exact mul_num _ _ a0 a1 a2 a3 p0 l1 l2 l3 _ _ _ _ _ _ _ _ t0 t1 t2 t3 _ t4 _ c _ rfl ep g0 eq eu ex ev ey em ez ed es
end Go.Proofs.YtlihbglpdkeppaaGreatDoor
