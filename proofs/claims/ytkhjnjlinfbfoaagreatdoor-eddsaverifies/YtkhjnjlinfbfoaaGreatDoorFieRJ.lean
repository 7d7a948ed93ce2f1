/- The reference's Power. -/
import Derived.Test.YtkhjnjlinfbfoaaGreatDoorFieRI
import Derived.Test.YtkhjnjlinfbfoaaGreatDoorFieS
set_option linter.unusedSimpArgs false
set_option linter.unusedVariables false
namespace Go.Proofs.YtkhjnjlinfbfoaaGreatDoor
open Go Go.RowKit Go.Lib
set_option maxRecDepth 100000
theorem bit_at (e m:Nat):bits .and .u64 (lw e (m/64)/2 ^ (m % 64)) 1=((e/2 ^ m % 2:Nat):Int):=by
 have h2:lw e (m/64)/2 ^ (m % 64)=((wd e (m/64)/2 ^ (m % 64):Nat):Int):=by rw [lw_wd,Int.natCast_ediv,Int.natCast_pow];rfl
 have hlt:wd e (m/64)/2 ^ (m % 64)<18446744073709551616:=Nat.lt_of_le_of_lt (Nat.div_le_self _ _) (wd_lt _ _)
 have h:=bits_and_u64_nat (wd e (m/64)/2 ^ (m % 64)) 1 hlt (by decide)
 rw [Nat.and_one_is_mod] at h
 rw [h2]
 refine Eq.trans h ?_
 congr 1
 unfold wd
 have e1:(BB:Nat) ^ (m/64)=2 ^ (64*(m/64)):=by rw [Nat.pow_mul]
 have hr:m % 64<64:=Nat.mod_lt _ (by decide)
 have e2:(BB:Nat)=2 ^ (m % 64)*(2*2 ^ (63 - m % 64)):=by
  rw [←Nat.pow_succ',←Nat.pow_add,show m % 64+(63 - m % 64+1)=64 by omega]
 have e3:e/2 ^ m=e/2 ^ (64*(m/64))/2 ^ (m % 64):=by
  rw [Nat.div_div_eq_div_mul,←Nat.pow_add,show 64*(m/64)+m % 64=m by omega]
 rw [e1,e3]
 generalize e/2 ^ (64*(m/64))=y
 rw [e2,Nat.mod_mul_right_div_self,Nat.mod_mul_right_mod]
theorem pow_bit (a b m x y z:Nat) (hx:x % pp=a ^ (b/2 ^ (m+1)) % pp) (hy:y % pp=x*x % pp) (hz:z % pp=y*a % pp) (hb:b/2 ^ m % 2=1):z % pp=a ^ (b/2 ^ m) % pp:=by
 have e:b/2 ^ m=b/2 ^ (m+1)+b/2 ^ (m+1)+1:=by
  rw [Nat.pow_succ,←Nat.div_div_eq_div_mul];omega
 have e2:y % pp=a ^ (b/2 ^ (m+1)+b/2 ^ (m+1)) % pp:=by rw [hy,Nat.mul_mod x x,hx,←Nat.mul_mod,←Nat.pow_add]
 rw [e]
 exact pow_mul a _ 1 _ y a z rfl e2 (powOne a) hz
theorem pow_nobit (a b m x y:Nat) (hx:x % pp=a ^ (b/2 ^ (m+1)) % pp) (hy:y % pp=x*x % pp) (hb:b/2 ^ m % 2=0):y % pp=a ^ (b/2 ^ m) % pp:=by
 have e:b/2 ^ m=b/2 ^ (m+1)+b/2 ^ (m+1):=by
  rw [Nat.pow_succ,←Nat.div_div_eq_div_mul];omega
 rw [e,hy,Nat.mul_mod x x,hx,←Nat.mul_mod,←Nat.pow_add]
theorem lit1n:(#[.int .u64 1,.int .u64 0,.int .u64 0,.int .u64 0]:Array Value)=(nl 1).toArray:=by kernel_rfl
def pX (a b:Nat):Nat→Nat
 | 0=>1
 | j+1=>if b/2 ^ (255 - j) % 2=1 then fX (tFold (fX (tFold (pX a b j*pX a b j))*a)) else fX (tFold (pX a b j*pX a b j))
theorem pX_bit {a b m x y z:Nat} (hm:m<256) (hx:x=pX a b (256 - (m+1))) (hy:y=fX (tFold (x*x))) (hz:z=fX (tFold (y*a))) (hb:b/2 ^ m % 2=1):z=pX a b (256 - m):=by
 have e:256 - m=(256 - (m+1))+1:=by omega
 rw [e,pX,show 255 - (256 - (m+1))=m by omega,if_pos hb,←hx,←hy,hz]
theorem pX_nobit {a b m x y:Nat} (hm:m<256) (hx:x=pX a b (256 - (m+1))) (hy:y=fX (tFold (x*x))) (hb:b/2 ^ m % 2=0):y=pX a b (256 - m):=by
 have e:256 - m=(256 - (m+1))+1:=by omega
 rw [e,pX,show 255 - (256 - (m+1))=m by omega,if_neg (by omega),←hx,hy]
structure PW (w:World) (a b g:Nat) (wr:World) (x:Nat):Prop where
 ss:SS w [(w.heap.size,nl a,40),(w.heap.size+1,nl b,40)] (w.heap.size+1+1) 4 wr
 out:wr.heap[g]? = some (.cells (nl x).toArray 40 (0,0))
 hg:w.heap.size+1+1<g
theorem PW.call {w wr w':World} {a b g x:Nat} (h:PW w a b g wr x) (hb:Below wr.heap.size wr w'):PW w a b g w' x:=⟨h.ss.call hb,keep' hb h.out,h.hg⟩
theorem PW.put {w wr:World} {a b g x:Nat} (h:PW w a b g wr x) (y:Nat):PW w a b g (set4 wr g (.int .u64 (lw y 0)) (.int .u64 (lw y 1)) (.int .u64 (lw y 2)) (.int .u64 (lw y 3))) y:=by
 have hg:=h.hg
 exact ⟨⟨below_set4 h.ss.below (by omega) _ _ _ _,fun i q L t hm=>(set4_past _ _ _ _ _ _ _ (by
  have:=ne2 (r:=g) (x:=(nl a,40)) (x':=(nl b,40)) (show ¬ w.heap.size=g by omega) (show ¬ w.heap.size+1=g by omega) _ (List.mem_of_getElem? hm)
  exact this)).trans (h.ss.holds i q L t hm),World.there_setCells h.ss.there g 0 (nl y)⟩,set4_here _ _ _ _ h.out,h.hg⟩
set_option maxRecDepth 100000 in
set_option maxHeartbeats 4000000 in
theorem rpowerX_nat (a b:Nat) (ha:a<RN) (hb:b<RN) (w:World) :
  Calls Tryz.prog 84 #[.agg (nl a).toArray,.agg (nl b).toArray] w fun e w' => ∃ s,s<RN∧e = .returned (.agg (nl s).toArray)∧(s % pp=a ^ b % pp∧s=pX a b 256)∧Below w.heap.size w w':=by
 have HS0:Hid (SS w [(w.heap.size,nl a,40),(w.heap.size+1,nl b,40)] (w.heap.size+1+1) 4 _):=SS.duo w a b
 have tm:=rtimesX_nat
 have sm:=rSmall_any 1
 rw [lit1n] at sm
 go_enter Tryz.func84,Tryz.ntmps84
 go_wp2_with fail
 refine (sm _).mono ?_
 rintro e w1 ⟨rfl,hb1⟩
 have S1:=HS0.out.call hb1
 obtain ⟨g,hg⟩ : ∃ g,g=w1.heap.size:=⟨_,rfl⟩
 have hgR:w.heap.size+1+1<g:=by rw [hg];exact S1.rlt
 have HP0:Hid (PW w a b g (w1.alloc (.cells (nl 1).toArray 40)) 1):=⟨S1.alloc _,heap_alloc_here _ _ _ hg,hgR⟩
 clear hb1 S1 HS0
 go_wp2
 rw [←hg]
 clear hg
 go_loopw [6] (fun i wr => ∃ k x:Nat,k≤256∧i = .int .i64 ((k:Int) - 1)∧x<RN∧(x % pp=a ^ (b/2 ^ k) % pp∧x=pX a b (256 - k))∧PW w a b g wr x) (fun i _=>(intOf i+1).toNat)
 case atStart=>exact ⟨256,1,by omega,rfl,by decide,⟨by rw [Nat.div_eq_of_lt (show b<2 ^ 256 from hb),Nat.pow_zero],rfl⟩,HP0.out⟩
 case round =>
  obtain ⟨k,x,hk,rfl,hx,ex,hp⟩:=hrel
  have HP:Hid (PW w a b g wr x):=hp
  have HX:Hid (x % pp=a ^ (b/2 ^ k) % pp∧x=pX a b (256 - k)):=ex
  obtain ⟨c0,c1,c2,c3,f0,f1,f2,f3⟩:=four hp.out
  clear ex hp
  rcases k with _ | m
  ·have HT:Hid (wr.there (w.heap.size+1+1) 0 4):=HP.out.ss.there
   have HB:Hid (Below w.heap.size w wr):=HP.out.ss.below
   have HE:Hid (x % pp=a ^ b % pp∧x=pX a b 256):=by have:=HX.out;rwa [Nat.pow_zero,Nat.div_one] at this
   rw [show (((0:Nat):Int) - 1) = -1 from rfl]
   go_wp2_with (refine wpList_store_mid rfl 40 _ _ rfl (w.heap.size+1+1) 0 (nl x).toArray rfl rfl HT.out (r4 _) (four_one _) ?_)
   refine bodyPost_ret (v := .agg (nl x).toArray) (results_mid Tryz.results84 _ _ (w.heap.size+1+1) 0 (nl x) _ rfl (World.rangeAt_setCells_same _ _ _ _ HT.out) Tryz.underlying40 rfl (r4 _)) rfl ⟨x,hx,rfl,HE.out,below_setCells _ (by omega) _ _ _ HB.out⟩
  ·rw [show (((m+1:Nat):Int) - 1)=(m:Int) by omega]
   have hm0:(0:Int)≤(m:Int):=by omega
   have hm64:(m:Int)/64<4:=by omega
   have hm64':m/64<4:=by omega
   go_wp2_with fail
   refine (tm x x hx hx _).mono ?_
   rintro e w2 ⟨y,hy,rfl,ey,hb2⟩
   have P2:=HP.out.call hb2
   have HP2:Hid (PW w a b g w2 x):=P2
   have cb:w2.cell? ⟨w.heap.size+1,m/64,none⟩=some (.int .u64 (lw b (m/64))):=word_cell (P2.ss.holds 1 _ _ _ rfl) hm64'
   clear c0 c1 c2 c3 f0 f1 f2 f3
   obtain ⟨c0,c1,c2,c3,f0,f1,f2,f3⟩:=four P2.out
   obtain ⟨d0,d1,d2,d3,d4,d5,d6,d7⟩:=four (P2.ss.holds 0 _ _ _ rfl)
   have na : ¬ g=w.heap.size:=by omega
   have na' : ¬ w.heap.size=g:=by omega
   have nb : ¬ g=w.heap.size+1:=by omega
   have nb' : ¬ w.heap.size+1=g:=by omega
   have hbit:=bit_at b m
   have HEY:Hid (y % pp=x*x % pp∧y=fX (tFold (x*x))):=ey
   clear hb2 P2 ey
   by_cases hbb:b/2 ^ m % 2=1
   ·rw [hbb] at hbit
    go_wp2_with fail
    refine (tm y a hy ha _).mono ?_
    rintro e w3 ⟨z,hz,rfl,ez,hb3⟩
    have P3:PW w a b g w3 y:=(HP2.out.put y).call hb3
    have HP3:Hid (PW w a b g w3 y):=P3
    have HZ:Hid (z % pp=a ^ (b/2 ^ m) % pp∧z=pX a b (256 - m)):=⟨pow_bit a b m x y z HX.out.1 HEY.out.1 ez.1 hbb,pX_bit (by omega) HX.out.2 HEY.out.2 ez.2 hbb⟩
    clear c0 c1 c2 c3 f0 f1 f2 f3 d0 d1 d2 d3 d4 d5 d6 d7 cb hb3 ez
    obtain ⟨c0,c1,c2,c3,f0,f1,f2,f3⟩:=four P3.out
    clear P3
    go_wp2
    go_roundw
    case rel=>exact ⟨m,z,by omega,by go_num,hz,HZ.out,HP3.out.put z⟩
    case measure=>simp [intOf]
   ·have hb0:b/2 ^ m % 2=0:=by omega
    rw [hb0] at hbit
    have HZ:Hid (y % pp=a ^ (b/2 ^ m) % pp∧y=pX a b (256 - m)):=⟨pow_nobit a b m x y HX.out.1 HEY.out.1 hb0,pX_nobit (by omega) HX.out.2 HEY.out.2 hb0⟩
    go_wp2
    go_roundw
    case rel=>exact ⟨m,y,by omega,by go_num,hy,HZ.out,HP2.out.put y⟩
    case measure=>simp [intOf]
theorem rpower_nat (a b:Nat) (ha:a<RN) (hb:b<RN) (w:World) :
  Calls Tryz.prog 84 #[.agg (nl a).toArray,.agg (nl b).toArray] w fun e w' => ∃ s,s<RN∧e = .returned (.agg (nl s).toArray)∧s % pp=a ^ b % pp∧Below w.heap.size w w' :=
 (rpowerX_nat a b ha hb w).mono fun e w' ⟨s,h1,h2,h3,h4⟩=>⟨s,h1,h2,h3.1,h4⟩
end Go.Proofs.YtkhjnjlinfbfoaaGreatDoor
/- The reference's Inverse, Canonical, Add, Sub, Mul, Inv. -/
namespace Go.Proofs.YtkhjnjlinfbfoaaGreatDoor
open Go Go.RowKit Go.Lib
set_option maxRecDepth 100000
theorem litQ:(#[.int .u64 18446744073709551595,.int .u64 18446744073709551615,.int .u64 18446744073709551615,.int .u64 9223372036854775807]:Array Value)=(nl (pp - 2)).toArray:=by kernel_rfl
theorem SS.num1 (w:World) (a:Nat):SS w [(w.heap.size,nl a,40)] (w.heap.size+1) 4 ((w.alloc (.cells (nl a).toArray 40)).alloc (.cells #[.int .u64 0,.int .u64 0,.int .u64 0,.int .u64 0] 40)):=by
 refine ⟨((Below.refl _ _).alloc (Nat.le_refl _) _).alloc (by simp) _,?_,there_of_row (heap_alloc_here _ _ _ (by simp)) 0 4 (by simp)⟩
 intro i g L t hm
 match i,hm with
 | 0,hm =>
  cases hm
  exact (heap_alloc_past _ _ _ (by simp)).trans (heap_alloc_here _ _ _ rfl)
set_option maxRecDepth 100000 in
set_option maxHeartbeats 2000000 in
theorem rinverseX_nat (a:Nat) (ha:a<RN) (w:World) :
  Calls Tryz.prog 51 #[.agg (nl a).toArray] w fun e w' => ∃ s,s<RN∧e = .returned (.agg (nl s).toArray)∧(s % pp=a ^ (pp - 2) % pp∧s=pX a (pp - 2) 256)∧Below w.heap.size w w':=by
 have HS0:Hid (SS w [(w.heap.size,nl a,40)] (w.heap.size+1) 4 _):=SS.num1 w a
 have rp:=rp_any
 rw [←litP] at rp
 have pw : ∀ w,Calls Tryz.prog 84 #[.agg (nl a).toArray,.agg #[.int .u64 18446744073709551595,.int .u64 18446744073709551615,.int .u64 18446744073709551615,.int .u64 9223372036854775807]] w fun e w' => ∃ s,s<RN∧e = .returned (.agg (nl s).toArray)∧(s % pp=a ^ (pp - 2) % pp∧s=pX a (pp - 2) 256)∧Below w.heap.size w w':=fun w=>by
  rw [litQ];exact rpowerX_nat a (pp - 2) ha (by decide) w
 go_enter Tryz.func51,Tryz.ntmps51
 go_wp2_with fail
 refine (rp _).mono ?_
 rintro e w1 ⟨rfl,hb1⟩
 have S1:=HS0.out.call hb1
 have lr:=S1.rlt
 have N1:=S1.holds 0 _ _ _ rfl
 have la:=lt_of_heap N1
 obtain ⟨c0,c1,c2,c3,f0,f1,f2,f3⟩:=four N1
 have HS1:Hid (SS w [(w.heap.size,nl a,40)] (w.heap.size+1) 4 (w1.alloc (.cells #[.int .u64 18446744073709551595,.int .u64 18446744073709551615,.int .u64 18446744073709551615,.int .u64 9223372036854775807] 40))):=S1.alloc _
 clear hb1 S1 N1 HS0
 go_wp2_with fail
 refine (pw _).mono ?_
 rintro e w2 ⟨s,hs,rfl,es,hb2⟩
 have S2:=HS1.out.call hb2
 have HT:Hid (w2.there (w.heap.size+1) 0 4):=S2.there
 have HB:Hid (Below w.heap.size w w2):=S2.below
 have HE:Hid (s % pp=a ^ (pp - 2) % pp∧s=pX a (pp - 2) 256):=es
 clear S2 hb2 es
 go_wp2_with (refine wpList_store_mid rfl 40 _ _ rfl (w.heap.size+1) 0 (nl s).toArray rfl rfl HT.out (r4 _) (four_one _) ?_)
 refine bodyPost_ret (v := .agg (nl s).toArray) (results_mid Tryz.results51 _ _ (w.heap.size+1) 0 (nl s) _ rfl (World.rangeAt_setCells_same _ _ _ _ HT.out) Tryz.underlying40 rfl (r4 _)) rfl ⟨s,hs,rfl,HE.out,below_setCells _ (by omega) _ _ _ HB.out⟩
set_option maxRecDepth 100000 in
set_option maxHeartbeats 1000000 in
theorem rCanonical_any (a:Nat) (ha:a<RN) (w:World) :
  Calls Tryz.prog 45 #[.agg (bl a).toArray] w fun e w'=>e = .returned (.bool (decide (a<pp)))∧Below w.heap.size w w':=by
 have HS:Hid (HH w [(w.heap.size,bl a,22)] (w.alloc (.cells (bl a).toArray 22))):=HH.one w _ _
 have HC:Hid (World.rangeAt _ w.heap.size 0 (bl a)):=HS.out.range (i:=0) rfl
 have hza:(bl a).toArray.size=32:=br_size a
 go_enter Tryz.func45,Tryz.ntmps45
 go_wp2_with (refine wpList_load_mid rfl 22 _ rfl w.heap.size 0 rfl (bl a) _ HC.out Tryz.underlying22 rfl (i32 a) ?_)
 refine (rfrom_nat a ha _).mono ?_
 rintro e w1 ⟨rfl,hb1⟩
 have S1:Hid (Below w.heap.size w w1):=chain HS.out.below hb1
 clear HC HS hb1
 go_wp2_with fail
 refine (rp_any _).mono ?_
 rintro e w2 ⟨rfl,hb2⟩
 have S2:Hid (Below w.heap.size w w2):=chain S1.out hb2
 clear hb2
 go_wp2_with fail
 refine (below_nat a pp ha pp_lt _).mono ?_
 rintro e w3 ⟨rfl,hb3⟩
 have S3:Hid (Below w.heap.size w w3):=chain S2.out hb3
 clear hb3
 go_wp2
 go_ret
 exact ⟨rfl,S3.out⟩
end Go.Proofs.YtkhjnjlinfbfoaaGreatDoor
/- Package field: Sqrt. -/
namespace Go.Proofs.YtkhjnjlinfbfoaaGreatDoor
open Go Go.RowKit Go.Lib
def sqv (a:Nat):Nat:=if rt a*rt a % pp=a % pp then ev (rt a) else 0
def sqe (a:Nat):Int:=if rt a*rt a % pp=a % pp then 0 else 4
set_option maxRecDepth 100000 in
set_option maxHeartbeats 4000000 in
theorem Sqrt_any (a:Nat) (ha:a<RN) (w:World) :
  Calls Tryz.prog 99 #[bv a] w fun e w'=>e = .returned (.tuple #[bv (sqv a),.int .i64 (sqe a)])∧Below w.heap.size w w':=by
 have hz:=zero_32
 have ml : ∀ a b:Nat,a<RN→b<RN → ∀ w,Calls Tryz.prog 112 #[.agg (nl a).toArray,.agg (nl b).toArray] w fun e w' => ∃ s:Nat,s<RN∧e = .returned (.agg (nl s).toArray)∧s % pp=(a*b) % pp∧Below w.heap.size w w':=mul_nat
 have ld : ∀ n w,Calls Tryz.prog 111 #[Value.agg (bl n).toArray] w fun e w'=>e = .returned (.agg (nl n).toArray)∧Below w.heap.size w w':=load_any
 have st : ∀ n,n<RN → ∀ w,Calls Tryz.prog 109 #[.agg (nl n).toArray] w fun e w'=>e = .returned (.agg (bl (n % pp)).toArray)∧Below w.heap.size w w':=store_any
 have ro : ∀ n,n<RN → ∀ w,Calls Tryz.prog 113 #[.agg (nl n).toArray] w fun e w' => ∃ s,s<RN∧e = .returned (.agg (nl s).toArray)∧s % pp=rt n∧Below w.heap.size w w':=root_nat
 have eo : ∀ n,n<RN → ∀ w,Calls Tryz.prog 115 #[.agg (nl n).toArray] w fun e w' => ∃ s,s<RN∧e = .returned (.agg (nl s).toArray)∧s % pp=ev (n % pp)∧Below w.heap.size w w':=even_nat
 have HS:Hid (SS w _ _ _ _):=SS.one32 w a
 have HC:Hid (World.rangeAt _ w.heap.size 0 (bl a)):=HS.out.range (i:=0) rfl
 have hza:(bl a).toArray.size=32:=br_size a
 have hz0:(bl 0).toArray.size=32:=br_size 0
 simp only [bv,br] at hz ⊢
 go_enter Tryz.func99,Tryz.ntmps99
 go_wp2_with (refine wpList_load_mid rfl 22 _ rfl w.heap.size 0 rfl (bl a) _ HC.out Tryz.underlying22 rfl (i32 a) ?_)
 refine (ld a _).mono ?_
 rintro e w1 ⟨rfl,hb1⟩
 have S1:=HS.out.call hb1
 have lr1:=S1.rlt
 have HS1a:Hid (SS w [(w.heap.size,bl a,22),(w1.heap.size,nl a,118)] (w.heap.size+1) 32 (w1.alloc (.cells (nl a).toArray 118))):=(S1.alloc _).add (nl a) _ (heap_alloc_here _ _ _ rfl)
 clear HC HS hb1 S1
 go_wp2_with fail
 refine (ro a ha _).mono ?_
 rintro e w2 ⟨s,hs,rfl,es,hb2⟩
 have S2:=HS1a.out.call hb2
 have lr2:=S2.rlt
 have HX:Hid (s % pp=rt a):=es
 have HS2a:Hid (SS w [(w.heap.size,bl a,22),(w1.heap.size,nl a,118),(w2.heap.size,nl s,118)] (w.heap.size+1) 32 (w2.alloc (.cells (nl s).toArray 118))):=(S2.alloc _).add (nl s) _ (heap_alloc_here _ _ _ rfl)
 have l12:w1.heap.size<w2.heap.size:=S2.lt _ (List.mem_of_getElem? (i:=1) rfl)
 clear hb2 S2 HS1a es
 obtain ⟨c,hc⟩ : ∃ c,c=s*s % pp:=⟨_,rfl⟩
 obtain ⟨d,hd⟩ : ∃ d,d=a % pp:=⟨_,rfl⟩
 have hcl:c<RN:=by rw [hc];exact mod_lt_RN _
 have hdl:d<RN:=by rw [hd];exact mod_lt_RN _
 have sec : ∀ m,m<RN→m % pp=s*s % pp → ∀ w,Calls Tryz.prog 114 #[.agg (nl m).toArray] w fun e w'=>e = .returned (.agg (nl c).toArray)∧Below w.heap.size w w':=fun m hm e w=>by
  have:=settle_nat m hm w
  rw [e,←hc] at this
  exact this
 have sed : ∀ w,Calls Tryz.prog 114 #[.agg (nl a).toArray] w fun e w'=>e = .returned (.agg (nl d).toArray)∧Below w.heap.size w w':=fun w=>by
  have:=settle_nat a ha w
  rw [←hd] at this
  exact this
 have heq : ∀ w,(Op.equalIn 10000 118 (.agg (nl c).toArray) (.agg (nl d).toArray)).run Tryz.prog w = .ok (decide (c=d)) w:=eq_num c d hcl hdl
 have HCC:Hid (c=rt a*rt a % pp):=hc.trans (sq_of HX.out)
 have HDD:Hid (d=a % pp):=hd
 clear hc hd
 by_cases hcd:c=d
 ·rw [decide_eq_true hcd] at heq
  have HD:Hid (rt a*rt a % pp=a % pp):=by show _=_;rw [←HCC.out,hcd,HDD.out]
  go_wp2_with fail
  obtain ⟨x1,hx1⟩ : ∃ x,x=w2.alloc (.cells (nl s).toArray 118):=⟨_,rfl⟩
  have HS1:Hid (SS w [(w.heap.size,bl a,22),(w1.heap.size,nl a,118),(w2.heap.size,nl s,118)] (w.heap.size+1) 32 x1):=by rw [hx1];exact HS2a.out
  rw [←hx1]
  clear hx1 HS2a
  refine wp_region_held_drew (S:=(fun w'=>SS w [(w.heap.size,bl a,22),(w1.heap.size,nl a,118),(w2.heap.size,nl s,118)] (w.heap.size+1) 32 w')) (by kernel_rfl) ?_ (fun hHeld => ?_)
  ·exact HS1.out.drew
  refine take1 (i:=0) (v:=_) 10 rfl rfl (by kernel_rfl) (by kernel_rfl) (by kernel_rfl) (fun _ _ _ h=>h) (yieldsIf_load_mid (by rfl) _ _ rfl _ _ rfl _ _ (fun w h=>h.range (i:=2) rfl) Tryz.underlying118 rfl (i4 s)) hHeld ?_
  simp only [Act.put,List.setIfInBounds_toArray,List.set_cons_zero,List.set_cons_succ]
  refine take1 (i:=1) (v:=_) 11 rfl rfl (by kernel_rfl) (by kernel_rfl) (by kernel_rfl) (fun _ _ _ h=>h) (yieldsIf_load_mid (by rfl) _ _ rfl _ _ rfl _ _ (fun w h=>h.range (i:=2) rfl) Tryz.underlying118 rfl (i4 s)) hHeld ?_
  simp only [Act.put,List.setIfInBounds_toArray,List.set_cons_zero,List.set_cons_succ]
  refine take1 (i:=4) (v:=_) 14 rfl rfl (by kernel_rfl) (by kernel_rfl) (by kernel_rfl) (fun _ _ _ h=>h) (yieldsIf_load_mid (by rfl) _ _ rfl _ _ rfl _ _ (fun w h=>h.range (i:=1) rfl) Tryz.underlying118 rfl (i4 a)) hHeld ?_
  simp only [Act.put,List.setIfInBounds_toArray,List.set_cons_zero,List.set_cons_succ]
  refine wpAnyH_ready (rs:=[2]) (by kernel_rfl) (by simp) ?_
  refine AllReadyH.cons rfl (fun K hK => ?_) AllReadyH.nil
  go_simp
  go_at_call 112
  refine (ml s s hs hs _).mono ?_
  rintro e wA ⟨m,hm,rfl,em,hbA⟩
  refine hK.out _ _ ?_ (fun hHeld => ?_)
  ·exact hHeld.call hbA
  clear hK K
  try simp only [Act.put,List.setIfInBounds_toArray,List.set_cons_zero,List.set_cons_succ]
  refine wpAnyH_ready (rs:=[3]) (by kernel_rfl) (by simp) ?_
  refine AllReadyH.cons rfl (fun K hK => ?_) AllReadyH.nil
  go_simp
  go_at_call 114
  refine (sec m hm em _).mono ?_
  rintro e wB ⟨rfl,hbB⟩
  refine hK.out _ _ ?_ (fun hHeld => ?_)
  ·exact hHeld.call hbB
  clear hK K
  try simp only [Act.put,List.setIfInBounds_toArray,List.set_cons_zero,List.set_cons_succ]
  refine wpAnyH_ready (rs:=[5]) (by kernel_rfl) (by simp) ?_
  refine AllReadyH.cons rfl (fun K hK => ?_) AllReadyH.nil
  go_simp
  go_at_call 114
  refine (sed _).mono ?_
  rintro e wC ⟨rfl,hbC⟩
  refine hK.out _ _ ?_ (fun hHeld => ?_)
  ·exact hHeld.call hbC
  clear hK K
  try simp only [Act.put,List.setIfInBounds_toArray,List.set_cons_zero,List.set_cons_succ]
  refine take1 (i:=6) (v := ?_) 16 rfl rfl (by kernel_rfl) (by kernel_rfl) (by kernel_rfl) (fun _ _ _ h=>h) (Or.inl ⟨by rfl,?_⟩) hHeld ?_
  rotate_left 1
  ·intro w hSw;go_simp <;> with_reducible rfl
  simp only [Act.put,List.setIfInBounds_toArray,List.set_cons_zero,List.set_cons_succ]
  refine wpAnyH_done (by kernel_rfl) ?_ _
  have HS3:Hid (SS w [(w.heap.size,bl a,22),(w1.heap.size,nl a,118),(w2.heap.size,nl s,118)] (w.heap.size+1) 32 wC):=hHeld
  have HC:Hid (World.rangeAt _ w2.heap.size 0 (nl s)):=hHeld.range (i:=2) rfl
  clear hHeld HS1
  go_wp2_with (refine wpList_load_mid rfl 118 _ rfl w2.heap.size 0 rfl (nl s) _ HC.out Tryz.underlying118 rfl (i4 s) ?_)
  refine (eo s hs _).mono ?_
  rintro e wD ⟨z,hzl,rfl,ez,hbD⟩
  have HS4:Hid (SS w [(w.heap.size,bl a,22),(w1.heap.size,nl a,118),(w2.heap.size,nl s,118)] (w.heap.size+1) 32 wD):=HS3.out.call hbD
  have HZ:Hid (z % pp=ev (rt a)):=ez.trans (by rw [HX.out])
  clear HS3 HC hbD ez
  go_wp2_with fail
  refine (st z hzl _).mono ?_
  rintro e wE ⟨rfl,hbE⟩
  have HS5:Hid (SS w [(w.heap.size,bl a,22),(w1.heap.size,nl a,118),(w2.heap.size,nl s,118)] (w.heap.size+1) 32 wE):=HS4.out.call hbE
  have HT:Hid (wE.there (w.heap.size+1) 0 (br (z % pp)).size):=by rw [br_size];exact HS5.out.there
  clear HS4 hbE
  go_wp2_with (refine wpList_store_mid rfl 22 _ _ rfl (w.heap.size+1) 0 (br (z % pp)) rfl rfl HT.out (by rw [br_size];exact size_32) (br_one _) ?_)
  refine bodyPost_ret (v := .tuple #[.agg (bl (z % pp)).toArray,.int .i64 0]) (results_mid_tmp Tryz.results99 _ _ (w.heap.size+1) 0 (bl (z % pp)) _ _ rfl rfl (World.rangeAt_setCells_same _ _ _ _ HT.out) Tryz.underlying22 rfl (i32 _)) rfl ⟨?_,below_setCells _ (by omega) _ _ _ HS5.out.below⟩
  rw [HZ.out,sqv,sqe,if_pos HD.out,if_pos HD.out]
 ·rw [decide_eq_false hcd] at heq
  have HD:Hid (¬ rt a*rt a % pp=a % pp):=by show ¬ _=_;rw [←HCC.out,←HDD.out];exact hcd
  go_wp2_with fail
  obtain ⟨x1,hx1⟩ : ∃ x,x=w2.alloc (.cells (nl s).toArray 118):=⟨_,rfl⟩
  have HS1:Hid (SS w [(w.heap.size,bl a,22),(w1.heap.size,nl a,118),(w2.heap.size,nl s,118)] (w.heap.size+1) 32 x1):=by rw [hx1];exact HS2a.out
  rw [←hx1]
  clear hx1 HS2a
  refine wp_region_held_drew (S:=(fun w'=>SS w [(w.heap.size,bl a,22),(w1.heap.size,nl a,118),(w2.heap.size,nl s,118)] (w.heap.size+1) 32 w')) (by kernel_rfl) ?_ (fun hHeld => ?_)
  ·exact HS1.out.drew
  refine take1 (i:=0) (v:=_) 10 rfl rfl (by kernel_rfl) (by kernel_rfl) (by kernel_rfl) (fun _ _ _ h=>h) (yieldsIf_load_mid (by rfl) _ _ rfl _ _ rfl _ _ (fun w h=>h.range (i:=2) rfl) Tryz.underlying118 rfl (i4 s)) hHeld ?_
  simp only [Act.put,List.setIfInBounds_toArray,List.set_cons_zero,List.set_cons_succ]
  refine take1 (i:=1) (v:=_) 11 rfl rfl (by kernel_rfl) (by kernel_rfl) (by kernel_rfl) (fun _ _ _ h=>h) (yieldsIf_load_mid (by rfl) _ _ rfl _ _ rfl _ _ (fun w h=>h.range (i:=2) rfl) Tryz.underlying118 rfl (i4 s)) hHeld ?_
  simp only [Act.put,List.setIfInBounds_toArray,List.set_cons_zero,List.set_cons_succ]
  refine take1 (i:=4) (v:=_) 14 rfl rfl (by kernel_rfl) (by kernel_rfl) (by kernel_rfl) (fun _ _ _ h=>h) (yieldsIf_load_mid (by rfl) _ _ rfl _ _ rfl _ _ (fun w h=>h.range (i:=1) rfl) Tryz.underlying118 rfl (i4 a)) hHeld ?_
  simp only [Act.put,List.setIfInBounds_toArray,List.set_cons_zero,List.set_cons_succ]
  refine wpAnyH_ready (rs:=[2]) (by kernel_rfl) (by simp) ?_
  refine AllReadyH.cons rfl (fun K hK => ?_) AllReadyH.nil
  go_simp
  go_at_call 112
  refine (ml s s hs hs _).mono ?_
  rintro e wA ⟨m,hm,rfl,em,hbA⟩
  refine hK.out _ _ ?_ (fun hHeld => ?_)
  ·exact hHeld.call hbA
  clear hK K
  try simp only [Act.put,List.setIfInBounds_toArray,List.set_cons_zero,List.set_cons_succ]
  refine wpAnyH_ready (rs:=[3]) (by kernel_rfl) (by simp) ?_
  refine AllReadyH.cons rfl (fun K hK => ?_) AllReadyH.nil
  go_simp
  go_at_call 114
  refine (sec m hm em _).mono ?_
  rintro e wB ⟨rfl,hbB⟩
  refine hK.out _ _ ?_ (fun hHeld => ?_)
  ·exact hHeld.call hbB
  clear hK K
  try simp only [Act.put,List.setIfInBounds_toArray,List.set_cons_zero,List.set_cons_succ]
  refine wpAnyH_ready (rs:=[5]) (by kernel_rfl) (by simp) ?_
  refine AllReadyH.cons rfl (fun K hK => ?_) AllReadyH.nil
  go_simp
  go_at_call 114
  refine (sed _).mono ?_
  rintro e wC ⟨rfl,hbC⟩
  refine hK.out _ _ ?_ (fun hHeld => ?_)
  ·exact hHeld.call hbC
  clear hK K
  try simp only [Act.put,List.setIfInBounds_toArray,List.set_cons_zero,List.set_cons_succ]
  refine take1 (i:=6) (v := ?_) 16 rfl rfl (by kernel_rfl) (by kernel_rfl) (by kernel_rfl) (fun _ _ _ h=>h) (Or.inl ⟨by rfl,?_⟩) hHeld ?_
  rotate_left 1
  ·intro w hSw;go_simp <;> with_reducible rfl
  simp only [Act.put,List.setIfInBounds_toArray,List.set_cons_zero,List.set_cons_succ]
  refine wpAnyH_done (by kernel_rfl) ?_ _
  have HS5:Hid (SS w [(w.heap.size,bl a,22),(w1.heap.size,nl a,118),(w2.heap.size,nl s,118)] (w.heap.size+1) 32 wC):=hHeld
  have HT:Hid (wC.there (w.heap.size+1) 0 (br 0).size):=by rw [br_size];exact hHeld.there
  clear hHeld HS1
  go_wp2_with (refine wpList_store_mid rfl 22 _ _ rfl (w.heap.size+1) 0 (br 0) rfl (by exact congrArg Value.agg lit0) HT.out (by rw [br_size];exact size_32) (br_one _) ?_)
  refine bodyPost_ret (v := .tuple #[.agg (bl 0).toArray,.int .i64 4]) (results_mid_tmp Tryz.results99 _ _ (w.heap.size+1) 0 (bl 0) _ _ rfl rfl (World.rangeAt_setCells_same _ _ _ _ HT.out) Tryz.underlying22 rfl (i32 _)) rfl ⟨?_,below_setCells _ (by omega) _ _ _ HS5.out.below⟩
  rw [sqv,sqe,if_neg HD.out,if_neg HD.out]
end Go.Proofs.YtkhjnjlinfbfoaaGreatDoor
