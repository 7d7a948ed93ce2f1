import Derived.Test.YtajehiidpecknaaGreatDoorFieS
import Derived.Test.YtajehiidpecknaaGreatDoorScrA
import Derived.Deep.LoopGhost
set_option linter.all false
namespace Go.Proofs.YtajehiidpecknaaGreatDoor
open Go Go.RowKit Go.Lib
set_option maxRecDepth 100000
theorem r4 (n:Nat):(Tryz.prog.info? 68).map (·.size)=some (nl n).length:=by kernel_rfl
theorem LI:(#[.int .u64 18446744073709551597,.int .u64 18446744073709551615,.int .u64 18446744073709551615,.int .u64 9223372036854775807]:Array Value)=(nl pp).toArray:=by kernel_rfl
theorem jw (w:World):Calls Tryz.prog 120 #[] w fun e w'=>e = .returned (.agg (nl pp).toArray)∧Below w.heap.size w w':=by
 rw [←LI]
 go_enter Tryz.func120,Tryz.ntmps120
 go_wp2
 simp [bodyPost,results,Tryz.results120,go_sem]
 exact (Below.refl _ _).alloc (Nat.le_refl _) _
theorem CM (w:World):Calls Tryz.prog 124 #[] w fun e w'=>e = .returned (.agg (nl IN).toArray)∧Below w.heap.size w w':=by
 rw [←Mn]
 go_enter Tryz.func124,Tryz.ntmps124
 go_wp2
 simp [bodyPost,results,Tryz.results124,go_sem]
 exact (Below.refl _ _).alloc (Nat.le_refl _) _
theorem od (x:Int) (w:World):Calls Tryz.prog 87 #[.int .u64 x] w fun e w'=>e = .returned (.agg #[.int .u64 x,.int .u64 0,.int .u64 0,.int .u64 0])∧Below w.heap.size w w':=by
 go_enter Tryz.func87,Tryz.ntmps87
 go_wp2
 simp [bodyPost,results,Tryz.results87,go_sem]
 exact (Below.refl _ _).alloc (Nat.le_refl _) _
theorem SS.cell {w0:World} {bs:List (Nat × List Value × TypeId)} {r n q k:Nat} {w:World} (h:SS w0 bs r n w) (hq:w0.heap.size≤q) (hne : ∀ b ∈ bs,¬ b.1=q) (v:Value):SS w0 bs r n (w.setCell ⟨q,k,none⟩ v) :=
 ⟨h.below.setCell hq v,fun i g L t hm=>(a8 q g (hne _ (List.mem_of_getElem? hm)) [v] k w).trans (h.holds i g L t hm),World.there_setCells h.there q k [v]⟩
theorem ee {w:World} {g k:Nat} {cs:Array Value} {t:TypeId} (v:Value) (h:w.heap[g]? = some (.cells cs t (0,0))):(w.setCell ⟨g,k,none⟩ v).heap[g]? = some (.cells (cs.setIfInBounds k v) t (0,0)):=heap_setCell_same _ _ _ _ _ _ h
theorem tD (a b:Nat) (ha:a<RN) (hb:b<RN) (hba:b≤a) (w:World) :
  Calls Tryz.prog 125 #[.agg (nl a).toArray,.agg (nl b).toArray] w fun e w'=>e = .returned (.agg (nl (a - b)).toArray)∧Below w.heap.size w w':=by
 have h:=Sc.uC Tryz.func125 (by kernel_rfl) (fun _ _ _ _ _ _ _ _=>by kernel_rfl) (a:=a) (b:=b) ha hb w
 rw [show (a+Sc.RN - b) % Sc.RN=a - b by unfold Sc.RN;unfold RN at ha;omega] at h
 exact h
end Go.Proofs.YtajehiidpecknaaGreatDoor
namespace Go.Proofs.YtajehiidpecknaaGreatDoor
open Go Go.RowKit Go.Lib
set_option maxRecDepth 100000
def FP (k:Nat) (x d:Int):Prop:=d=0∨2≤k∨(k=1∧d=1∧x<700976274800962961408)
theorem SS.num40 (w:World) (n:Num):SS w [] (w.heap.size+1) 4 ((w.alloc (.cells #[.int .u64 n.w0,.int .u64 n.w1,.int .u64 n.w2,.int .u64 n.w3] 68)).alloc (.cells #[.int .u64 0,.int .u64 0,.int .u64 0,.int .u64 0] 68)) :=
 ⟨((Below.refl _ _).alloc (Nat.le_refl _) _).alloc (by simp) _,fun i g L t hm=>by simp at hm,an (ai _ _ _ (by simp)) 0 4 (by simp)⟩
def foldI (X d:Int):Int:=if X+d*38<RR then X+d*38 else X+d*38 - RR+38
theorem vk {X:Int} (h:X<RR):foldI X 0=X:=by
 unfold foldI
 rw [Int.zero_mul,Int.add_zero,if_pos h]
theorem uU {V d' X d:Int} (key:V+d'*RR=X+d*38) (hV0:0≤V) (hV:V<RR) (h0:0≤d') (h1:d'≤1) (hX0:0≤X) (hX:X<RR) (hd0:0≤d) (hd:d<18446744073709551616):foldI V d'=foldI X d:=by
 unfold foldI
 simp only [RR] at *
 split <;> split <;> omega
theorem vR (x0 x1 x2 x3 d h l v0 v1 v2 v3 c0 c1 c2 d' N:Int) (hx:Num.ok ⟨x0,x1,x2,x3⟩) (hd:Word d) (hh:Word h) (hl:Word l) (e:d*38=h*18446744073709551616+l)
  (q0:v0=(x0+l) % 18446744073709551616) (p0:c0=(x0+l)/18446744073709551616) (q1:v1=(x1+h+c0) % 18446744073709551616) (p1:c1=(x1+h+c0)/18446744073709551616)
  (q2:v2=(x2+0+c1) % 18446744073709551616) (p2:c2=(x2+0+c1)/18446744073709551616) (q3:v3=(x3+0+c2) % 18446744073709551616) (p3:d'=(x3+0+c2)/18446744073709551616)
  (hm:(Num.val ⟨x0,x1,x2,x3⟩+d*RR) % PP=N) (k:Nat) (hk:FP k (Num.val ⟨x0,x1,x2,x3⟩) d) (hd0 : ¬ d=0) :
  Num.ok ⟨v0,v1,v2,v3⟩∧Word d'∧(Num.val ⟨v0,v1,v2,v3⟩+d'*RR) % PP=N∧FP (k - 1) (Num.val ⟨v0,v1,v2,v3⟩) d'∧k - 1<k∧foldI (Num.val ⟨v0,v1,v2,v3⟩) d'=foldI (Num.val ⟨x0,x1,x2,x3⟩) d:=by
 obtain ⟨⟨a0,b0⟩,⟨a1,b1⟩,⟨a2,b2⟩,⟨a3,b3⟩⟩:=hx
 obtain ⟨hd1,hd2⟩:=hd
 obtain ⟨hh1,hh2⟩:=hh
 obtain ⟨hl1,hl2⟩:=hl
 simp only at a0 b0 a1 b1 a2 b2 a3 b3
 have key:Num.val ⟨v0,v1,v2,v3⟩+d'*RR=Num.val ⟨x0,x1,x2,x3⟩+d*38:=by
  simp only [Num.val,RR];rw [e];omega
 have hok:Num.ok ⟨v0,v1,v2,v3⟩:=⟨⟨by simp only;omega,by simp only;omega⟩,⟨by simp only;omega,by simp only;omega⟩,⟨by simp only;omega,by simp only;omega⟩,⟨by simp only;omega,by simp only;omega⟩⟩
 have hbx:=Num.bound (n:=⟨x0,x1,x2,x3⟩) ⟨⟨a0,b0⟩,⟨a1,b1⟩,⟨a2,b2⟩,⟨a3,b3⟩⟩
 have hbv:=Num.bound hok
 have hw:Word d':=⟨by omega,by omega⟩
 clear q0 p0 q1 p1 q2 p2 q3 p3 e
 obtain ⟨hw1,hw2⟩:=hw
 generalize Num.val ⟨v0,v1,v2,v3⟩=V at *
 generalize Num.val ⟨x0,x1,x2,x3⟩=X at *
 simp only [RR,PP] at *
 have hd1':d'≤1:=by omega
 refine ⟨hok,⟨hw1,hw2⟩,?_,?_,?_,?_⟩
 ·rw [←hm,key]
  omega
 ·unfold FP at hk ⊢
  rcases hk with hk | hk | hk
  ·exact absurd hk hd0
  ·by_cases h1:d'=0
   ·exact .inl h1
   ·by_cases h2:k=2
    ·right;right;omega
    ·right;left;omega
  ·left;omega
 ·unfold FP at hk
  rcases hk with hk | hk | hk
  ·exact absurd hk hd0
  ·omega
  ·omega
 ·exact uU (by simp only [RR];omega) (by omega) (by simp only [RR];omega) hw1 hd1' (by omega) (by simp only [RR];omega) hd1 hd2
def FM (n:Num) (o:Int) (x:Num) (d:Int):Prop:=(x.val+d*RR) % PP=(n.val+o*RR) % PP∧foldI x.val d=foldI n.val o
set_option maxRecDepth 100000 in
set_option maxHeartbeats 2000000 in
theorem ng (n:Num) (o:Int) (hn:n.ok) (ho:Word o) (w:World) :
  Calls Tryz.prog 121 #[n.v,.int .u64 o] w fun e w' => ∃ s:Num,e = .returned s.v∧s.ok∧(s.val % PP=(n.val+o*RR) % PP∧s.val=foldI n.val o)∧Below w.heap.size w w':=by
 have HS0:Hid (SS w [] (w.heap.size+1) 4 _):=SS.num40 w n
 unfold Num.v at *
 go_enter Tryz.func121,Tryz.ntmps121
 go_wp2
 go_loopg [1] 2 (fun k h wr => ∃ (x0 x1 x2 x3 d:Int),h = .int .u64 d∧Num.ok ⟨x0,x1,x2,x3⟩∧Word d∧FM n o ⟨x0,x1,x2,x3⟩ d∧FP k (Num.val ⟨x0,x1,x2,x3⟩) d∧wr.heap[w.heap.size]? = some (.cells #[.int .u64 x0,.int .u64 x1,.int .u64 x2,.int .u64 x3] 68 (0,0))∧SS w [] (w.heap.size+1) 4 wr)
 case atStart=>exact ⟨n.w0,n.w1,n.w2,n.w3,o,rfl,hn,ho,⟨rfl,rfl⟩,.inr (.inl (by omega)),(ak _ _ _ (by simp)).trans (ai _ _ _ rfl),HS0.out⟩
 case round =>
  obtain ⟨x0,x1,x2,x3,d,rfl,hx,hd,hm,hk,hnum,hss⟩:=hrel
  have HX:Hid (Num.ok ⟨x0,x1,x2,x3⟩):=hx
  have HM:Hid (FM n o ⟨x0,x1,x2,x3⟩ d):=hm
  have HK:Hid (FP gk (Num.val ⟨x0,x1,x2,x3⟩) d):=hk
  have HN:Hid (wr.heap[w.heap.size]? = some (.cells #[.int .u64 x0,.int .u64 x1,.int .u64 x2,.int .u64 x3] 68 (0,0))):=hnum
  have HSS:Hid (SS w [] (w.heap.size+1) 4 wr):=hss
  obtain ⟨c0,c1,c2,c3,f0,f1,f2,f3⟩:=four hnum
  clear hx hm hk hnum hss
  by_cases hd0:d=0
  ·subst hd0
   have HT:Hid (wr.there (w.heap.size+1) 0 4):=HSS.out.there
   go_wp2_with (refine wpList_store_mid rfl 68 _ _ rfl (w.heap.size+1) 0 #[.int .u64 x0,.int .u64 x1,.int .u64 x2,.int .u64 x3] rfl rfl HT.out (by kernel_rfl) (by simp [Value.oneCell']) ?_)
   refine bodyPost_ret (v := .agg #[.int .u64 x0,.int .u64 x1,.int .u64 x2,.int .u64 x3]) (aH Tryz.results121 _ _ (w.heap.size+1) 0 [.int .u64 x0,.int .u64 x1,.int .u64 x2,.int .u64 x3] _ rfl (World.rangeAt_setCells_same _ _ _ _ HT.out) Tryz.underlying68 rfl (by kernel_rfl)) rfl ⟨⟨x0,x1,x2,x3⟩,rfl,HX.out,?_,af _ (by omega) _ _ _ HSS.out.below⟩
   obtain ⟨m1,m2⟩:=HM.out
   rw [Int.zero_mul,Int.add_zero] at m1
   have hbb:=(Num.bound HX.out).2
   rw [vk hbb] at m2
   exact ⟨m1,m2⟩
  ·go_wp2_with fail
   refine (CT d 38 hd ⟨by decide,by decide⟩ _).mono ?_
   rintro e w' ⟨h,l,rfl,hh,hl,em,rfl⟩
   obtain ⟨v0,q0⟩ : ∃ v,v=(x0+l) % 18446744073709551616:=⟨_,rfl⟩
   obtain ⟨k0,p0⟩ : ∃ v,v=(x0+l)/18446744073709551616:=⟨_,rfl⟩
   obtain ⟨v1,q1⟩ : ∃ v,v=(x1+h+k0) % 18446744073709551616:=⟨_,rfl⟩
   obtain ⟨k1,p1⟩ : ∃ v,v=(x1+h+k0)/18446744073709551616:=⟨_,rfl⟩
   obtain ⟨v2,q2⟩ : ∃ v,v=(x2+0+k1) % 18446744073709551616:=⟨_,rfl⟩
   obtain ⟨k2,p2⟩ : ∃ v,v=(x2+0+k1)/18446744073709551616:=⟨_,rfl⟩
   obtain ⟨v3,q3⟩ : ∃ v,v=(x3+0+k2) % 18446744073709551616:=⟨_,rfl⟩
   obtain ⟨d',p3⟩ : ∃ v,v=(x3+0+k2)/18446744073709551616:=⟨_,rfl⟩
   have HR:=vR x0 x1 x2 x3 d h l v0 v1 v2 v3 k0 k1 k2 d' _ HX.out hd hh hl em q0 p0 q1 p1 q2 p2 q3 p3 HM.out.1 gk HK.out hd0
   have hb:=HX.out
   obtain ⟨⟨a0,b0⟩,⟨a1,b1⟩,⟨a2,b2⟩,⟨a3,b3⟩⟩:=hb
   simp only at a0 b0 a1 b1 a2 b2 a3 b3
   have s0 : ∀ w,(callFunc 108 #[.int .u64 x0,.int .u64 l,.int .u64 0]).run Tryz.prog w = .ok (.value (.tuple #[.int .u64 v0,.int .u64 k0])) w:=fun w=>by
    rw [q0,p0];exact yg x0 l a0 hl.1 w
   have s1 : ∀ w,(callFunc 108 #[.int .u64 x1,.int .u64 h,.int .u64 k0]).run Tryz.prog w = .ok (.value (.tuple #[.int .u64 v1,.int .u64 k1])) w:=fun w=>by
    rw [q1,p1];exact iA x1 h k0 a1 hh.1 (by have:=hl.1;omega) (by have:=hl.2;omega) w
   have s2 : ∀ w,(callFunc 108 #[.int .u64 x2,.int .u64 0,.int .u64 k1]).run Tryz.prog w = .ok (.value (.tuple #[.int .u64 v2,.int .u64 k2])) w:=fun w=>by
    rw [q2,p2];exact iA x2 0 k1 a2 (by omega) (by have:=hl.1;have:=hh.1;omega) (by have:=hl.2;have:=hh.2;omega) w
   have s3 : ∀ w,(callFunc 108 #[.int .u64 x3,.int .u64 0,.int .u64 k2]).run Tryz.prog w = .ok (.value (.tuple #[.int .u64 v3,.int .u64 d'])) w:=fun w=>by
    rw [q3,p3];exact iA x3 0 k2 a3 (by omega) (by have:=hl.1;have:=hh.1;omega) (by have:=hl.2;have:=hh.2;omega) w
   have HRR:Hid (Num.ok ⟨v0,v1,v2,v3⟩∧Word d'∧FM n o ⟨v0,v1,v2,v3⟩ d'∧FP (gk - 1) (Num.val ⟨v0,v1,v2,v3⟩) d'∧gk - 1<gk):=⟨HR.1,HR.2.1,⟨HR.2.2.1,HR.2.2.2.2.2.trans HM.out.2⟩,HR.2.2.2.1,HR.2.2.2.2.1⟩
   clear HR q0 p0 q1 p1 q2 p2 q3 p3 a0 b0 a1 b1 a2 b2 a3 b3 em
   go_wp2
   go_roundg (gk - 1)
   case measure=>exact HRR.out.2.2.2.2
   case rel=>exact ⟨v0,v1,v2,v3,d',rfl,HRR.out.1,HRR.out.2.1,HRR.out.2.2.1,HRR.out.2.2.2.1,cQ _ _ _ _ HN.out,HSS.out.put (by omega) (fun b hb=>by simp at hb) [.int .u64 v0,.int .u64 v1,.int .u64 v2,.int .u64 v3]⟩
def fX (T:Nat):Nat:=if T % RN+38*(T/RN)<RN then T % RN+38*(T/RN) else T % RN+38*(T/RN) - RN+38
theorem H5 {O x T z:Nat} (hO:O<RN) (h:O+x*RN=T) (hz:(z:Int)=foldI (O:Int) (x:Int)):z=fX T:=by
 have e1:T % RN=O:=by rw [←h,Nat.add_mul_mod_self_right,YK hO]
 have e2:T/RN=x:=by rw [←h,Nat.add_mul_div_right _ _ (by decide),Nat.div_eq_of_lt hO,Nat.zero_add]
 unfold fX
 rw [e1,e2]
 unfold foldI at hz
 simp only [RR,RN] at *
 split at hz <;> split <;> omega
end Go.Proofs.YtajehiidpecknaaGreatDoor
namespace Go.Proofs.YtajehiidpecknaaGreatDoor
open Go Go.RowKit Go.Lib
set_option maxRecDepth 100000
def cz (a b:Nat) (k x0 x1 x2 x3 c:Int):Prop:=0≤k∧k≤4∧0≤c∧c≤1∧Word x0∧Word x1∧Word x2∧Word x3∧(k=0→c=0)∧(k=1→x0+c*18446744073709551616=(lw a 0)+(lw b 0))∧(k=2→x0+x1*18446744073709551616+c*340282366920938463463374607431768211456=(lw a 0+lw a 1*18446744073709551616)+(lw b 0+lw b 1*18446744073709551616))∧(k=3→x0+x1*18446744073709551616+x2*340282366920938463463374607431768211456+c*6277101735386680763835789423207666416102355444464034512896=(lw a 0+lw a 1*18446744073709551616+lw a 2*340282366920938463463374607431768211456)+(lw b 0+lw b 1*18446744073709551616+lw b 2*340282366920938463463374607431768211456))∧(k=4→x0+x1*18446744073709551616+x2*340282366920938463463374607431768211456+x3*6277101735386680763835789423207666416102355444464034512896+c*115792089237316195423570985008687907853269984665640564039457584007913129639936=(lw a 0+lw a 1*18446744073709551616+lw a 2*340282366920938463463374607431768211456+lw a 3*6277101735386680763835789423207666416102355444464034512896)+(lw b 0+lw b 1*18446744073709551616+lw b 2*340282366920938463463374607431768211456+lw b 3*6277101735386680763835789423207666416102355444464034512896))
theorem SS.two40 (w:World) (a b:Nat):SS w [(w.heap.size,nl a,68),(w.heap.size+1,nl b,68)] (w.heap.size+1+1) 4 ((((w.alloc (.cells (nl a).toArray 68)).alloc (.cells (nl b).toArray 68)).alloc (.cells #[.int .u64 0,.int .u64 0,.int .u64 0,.int .u64 0] 68)).alloc (.cells #[.int .u64 0,.int .u64 0,.int .u64 0,.int .u64 0] 68)):=by
 have h1:SS w [(w.heap.size,nl a,68)] (w.heap.size+1+1) 4 ((((w.alloc (.cells (nl a).toArray 68)).alloc (.cells (nl b).toArray 68)).alloc (.cells #[.int .u64 0,.int .u64 0,.int .u64 0,.int .u64 0] 68)).alloc (.cells #[.int .u64 0,.int .u64 0,.int .u64 0,.int .u64 0] 68)):=by
  refine ⟨((((Below.refl _ _).alloc (Nat.le_refl _) _).alloc (by simp) _).alloc (by simp;omega) _).alloc (by simp;omega) _,?_,an ((ak _ _ _ (by simp)).trans (ai _ _ _ (by simp))) 0 4 (by simp)⟩
  intro i g L t hm
  match i,hm with
  | 0,hm =>
   cases hm
   exact (ak _ _ _ (by simp only [World.size_alloc];omega)).trans ((ak _ _ _ (by simp only [World.size_alloc];omega)).trans ((ak _ _ _ (by simp only [World.size_alloc];omega)).trans (ai _ _ _ rfl)))
 exact h1.add (nl b) _ ((ak _ _ _ (by simp only [World.size_alloc];omega)).trans ((ak _ _ _ (by simp only [World.size_alloc];omega)).trans (ai _ _ _ (by simp))))
set_option maxRecDepth 100000 in
set_option maxHeartbeats 4000000 in
theorem oz (a b:Nat) (ha:a<RN) (hb:b<RN) (w:World) :
  Calls Tryz.prog 89 #[.agg (nl a).toArray,.agg (nl b).toArray] w fun e w' => ∃ s,s<RN∧e = .returned (.agg (nl s).toArray)∧(s % pp=(a+b) % pp∧s=fX (a+b))∧Below w.heap.size w w':=by
 have HSS0:Hid (SS w [(w.heap.size,nl a,68),(w.heap.size+1,nl b,68)] (w.heap.size+1+1) 4 ((((w.alloc (.cells (nl a).toArray 68)).alloc (.cells (nl b).toArray 68)).alloc (.cells #[.int .u64 0,.int .u64 0,.int .u64 0,.int .u64 0] 68)).alloc (.cells #[.int .u64 0,.int .u64 0,.int .u64 0,.int .u64 0] 68))):=SS.two40 w a b
 go_enter Tryz.func89,Tryz.ntmps89
 go_wp2
 go_loopw [6,8] (fun c i wr => ∃ k x0 x1 x2 x3 d:Int,i = .int .i64 k∧c = .int .u64 d∧cz a b k x0 x1 x2 x3 d∧wr.heap[w.heap.size+1+1+1]? = some (.cells #[.int .u64 x0,.int .u64 x1,.int .u64 x2,.int .u64 x3] 68 (0,0))∧SS w [(w.heap.size,nl a,68),(w.heap.size+1,nl b,68)] (w.heap.size+1+1) 4 wr) (fun _ i _=>4 - (intOf i).toNat)
 case atStart=>exact ⟨0,0,0,0,0,0,rfl,rfl,by unfold cz Word;omega,ai _ _ _ (by simp),HSS0.out⟩
 case round =>
  obtain ⟨k,x0,x1,x2,x3,c,rfl,rfl,hrl,hout,hss⟩:=hrel
  have HR:Hid (cz a b k x0 x1 x2 x3 c):=hrl
  have HO:Hid (wr.heap[w.heap.size+1+1+1]? = some (.cells #[.int .u64 x0,.int .u64 x1,.int .u64 x2,.int .u64 x3] 68 (0,0))):=hout
  have HSS:Hid (SS w [(w.heap.size,nl a,68),(w.heap.size+1,nl b,68)] (w.heap.size+1+1) 4 wr):=hss
  have hk:k=0∨k=1∨k=2∨k=3∨k=4:=by have:=hrl.1;have:=hrl.2.1;omega
  have hout2:wr.drew.heap[w.heap.size+1+1+1]? = some (.cells #[.int .u64 x0,.int .u64 x1,.int .u64 x2,.int .u64 x3] 68 (0,0)):=hout
  obtain ⟨o0,o1,o2,o3,p0,p1,p2,p3⟩:=four hout2
  clear hrl hout hss hout2
  rcases hk with rfl | rfl | rfl | rfl | rfl
  ·obtain ⟨v,hv⟩ : ∃ v,v=(lw a 0+lw b 0+c) % 18446744073709551616:=⟨_,rfl⟩
   obtain ⟨c',hc'⟩ : ∃ c',c'=(lw a 0+lw b 0+c)/18446744073709551616:=⟨_,rfl⟩
   have hs : ∀ w,(callFunc 108 #[.int .u64 (lw a 0),.int .u64 (lw b 0),.int .u64 c]).run Tryz.prog w = .ok (.value (.tuple #[.int .u64 v,.int .u64 c'])) w:=fun w=>by
    rw [hv,hc'];exact iA (lw a 0) (lw b 0) c (ah a 0).1 (ah b 0).1 HR.out.2.2.1 HR.out.2.2.2.1 w
   have HV:Hid (cz a b 1 v x1 x2 x3 c'):=by
    obtain ⟨r1,r2,r3,r4,r5,r6,r7,r8,r9,ra,rb,rc,rd⟩:=HR.out
    have h0:=ah a 0;have h1:=ah a 1;have h2:=ah a 2;have h3:=ah a 3
    have g0:=ah b 0;have g1:=ah b 1;have g2:=ah b 2;have g3:=ah b 3
    have e:=r9 rfl
    clear r9 ra rb rc rd
    show cz _ _ _ _ _ _ _ _
    unfold cz
    unfold Word at *
    refine ⟨by omega,by omega,?_,?_,?_,?_,?_,?_,?_,?_,?_,?_,?_⟩
    all_goals (try intro _)
    all_goals omega
   clear hv hc'
   go_wp2_with fail
   refine wp_region_held_drew (S:=(fun w'=>SS w [(w.heap.size,nl a,68),(w.heap.size+1,nl b,68)] (w.heap.size+1+1) 4 w')) (by kernel_rfl) ?_ (fun hHeld => ?_)
   ·exact HSS.out.drew
   refine aq (i:=0) (v := ?_) 12 rfl rfl (by kernel_rfl) (by kernel_rfl) (by kernel_rfl) (fun _ _ _ h=>h) (Or.inl ⟨by rfl,?_⟩) hHeld ?_
   rotate_left 1
   ·intro w hSw;go_simp <;> with_reducible rfl
   simp only [Act.put,qA,qC,qB]
   refine aq (i:=1) (v := ?_) 13 rfl rfl (by kernel_rfl) (by kernel_rfl) (by kernel_rfl) (fun _ _ _ h=>h) (Or.inl ⟨by rfl,?_⟩) hHeld ?_
   rotate_left 1
   ·intro w hSw;go_simp <;> with_reducible rfl
   simp only [Act.put,qA,qC,qB]
   refine aq (i:=2) (v := ?_) 14 rfl rfl (by kernel_rfl) (by kernel_rfl) (by kernel_rfl) (fun _ _ _ h=>h) (Or.inl ⟨by rfl,?_⟩) hHeld ?_
   rotate_left 1
   ·intro w hSw;go_simp <;> with_reducible rfl
   simp only [Act.put,qA,qC,qB]
   refine aq (i:=3) (v := ?_) 15 rfl rfl (by kernel_rfl) (by kernel_rfl) (by kernel_rfl) (fun _ _ _ h=>h) (Or.inl ⟨by rfl,?_⟩) hHeld ?_
   rotate_left 1
   ·intro w hSw;obtain ⟨c0,c1,c2,c3,f0,f1,f2,f3⟩:=four (hSw.holds 0 _ _ _ rfl);go_simp <;> with_reducible rfl
   simp only [Act.put,qA,qC,qB]
   refine aq (i:=4) (v := ?_) 16 rfl rfl (by kernel_rfl) (by kernel_rfl) (by kernel_rfl) (fun _ _ _ h=>h) (Or.inl ⟨by rfl,?_⟩) hHeld ?_
   rotate_left 1
   ·intro w hSw;go_simp <;> with_reducible rfl
   simp only [Act.put,qA,qC,qB]
   refine aq (i:=5) (v := ?_) 17 rfl rfl (by kernel_rfl) (by kernel_rfl) (by kernel_rfl) (fun _ _ _ h=>h) (Or.inl ⟨by rfl,?_⟩) hHeld ?_
   rotate_left 1
   ·intro w hSw;go_simp <;> with_reducible rfl
   simp only [Act.put,qA,qC,qB]
   refine aq (i:=6) (v := ?_) 18 rfl rfl (by kernel_rfl) (by kernel_rfl) (by kernel_rfl) (fun _ _ _ h=>h) (Or.inl ⟨by rfl,?_⟩) hHeld ?_
   rotate_left 1
   ·intro w hSw;obtain ⟨c0,c1,c2,c3,f0,f1,f2,f3⟩:=four (hSw.holds 1 _ _ _ rfl);go_simp <;> with_reducible rfl
   simp only [Act.put,qA,qC,qB]
   refine aq (i:=7) (v := ?_) 19 rfl rfl (by kernel_rfl) (by kernel_rfl) (by kernel_rfl) (fun _ _ _ h=>h) (Or.inl ⟨by rfl,?_⟩) hHeld ?_
   rotate_left 1
   ·intro w hSw;go_simp <;> with_reducible rfl
   simp only [Act.put,qA,qC,qB]
   refine aq (i:=8) (v := ?_) 20 rfl rfl (by kernel_rfl) (by kernel_rfl) (by kernel_rfl) (fun _ _ _ h=>h) (Or.inl ⟨by rfl,?_⟩) hHeld ?_
   rotate_left 1
   ·intro w hSw;go_simp <;> with_reducible rfl
   simp only [Act.put,qA,qC,qB]
   refine aq (i:=9) (v := ?_) 11 rfl rfl (by kernel_rfl) (by kernel_rfl) (by kernel_rfl) (fun _ _ _ h=>h) (Or.inl ⟨by rfl,?_⟩) hHeld ?_
   rotate_left 1
   ·intro w hSw;go_simp <;> with_reducible rfl
   simp only [Act.put,qA,qC,qB]
   refine aq (i:=10) (v := ?_) 21 rfl rfl (by kernel_rfl) (by kernel_rfl) (by kernel_rfl) (fun _ _ _ h=>h) (Or.inl ⟨by rfl,?_⟩) hHeld ?_
   rotate_left 1
   ·intro w hSw;go_simp <;> with_reducible rfl
   simp only [Act.put,qA,qC,qB]
   refine aq (i:=11) (v := ?_) 22 rfl rfl (by kernel_rfl) (by kernel_rfl) (by kernel_rfl) (fun _ _ _ h=>h) (Or.inl ⟨by rfl,?_⟩) hHeld ?_
   rotate_left 1
   ·intro w hSw;go_simp <;> with_reducible rfl
   simp only [Act.put,qA,qC,qB]
   refine aq (i:=12) (v := ?_) 23 rfl rfl (by kernel_rfl) (by kernel_rfl) (by kernel_rfl) (fun _ _ _ h=>h) (Or.inl ⟨by rfl,?_⟩) hHeld ?_
   rotate_left 1
   ·intro w hSw;go_simp <;> with_reducible rfl
   simp only [Act.put,qA,qC,qB]
   refine wpAnyH_ready (rs:=[13]) (by kernel_rfl) (by simp) ?_
   refine AllReadyH.cons rfl (fun K hK => ?_) AllReadyH.nil
   go_simp
   refine hK.out _ _ ?_ (fun hHeld => ?_)
   ·exact hHeld.cell (by omega) (ne2 (by omega) (by omega)) _
   clear hK K
   try simp only [Act.put,qA,qC,qB]
   refine aq (i:=14) (v := ?_) 6 rfl rfl (by kernel_rfl) (by kernel_rfl) (by kernel_rfl) (fun _ _ _ h=>h) (Or.inl ⟨by rfl,?_⟩) hHeld ?_
   rotate_left 1
   ·intro w hSw;go_simp <;> with_reducible rfl
   simp only [Act.put,qA,qC,qB]
   refine wpAnyH_done (by kernel_rfl) ?_ _
   have HO2:Hid ((wr.drew.setCell ⟨w.heap.size+1+1+1,0,none⟩ (.int .u64 v)).heap[w.heap.size+1+1+1]? = some (.cells #[.int .u64 v,.int .u64 x1,.int .u64 x2,.int .u64 x3] 68 (0,0))):=ee (k:=0) (.int .u64 v) (w:=wr.drew) HO.out
   have HS2:Hid (SS w [(w.heap.size,nl a,68),(w.heap.size+1,nl b,68)] (w.heap.size+1+1) 4 _):=hHeld
   clear hHeld
   go_wp2
   go_roundw
   case rel=>exact ⟨1,v,x1,x2,x3,c',rfl,rfl,HV.out,HO2.out,HS2.out⟩
   case measure=>simp [intOf]
  ·obtain ⟨v,hv⟩ : ∃ v,v=(lw a 1+lw b 1+c) % 18446744073709551616:=⟨_,rfl⟩
   obtain ⟨c',hc'⟩ : ∃ c',c'=(lw a 1+lw b 1+c)/18446744073709551616:=⟨_,rfl⟩
   have hs : ∀ w,(callFunc 108 #[.int .u64 (lw a 1),.int .u64 (lw b 1),.int .u64 c]).run Tryz.prog w = .ok (.value (.tuple #[.int .u64 v,.int .u64 c'])) w:=fun w=>by
    rw [hv,hc'];exact iA (lw a 1) (lw b 1) c (ah a 1).1 (ah b 1).1 HR.out.2.2.1 HR.out.2.2.2.1 w
   have HV:Hid (cz a b 2 x0 v x2 x3 c'):=by
    obtain ⟨r1,r2,r3,r4,r5,r6,r7,r8,r9,ra,rb,rc,rd⟩:=HR.out
    have h0:=ah a 0;have h1:=ah a 1;have h2:=ah a 2;have h3:=ah a 3
    have g0:=ah b 0;have g1:=ah b 1;have g2:=ah b 2;have g3:=ah b 3
    have e:=ra rfl
    clear r9 ra rb rc rd
    show cz _ _ _ _ _ _ _ _
    unfold cz
    unfold Word at *
    refine ⟨by omega,by omega,?_,?_,?_,?_,?_,?_,?_,?_,?_,?_,?_⟩
    all_goals (try intro _)
    all_goals omega
   clear hv hc'
   go_wp2_with fail
   refine wp_region_held_drew (S:=(fun w'=>SS w [(w.heap.size,nl a,68),(w.heap.size+1,nl b,68)] (w.heap.size+1+1) 4 w')) (by kernel_rfl) ?_ (fun hHeld => ?_)
   ·exact HSS.out.drew
   refine aq (i:=0) (v := ?_) 12 rfl rfl (by kernel_rfl) (by kernel_rfl) (by kernel_rfl) (fun _ _ _ h=>h) (Or.inl ⟨by rfl,?_⟩) hHeld ?_
   rotate_left 1
   ·intro w hSw;go_simp <;> with_reducible rfl
   simp only [Act.put,qA,qC,qB]
   refine aq (i:=1) (v := ?_) 13 rfl rfl (by kernel_rfl) (by kernel_rfl) (by kernel_rfl) (fun _ _ _ h=>h) (Or.inl ⟨by rfl,?_⟩) hHeld ?_
   rotate_left 1
   ·intro w hSw;go_simp <;> with_reducible rfl
   simp only [Act.put,qA,qC,qB]
   refine aq (i:=2) (v := ?_) 14 rfl rfl (by kernel_rfl) (by kernel_rfl) (by kernel_rfl) (fun _ _ _ h=>h) (Or.inl ⟨by rfl,?_⟩) hHeld ?_
   rotate_left 1
   ·intro w hSw;go_simp <;> with_reducible rfl
   simp only [Act.put,qA,qC,qB]
   refine aq (i:=3) (v := ?_) 15 rfl rfl (by kernel_rfl) (by kernel_rfl) (by kernel_rfl) (fun _ _ _ h=>h) (Or.inl ⟨by rfl,?_⟩) hHeld ?_
   rotate_left 1
   ·intro w hSw;obtain ⟨c0,c1,c2,c3,f0,f1,f2,f3⟩:=four (hSw.holds 0 _ _ _ rfl);go_simp <;> with_reducible rfl
   simp only [Act.put,qA,qC,qB]
   refine aq (i:=4) (v := ?_) 16 rfl rfl (by kernel_rfl) (by kernel_rfl) (by kernel_rfl) (fun _ _ _ h=>h) (Or.inl ⟨by rfl,?_⟩) hHeld ?_
   rotate_left 1
   ·intro w hSw;go_simp <;> with_reducible rfl
   simp only [Act.put,qA,qC,qB]
   refine aq (i:=5) (v := ?_) 17 rfl rfl (by kernel_rfl) (by kernel_rfl) (by kernel_rfl) (fun _ _ _ h=>h) (Or.inl ⟨by rfl,?_⟩) hHeld ?_
   rotate_left 1
   ·intro w hSw;go_simp <;> with_reducible rfl
   simp only [Act.put,qA,qC,qB]
   refine aq (i:=6) (v := ?_) 18 rfl rfl (by kernel_rfl) (by kernel_rfl) (by kernel_rfl) (fun _ _ _ h=>h) (Or.inl ⟨by rfl,?_⟩) hHeld ?_
   rotate_left 1
   ·intro w hSw;obtain ⟨c0,c1,c2,c3,f0,f1,f2,f3⟩:=four (hSw.holds 1 _ _ _ rfl);go_simp <;> with_reducible rfl
   simp only [Act.put,qA,qC,qB]
   refine aq (i:=7) (v := ?_) 19 rfl rfl (by kernel_rfl) (by kernel_rfl) (by kernel_rfl) (fun _ _ _ h=>h) (Or.inl ⟨by rfl,?_⟩) hHeld ?_
   rotate_left 1
   ·intro w hSw;go_simp <;> with_reducible rfl
   simp only [Act.put,qA,qC,qB]
   refine aq (i:=8) (v := ?_) 20 rfl rfl (by kernel_rfl) (by kernel_rfl) (by kernel_rfl) (fun _ _ _ h=>h) (Or.inl ⟨by rfl,?_⟩) hHeld ?_
   rotate_left 1
   ·intro w hSw;go_simp <;> with_reducible rfl
   simp only [Act.put,qA,qC,qB]
   refine aq (i:=9) (v := ?_) 11 rfl rfl (by kernel_rfl) (by kernel_rfl) (by kernel_rfl) (fun _ _ _ h=>h) (Or.inl ⟨by rfl,?_⟩) hHeld ?_
   rotate_left 1
   ·intro w hSw;go_simp <;> with_reducible rfl
   simp only [Act.put,qA,qC,qB]
   refine aq (i:=10) (v := ?_) 21 rfl rfl (by kernel_rfl) (by kernel_rfl) (by kernel_rfl) (fun _ _ _ h=>h) (Or.inl ⟨by rfl,?_⟩) hHeld ?_
   rotate_left 1
   ·intro w hSw;go_simp <;> with_reducible rfl
   simp only [Act.put,qA,qC,qB]
   refine aq (i:=11) (v := ?_) 22 rfl rfl (by kernel_rfl) (by kernel_rfl) (by kernel_rfl) (fun _ _ _ h=>h) (Or.inl ⟨by rfl,?_⟩) hHeld ?_
   rotate_left 1
   ·intro w hSw;go_simp <;> with_reducible rfl
   simp only [Act.put,qA,qC,qB]
   refine aq (i:=12) (v := ?_) 23 rfl rfl (by kernel_rfl) (by kernel_rfl) (by kernel_rfl) (fun _ _ _ h=>h) (Or.inl ⟨by rfl,?_⟩) hHeld ?_
   rotate_left 1
   ·intro w hSw;go_simp <;> with_reducible rfl
   simp only [Act.put,qA,qC,qB]
   refine wpAnyH_ready (rs:=[13]) (by kernel_rfl) (by simp) ?_
   refine AllReadyH.cons rfl (fun K hK => ?_) AllReadyH.nil
   go_simp
   refine hK.out _ _ ?_ (fun hHeld => ?_)
   ·exact hHeld.cell (by omega) (ne2 (by omega) (by omega)) _
   clear hK K
   try simp only [Act.put,qA,qC,qB]
   refine aq (i:=14) (v := ?_) 6 rfl rfl (by kernel_rfl) (by kernel_rfl) (by kernel_rfl) (fun _ _ _ h=>h) (Or.inl ⟨by rfl,?_⟩) hHeld ?_
   rotate_left 1
   ·intro w hSw;go_simp <;> with_reducible rfl
   simp only [Act.put,qA,qC,qB]
   refine wpAnyH_done (by kernel_rfl) ?_ _
   have HO2:Hid ((wr.drew.setCell ⟨w.heap.size+1+1+1,1,none⟩ (.int .u64 v)).heap[w.heap.size+1+1+1]? = some (.cells #[.int .u64 x0,.int .u64 v,.int .u64 x2,.int .u64 x3] 68 (0,0))):=ee (k:=1) (.int .u64 v) (w:=wr.drew) HO.out
   have HS2:Hid (SS w [(w.heap.size,nl a,68),(w.heap.size+1,nl b,68)] (w.heap.size+1+1) 4 _):=hHeld
   clear hHeld
   go_wp2
   go_roundw
   case rel=>exact ⟨2,x0,v,x2,x3,c',rfl,rfl,HV.out,HO2.out,HS2.out⟩
   case measure=>simp [intOf]
  ·obtain ⟨v,hv⟩ : ∃ v,v=(lw a 2+lw b 2+c) % 18446744073709551616:=⟨_,rfl⟩
   obtain ⟨c',hc'⟩ : ∃ c',c'=(lw a 2+lw b 2+c)/18446744073709551616:=⟨_,rfl⟩
   have hs : ∀ w,(callFunc 108 #[.int .u64 (lw a 2),.int .u64 (lw b 2),.int .u64 c]).run Tryz.prog w = .ok (.value (.tuple #[.int .u64 v,.int .u64 c'])) w:=fun w=>by
    rw [hv,hc'];exact iA (lw a 2) (lw b 2) c (ah a 2).1 (ah b 2).1 HR.out.2.2.1 HR.out.2.2.2.1 w
   have HV:Hid (cz a b 3 x0 x1 v x3 c'):=by
    obtain ⟨r1,r2,r3,r4,r5,r6,r7,r8,r9,ra,rb,rc,rd⟩:=HR.out
    have h0:=ah a 0;have h1:=ah a 1;have h2:=ah a 2;have h3:=ah a 3
    have g0:=ah b 0;have g1:=ah b 1;have g2:=ah b 2;have g3:=ah b 3
    have e:=rb rfl
    clear r9 ra rb rc rd
    show cz _ _ _ _ _ _ _ _
    unfold cz
    unfold Word at *
    refine ⟨by omega,by omega,?_,?_,?_,?_,?_,?_,?_,?_,?_,?_,?_⟩
    all_goals (try intro _)
    all_goals omega
   clear hv hc'
   go_wp2_with fail
   refine wp_region_held_drew (S:=(fun w'=>SS w [(w.heap.size,nl a,68),(w.heap.size+1,nl b,68)] (w.heap.size+1+1) 4 w')) (by kernel_rfl) ?_ (fun hHeld => ?_)
   ·exact HSS.out.drew
   refine aq (i:=0) (v := ?_) 12 rfl rfl (by kernel_rfl) (by kernel_rfl) (by kernel_rfl) (fun _ _ _ h=>h) (Or.inl ⟨by rfl,?_⟩) hHeld ?_
   rotate_left 1
   ·intro w hSw;go_simp <;> with_reducible rfl
   simp only [Act.put,qA,qC,qB]
   refine aq (i:=1) (v := ?_) 13 rfl rfl (by kernel_rfl) (by kernel_rfl) (by kernel_rfl) (fun _ _ _ h=>h) (Or.inl ⟨by rfl,?_⟩) hHeld ?_
   rotate_left 1
   ·intro w hSw;go_simp <;> with_reducible rfl
   simp only [Act.put,qA,qC,qB]
   refine aq (i:=2) (v := ?_) 14 rfl rfl (by kernel_rfl) (by kernel_rfl) (by kernel_rfl) (fun _ _ _ h=>h) (Or.inl ⟨by rfl,?_⟩) hHeld ?_
   rotate_left 1
   ·intro w hSw;go_simp <;> with_reducible rfl
   simp only [Act.put,qA,qC,qB]
   refine aq (i:=3) (v := ?_) 15 rfl rfl (by kernel_rfl) (by kernel_rfl) (by kernel_rfl) (fun _ _ _ h=>h) (Or.inl ⟨by rfl,?_⟩) hHeld ?_
   rotate_left 1
   ·intro w hSw;obtain ⟨c0,c1,c2,c3,f0,f1,f2,f3⟩:=four (hSw.holds 0 _ _ _ rfl);go_simp <;> with_reducible rfl
   simp only [Act.put,qA,qC,qB]
   refine aq (i:=4) (v := ?_) 16 rfl rfl (by kernel_rfl) (by kernel_rfl) (by kernel_rfl) (fun _ _ _ h=>h) (Or.inl ⟨by rfl,?_⟩) hHeld ?_
   rotate_left 1
   ·intro w hSw;go_simp <;> with_reducible rfl
   simp only [Act.put,qA,qC,qB]
   refine aq (i:=5) (v := ?_) 17 rfl rfl (by kernel_rfl) (by kernel_rfl) (by kernel_rfl) (fun _ _ _ h=>h) (Or.inl ⟨by rfl,?_⟩) hHeld ?_
   rotate_left 1
   ·intro w hSw;go_simp <;> with_reducible rfl
   simp only [Act.put,qA,qC,qB]
   refine aq (i:=6) (v := ?_) 18 rfl rfl (by kernel_rfl) (by kernel_rfl) (by kernel_rfl) (fun _ _ _ h=>h) (Or.inl ⟨by rfl,?_⟩) hHeld ?_
   rotate_left 1
   ·intro w hSw;obtain ⟨c0,c1,c2,c3,f0,f1,f2,f3⟩:=four (hSw.holds 1 _ _ _ rfl);go_simp <;> with_reducible rfl
   simp only [Act.put,qA,qC,qB]
   refine aq (i:=7) (v := ?_) 19 rfl rfl (by kernel_rfl) (by kernel_rfl) (by kernel_rfl) (fun _ _ _ h=>h) (Or.inl ⟨by rfl,?_⟩) hHeld ?_
   rotate_left 1
   ·intro w hSw;go_simp <;> with_reducible rfl
   simp only [Act.put,qA,qC,qB]
   refine aq (i:=8) (v := ?_) 20 rfl rfl (by kernel_rfl) (by kernel_rfl) (by kernel_rfl) (fun _ _ _ h=>h) (Or.inl ⟨by rfl,?_⟩) hHeld ?_
   rotate_left 1
   ·intro w hSw;go_simp <;> with_reducible rfl
   simp only [Act.put,qA,qC,qB]
   refine aq (i:=9) (v := ?_) 11 rfl rfl (by kernel_rfl) (by kernel_rfl) (by kernel_rfl) (fun _ _ _ h=>h) (Or.inl ⟨by rfl,?_⟩) hHeld ?_
   rotate_left 1
   ·intro w hSw;go_simp <;> with_reducible rfl
   simp only [Act.put,qA,qC,qB]
   refine aq (i:=10) (v := ?_) 21 rfl rfl (by kernel_rfl) (by kernel_rfl) (by kernel_rfl) (fun _ _ _ h=>h) (Or.inl ⟨by rfl,?_⟩) hHeld ?_
   rotate_left 1
   ·intro w hSw;go_simp <;> with_reducible rfl
   simp only [Act.put,qA,qC,qB]
   refine aq (i:=11) (v := ?_) 22 rfl rfl (by kernel_rfl) (by kernel_rfl) (by kernel_rfl) (fun _ _ _ h=>h) (Or.inl ⟨by rfl,?_⟩) hHeld ?_
   rotate_left 1
   ·intro w hSw;go_simp <;> with_reducible rfl
   simp only [Act.put,qA,qC,qB]
   refine aq (i:=12) (v := ?_) 23 rfl rfl (by kernel_rfl) (by kernel_rfl) (by kernel_rfl) (fun _ _ _ h=>h) (Or.inl ⟨by rfl,?_⟩) hHeld ?_
   rotate_left 1
   ·intro w hSw;go_simp <;> with_reducible rfl
   simp only [Act.put,qA,qC,qB]
   refine wpAnyH_ready (rs:=[13]) (by kernel_rfl) (by simp) ?_
   refine AllReadyH.cons rfl (fun K hK => ?_) AllReadyH.nil
   go_simp
   refine hK.out _ _ ?_ (fun hHeld => ?_)
   ·exact hHeld.cell (by omega) (ne2 (by omega) (by omega)) _
   clear hK K
   try simp only [Act.put,qA,qC,qB]
   refine aq (i:=14) (v := ?_) 6 rfl rfl (by kernel_rfl) (by kernel_rfl) (by kernel_rfl) (fun _ _ _ h=>h) (Or.inl ⟨by rfl,?_⟩) hHeld ?_
   rotate_left 1
   ·intro w hSw;go_simp <;> with_reducible rfl
   simp only [Act.put,qA,qC,qB]
   refine wpAnyH_done (by kernel_rfl) ?_ _
   have HO2:Hid ((wr.drew.setCell ⟨w.heap.size+1+1+1,2,none⟩ (.int .u64 v)).heap[w.heap.size+1+1+1]? = some (.cells #[.int .u64 x0,.int .u64 x1,.int .u64 v,.int .u64 x3] 68 (0,0))):=ee (k:=2) (.int .u64 v) (w:=wr.drew) HO.out
   have HS2:Hid (SS w [(w.heap.size,nl a,68),(w.heap.size+1,nl b,68)] (w.heap.size+1+1) 4 _):=hHeld
   clear hHeld
   go_wp2
   go_roundw
   case rel=>exact ⟨3,x0,x1,v,x3,c',rfl,rfl,HV.out,HO2.out,HS2.out⟩
   case measure=>simp [intOf]
  ·obtain ⟨v,hv⟩ : ∃ v,v=(lw a 3+lw b 3+c) % 18446744073709551616:=⟨_,rfl⟩
   obtain ⟨c',hc'⟩ : ∃ c',c'=(lw a 3+lw b 3+c)/18446744073709551616:=⟨_,rfl⟩
   have hs : ∀ w,(callFunc 108 #[.int .u64 (lw a 3),.int .u64 (lw b 3),.int .u64 c]).run Tryz.prog w = .ok (.value (.tuple #[.int .u64 v,.int .u64 c'])) w:=fun w=>by
    rw [hv,hc'];exact iA (lw a 3) (lw b 3) c (ah a 3).1 (ah b 3).1 HR.out.2.2.1 HR.out.2.2.2.1 w
   have HV:Hid (cz a b 4 x0 x1 x2 v c'):=by
    obtain ⟨r1,r2,r3,r4,r5,r6,r7,r8,r9,ra,rb,rc,rd⟩:=HR.out
    have h0:=ah a 0;have h1:=ah a 1;have h2:=ah a 2;have h3:=ah a 3
    have g0:=ah b 0;have g1:=ah b 1;have g2:=ah b 2;have g3:=ah b 3
    have e:=rc rfl
    clear r9 ra rb rc rd
    show cz _ _ _ _ _ _ _ _
    unfold cz
    unfold Word at *
    refine ⟨by omega,by omega,?_,?_,?_,?_,?_,?_,?_,?_,?_,?_,?_⟩
    all_goals (try intro _)
    all_goals omega
   clear hv hc'
   go_wp2_with fail
   refine wp_region_held_drew (S:=(fun w'=>SS w [(w.heap.size,nl a,68),(w.heap.size+1,nl b,68)] (w.heap.size+1+1) 4 w')) (by kernel_rfl) ?_ (fun hHeld => ?_)
   ·exact HSS.out.drew
   refine aq (i:=0) (v := ?_) 12 rfl rfl (by kernel_rfl) (by kernel_rfl) (by kernel_rfl) (fun _ _ _ h=>h) (Or.inl ⟨by rfl,?_⟩) hHeld ?_
   rotate_left 1
   ·intro w hSw;go_simp <;> with_reducible rfl
   simp only [Act.put,qA,qC,qB]
   refine aq (i:=1) (v := ?_) 13 rfl rfl (by kernel_rfl) (by kernel_rfl) (by kernel_rfl) (fun _ _ _ h=>h) (Or.inl ⟨by rfl,?_⟩) hHeld ?_
   rotate_left 1
   ·intro w hSw;go_simp <;> with_reducible rfl
   simp only [Act.put,qA,qC,qB]
   refine aq (i:=2) (v := ?_) 14 rfl rfl (by kernel_rfl) (by kernel_rfl) (by kernel_rfl) (fun _ _ _ h=>h) (Or.inl ⟨by rfl,?_⟩) hHeld ?_
   rotate_left 1
   ·intro w hSw;go_simp <;> with_reducible rfl
   simp only [Act.put,qA,qC,qB]
   refine aq (i:=3) (v := ?_) 15 rfl rfl (by kernel_rfl) (by kernel_rfl) (by kernel_rfl) (fun _ _ _ h=>h) (Or.inl ⟨by rfl,?_⟩) hHeld ?_
   rotate_left 1
   ·intro w hSw;obtain ⟨c0,c1,c2,c3,f0,f1,f2,f3⟩:=four (hSw.holds 0 _ _ _ rfl);go_simp <;> with_reducible rfl
   simp only [Act.put,qA,qC,qB]
   refine aq (i:=4) (v := ?_) 16 rfl rfl (by kernel_rfl) (by kernel_rfl) (by kernel_rfl) (fun _ _ _ h=>h) (Or.inl ⟨by rfl,?_⟩) hHeld ?_
   rotate_left 1
   ·intro w hSw;go_simp <;> with_reducible rfl
   simp only [Act.put,qA,qC,qB]
   refine aq (i:=5) (v := ?_) 17 rfl rfl (by kernel_rfl) (by kernel_rfl) (by kernel_rfl) (fun _ _ _ h=>h) (Or.inl ⟨by rfl,?_⟩) hHeld ?_
   rotate_left 1
   ·intro w hSw;go_simp <;> with_reducible rfl
   simp only [Act.put,qA,qC,qB]
   refine aq (i:=6) (v := ?_) 18 rfl rfl (by kernel_rfl) (by kernel_rfl) (by kernel_rfl) (fun _ _ _ h=>h) (Or.inl ⟨by rfl,?_⟩) hHeld ?_
   rotate_left 1
   ·intro w hSw;obtain ⟨c0,c1,c2,c3,f0,f1,f2,f3⟩:=four (hSw.holds 1 _ _ _ rfl);go_simp <;> with_reducible rfl
   simp only [Act.put,qA,qC,qB]
   refine aq (i:=7) (v := ?_) 19 rfl rfl (by kernel_rfl) (by kernel_rfl) (by kernel_rfl) (fun _ _ _ h=>h) (Or.inl ⟨by rfl,?_⟩) hHeld ?_
   rotate_left 1
   ·intro w hSw;go_simp <;> with_reducible rfl
   simp only [Act.put,qA,qC,qB]
   refine aq (i:=8) (v := ?_) 20 rfl rfl (by kernel_rfl) (by kernel_rfl) (by kernel_rfl) (fun _ _ _ h=>h) (Or.inl ⟨by rfl,?_⟩) hHeld ?_
   rotate_left 1
   ·intro w hSw;go_simp <;> with_reducible rfl
   simp only [Act.put,qA,qC,qB]
   refine aq (i:=9) (v := ?_) 11 rfl rfl (by kernel_rfl) (by kernel_rfl) (by kernel_rfl) (fun _ _ _ h=>h) (Or.inl ⟨by rfl,?_⟩) hHeld ?_
   rotate_left 1
   ·intro w hSw;go_simp <;> with_reducible rfl
   simp only [Act.put,qA,qC,qB]
   refine aq (i:=10) (v := ?_) 21 rfl rfl (by kernel_rfl) (by kernel_rfl) (by kernel_rfl) (fun _ _ _ h=>h) (Or.inl ⟨by rfl,?_⟩) hHeld ?_
   rotate_left 1
   ·intro w hSw;go_simp <;> with_reducible rfl
   simp only [Act.put,qA,qC,qB]
   refine aq (i:=11) (v := ?_) 22 rfl rfl (by kernel_rfl) (by kernel_rfl) (by kernel_rfl) (fun _ _ _ h=>h) (Or.inl ⟨by rfl,?_⟩) hHeld ?_
   rotate_left 1
   ·intro w hSw;go_simp <;> with_reducible rfl
   simp only [Act.put,qA,qC,qB]
   refine aq (i:=12) (v := ?_) 23 rfl rfl (by kernel_rfl) (by kernel_rfl) (by kernel_rfl) (fun _ _ _ h=>h) (Or.inl ⟨by rfl,?_⟩) hHeld ?_
   rotate_left 1
   ·intro w hSw;go_simp <;> with_reducible rfl
   simp only [Act.put,qA,qC,qB]
   refine wpAnyH_ready (rs:=[13]) (by kernel_rfl) (by simp) ?_
   refine AllReadyH.cons rfl (fun K hK => ?_) AllReadyH.nil
   go_simp
   refine hK.out _ _ ?_ (fun hHeld => ?_)
   ·exact hHeld.cell (by omega) (ne2 (by omega) (by omega)) _
   clear hK K
   try simp only [Act.put,qA,qC,qB]
   refine aq (i:=14) (v := ?_) 6 rfl rfl (by kernel_rfl) (by kernel_rfl) (by kernel_rfl) (fun _ _ _ h=>h) (Or.inl ⟨by rfl,?_⟩) hHeld ?_
   rotate_left 1
   ·intro w hSw;go_simp <;> with_reducible rfl
   simp only [Act.put,qA,qC,qB]
   refine wpAnyH_done (by kernel_rfl) ?_ _
   have HO2:Hid ((wr.drew.setCell ⟨w.heap.size+1+1+1,3,none⟩ (.int .u64 v)).heap[w.heap.size+1+1+1]? = some (.cells #[.int .u64 x0,.int .u64 x1,.int .u64 x2,.int .u64 v] 68 (0,0))):=ee (k:=3) (.int .u64 v) (w:=wr.drew) HO.out
   have HS2:Hid (SS w [(w.heap.size,nl a,68),(w.heap.size+1,nl b,68)] (w.heap.size+1+1) 4 _):=hHeld
   clear hHeld
   go_wp2
   go_roundw
   case rel=>exact ⟨4,x0,x1,x2,v,c',rfl,rfl,HV.out,HO2.out,HS2.out⟩
   case measure=>simp [intOf]
  ·obtain ⟨y0,y1,y2,y3,z0,z1,z2,z3⟩:=four HO.out
   have hxo:Num.ok ⟨x0,x1,x2,x3⟩:=⟨HR.out.2.2.2.2.1,HR.out.2.2.2.2.2.1,HR.out.2.2.2.2.2.2.1,HR.out.2.2.2.2.2.2.2.1⟩
   have hcw:Word c:=⟨HR.out.2.2.1,by have:=HR.out.2.2.2.1;omega⟩
   go_wp2_with fail
   refine (ng ⟨x0,x1,x2,x3⟩ c hxo hcw _).mono ?_
   rintro e w1 ⟨s,rfl,hs,⟨es,fs⟩,hb1⟩
   obtain ⟨m,hm,hv,rfl⟩:=Num.to_of hs
   obtain ⟨O,hO,hOv,hOe⟩:=Num.to_of hxo
   obtain ⟨cn,hcn⟩ : ∃ cn:Nat,(cn:Int)=c:=⟨c.toNat,by have:=HR.out.2.2.1;omega⟩
   have HS1:=HSS.out.call hb1
   have HT:Hid (w1.there (w.heap.size+1+1) 0 4):=HS1.there
   have HB:Hid (Below w.heap.size w w1):=HS1.below
   have HE:Hid (m % pp=(a+b) % pp∧m=fX (a+b)):=by
    have ea:=Num.of_val a ha
    have eb:=Num.of_val b hb
    have e:=HR.out.2.2.2.2.2.2.2.2.2.2.2.2 rfl
    have e2:Num.val ⟨x0,x1,x2,x3⟩+c*RR=((a+b:Nat):Int):=by
     rw [Int.natCast_add,←ea,←eb]
     simp only [Num.val,Num.of,RR] at *
     exact e
    rw [e2,←hv,←fE,←fE] at es
    refine ⟨by omega,?_⟩
    rw [←hOv,←hcn] at e2 fs
    refine H5 hO (x:=cn) ?_ (hv.trans fs)
    simp only [RR,RN] at *
    omega
   clear HS1 hb1 es fs hv hOv hOe hcn
   rw [Ia]
   unfold nv
   go_wp2_with (refine wpList_store_mid rfl 68 _ _ rfl (w.heap.size+1+1) 0 (nl m).toArray rfl rfl HT.out (r4 _) (aU _) ?_)
   refine bodyPost_ret (v := .agg (nl m).toArray) (aH Tryz.results89 _ _ (w.heap.size+1+1) 0 (nl m) _ rfl (World.rangeAt_setCells_same _ _ _ _ HT.out) Tryz.underlying68 rfl (r4 _)) rfl ⟨m,hm,rfl,HE.out,af _ (by omega) _ _ _ HB.out⟩
end Go.Proofs.YtajehiidpecknaaGreatDoor
