/- The reference's numbers: p, I, Small, less. -/
import Derived.Test.YtajehiidpecknaaGreatDoorFieS
import Derived.Test.YtajehiidpecknaaGreatDoorScrA
import Derived.Deep.LoopGhost
set_option linter.all false
namespace Go.Proofs.YtajehiidpecknaaGreatDoor
open Go Go.RowKit Go.Lib
set_option maxRecDepth 100000
theorem r4 (n:Nat):(Tryz.prog.info? 68).map (·.size)=some (nl n).length:=by kernel_rfl
theorem Mg:(#[.int .u64 18446744073709551597,.int .u64 18446744073709551615,.int .u64 18446744073709551615,.int .u64 9223372036854775807]:Array Value)=(nl pp).toArray:=by kernel_rfl
theorem jG (w:World):Calls Tryz.prog 120 #[] w fun e w'=>e = .returned (.agg (nl pp).toArray)∧Below w.heap.size w w':=by
 rw [←Mg]
 go_enter Tryz.func120,Tryz.ntmps120
 go_wp2
 simp [bodyPost,results,Tryz.results120,go_sem]
 exact (Below.refl _ _).alloc (Nat.le_refl _) _
theorem BG (w:World):Calls Tryz.prog 124 #[] w fun e w'=>e = .returned (.agg (nl IN).toArray)∧Below w.heap.size w w':=by
 rw [←KU]
 go_enter Tryz.func124,Tryz.ntmps124
 go_wp2
 simp [bodyPost,results,Tryz.results124,go_sem]
 exact (Below.refl _ _).alloc (Nat.le_refl _) _
theorem nk (x:Int) (w:World):Calls Tryz.prog 87 #[.int .u64 x] w fun e w'=>e = .returned (.agg #[.int .u64 x,.int .u64 0,.int .u64 0,.int .u64 0])∧Below w.heap.size w w':=by
 go_enter Tryz.func87,Tryz.ntmps87
 go_wp2
 simp [bodyPost,results,Tryz.results87,go_sem]
 exact (Below.refl _ _).alloc (Nat.le_refl _) _
theorem SS.cell {w0:World} {bs:List (Nat × List Value × TypeId)} {r n q k:Nat} {w:World} (h:SS w0 bs r n w) (hq:w0.heap.size≤q) (hne : ∀ b ∈ bs,¬ b.1=q) (v:Value):SS w0 bs r n (w.setCell ⟨q,k,none⟩ v) :=
 ⟨h.below.setCell hq v,fun i g L t hm=>(aW q g (hne _ (List.mem_of_getElem? hm)) [v] k w).trans (h.holds i g L t hm),World.there_setCells h.there q k [v]⟩
theorem dW {w:World} {g k:Nat} {cs:Array Value} {t:TypeId} (v:Value) (h:w.heap[g]? = some (.cells cs t (0,0))):(w.setCell ⟨g,k,none⟩ v).heap[g]? = some (.cells (cs.setIfInBounds k v) t (0,0)):=heap_setCell_same _ _ _ _ _ _ h
theorem uy (a b:Nat) (ha:a<RN) (hb:b<RN) (hba:b≤a) (w:World) :
  Calls Tryz.prog 125 #[.agg (nl a).toArray,.agg (nl b).toArray] w fun e w'=>e = .returned (.agg (nl (a - b)).toArray)∧Below w.heap.size w w':=by
 have h:=Sc.vb Tryz.func125 (by kernel_rfl) (fun _ _ _ _ _ _ _ _=>by kernel_rfl) (a:=a) (b:=b) ha hb w
 rw [show (a+Sc.RN - b) % Sc.RN=a - b by unfold Sc.RN;unfold RN at ha;omega] at h
 exact h
end Go.Proofs.YtajehiidpecknaaGreatDoor
namespace Go.Proofs.YtajehiidpecknaaGreatDoor
open Go Go.RowKit Go.Lib
set_option maxRecDepth 100000
def FP (k:Nat) (x d:Int):Prop:=d=0∨2≤k∨(k=1∧d=1∧x<700976274800962961408)
theorem SS.num40 (w:World) (n:Num):SS w [] (w.heap.size+1) 4 ((w.alloc (.cells #[.int .u64 n.w0,.int .u64 n.w1,.int .u64 n.w2,.int .u64 n.w3] 68)).alloc (.cells #[.int .u64 0,.int .u64 0,.int .u64 0,.int .u64 0] 68)) :=
 ⟨((Below.refl _ _).alloc (Nat.le_refl _) _).alloc (by simp) _,fun i g L t hm=>by simp at hm,aq (ai _ _ _ (by simp)) 0 4 (by simp)⟩
def foldI (X d:Int):Int:=if X+d*38<RR then X+d*38 else X+d*38 - RR+38
theorem w9 {X:Int} (h:X<RR):foldI X 0=X:=by
 unfold foldI
 rw [Int.zero_mul,Int.add_zero,if_pos h]
theorem tq {V d' X d:Int} (key:V+d'*RR=X+d*38) (hV0:0≤V) (hV:V<RR) (h0:0≤d') (h1:d'≤1) (hX0:0≤X) (hX:X<RR) (hd0:0≤d) (hd:d<18446744073709551616):foldI V d'=foldI X d:=by
 unfold foldI
 simp only [RR] at *
 split <;> split <;> omega
theorem vu (x0 x1 x2 x3 d h l v0 v1 v2 v3 c0 c1 c2 d' N:Int) (hx:Num.ok ⟨x0,x1,x2,x3⟩) (hd:Word d) (hh:Word h) (hl:Word l) (e:d*38=h*18446744073709551616+l)
  (q0:v0=(x0+l) % 18446744073709551616) (p0:c0=(x0+l)/18446744073709551616) (q1:v1=(x1+h+c0) % 18446744073709551616) (p1:c1=(x1+h+c0)/18446744073709551616)
  (q2:v2=(x2+0+c1) % 18446744073709551616) (p2:c2=(x2+0+c1)/18446744073709551616) (q3:v3=(x3+0+c2) % 18446744073709551616) (p3:d'=(x3+0+c2)/18446744073709551616)
  (hm:(Num.val ⟨x0,x1,x2,x3⟩+d*RR) % PP=N) (k:Nat) (hk:FP k (Num.val ⟨x0,x1,x2,x3⟩) d) (hd0 : ¬ d=0) :
  Num.ok ⟨v0,v1,v2,v3⟩∧Word d'∧(Num.val ⟨v0,v1,v2,v3⟩+d'*RR) % PP=N∧FP (k - 1) (Num.val ⟨v0,v1,v2,v3⟩) d'∧k - 1<k∧foldI (Num.val ⟨v0,v1,v2,v3⟩) d'=foldI (Num.val ⟨x0,x1,x2,x3⟩) d:=by
 obtain ⟨⟨a0,b0⟩,⟨a1,b1⟩,⟨a2,b2⟩,⟨a3,b3⟩⟩:=hx
 obtain ⟨hd1,hd2⟩:=hd
 obtain ⟨hh1,hh2⟩:=hh
 obtain ⟨hl1,hl2⟩:=hl
 simp only at a0 b0 a1 b1 a2 b2 a3 b3
 have key:Num.val ⟨v0,v1,v2,v3⟩+d'*RR=Num.val ⟨x0,x1,x2,x3⟩+d*38:=by
  simp only [Num.val,RR];rw [e];omega
 have hok:Num.ok ⟨v0,v1,v2,v3⟩:=⟨⟨by simp only;omega,by simp only;omega⟩,⟨by simp only;omega,by simp only;omega⟩,⟨by simp only;omega,by simp only;omega⟩,⟨by simp only;omega,by simp only;omega⟩⟩
 have hbx:=Num.bound (n:=⟨x0,x1,x2,x3⟩) ⟨⟨a0,b0⟩,⟨a1,b1⟩,⟨a2,b2⟩,⟨a3,b3⟩⟩
 have hbv:=Num.bound hok
 have hw:Word d':=⟨by omega,by omega⟩
 clear q0 p0 q1 p1 q2 p2 q3 p3 e
 obtain ⟨hw1,hw2⟩:=hw
 generalize Num.val ⟨v0,v1,v2,v3⟩=V at *
 generalize Num.val ⟨x0,x1,x2,x3⟩=X at *
 simp only [RR,PP] at *
 have hd1':d'≤1:=by omega
 refine ⟨hok,⟨hw1,hw2⟩,?_,?_,?_,?_⟩
 ·rw [←hm,key]
  omega
 ·unfold FP at hk ⊢
  rcases hk with hk | hk | hk
  ·exact absurd hk hd0
  ·by_cases h1:d'=0
   ·exact .inl h1
   ·by_cases h2:k=2
    ·right;right;omega
    ·right;left;omega
  ·left;omega
 ·unfold FP at hk
  rcases hk with hk | hk | hk
  ·exact absurd hk hd0
  ·omega
  ·omega
 ·exact tq (by simp only [RR];omega) (by omega) (by simp only [RR];omega) hw1 hd1' (by omega) (by simp only [RR];omega) hd1 hd2
def FM (n:Num) (o:Int) (x:Num) (d:Int):Prop:=(x.val+d*RR) % PP=(n.val+o*RR) % PP∧foldI x.val d=foldI n.val o
set_option maxRecDepth 100000 in
set_option maxHeartbeats 2000000 in
theorem mz (n:Num) (o:Int) (hn:n.ok) (ho:Word o) (w:World) :
  Calls Tryz.prog 121 #[n.v,.int .u64 o] w fun e w' => ∃ s:Num,e = .returned s.v∧s.ok∧(s.val % PP=(n.val+o*RR) % PP∧s.val=foldI n.val o)∧Below w.heap.size w w':=by
 have HS0:Hid (SS w [] (w.heap.size+1) 4 _):=SS.num40 w n
 unfold Num.v at *
 go_enter Tryz.func121,Tryz.ntmps121
 go_wp2
 go_loopg [1] 2 (fun k h wr => ∃ (x0 x1 x2 x3 d:Int),h = .int .u64 d∧Num.ok ⟨x0,x1,x2,x3⟩∧Word d∧FM n o ⟨x0,x1,x2,x3⟩ d∧FP k (Num.val ⟨x0,x1,x2,x3⟩) d∧wr.heap[w.heap.size]? = some (.cells #[.int .u64 x0,.int .u64 x1,.int .u64 x2,.int .u64 x3] 68 (0,0))∧SS w [] (w.heap.size+1) 4 wr)
 case atStart=>exact ⟨n.w0,n.w1,n.w2,n.w3,o,rfl,hn,ho,⟨rfl,rfl⟩,.inr (.inl (by omega)),(ao _ _ _ (by simp)).trans (ai _ _ _ rfl),HS0.out⟩
 case round =>
  obtain ⟨x0,x1,x2,x3,d,rfl,hx,hd,hm,hk,hnum,hss⟩:=hrel
  have HX:Hid (Num.ok ⟨x0,x1,x2,x3⟩):=hx
  have HM:Hid (FM n o ⟨x0,x1,x2,x3⟩ d):=hm
  have HK:Hid (FP gk (Num.val ⟨x0,x1,x2,x3⟩) d):=hk
  have HN:Hid (wr.heap[w.heap.size]? = some (.cells #[.int .u64 x0,.int .u64 x1,.int .u64 x2,.int .u64 x3] 68 (0,0))):=hnum
  have HSS:Hid (SS w [] (w.heap.size+1) 4 wr):=hss
  obtain ⟨c0,c1,c2,c3,f0,f1,f2,f3⟩:=four hnum
  clear hx hm hk hnum hss
  by_cases hd0:d=0
  ·subst hd0
   have HT:Hid (wr.there (w.heap.size+1) 0 4):=HSS.out.there
   go_wp2_with (refine wpList_store_mid rfl 68 _ _ rfl (w.heap.size+1) 0 #[.int .u64 x0,.int .u64 x1,.int .u64 x2,.int .u64 x3] rfl rfl HT.out (by kernel_rfl) (by simp [Value.oneCell']) ?_)
   refine bodyPost_ret (v := .agg #[.int .u64 x0,.int .u64 x1,.int .u64 x2,.int .u64 x3]) (aF Tryz.results121 _ _ (w.heap.size+1) 0 [.int .u64 x0,.int .u64 x1,.int .u64 x2,.int .u64 x3] _ rfl (World.rangeAt_setCells_same _ _ _ _ HT.out) Tryz.underlying68 rfl (by kernel_rfl)) rfl ⟨⟨x0,x1,x2,x3⟩,rfl,HX.out,?_,af _ (by omega) _ _ _ HSS.out.below⟩
   obtain ⟨m1,m2⟩:=HM.out
   rw [Int.zero_mul,Int.add_zero] at m1
   have hbb:=(Num.bound HX.out).2
   rw [w9 hbb] at m2
   exact ⟨m1,m2⟩
  ·go_wp2_with fail
   refine (Ct d 38 hd ⟨by decide,by decide⟩ _).mono ?_
   rintro e w' ⟨h,l,rfl,hh,hl,em,rfl⟩
   obtain ⟨v0,q0⟩ : ∃ v,v=(x0+l) % 18446744073709551616:=⟨_,rfl⟩
   obtain ⟨k0,p0⟩ : ∃ v,v=(x0+l)/18446744073709551616:=⟨_,rfl⟩
   obtain ⟨v1,q1⟩ : ∃ v,v=(x1+h+k0) % 18446744073709551616:=⟨_,rfl⟩
   obtain ⟨k1,p1⟩ : ∃ v,v=(x1+h+k0)/18446744073709551616:=⟨_,rfl⟩
   obtain ⟨v2,q2⟩ : ∃ v,v=(x2+0+k1) % 18446744073709551616:=⟨_,rfl⟩
   obtain ⟨k2,p2⟩ : ∃ v,v=(x2+0+k1)/18446744073709551616:=⟨_,rfl⟩
   obtain ⟨v3,q3⟩ : ∃ v,v=(x3+0+k2) % 18446744073709551616:=⟨_,rfl⟩
   obtain ⟨d',p3⟩ : ∃ v,v=(x3+0+k2)/18446744073709551616:=⟨_,rfl⟩
   have HR:=vu x0 x1 x2 x3 d h l v0 v1 v2 v3 k0 k1 k2 d' _ HX.out hd hh hl em q0 p0 q1 p1 q2 p2 q3 p3 HM.out.1 gk HK.out hd0
   have hb:=HX.out
   obtain ⟨⟨a0,b0⟩,⟨a1,b1⟩,⟨a2,b2⟩,⟨a3,b3⟩⟩:=hb
   simp only at a0 b0 a1 b1 a2 b2 a3 b3
   have s0 : ∀ w,(callFunc 108 #[.int .u64 x0,.int .u64 l,.int .u64 0]).run Tryz.prog w = .ok (.value (.tuple #[.int .u64 v0,.int .u64 k0])) w:=fun w=>by
    rw [q0,p0];exact xS x0 l a0 hl.1 w
   have s1 : ∀ w,(callFunc 108 #[.int .u64 x1,.int .u64 h,.int .u64 k0]).run Tryz.prog w = .ok (.value (.tuple #[.int .u64 v1,.int .u64 k1])) w:=fun w=>by
    rw [q1,p1];exact iH x1 h k0 a1 hh.1 (by have:=hl.1;omega) (by have:=hl.2;omega) w
   have s2 : ∀ w,(callFunc 108 #[.int .u64 x2,.int .u64 0,.int .u64 k1]).run Tryz.prog w = .ok (.value (.tuple #[.int .u64 v2,.int .u64 k2])) w:=fun w=>by
    rw [q2,p2];exact iH x2 0 k1 a2 (by omega) (by have:=hl.1;have:=hh.1;omega) (by have:=hl.2;have:=hh.2;omega) w
   have s3 : ∀ w,(callFunc 108 #[.int .u64 x3,.int .u64 0,.int .u64 k2]).run Tryz.prog w = .ok (.value (.tuple #[.int .u64 v3,.int .u64 d'])) w:=fun w=>by
    rw [q3,p3];exact iH x3 0 k2 a3 (by omega) (by have:=hl.1;have:=hh.1;omega) (by have:=hl.2;have:=hh.2;omega) w
   have HRR:Hid (Num.ok ⟨v0,v1,v2,v3⟩∧Word d'∧FM n o ⟨v0,v1,v2,v3⟩ d'∧FP (gk - 1) (Num.val ⟨v0,v1,v2,v3⟩) d'∧gk - 1<gk):=⟨HR.1,HR.2.1,⟨HR.2.2.1,HR.2.2.2.2.2.trans HM.out.2⟩,HR.2.2.2.1,HR.2.2.2.2.1⟩
   clear HR q0 p0 q1 p1 q2 p2 q3 p3 a0 b0 a1 b1 a2 b2 a3 b3 em
   go_wp2
   go_roundg (gk - 1)
   case measure=>exact HRR.out.2.2.2.2
   case rel=>exact ⟨v0,v1,v2,v3,d',rfl,HRR.out.1,HRR.out.2.1,HRR.out.2.2.1,HRR.out.2.2.2.1,cU _ _ _ _ HN.out,HSS.out.put (by omega) (fun b hb=>by simp at hb) [.int .u64 v0,.int .u64 v1,.int .u64 v2,.int .u64 v3]⟩
def fX (T:Nat):Nat:=if T % RN+38*(T/RN)<RN then T % RN+38*(T/RN) else T % RN+38*(T/RN) - RN+38
theorem G3 {O x T z:Nat} (hO:O<RN) (h:O+x*RN=T) (hz:(z:Int)=foldI (O:Int) (x:Int)):z=fX T:=by
 have e1:T % RN=O:=by rw [←h,Nat.add_mul_mod_self_right,Nat.mod_eq_of_lt hO]
 have e2:T/RN=x:=by rw [←h,Nat.add_mul_div_right _ _ (by decide),Nat.div_eq_of_lt hO,Nat.zero_add]
 unfold fX
 rw [e1,e2]
 unfold foldI at hz
 simp only [RR,RN] at *
 split at hz <;> split <;> omega
end Go.Proofs.YtajehiidpecknaaGreatDoor
