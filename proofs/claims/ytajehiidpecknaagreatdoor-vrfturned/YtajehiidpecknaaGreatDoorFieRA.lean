import Derived.Test.YtajehiidpecknaaGreatDoorFieS
import Derived.Test.YtajehiidpecknaaGreatDoorScrA
import Derived.Deep.LoopGhost
set_option linter.all false
namespace Go.Proofs.YtajehiidpecknaaGreatDoor
open Go Go.RowKit Go.Lib
set_option maxRecDepth 100000
theorem r4 (n:Nat):(Tryz.prog.info? 68).map (·.size)=some (nl n).length:=by kernel_rfl
theorem Nx:(#[.int .u64 18446744073709551597,.int .u64 18446744073709551615,.int .u64 18446744073709551615,.int .u64 9223372036854775807]:Array Value)=(nl pp).toArray:=by kernel_rfl
theorem jN (w:World):Calls Tryz.prog 120 #[] w fun e w'=>e = .returned (.agg (nl pp).toArray)∧Below w.heap.size w w':=by
 rw [←Nx]
 go_enter Tryz.func120,Tryz.ntmps120
 go_wp2
 simp [bodyPost,results,Tryz.results120,go_sem]
 exact (Below.refl _ _).alloc (Nat.le_refl _) _
theorem ER (w:World):Calls Tryz.prog 124 #[] w fun e w'=>e = .returned (.agg (nl IN).toArray)∧Below w.heap.size w w':=by
 rw [←Oi]
 go_enter Tryz.func124,Tryz.ntmps124
 go_wp2
 simp [bodyPost,results,Tryz.results124,go_sem]
 exact (Below.refl _ _).alloc (Nat.le_refl _) _
theorem nt (x:Int) (w:World):Calls Tryz.prog 87 #[.int .u64 x] w fun e w'=>e = .returned (.agg #[.int .u64 x,.int .u64 0,.int .u64 0,.int .u64 0])∧Below w.heap.size w w':=by
 go_enter Tryz.func87,Tryz.ntmps87
 go_wp2
 simp [bodyPost,results,Tryz.results87,go_sem]
 exact (Below.refl _ _).alloc (Nat.le_refl _) _
theorem SS.cell {w0:World} {bs:List (Nat × List Value × TypeId)} {r n q k:Nat} {w:World} (h:SS w0 bs r n w) (hq:w0.heap.size≤q) (hne : ∀ b ∈ bs,¬ b.1=q) (v:Value):SS w0 bs r n (w.setCell ⟨q,k,none⟩ v) :=
 ⟨h.below.setCell hq v,fun i g L t hm=>(a7 q g (hne _ (List.mem_of_getElem? hm)) [v] k w).trans (h.holds i g L t hm),World.there_setCells h.there q k [v]⟩
theorem kj {w:World} {g k:Nat} {cs:Array Value} {t:TypeId} (v:Value) (h:w.heap[g]? = some (.cells cs t (0,0))):(w.setCell ⟨g,k,none⟩ v).heap[g]? = some (.cells (cs.setIfInBounds k v) t (0,0)):=heap_setCell_same _ _ _ _ _ _ h
theorem vr (a b:Nat) (ha:a<RN) (hb:b<RN) (hba:b≤a) (w:World) :
  Calls Tryz.prog 125 #[.agg (nl a).toArray,.agg (nl b).toArray] w fun e w'=>e = .returned (.agg (nl (a - b)).toArray)∧Below w.heap.size w w':=by
 have h:=Sc.ve Tryz.func125 (by kernel_rfl) (fun _ _ _ _ _ _ _ _=>by kernel_rfl) (a:=a) (b:=b) ha hb w
 rw [show (a+Sc.RN - b) % Sc.RN=a - b by unfold Sc.RN;unfold RN at ha;omega] at h
 exact h
end Go.Proofs.YtajehiidpecknaaGreatDoor
namespace Go.Proofs.YtajehiidpecknaaGreatDoor
open Go Go.RowKit Go.Lib
set_option maxRecDepth 100000
def FP (k:Nat) (x d:Int):Prop:=d=0∨2≤k∨(k=1∧d=1∧x<700976274800962961408)
theorem SS.num40 (w:World) (n:Num):SS w [] (w.heap.size+1) 4 ((w.alloc (.cells #[.int .u64 n.w0,.int .u64 n.w1,.int .u64 n.w2,.int .u64 n.w3] 68)).alloc (.cells #[.int .u64 0,.int .u64 0,.int .u64 0,.int .u64 0] 68)) :=
 ⟨((Below.refl _ _).alloc (Nat.le_refl _) _).alloc (by simp) _,fun i g L t hm=>by simp at hm,aw (aj _ _ _ (by simp)) 0 4 (by simp)⟩
def foldI (X d:Int):Int:=if X+d*38<RR then X+d*38 else X+d*38 - RR+38
theorem wu {X:Int} (h:X<RR):foldI X 0=X:=by
 unfold foldI
 rw [Int.zero_mul,Int.add_zero,if_pos h]
theorem vA {V d' X d:Int} (key:V+d'*RR=X+d*38) (hV0:0≤V) (hV:V<RR) (h0:0≤d') (h1:d'≤1) (hX0:0≤X) (hX:X<RR) (hd0:0≤d) (hd:d<18446744073709551616):foldI V d'=foldI X d:=by
 unfold foldI
 simp only [RR] at *
 split <;> split <;> omega
theorem xl (x0 x1 x2 x3 d h l v0 v1 v2 v3 c0 c1 c2 d' N:Int) (hx:Num.ok ⟨x0,x1,x2,x3⟩) (hd:Word d) (hh:Word h) (hl:Word l) (e:d*38=h*18446744073709551616+l)
  (q0:v0=(x0+l) % 18446744073709551616) (p0:c0=(x0+l)/18446744073709551616) (q1:v1=(x1+h+c0) % 18446744073709551616) (p1:c1=(x1+h+c0)/18446744073709551616)
  (q2:v2=(x2+0+c1) % 18446744073709551616) (p2:c2=(x2+0+c1)/18446744073709551616) (q3:v3=(x3+0+c2) % 18446744073709551616) (p3:d'=(x3+0+c2)/18446744073709551616)
  (hm:(Num.val ⟨x0,x1,x2,x3⟩+d*RR) % PP=N) (k:Nat) (hk:FP k (Num.val ⟨x0,x1,x2,x3⟩) d) (hd0 : ¬ d=0) :
  Num.ok ⟨v0,v1,v2,v3⟩∧Word d'∧(Num.val ⟨v0,v1,v2,v3⟩+d'*RR) % PP=N∧FP (k - 1) (Num.val ⟨v0,v1,v2,v3⟩) d'∧k - 1<k∧foldI (Num.val ⟨v0,v1,v2,v3⟩) d'=foldI (Num.val ⟨x0,x1,x2,x3⟩) d:=by
 obtain ⟨⟨a0,b0⟩,⟨a1,b1⟩,⟨a2,b2⟩,⟨a3,b3⟩⟩:=hx
 obtain ⟨hd1,hd2⟩:=hd
 obtain ⟨hh1,hh2⟩:=hh
 obtain ⟨hl1,hl2⟩:=hl
 simp only at a0 b0 a1 b1 a2 b2 a3 b3
 have key:Num.val ⟨v0,v1,v2,v3⟩+d'*RR=Num.val ⟨x0,x1,x2,x3⟩+d*38:=by
  simp only [Num.val,RR];rw [e];omega
 have hok:Num.ok ⟨v0,v1,v2,v3⟩:=⟨⟨by simp only;omega,by simp only;omega⟩,⟨by simp only;omega,by simp only;omega⟩,⟨by simp only;omega,by simp only;omega⟩,⟨by simp only;omega,by simp only;omega⟩⟩
 have hbx:=Num.bound (n:=⟨x0,x1,x2,x3⟩) ⟨⟨a0,b0⟩,⟨a1,b1⟩,⟨a2,b2⟩,⟨a3,b3⟩⟩
 have hbv:=Num.bound hok
 have hw:Word d':=⟨by omega,by omega⟩
 clear q0 p0 q1 p1 q2 p2 q3 p3 e
 obtain ⟨hw1,hw2⟩:=hw
 generalize Num.val ⟨v0,v1,v2,v3⟩=V at *
 generalize Num.val ⟨x0,x1,x2,x3⟩=X at *
 simp only [RR,PP] at *
 have hd1':d'≤1:=by omega
 refine ⟨hok,⟨hw1,hw2⟩,?_,?_,?_,?_⟩
 ·rw [←hm,key]
  omega
 ·unfold FP at hk ⊢
  rcases hk with hk | hk | hk
  ·exact absurd hk hd0
  ·by_cases h1:d'=0
   ·exact .inl h1
   ·by_cases h2:k=2
    ·right;right;omega
    ·right;left;omega
  ·left;omega
 ·unfold FP at hk
  rcases hk with hk | hk | hk
  ·exact absurd hk hd0
  ·omega
  ·omega
 ·exact vA (by simp only [RR];omega) (by omega) (by simp only [RR];omega) hw1 hd1' (by omega) (by simp only [RR];omega) hd1 hd2
def FM (n:Num) (o:Int) (x:Num) (d:Int):Prop:=(x.val+d*RR) % PP=(n.val+o*RR) % PP∧foldI x.val d=foldI n.val o
set_option maxRecDepth 100000 in
set_option maxHeartbeats 2000000 in
theorem nV (n:Num) (o:Int) (hn:n.ok) (ho:Word o) (w:World) :
  Calls Tryz.prog 121 #[n.v,.int .u64 o] w fun e w' => ∃ s:Num,e = .returned s.v∧s.ok∧(s.val % PP=(n.val+o*RR) % PP∧s.val=foldI n.val o)∧Below w.heap.size w w':=by
 have HS0:Hid (SS w [] (w.heap.size+1) 4 _):=SS.num40 w n
 unfold Num.v at *
 go_enter Tryz.func121,Tryz.ntmps121
 go_wp2
 go_loopg [1] 2 (fun k h wr => ∃ (x0 x1 x2 x3 d:Int),h = .int .u64 d∧Num.ok ⟨x0,x1,x2,x3⟩∧Word d∧FM n o ⟨x0,x1,x2,x3⟩ d∧FP k (Num.val ⟨x0,x1,x2,x3⟩) d∧wr.heap[w.heap.size]? = some (.cells #[.int .u64 x0,.int .u64 x1,.int .u64 x2,.int .u64 x3] 68 (0,0))∧SS w [] (w.heap.size+1) 4 wr)
 case atStart=>exact ⟨n.w0,n.w1,n.w2,n.w3,o,rfl,hn,ho,⟨rfl,rfl⟩,.inr (.inl (by omega)),(az _ _ _ (by simp)).trans (aj _ _ _ rfl),HS0.out⟩
 case round =>
  obtain ⟨x0,x1,x2,x3,d,rfl,hx,hd,hm,hk,hnum,hss⟩:=hrel
  have HX:Hid (Num.ok ⟨x0,x1,x2,x3⟩):=hx
  have HM:Hid (FM n o ⟨x0,x1,x2,x3⟩ d):=hm
  have HK:Hid (FP gk (Num.val ⟨x0,x1,x2,x3⟩) d):=hk
  have HN:Hid (wr.heap[w.heap.size]? = some (.cells #[.int .u64 x0,.int .u64 x1,.int .u64 x2,.int .u64 x3] 68 (0,0))):=hnum
  have HSS:Hid (SS w [] (w.heap.size+1) 4 wr):=hss
  obtain ⟨c0,c1,c2,c3,f0,f1,f2,f3⟩:=four hnum
  clear hx hm hk hnum hss
  by_cases hd0:d=0
  ·subst hd0
   have HT:Hid (wr.there (w.heap.size+1) 0 4):=HSS.out.there
   go_wp2_with (refine wpList_store_mid rfl 68 _ _ rfl (w.heap.size+1) 0 #[.int .u64 x0,.int .u64 x1,.int .u64 x2,.int .u64 x3] rfl rfl HT.out (by kernel_rfl) (by simp [Value.oneCell']) ?_)
   refine bodyPost_ret (v := .agg #[.int .u64 x0,.int .u64 x1,.int .u64 x2,.int .u64 x3]) (aN Tryz.results121 _ _ (w.heap.size+1) 0 [.int .u64 x0,.int .u64 x1,.int .u64 x2,.int .u64 x3] _ rfl (World.rangeAt_setCells_same _ _ _ _ HT.out) Tryz.underlying68 rfl (by kernel_rfl)) rfl ⟨⟨x0,x1,x2,x3⟩,rfl,HX.out,?_,af _ (by omega) _ _ _ HSS.out.below⟩
   obtain ⟨m1,m2⟩:=HM.out
   rw [Int.zero_mul,Int.add_zero] at m1
   have hbb:=(Num.bound HX.out).2
   rw [wu hbb] at m2
   exact ⟨m1,m2⟩
  ·go_wp2_with fail
   refine (Ey d 38 hd ⟨by decide,by decide⟩ _).mono ?_
   rintro e w' ⟨h,l,rfl,hh,hl,em,rfl⟩
   obtain ⟨v0,q0⟩ : ∃ v,v=(x0+l) % 18446744073709551616:=⟨_,rfl⟩
   obtain ⟨k0,p0⟩ : ∃ v,v=(x0+l)/18446744073709551616:=⟨_,rfl⟩
   obtain ⟨v1,q1⟩ : ∃ v,v=(x1+h+k0) % 18446744073709551616:=⟨_,rfl⟩
   obtain ⟨k1,p1⟩ : ∃ v,v=(x1+h+k0)/18446744073709551616:=⟨_,rfl⟩
   obtain ⟨v2,q2⟩ : ∃ v,v=(x2+0+k1) % 18446744073709551616:=⟨_,rfl⟩
   obtain ⟨k2,p2⟩ : ∃ v,v=(x2+0+k1)/18446744073709551616:=⟨_,rfl⟩
   obtain ⟨v3,q3⟩ : ∃ v,v=(x3+0+k2) % 18446744073709551616:=⟨_,rfl⟩
   obtain ⟨d',p3⟩ : ∃ v,v=(x3+0+k2)/18446744073709551616:=⟨_,rfl⟩
   have HR:=xl x0 x1 x2 x3 d h l v0 v1 v2 v3 k0 k1 k2 d' _ HX.out hd hh hl em q0 p0 q1 p1 q2 p2 q3 p3 HM.out.1 gk HK.out hd0
   have hb:=HX.out
   obtain ⟨⟨a0,b0⟩,⟨a1,b1⟩,⟨a2,b2⟩,⟨a3,b3⟩⟩:=hb
   simp only at a0 b0 a1 b1 a2 b2 a3 b3
   have s0 : ∀ w,(callFunc 108 #[.int .u64 x0,.int .u64 l,.int .u64 0]).run Tryz.prog w = .ok (.value (.tuple #[.int .u64 v0,.int .u64 k0])) w:=fun w=>by
    rw [q0,p0];exact zi x0 l a0 hl.1 w
   have s1 : ∀ w,(callFunc 108 #[.int .u64 x1,.int .u64 h,.int .u64 k0]).run Tryz.prog w = .ok (.value (.tuple #[.int .u64 v1,.int .u64 k1])) w:=fun w=>by
    rw [q1,p1];exact nC x1 h k0 a1 hh.1 (by have:=hl.1;omega) (by have:=hl.2;omega) w
   have s2 : ∀ w,(callFunc 108 #[.int .u64 x2,.int .u64 0,.int .u64 k1]).run Tryz.prog w = .ok (.value (.tuple #[.int .u64 v2,.int .u64 k2])) w:=fun w=>by
    rw [q2,p2];exact nC x2 0 k1 a2 (by omega) (by have:=hl.1;have:=hh.1;omega) (by have:=hl.2;have:=hh.2;omega) w
   have s3 : ∀ w,(callFunc 108 #[.int .u64 x3,.int .u64 0,.int .u64 k2]).run Tryz.prog w = .ok (.value (.tuple #[.int .u64 v3,.int .u64 d'])) w:=fun w=>by
    rw [q3,p3];exact nC x3 0 k2 a3 (by omega) (by have:=hl.1;have:=hh.1;omega) (by have:=hl.2;have:=hh.2;omega) w
   have HRR:Hid (Num.ok ⟨v0,v1,v2,v3⟩∧Word d'∧FM n o ⟨v0,v1,v2,v3⟩ d'∧FP (gk - 1) (Num.val ⟨v0,v1,v2,v3⟩) d'∧gk - 1<gk):=⟨HR.1,HR.2.1,⟨HR.2.2.1,HR.2.2.2.2.2.trans HM.out.2⟩,HR.2.2.2.1,HR.2.2.2.2.1⟩
   clear HR q0 p0 q1 p1 q2 p2 q3 p3 a0 b0 a1 b1 a2 b2 a3 b3 em
   go_wp2
   go_roundg (gk - 1)
   case measure=>exact HRR.out.2.2.2.2
   case rel=>exact ⟨v0,v1,v2,v3,d',rfl,HRR.out.1,HRR.out.2.1,HRR.out.2.2.1,HRR.out.2.2.2.1,eV _ _ _ _ HN.out,HSS.out.put (by omega) (fun b hb=>by simp at hb) [.int .u64 v0,.int .u64 v1,.int .u64 v2,.int .u64 v3]⟩
def fX (T:Nat):Nat:=if T % RN+38*(T/RN)<RN then T % RN+38*(T/RN) else T % RN+38*(T/RN) - RN+38
theorem JF {O x T z:Nat} (hO:O<RN) (h:O+x*RN=T) (hz:(z:Int)=foldI (O:Int) (x:Int)):z=fX T:=by
 have e1:T % RN=O:=by rw [←h,Nat.add_mul_mod_self_right,YK hO]
 have e2:T/RN=x:=by rw [←h,Nat.add_mul_div_right _ _ (by decide),Nat.div_eq_of_lt hO,Nat.zero_add]
 unfold fX
 rw [e1,e2]
 unfold foldI at hz
 simp only [RR,RN] at *
 split at hz <;> split <;> omega
end Go.Proofs.YtajehiidpecknaaGreatDoor
namespace Go.Proofs.YtajehiidpecknaaGreatDoor
open Go Go.RowKit Go.Lib
set_option maxRecDepth 100000
def fdV (A:Value) (o:Int):Value:=Sc.nv (foldI (Sc.num A) o).toNat
def gFoldR:List Value→Option (List Prop × Value)
 | [A,.int .u64 o]=>some ([Sc.IsN A∧0≤o∧o<18446744073709551616],fdV A o)
 | _=>none
theorem Dq {X d:Int} (h:0≤X) (hd:0≤d):0≤foldI X d:=by
 unfold foldI
 simp only [RR]
 split <;> omega
theorem Av {X:Cx} (hX:X.Ok Tryz.prog):(X.pure 121 gFoldR).Ok Tryz.prog:=by
 refine aA hX Tryz.func121 (by kernel_rfl) (by kernel_rfl) ?_
 intro args ps v ha hg hp
 unfold gFoldR at hg
 split at hg
 ·rename_i A o
  simp only [qG,qH] at hg
  obtain ⟨rfl,rfl⟩:=hg
  obtain ⟨hA,h0,h1⟩:=hp _ (YJ.2 rfl)
  refine ⟨.inl rfl,fun w => ?_⟩
  have lA:=Sc.aX hA
  unfold fdV
  rw [hA,Sc.ak lA]
  generalize Sc.num A=a at lA ⊢
  refine (nV (Num.of a) o (Num.of_ok a) ⟨h0,h1⟩ w).mono ?_
  rintro e w' ⟨s,rfl,hs,⟨-,he⟩,hb⟩
  obtain ⟨n,hn,hv,rfl⟩:=Num.to_of hs
  rw [Num.of_val a lA,←hv] at he
  refine ⟨?_,hb⟩
  rw [←he,Int.toNat_natCast]
  rfl
 ·simp at hg
def cyV (a0 a1 a2 a3 b0 b1 b2 b3:Int):Int:=(a3+b3+((a2+b2+((a1+b1+((a0+b0+0)/18446744073709551616))/18446744073709551616))/18446744073709551616))/18446744073709551616
theorem AJ (a0 a1 a2 a3 b0 b1 b2 b3:Int):sfun Tryz.prog (Sc.X0.pure 121 gFoldR) 60 Tryz.f89 (ag Tryz.f89) [.agg #[.int .u64 a0,.int .u64 a1,.int .u64 a2,.int .u64 a3],.agg #[.int .u64 b0,.int .u64 b1,.int .u64 b2,.int .u64 b3]]=some (Sc.Ed a0 a1 a2 a3 b0 b1 b2 b3 ++ [Sc.IsN (Sc.mr a0 a1 a2 a3 b0 b1 b2 b3)∧0≤cyV a0 a1 a2 a3 b0 b1 b2 b3∧cyV a0 a1 a2 a3 b0 b1 b2 b3<18446744073709551616],fdV (Sc.mr a0 a1 a2 a3 b0 b1 b2 b3) (cyV a0 a1 a2 a3 b0 b1 b2 b3)):=by kernel_rfl
theorem Oj {T:Nat} (h:T<RN+RN):fX T<RN∧fX T % pp=T % pp:=by
 unfold fX
 have q:T/RN=0∨T/RN=1:=by simp only [RN] at *;omega
 rcases q with q | q <;> rw [q] <;> (simp only [RN,pp] at *;constructor <;> split <;> omega)
theorem nW (a b:Nat) (ha:a<RN) (hb:b<RN) (w:World) :
  Calls Tryz.prog 89 #[.agg (nl a).toArray,.agg (nl b).toArray] w fun e w' => ∃ s,s<RN∧e = .returned (.agg (nl s).toArray)∧(s % pp=(a+b) % pp∧s=fX (a+b))∧Below w.heap.size w w':=by
 have k:=Sc.kO (lw a 0) (lw a 1) (lw a 2) (lw a 3) (lw b 0) (lw b 1) (lw b 2) (lw b 3) (Sc.ah _ _) (Sc.ah _ _) (Sc.ah _ _) (Sc.ah _ _) (Sc.ah _ _) (Sc.ah _ _) (Sc.ah _ _) (Sc.ah _ _) a b ((Sc.aQ a).trans (by rw [YK ha])) ((Sc.aQ b).trans (by rw [YK hb]))
 have k1 : ∀ p ∈ Sc.Ed (lw a 0) (lw a 1) (lw a 2) (lw a 3) (lw b 0) (lw b 1) (lw b 2) (lw b 3),p:=k.1
 have k2:=k.2
 simp only [Value.tuple.injEq,Array.mk.injEq,List.cons.injEq] at k2
 have k3:Sc.mr (lw a 0) (lw a 1) (lw a 2) (lw a 3) (lw b 0) (lw b 1) (lw b 2) (lw b 3)=Sc.nv ((a+b) % RN):=k2.1
 have k4:Value.int .u64 (cyV (lw a 0) (lw a 1) (lw a 2) (lw a 3) (lw b 0) (lw b 1) (lw b 2) (lw b 3)) = .int .u64 (((a+b)/RN:Nat):Int):=k2.2.1
 have k5:cyV (lw a 0) (lw a 1) (lw a 2) (lw a 3) (lw b 0) (lw b 1) (lw b 2) (lw b 3)=(((a+b)/RN:Nat):Int):=by simp only [Value.int.injEq,true_and] at k4;exact k4
 have hl:(a+b) % RN<RN:=Nat.mod_lt _ (by decide)
 have hd:(a+b)/RN≤1:=by simp only [RN] at *;omega
 have h:=aq (Av Sc.dL) mixed Tryz.func89 (by kernel_rfl) (AJ (lw a 0) (lw a 1) (lw a 2) (lw a 3) (lw b 0) (lw b 1) (lw b 2) (lw b 3)) (by
  intro p hp
  rcases List.mem_append.1 hp with hp | hp
  ·exact k1 p hp
  ·rw [YJ.1 hp,k3,k5]
   exact ⟨Sc.aI _,Int.natCast_nonneg _,by omega⟩) rfl (.inl rfl) w
 rw [k3,k5] at h
 unfold fdV at h
 rw [Sc.ak hl] at h
 have hz:(((foldI (((a+b) % RN:Nat):Int) (((a+b)/RN:Nat):Int)).toNat:Nat):Int)=foldI (((a+b) % RN:Nat):Int) (((a+b)/RN:Nat):Int):=Int.toNat_of_nonneg (Dq (Int.natCast_nonneg _) (Int.natCast_nonneg _))
 have hf:_=fX (a+b):=JF hl (show (a+b) % RN+(a+b)/RN*RN=a+b by rw [Nat.mul_comm];exact Nat.mod_add_div _ _) hz
 rw [hf] at h
 obtain ⟨f1,f2⟩:=Oj (T:=a+b) (by omega)
 exact h.mono fun e w' ⟨h1,h2⟩=>⟨fX (a+b),f1,h1,⟨f2,rfl⟩,h2⟩
end Go.Proofs.YtajehiidpecknaaGreatDoor
namespace Go.Proofs.YtajehiidpecknaaGreatDoor
open Go Go.RowKit Go.Lib
set_option maxRecDepth 100000
theorem p6 (a b:Nat) (ha:a<RN) (hb:b<RN) (w:World) :
  Calls Tryz.prog 119 #[.agg (nl a).toArray,.agg (nl b).toArray] w fun e w'=>e = .returned (.bool (decide (a<b)))∧Below w.heap.size w w':=by
 have h:=Sc.qR Tryz.func119 (by kernel_rfl) (by constructor <;> (intros;first | kernel_rfl | exact ⟨by kernel_rfl,by kernel_rfl⟩)) (a:=a) (b:=b) ha hb w
 exact h
end Go.Proofs.YtajehiidpecknaaGreatDoor
namespace Go.Proofs.YtajehiidpecknaaGreatDoor
open Go Go.RowKit Go.Lib
set_option maxRecDepth 100000
theorem SS.nothing {w0:World} {bs:List (Nat × List Value × TypeId)} {r n:Nat} {w:World} (h:SS w0 bs r n w):SS w0 [] r n w:=⟨h.below,fun i g L t hm=>by simp at hm,h.there⟩
theorem SS.only {w0:World} {r n q:Nat} {w:World} (h:SS w0 [] r n w) (L:List Value) (t:TypeId) (hq:w.heap[q]? = some (.cells L.toArray t (0,0))):SS w0 [(q,L,t)] r n w:=h.add L t hq
set_option maxRecDepth 100000 in
set_option maxHeartbeats 4000000 in
theorem dv (a:Nat) (ha:a<RN) (w:World) :
  Calls Tryz.prog 91 #[.agg (nl a).toArray] w fun e w'=>e = .returned (.agg (nl (a % pp)).toArray)∧Below w.heap.size w w':=by
 have HS0:Hid (SS w [] (w.heap.size+1) 4 _):=SS.num40 w (Num.of a)
 go_enter Tryz.func91,Tryz.ntmps91
 go_wp2
 go_loopg [3] (a/pp) (fun k _ wr => ∃ x:Nat,x<RN∧x % pp=a % pp∧x/pp≤k∧wr.heap[w.heap.size]? = some (.cells (nl x).toArray 68 (0,0))∧SS w [] (w.heap.size+1) 4 wr)
 case atStart=>exact ⟨a,ha,rfl,Nat.le_refl _,(az _ _ _ (by simp)).trans (aj _ _ _ rfl),HS0.out⟩
 case round =>
  obtain ⟨x,hx,ex,hk,hnum,hss⟩:=hrel
  have HN:Hid (wr.heap[w.heap.size]? = some (.cells (nl x).toArray 68 (0,0))):=hnum
  have HS1:Hid (SS w [(w.heap.size,nl x,68)] (w.heap.size+1) 4 wr):=hss.only (nl x) _ hnum
  have HX:Hid (x % pp=a % pp):=ex
  have HK:Hid (x/pp≤gk):=hk
  clear ex hk hnum hss
  have bel0:=fun hx=>p6 x pp hx mh
  by_cases hlt:x<pp
  ·have bel : ∀ (hx:x<RN) w,Calls Tryz.prog 119 #[.agg (nl x).toArray,.agg (nl pp).toArray] w fun e w'=>e = .returned (.bool true)∧Below w.heap.size w w':=fun hx w=>by
    have:=bel0 hx w;rw [decide_eq_true hlt] at this;exact this
   have HE:Hid (x=a % pp):=by show _=_;rw [←HX.out,YK hlt]
   go_wp2_with fail
   refine wp_region_held_drew (S:=(fun w'=>SS w [(w.heap.size,nl x,68)] (w.heap.size+1) 4 w')) (by kernel_rfl) ?_ (fun hHeld => ?_)
   ·exact HS1.out.drew
   refine aL (i:=0) (v:=_) 3 rfl rfl (by kernel_rfl) (by kernel_rfl) (by kernel_rfl) (fun _ _ _ h=>h) (yieldsIf_load_mid (by rfl) _ _ rfl _ _ rfl _ _ (fun w h=>h.range (i:=0) rfl) Tryz.underlying68 rfl (r4 x)) hHeld ?_
   simp only [Act.put,qA,qC,qB]
   refine wpAnyH_ready (rs:=[1]) (by kernel_rfl) (by simp) ?_
   refine AllReadyH.cons rfl (fun K hK => ?_) AllReadyH.nil
   go_simp
   go_at_call 120
   refine (jN _).mono ?_
   rintro e wA ⟨rfl,hbA⟩
   refine hK.out _ _ ?_ (fun hHeld => ?_)
   ·exact hHeld.call hbA
   clear hK K
   try simp only [Act.put,qA,qC,qB]
   refine wpAnyH_ready (rs:=[2]) (by kernel_rfl) (by simp) ?_
   refine AllReadyH.cons rfl (fun K hK => ?_) AllReadyH.nil
   go_simp
   go_at_call 119
   refine (bel hx _).mono ?_
   rintro e wB ⟨rfl,hbB⟩
   refine hK.out _ _ ?_ (fun hHeld => ?_)
   ·exact hHeld.call hbB
   clear hK K
   try simp only [Act.put,qA,qC,qB]
   refine aL (i:=3) (v := ?_) 6 rfl rfl (by kernel_rfl) (by kernel_rfl) (by kernel_rfl) (fun _ _ _ h=>h) (Or.inl ⟨by rfl,?_⟩) hHeld ?_
   rotate_left 1
   ·intro w hSw;go_simp <;> with_reducible rfl
   simp only [Act.put,qA,qC,qB]
   refine wpAnyH_done (by kernel_rfl) ?_ _
   have HC:Hid (World.rangeAt _ w.heap.size 0 (nl x)):=hHeld.range (i:=0) rfl
   have HT:Hid (World.there _ (w.heap.size+1) 0 4):=hHeld.there
   have HB:Hid (Below w.heap.size w wB):=hHeld.below
   clear hHeld
   go_wp2_with (first | (refine wpList_load_mid rfl 68 _ rfl w.heap.size 0 rfl (nl x) _ HC.out Tryz.underlying68 rfl (r4 x) ?_) | (refine wpList_store_mid rfl 68 _ _ rfl (w.heap.size+1) 0 (nl x).toArray rfl rfl HT.out (r4 x) (bu x) ?_))
   refine bodyPost_ret (v := .agg (nl x).toArray) (aN Tryz.results91 _ _ (w.heap.size+1) 0 (nl x) _ rfl (World.rangeAt_setCells_same _ _ _ _ HT.out) Tryz.underlying68 rfl (r4 x)) rfl ⟨congrArg (fun n=>Ending.returned (.agg (nl n).toArray)) HE.out,af _ (by omega) _ _ _ HB.out⟩
  ·have bel : ∀ (hx:x<RN) w,Calls Tryz.prog 119 #[.agg (nl x).toArray,.agg (nl pp).toArray] w fun e w'=>e = .returned (.bool false)∧Below w.heap.size w w':=fun hx w=>by
    have:=bel0 hx w;rw [decide_eq_false hlt] at this;exact this
   obtain ⟨z,hz⟩ : ∃ z,z=x - pp:=⟨_,rfl⟩
   have hge:pp≤x:=by omega
   have les : ∀ x,x<RN→pp≤x → ∀ w,Calls Tryz.prog 125 #[.agg (nl x).toArray,.agg (nl pp).toArray] w fun e w'=>e = .returned (.agg (nl (x - pp)).toArray)∧Below w.heap.size w w':=fun x hx h w=>vr x pp hx mh h w
   have lesz : ∀ w,Calls Tryz.prog 125 #[.agg (nl x).toArray,.agg (nl pp).toArray] w fun e w'=>e = .returned (.agg (nl z).toArray)∧Below w.heap.size w w':=fun w=>by rw [hz];exact les x hx hge w
   have hd:x/pp=z/pp+1:=by
    have:x=z+pp:=by omega
    rw [this,Nat.add_div_right _ (show 0<pp by decide)]
   have HZ:Hid (z<RN∧z % pp=a % pp∧z/pp≤gk - 1):=by
    refine ⟨by omega,?_,?_⟩
    ·rw [←HX.out,show x=z+pp by omega,Nat.add_mod_right]
    ·have:=HK.out;rw [hd] at this;exact Nat.le_sub_of_add_le this
   have HM:Hid (gk - 1<gk):=by
    have h1:1≤x/pp:=by rw [hd];exact Nat.le_add_left 1 _
    have h2:1≤gk:=Nat.le_trans h1 HK.out
    show gk - 1<gk
    omega
   clear hz hd les
   go_wp2_with fail
   refine wp_region_held_drew (S:=(fun w'=>SS w [(w.heap.size,nl x,68)] (w.heap.size+1) 4 w')) (by kernel_rfl) ?_ (fun hHeld => ?_)
   ·exact HS1.out.drew
   refine aL (i:=0) (v:=_) 3 rfl rfl (by kernel_rfl) (by kernel_rfl) (by kernel_rfl) (fun _ _ _ h=>h) (yieldsIf_load_mid (by rfl) _ _ rfl _ _ rfl _ _ (fun w h=>h.range (i:=0) rfl) Tryz.underlying68 rfl (r4 x)) hHeld ?_
   simp only [Act.put,qA,qC,qB]
   refine wpAnyH_ready (rs:=[1]) (by kernel_rfl) (by simp) ?_
   refine AllReadyH.cons rfl (fun K hK => ?_) AllReadyH.nil
   go_simp
   go_at_call 120
   refine (jN _).mono ?_
   rintro e wA ⟨rfl,hbA⟩
   refine hK.out _ _ ?_ (fun hHeld => ?_)
   ·exact hHeld.call hbA
   clear hK K
   try simp only [Act.put,qA,qC,qB]
   refine wpAnyH_ready (rs:=[2]) (by kernel_rfl) (by simp) ?_
   refine AllReadyH.cons rfl (fun K hK => ?_) AllReadyH.nil
   go_simp
   go_at_call 119
   refine (bel hx _).mono ?_
   rintro e wB ⟨rfl,hbB⟩
   refine hK.out _ _ ?_ (fun hHeld => ?_)
   ·exact hHeld.call hbB
   clear hK K
   try simp only [Act.put,qA,qC,qB]
   refine aL (i:=3) (v := ?_) 6 rfl rfl (by kernel_rfl) (by kernel_rfl) (by kernel_rfl) (fun _ _ _ h=>h) (Or.inl ⟨by rfl,?_⟩) hHeld ?_
   rotate_left 1
   ·intro w hSw;go_simp <;> with_reducible rfl
   simp only [Act.put,qA,qC,qB]
   refine wpAnyH_done (by kernel_rfl) ?_ _
   have HN2:Hid (wB.heap[w.heap.size]? = some (.cells (nl x).toArray 68 (0,0))):=hHeld.holds 0 _ _ _ rfl
   have HS2:Hid (SS w [] (w.heap.size+1) 4 wB):=hHeld.nothing
   clear hHeld
   go_wp2_with fail
   refine wp_region_held_drew (S:=(fun w'=>SS w [] (w.heap.size+1) 4 w')) (by kernel_rfl) ?_ (fun hHeld => ?_)
   ·exact HS2.out.drew
   refine wpAnyH_ready (rs:=[0,1]) (by kernel_rfl) (by simp) ?_
   refine AllReadyH.cons rfl (fun K hK => ?_) (AllReadyH.cons rfl (fun K hK => ?_) AllReadyH.nil)
   ·rw [if_pos (by rfl)]
    refine wp_load_mid _ _ rfl _ _ rfl (nl x) _ (bP (cs:=(nl x).toArray) (w:=wB.drew) HN2.out) Tryz.underlying68 rfl (r4 x) ?_
    refine hK.out _ _ hHeld (fun hHeld => ?_)
    clear hK K
    try simp only [Act.put,qA,qC,qB]
    refine wpAnyH_ready (rs:=[1]) (by kernel_rfl) (by simp) ?_
    refine AllReadyH.cons rfl (fun K hK => ?_) AllReadyH.nil
    go_simp
    go_at_call 120
    refine (jN _).mono ?_
    rintro e wP ⟨rfl,hbP⟩
    refine hK.out _ _ (hHeld.call hbP) (fun hHeld => ?_)
    clear hK K
    try simp only [Act.put,qA,qC,qB]
    have hnP:=cS (w:=wB.drew) hbP HN2.out
    refine wpAnyH_ready (rs:=[2]) (by kernel_rfl) (by simp) ?_
    refine AllReadyH.cons rfl (fun K hK => ?_) AllReadyH.nil
    go_simp
    go_at_call 125
    refine (lesz _).mono ?_
    rintro e wQ ⟨rfl,hbQ⟩
    refine hK.out _ _ (hHeld.call hbQ) (fun hHeld => ?_)
    clear hK K
    try simp only [Act.put,qA,qC,qB]
    have hnQ:=cS hbQ hnP
    refine wpAnyH_ready (rs:=[3]) (by kernel_rfl) (by simp) ?_
    refine AllReadyH.cons rfl (fun K hK => ?_) AllReadyH.nil
    rw [if_pos (by rfl)]
    refine wp_store_mid _ _ _ rfl _ _ (nl z).toArray rfl rfl (aw hnQ 0 4 (by simp)) (r4 z) (bu z) ?_
    refine hK.out _ _ (hHeld.put (by omega) (fun b hb=>by simp at hb) _) (fun hHeld => ?_)
    clear hK K
    try simp only [Act.put,qA,qC,qB]
    refine wpAnyH_done (by kernel_rfl) ?_ _
    have hnZ:=dI (y0 := .int .u64 (lw z 0)) (y1 := .int .u64 (lw z 1)) (y2 := .int .u64 (lw z 2)) (y3 := .int .u64 (lw z 3)) hnQ
    have HZ2:=hnZ
    have HS3:=hHeld
    clear hHeld hnZ hnQ
    go_wp2
    go_roundg (gk - 1)
    case measure=>exact HM.out
    case rel=>exact ⟨z,HZ.out.1,HZ.out.2.1,HZ.out.2.2,HZ2,HS3⟩
   ·go_simp
    go_at_call 120
    refine (jN _).mono ?_
    rintro e wP ⟨rfl,hbP⟩
    refine hK.out _ _ (hHeld.call hbP) (fun hHeld => ?_)
    clear hK K
    try simp only [Act.put,qA,qC,qB]
    have hnP:=cS (w:=wB.drew) hbP HN2.out
    refine wpAnyH_ready (rs:=[0]) (by kernel_rfl) (by simp) ?_
    refine AllReadyH.cons rfl (fun K hK => ?_) AllReadyH.nil
    rw [if_pos (by rfl)]
    refine wp_load_mid _ _ rfl _ _ rfl (nl x) _ (bP (cs:=(nl x).toArray) (w:=wP) hnP) Tryz.underlying68 rfl (r4 x) ?_
    refine hK.out _ _ hHeld (fun hHeld => ?_)
    clear hK K
    try simp only [Act.put,qA,qC,qB]
    refine wpAnyH_ready (rs:=[2]) (by kernel_rfl) (by simp) ?_
    refine AllReadyH.cons rfl (fun K hK => ?_) AllReadyH.nil
    go_simp
    go_at_call 125
    refine (lesz _).mono ?_
    rintro e wQ ⟨rfl,hbQ⟩
    refine hK.out _ _ (hHeld.call hbQ) (fun hHeld => ?_)
    clear hK K
    try simp only [Act.put,qA,qC,qB]
    have hnQ:=cS hbQ hnP
    refine wpAnyH_ready (rs:=[3]) (by kernel_rfl) (by simp) ?_
    refine AllReadyH.cons rfl (fun K hK => ?_) AllReadyH.nil
    rw [if_pos (by rfl)]
    refine wp_store_mid _ _ _ rfl _ _ (nl z).toArray rfl rfl (aw hnQ 0 4 (by simp)) (r4 z) (bu z) ?_
    refine hK.out _ _ (hHeld.put (by omega) (fun b hb=>by simp at hb) _) (fun hHeld => ?_)
    clear hK K
    try simp only [Act.put,qA,qC,qB]
    refine wpAnyH_done (by kernel_rfl) ?_ _
    have hnZ:=dI (y0 := .int .u64 (lw z 0)) (y1 := .int .u64 (lw z 1)) (y2 := .int .u64 (lw z 2)) (y3 := .int .u64 (lw z 3)) hnQ
    have HZ2:=hnZ
    have HS3:=hHeld
    clear hHeld hnZ hnQ
    go_wp2
    go_roundg (gk - 1)
    case measure=>exact HM.out
    case rel=>exact ⟨z,HZ.out.1,HZ.out.2.1,HZ.out.2.2,HZ2,HS3⟩
end Go.Proofs.YtajehiidpecknaaGreatDoor
namespace Go.Proofs.YtajehiidpecknaaGreatDoor
open Go Go.RowKit Go.Lib
set_option maxRecDepth 100000
theorem SS.duo (w:World) (a b:Nat):SS w [(w.heap.size,nl a,68),(w.heap.size+1,nl b,68)] (w.heap.size+1+1) 4 (((w.alloc (.cells (nl a).toArray 68)).alloc (.cells (nl b).toArray 68)).alloc (.cells #[.int .u64 0,.int .u64 0,.int .u64 0,.int .u64 0] 68)):=by
 have h1:SS w [(w.heap.size,nl a,68)] (w.heap.size+1+1) 4 (((w.alloc (.cells (nl a).toArray 68)).alloc (.cells (nl b).toArray 68)).alloc (.cells #[.int .u64 0,.int .u64 0,.int .u64 0,.int .u64 0] 68)):=by
  refine ⟨(((Below.refl _ _).alloc (Nat.le_refl _) _).alloc (by simp) _).alloc (by simp;omega) _,?_,aw (aj _ _ _ (by simp)) 0 4 (by simp)⟩
  intro i g L t hm
  match i,hm with
  | 0,hm =>
   cases hm
   exact (az _ _ _ (by simp only [World.size_alloc];omega)).trans ((az _ _ _ (by simp only [World.size_alloc];omega)).trans (aj _ _ _ rfl))
 exact h1.add (nl b) _ ((az _ _ _ (by simp only [World.size_alloc];omega)).trans (aj _ _ _ (by simp)))
theorem qy:Tryz.prog.plainKey 66=true:=by kernel_rfl
theorem gY (m i:Nat) (h:i<4):(nl m).toArray[i]? = some (.int .u64 (lw m i)):=by
 match i,h with
 | 0,_=>rfl
 | 1,_=>rfl
 | 2,_=>rfl
 | 3,_=>rfl
theorem Ei (m n:Nat) (d:Nat) (w:World) : ∀ is:List Nat,(∀ i ∈ is,i<4) →
  (Op.eqItems (d+1) 66 (Tryz.prog.cellsOf 66) (nl m).toArray (nl n).toArray is).run Tryz.prog w = .ok (is.all fun i=>decide (lw m i=lw n i)) w
 | [],_=>by simp [Op.eqItems]
 | i :: is,h=>by
  have hi:=h i (by simp)
  have hc:Tryz.prog.cellsOf 66=1:=by kernel_rfl
  have p1:=run_part_plain (P:=Tryz.prog) w qy (xs:=(nl m).toArray) (off:=i) (gY m i hi)
  have p2:=run_part_plain (P:=Tryz.prog) w qy (xs:=(nl n).toArray) (off:=i) (gY n i hi)
  have p3:=run_equalIn_int (P:=Tryz.prog) w d 66 .u64 .u64 (lw m i) (lw n i) Tryz.underlying66
  have ih:=Ei m n d w is (fun j hj=>h j (by simp [hj]))
  rw [hc] at ih
  simp only [Op.eqItems,hc,Nat.mul_one,Sem.run_bind,p1,p2,p3,Result.andThen_ok,List.all_cons]
  by_cases e:lw m i=lw n i
  ·simp [e,ih]
  ·simp [e]
theorem CU (m n:Nat) (hm:m<RN) (hn:n<RN) (w:World):(Op.equalIn 10000 68 (.agg (nl m).toArray) (.agg (nl n).toArray)).run Tryz.prog w = .ok (decide (m=n)) w:=by
 obtain ⟨i,hi⟩ : ∃ i,Tryz.prog.info? 66=some i:=by
  cases h:Tryz.prog.info? 66 with
  | none =>
    have:(Tryz.prog.info? 66).map (·.size)=some 1:=by kernel_rfl
    rw [h] at this;cases this
  | some i=>exact ⟨i,rfl⟩
 have:=run_equalIn_array (P:=Tryz.prog) w 9999 (nl m).toArray (nl n).toArray Tryz.underlying68 hi
 rw [Ei m n 9998 w _ (fun i hi=>List.mem_range.1 hi)] at this
 refine this.trans ?_
 congr 1
 by_cases e:m=n
 ·subst e;simp
 ·rw [decide_eq_false e,Bool.eq_false_iff]
  intro h
  rw [List.all_eq_true] at h
  refine e (D8 hm hn ?_)
  have g:=fun i (hi:i<4)=>of_decide_eq_true (h i (List.mem_range.2 hi))
  simp only [nv,g 0 (by omega),g 1 (by omega),g 2 (by omega),g 3 (by omega)]
set_option maxRecDepth 100000 in
set_option maxHeartbeats 2000000 in
theorem uh (a b:Nat) (ha:a<RN) (hb:b<RN) (w:World) :
  Calls Tryz.prog 86 #[.agg (nl a).toArray,.agg (nl b).toArray] w fun e w' => ∃ s,s<RN∧e = .returned (.agg (nl s).toArray)∧(s % pp=(a+(pp - b % pp)) % pp∧s=fX (a+(pp - b % pp)))∧Below w.heap.size w w':=by
 have HS0:=SS.duo w a b
 go_enter Tryz.func86,Tryz.ntmps86
 go_wp2
 obtain ⟨x0,hx0⟩ : ∃ x,x=(((w.alloc (.cells (nl a).toArray 68)).alloc (.cells (nl b).toArray 68)).alloc (.cells #[.int .u64 0,.int .u64 0,.int .u64 0,.int .u64 0] 68)):=⟨_,rfl⟩
 have HS:Hid (SS w [(w.heap.size,nl a,68),(w.heap.size+1,nl b,68)] (w.heap.size+1+1) 4 x0):=by rw [hx0];exact HS0
 rw [←hx0]
 clear hx0 HS0
 refine wp_region_held_drew (S:=(fun w'=>SS w [(w.heap.size,nl a,68),(w.heap.size+1,nl b,68)] (w.heap.size+1+1) 4 w')) (by kernel_rfl) ?_ (fun hHeld => ?_)
 ·exact HS.out.drew
 refine aL (i:=0) (v:=_) 5 rfl rfl (by kernel_rfl) (by kernel_rfl) (by kernel_rfl) (fun _ _ _ h=>h) (yieldsIf_load_mid (by rfl) _ _ rfl _ _ rfl _ _ (fun w h=>h.range (i:=0) rfl) Tryz.underlying68 rfl (r4 a)) hHeld ?_
 simp only [Act.put,qA,qC,qB]
 refine aL (i:=2) (v:=_) 7 rfl rfl (by kernel_rfl) (by kernel_rfl) (by kernel_rfl) (fun _ _ _ h=>h) (yieldsIf_load_mid (by rfl) _ _ rfl _ _ rfl _ _ (fun w h=>h.range (i:=1) rfl) Tryz.underlying68 rfl (r4 b)) hHeld ?_
 simp only [Act.put,qA,qC,qB]
 refine wpAnyH_ready (rs:=[1]) (by kernel_rfl) (by simp) ?_
 refine AllReadyH.cons rfl (fun K hK => ?_) AllReadyH.nil
 go_simp
 go_at_call 120
 refine (jN _).mono ?_
 rintro e wA ⟨rfl,hbA⟩
 refine hK.out _ _ ?_ (fun hHeld => ?_)
 ·exact hHeld.call hbA
 clear hK K
 try simp only [Act.put,qA,qC,qB]
 refine wpAnyH_ready (rs:=[3]) (by kernel_rfl) (by simp) ?_
 refine AllReadyH.cons rfl (fun K hK => ?_) AllReadyH.nil
 go_simp
 go_at_call 91
 refine (dv b hb _).mono ?_
 rintro e wB ⟨rfl,hbB⟩
 refine hK.out _ _ ?_ (fun hHeld => ?_)
 ·exact hHeld.call hbB
 clear hK K
 try simp only [Act.put,qA,qC,qB]
 refine wpAnyH_ready (rs:=[4]) (by kernel_rfl) (by simp) ?_
 refine AllReadyH.cons rfl (fun K hK => ?_) AllReadyH.nil
 go_simp
 go_at_call 125
 refine (vr pp (b % pp) mh (cY b) (Nat.le_of_lt (Nat.mod_lt _ (by decide))) _).mono ?_
 rintro e wC ⟨rfl,hbC⟩
 refine hK.out _ _ ?_ (fun hHeld => ?_)
 ·exact hHeld.call hbC
 clear hK K
 try simp only [Act.put,qA,qC,qB]
 refine wpAnyH_ready (rs:=[5]) (by kernel_rfl) (by simp) ?_
 refine AllReadyH.cons rfl (fun K hK => ?_) AllReadyH.nil
 go_simp
 go_at_call 89
 refine (nW a (pp - b % pp) ha (Nat.lt_of_le_of_lt (Nat.sub_le _ _) mh) _).mono ?_
 rintro e wD ⟨s,hs,rfl,es,hbD⟩
 have HES:Hid (s % pp=(a+(pp - b % pp)) % pp∧s=fX (a+(pp - b % pp))):=es
 clear es
 refine hK.out _ _ ?_ (fun hHeld => ?_)
 ·exact hHeld.call hbD
 clear hK K
 try simp only [Act.put,qA,qC,qB]
 have hT:wD.there (w.heap.size+1+1) 0 4:=hHeld.there
 refine wpAnyH_ready (rs:=[6]) (by kernel_rfl) (by simp) ?_
 refine AllReadyH.cons rfl (fun K hK => ?_) AllReadyH.nil
 rw [if_pos (by rfl)]
 refine wp_store_mid _ _ _ rfl _ _ (nl s).toArray rfl rfl hT (r4 s) (bu s) ?_
 refine hK.out _ _ ?_ (fun hHeld => ?_)
 ·exact hHeld.store (by omega) (ne2 (by omega) (by omega)) _
 clear hK K
 try simp only [Act.put,qA,qC,qB]
 refine wpAnyH_done (by kernel_rfl) ?_ _
 go_wp2
 refine bodyPost_ret (v := .agg (nl s).toArray) (aN Tryz.results86 _ _ (w.heap.size+1+1) 0 (nl s) _ rfl (World.rangeAt_setCells_same _ _ _ _ hT) Tryz.underlying68 rfl (r4 s)) rfl ⟨s,hs,rfl,HES.out,hHeld.below⟩
set_option maxRecDepth 100000 in
set_option maxHeartbeats 2000000 in
theorem kI (a b:Nat) (ha:a<RN) (hb:b<RN) (w:World) :
  Calls Tryz.prog 123 #[.agg (nl a).toArray,.agg (nl b).toArray] w fun e w'=>e = .returned (.bool (decide (a % pp=b % pp)))∧Below w.heap.size w w':=by
 have HS0:=(HH.one w (nl a) 68).more (nl b) 68
 simp only [World.size_alloc,List.cons_append,List.nil_append] at HS0
 have he:=CU (a % pp) (b % pp) (cY a) (cY b)
 go_enter Tryz.func123,Tryz.ntmps123
 go_wp2
 obtain ⟨x0,hx0⟩ : ∃ x,x=(w.alloc (.cells (nl a).toArray 68)).alloc (.cells (nl b).toArray 68):=⟨_,rfl⟩
 have HS:Hid (HH w [(w.heap.size,nl a,68),(w.heap.size+1,nl b,68)] x0):=by rw [hx0];exact HS0
 rw [←hx0]
 clear hx0 HS0
 refine wp_region_held_drew (S:=(fun w'=>HH w [(w.heap.size,nl a,68),(w.heap.size+1,nl b,68)] w')) (by kernel_rfl) ?_ (fun hHeld => ?_)
 ·exact HS.out.drew
 refine aL (i:=0) (v:=_) 5 rfl rfl (by kernel_rfl) (by kernel_rfl) (by kernel_rfl) (fun _ _ _ h=>h) (yieldsIf_load_mid (by rfl) _ _ rfl _ _ rfl _ _ (fun w h=>h.range (i:=0) rfl) Tryz.underlying68 rfl (r4 a)) hHeld ?_
 simp only [Act.put,qA,qC,qB]
 refine aL (i:=2) (v:=_) 7 rfl rfl (by kernel_rfl) (by kernel_rfl) (by kernel_rfl) (fun _ _ _ h=>h) (yieldsIf_load_mid (by rfl) _ _ rfl _ _ rfl _ _ (fun w h=>h.range (i:=1) rfl) Tryz.underlying68 rfl (r4 b)) hHeld ?_
 simp only [Act.put,qA,qC,qB]
 refine wpAnyH_ready (rs:=[1]) (by kernel_rfl) (by simp) ?_
 refine AllReadyH.cons rfl (fun K hK => ?_) AllReadyH.nil
 go_simp
 go_at_call 91
 refine (dv a ha _).mono ?_
 rintro e wA ⟨rfl,hbA⟩
 refine hK.out _ _ ?_ (fun hHeld => ?_)
 ·exact hHeld.call hbA
 clear hK K
 try simp only [Act.put,qA,qC,qB]
 refine wpAnyH_ready (rs:=[3]) (by kernel_rfl) (by simp) ?_
 refine AllReadyH.cons rfl (fun K hK => ?_) AllReadyH.nil
 go_simp
 go_at_call 91
 refine (dv b hb _).mono ?_
 rintro e wB ⟨rfl,hbB⟩
 refine hK.out _ _ ?_ (fun hHeld => ?_)
 ·exact hHeld.call hbB
 clear hK K
 try simp only [Act.put,qA,qC,qB]
 refine aL (i:=4) (v := ?_) 9 rfl rfl (by kernel_rfl) (by kernel_rfl) (by kernel_rfl) (fun _ _ _ h=>h) (Or.inl ⟨by rfl,?_⟩) hHeld ?_
 rotate_left 1
 ·intro w hSw;go_simp <;> with_reducible rfl
 simp only [Act.put,qA,qC,qB]
 refine aL (i:=5) (v := ?_) 4 rfl rfl (by kernel_rfl) (by kernel_rfl) (by kernel_rfl) (fun _ _ _ h=>h) (Or.inl ⟨by rfl,?_⟩) hHeld ?_
 rotate_left 1
 ·intro w hSw;go_simp <;> with_reducible rfl
 simp only [Act.put,qA,qC,qB]
 refine wpAnyH_done (by kernel_rfl) ?_ _
 go_wp2
 go_ret
 exact ⟨rfl,hHeld.below⟩
end Go.Proofs.YtajehiidpecknaaGreatDoor
