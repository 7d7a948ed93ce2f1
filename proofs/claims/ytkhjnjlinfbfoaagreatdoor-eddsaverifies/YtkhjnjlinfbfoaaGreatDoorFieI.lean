/- Package field: Add, Sub, Mul, Canonical. -/
import Derived.Test.YtkhjnjlinfbfoaaGreatDoorFieE
set_option linter.unusedSimpArgs false
set_option linter.unusedVariables false
namespace Go.Proofs.YtkhjnjlinfbfoaaGreatDoor
open Go Go.RowKit Go.Lib
theorem lt_of_cell {x:World} {g i:Nat} (h:(x.cell? ⟨g,i,none⟩).isSome=true):g<x.heap.size:=by
 obtain ⟨v,hv⟩:=Option.isSome_iff_exists.1 h
 exact block_lt_of_cell hv
theorem there_keep {x x':World} {g n:Nat} (hb:Below x.heap.size x x') (hn:0<n) (h:x.there g 0 n):x'.there g 0 n:=fun j hj=>by
 have hlt:=lt_of_cell (h 0 hn).1
 have e:=hb.block g hlt
 refine ⟨?_,?_⟩
 ·have:x'.cell? ⟨g,0+j,none⟩=x.cell? ⟨g,0+j,none⟩:=hb.cell (p:=⟨g,0+j,none⟩) hlt
  rw [this];exact (h j hj).1
 ·have:=(h j hj).2
  unfold World.frozen? at *
  simp only [e];exact this
structure SS (w0:World) (bs:List (Nat × List Value × TypeId)) (r n:Nat) (w:World):Prop where
 below:Below w0.heap.size w0 w
 holds : ∀ (i g:Nat) (L:List Value) (t:TypeId),bs[i]? = some (g,L,t)→w.heap[g]? = some (.cells L.toArray t (0,0))
 there:w.there r 0 n
theorem SS.call {w0:World} {bs:List (Nat × List Value × TypeId)} {r n:Nat} {w w':World} (h:SS w0 bs r (n+1) w) (hb:Below w.heap.size w w'):SS w0 bs r (n+1) w' :=
 ⟨chain h.below hb,fun i g L t hm=>keep' hb (h.holds i g L t hm),there_keep hb (by omega) h.there⟩
theorem SS.drew {w0:World} {bs:List (Nat × List Value × TypeId)} {r n:Nat} {w:World} (h:SS w0 bs r n w):SS w0 bs r n w.drew:=⟨h.below.drew,h.holds,h.there⟩
theorem SS.alloc {w0:World} {bs:List (Nat × List Value × TypeId)} {r n:Nat} {w:World} (h:SS w0 bs r (n+1) w) (o:Obj):SS w0 bs r (n+1) (w.alloc o) :=
 h.call ((Below.refl _ _).alloc (Nat.le_refl _) _)
theorem SS.range {w0:World} {bs:List (Nat × List Value × TypeId)} {r n:Nat} {w:World} (h:SS w0 bs r n w) {i g:Nat} {L:List Value} {t:TypeId} (hm:bs[i]? = some (g,L,t)):w.rangeAt g 0 L:=range_of_row (cs:=L.toArray) (h.holds i g L t hm)
theorem SS.store {w0:World} {bs:List (Nat × List Value × TypeId)} {r n:Nat} {w:World} (h:SS w0 bs r n w) (hr:w0.heap.size≤r) (hne : ∀ b ∈ bs,¬ b.1=r) (vs:List Value):SS w0 bs r n (w.setCells r 0 vs) :=
 ⟨below_setCells _ hr _ _ _ h.below,fun i g L t hm=>(heap_setCells_past r g (hne _ (List.mem_of_getElem? hm)) vs 0 w).trans (h.holds i g L t hm),World.there_setCells h.there _ _ _⟩
theorem SS.two (w:World) (a b:Nat) (t t':TypeId):SS w [(w.heap.size,bl a,t),(w.heap.size+1,bl b,t)] (w.heap.size+1+1) 32 (((w.alloc (.cells (bl a).toArray t)).alloc (.cells (bl b).toArray t)).alloc (.cells (bl 0).toArray t')):=by
 refine ⟨(((Below.refl _ _).alloc (Nat.le_refl _) _).alloc (by simp) _).alloc (by simp;omega) _,?_,there_of_row (heap_alloc_here _ _ _ (by simp)) 0 32 (by have:=br_size 0;simp only [br] at this;omega)⟩
 intro i g L t hm
 match i,hm with
 | 0,hm =>
  cases hm
  exact (heap_alloc_past _ _ _ (by simp;omega)).trans ((heap_alloc_past _ _ _ (by simp)).trans (heap_alloc_here _ _ _ rfl))
 | 1,hm =>
  cases hm
  exact (heap_alloc_past _ _ _ (by simp)).trans (heap_alloc_here _ _ _ (by simp))
theorem ne1 {a r:Nat} {x:List Value × TypeId} (h : ¬ a=r) : ∀ b ∈ [(a,x)],¬ b.1=r:=by
 intro b hb
 simp only [List.mem_cons,List.not_mem_nil,or_false] at hb
 rcases hb with rfl
 exact h
theorem ne2 {a a' r:Nat} {x x':List Value × TypeId} (h : ¬ a=r) (h' : ¬ a'=r) : ∀ b ∈ [(a,x),(a',x')],¬ b.1=r:=by
 intro b hb
 simp only [List.mem_cons,List.not_mem_nil,or_false] at hb
 rcases hb with rfl | rfl
 ·exact h
 ·exact h'
theorem ne3 {a a' a2 r:Nat} {x x' x2:List Value × TypeId} (h : ¬ a=r) (h' : ¬ a'=r) (h2 : ¬ a2=r) : ∀ b ∈ [(a,x),(a',x'),(a2,x2)],¬ b.1=r:=by
 intro b hb
 simp only [List.mem_cons,List.not_mem_nil,or_false] at hb
 rcases hb with rfl | rfl | rfl
 ·exact h
 ·exact h'
 ·exact h2
theorem size_32:(Tryz.prog.info? 22).map (·.size)=some 32:=by kernel_rfl
theorem i32 (n:Nat):(Tryz.prog.info? 22).map (·.size)=some (bl n).length:=by rw [bl_length];exact size_32
set_option maxRecDepth 100000 in
set_option maxHeartbeats 1000000 in
theorem Add_any (a b:Nat) (ha:a<RN) (hb:b<RN) (w:World) :
  Calls Tryz.prog 103 #[bv a,bv b] w fun e w'=>e = .returned (bv ((a+b) % pp))∧Below w.heap.size w w':=by
 have hz:=zero_32
 have ld : ∀ n w,Calls Tryz.prog 111 #[Value.agg (bl n).toArray] w fun e w'=>e = .returned (nv n)∧Below w.heap.size w w':=load_any
 have st : ∀ n,n<RN → ∀ w,Calls Tryz.prog 109 #[nv n] w fun e w'=>e = .returned (.agg (bl (n % pp)).toArray)∧Below w.heap.size w w':=store_any
 have HS:Hid (SS w [(w.heap.size,bl a,22),(w.heap.size+1,bl b,22)] (w.heap.size+1+1) 32 (((w.alloc (.cells (bl a).toArray 22)).alloc (.cells (bl b).toArray 22)).alloc (.cells (bl 0).toArray 22))):=SS.two w _ _ _ _
 have hza:(bl a).toArray.size=32:=br_size a
 have hzb:(bl b).toArray.size=32:=br_size b
 have hz0:(bl 0).toArray.size=32:=br_size 0
 simp only [bv,br] at hz ⊢
 go_enter Tryz.func103,Tryz.ntmps103
 go_wp2
 obtain ⟨x0,hx0⟩ : ∃ x,x=((w.alloc (.cells (bl a).toArray 22)).alloc (.cells (bl b).toArray 22)).alloc (.cells (bl 0).toArray 22):=⟨_,rfl⟩
 rw [←hx0] at HS ⊢
 clear hx0
 refine wp_region_held_drew (S:=(fun w'=>SS w [(w.heap.size,bl a,22),(w.heap.size+1,bl b,22)] (w.heap.size+1+1) 32 w')) (by kernel_rfl) ?_ (fun hHeld => ?_)
 ·exact HS.out.drew
 refine wpAnyH_take (i:=0) (v:=_) rfl (by kernel_rfl) (by kernel_rfl) (by kernel_rfl) (fun _ _ _ h=>h) (yieldsIf_load_mid (by rfl) _ _ rfl _ _ rfl _ _ (fun w h=>h.range (i:=0) rfl) Tryz.underlying22 rfl (i32 a)) hHeld ?_
 simp only [Act.put,List.setIfInBounds_toArray,List.set_cons_zero,List.set_cons_succ]
 refine wpAnyH_take (i:=2) (v:=_) rfl (by kernel_rfl) (by kernel_rfl) (by kernel_rfl) (fun _ _ _ h=>h) (yieldsIf_load_mid (by rfl) _ _ rfl _ _ rfl _ _ (fun w h=>h.range (i:=1) rfl) Tryz.underlying22 rfl (i32 b)) hHeld ?_
 simp only [Act.put,List.setIfInBounds_toArray,List.set_cons_zero,List.set_cons_succ]
 refine wpAnyH_ready (rs:=[1]) (by kernel_rfl) (by simp) ?_
 refine AllReadyH.cons rfl (fun K hK => ?_) AllReadyH.nil
 go_simp
 go_at_call 111
 refine (ld a _).mono ?_
 rintro e w1 ⟨rfl,hb1⟩
 refine hK.out _ _ ?_ (fun hHeld => ?_)
 ·exact hHeld.call hb1
 clear hK K
 try simp only [Act.put,List.setIfInBounds_toArray,List.set_cons_zero,List.set_cons_succ]
 refine wpAnyH_ready (rs:=[3]) (by kernel_rfl) (by simp) ?_
 refine AllReadyH.cons rfl (fun K hK => ?_) AllReadyH.nil
 go_simp
 go_at_call 111
 refine (ld b _).mono ?_
 rintro e w2 ⟨rfl,hb2⟩
 refine hK.out _ _ ?_ (fun hHeld => ?_)
 ·exact hHeld.call hb2
 clear hK K
 try simp only [Act.put,List.setIfInBounds_toArray,List.set_cons_zero,List.set_cons_succ]
 refine wpAnyH_ready (rs:=[4]) (by kernel_rfl) (by simp) ?_
 refine AllReadyH.cons rfl (fun K hK => ?_) AllReadyH.nil
 go_simp
 go_at_call 117
 refine (add_nat a b ha hb _).mono ?_
 rintro e w3 ⟨s,hs,rfl,es,hb3⟩
 refine hK.out _ _ ?_ (fun hHeld => ?_)
 ·exact hHeld.call hb3
 clear hK K
 try simp only [Act.put,List.setIfInBounds_toArray,List.set_cons_zero,List.set_cons_succ]
 refine wpAnyH_ready (rs:=[5]) (by kernel_rfl) (by simp) ?_
 refine AllReadyH.cons rfl (fun K hK => ?_) AllReadyH.nil
 go_simp
 go_at_call 109
 refine (st s hs _).mono ?_
 rintro e w4 ⟨rfl,hb4⟩
 refine hK.out _ _ ?_ (fun hHeld => ?_)
 ·exact hHeld.call hb4
 clear hK K
 try simp only [Act.put,List.setIfInBounds_toArray,List.set_cons_zero,List.set_cons_succ]
 have hT:w4.there (w.heap.size+1+1) 0 (br (s % pp)).size:=by rw [br_size];exact hHeld.there
 refine wpAnyH_ready (rs:=[6]) (by kernel_rfl) (by simp) ?_
 refine AllReadyH.cons rfl (fun K hK => ?_) AllReadyH.nil
 rw [if_pos (by rfl)]
 refine wp_store_mid _ _ _ rfl _ _ (br (s % pp)) rfl rfl hT (by rw [br_size];exact size_32) (br_one _) ?_
 refine hK.out _ _ ?_ (fun hHeld => ?_)
 ·exact hHeld.store (by omega) (ne2 (by omega) (by omega)) _
 clear hK K
 try simp only [Act.put,List.setIfInBounds_toArray,List.set_cons_zero,List.set_cons_succ]
 refine wpAnyH_done (by kernel_rfl) ?_ _
 go_wp2
 refine bodyPost_ret (v := .agg (bl (s % pp)).toArray) ?_ rfl ⟨?_,hHeld.below⟩
 ·exact results_mid Tryz.results103 _ _ (w.heap.size+1+1) 0 (bl (s % pp)) _ rfl (World.rangeAt_setCells_same _ _ _ _ hT) Tryz.underlying22 rfl (i32 _)
 ·rw [es]
set_option maxRecDepth 100000 in
set_option maxHeartbeats 1000000 in
theorem Sub_any (a b:Nat) (ha:a<RN) (hb:b<RN) (w:World) :
  Calls Tryz.prog 101 #[bv a,bv b] w fun e w'=>e = .returned (bv ((a+(pp - b % pp)) % pp))∧Below w.heap.size w w':=by
 have hz:=zero_32
 have ld : ∀ n w,Calls Tryz.prog 111 #[Value.agg (bl n).toArray] w fun e w'=>e = .returned (nv n)∧Below w.heap.size w w':=load_any
 have st : ∀ n,n<RN → ∀ w,Calls Tryz.prog 109 #[nv n] w fun e w'=>e = .returned (.agg (bl (n % pp)).toArray)∧Below w.heap.size w w':=store_any
 have HS:Hid (SS w [(w.heap.size,bl a,22),(w.heap.size+1,bl b,22)] (w.heap.size+1+1) 32 (((w.alloc (.cells (bl a).toArray 22)).alloc (.cells (bl b).toArray 22)).alloc (.cells (bl 0).toArray 22))):=SS.two w _ _ _ _
 have hza:(bl a).toArray.size=32:=br_size a
 have hzb:(bl b).toArray.size=32:=br_size b
 have hz0:(bl 0).toArray.size=32:=br_size 0
 simp only [bv,br] at hz ⊢
 go_enter Tryz.func101,Tryz.ntmps101
 go_wp2
 obtain ⟨x0,hx0⟩ : ∃ x,x=((w.alloc (.cells (bl a).toArray 22)).alloc (.cells (bl b).toArray 22)).alloc (.cells (bl 0).toArray 22):=⟨_,rfl⟩
 rw [←hx0] at HS ⊢
 clear hx0
 refine wp_region_held_drew (S:=(fun w'=>SS w [(w.heap.size,bl a,22),(w.heap.size+1,bl b,22)] (w.heap.size+1+1) 32 w')) (by kernel_rfl) ?_ (fun hHeld => ?_)
 ·exact HS.out.drew
 refine wpAnyH_take (i:=0) (v:=_) rfl (by kernel_rfl) (by kernel_rfl) (by kernel_rfl) (fun _ _ _ h=>h) (yieldsIf_load_mid (by rfl) _ _ rfl _ _ rfl _ _ (fun w h=>h.range (i:=0) rfl) Tryz.underlying22 rfl (i32 a)) hHeld ?_
 simp only [Act.put,List.setIfInBounds_toArray,List.set_cons_zero,List.set_cons_succ]
 refine wpAnyH_take (i:=2) (v:=_) rfl (by kernel_rfl) (by kernel_rfl) (by kernel_rfl) (fun _ _ _ h=>h) (yieldsIf_load_mid (by rfl) _ _ rfl _ _ rfl _ _ (fun w h=>h.range (i:=1) rfl) Tryz.underlying22 rfl (i32 b)) hHeld ?_
 simp only [Act.put,List.setIfInBounds_toArray,List.set_cons_zero,List.set_cons_succ]
 refine wpAnyH_ready (rs:=[1]) (by kernel_rfl) (by simp) ?_
 refine AllReadyH.cons rfl (fun K hK => ?_) AllReadyH.nil
 go_simp
 go_at_call 111
 refine (ld a _).mono ?_
 rintro e w1 ⟨rfl,hb1⟩
 refine hK.out _ _ ?_ (fun hHeld => ?_)
 ·exact hHeld.call hb1
 clear hK K
 try simp only [Act.put,List.setIfInBounds_toArray,List.set_cons_zero,List.set_cons_succ]
 refine wpAnyH_ready (rs:=[3]) (by kernel_rfl) (by simp) ?_
 refine AllReadyH.cons rfl (fun K hK => ?_) AllReadyH.nil
 go_simp
 go_at_call 111
 refine (ld b _).mono ?_
 rintro e w2 ⟨rfl,hb2⟩
 refine hK.out _ _ ?_ (fun hHeld => ?_)
 ·exact hHeld.call hb2
 clear hK K
 try simp only [Act.put,List.setIfInBounds_toArray,List.set_cons_zero,List.set_cons_succ]
 refine wpAnyH_ready (rs:=[4]) (by kernel_rfl) (by simp) ?_
 refine AllReadyH.cons rfl (fun K hK => ?_) AllReadyH.nil
 go_simp
 go_at_call 116
 refine (sub_nat a b ha hb _).mono ?_
 rintro e w3 ⟨s,hs,rfl,es,hb3⟩
 refine hK.out _ _ ?_ (fun hHeld => ?_)
 ·exact hHeld.call hb3
 clear hK K
 try simp only [Act.put,List.setIfInBounds_toArray,List.set_cons_zero,List.set_cons_succ]
 refine wpAnyH_ready (rs:=[5]) (by kernel_rfl) (by simp) ?_
 refine AllReadyH.cons rfl (fun K hK => ?_) AllReadyH.nil
 go_simp
 go_at_call 109
 refine (st s hs _).mono ?_
 rintro e w4 ⟨rfl,hb4⟩
 refine hK.out _ _ ?_ (fun hHeld => ?_)
 ·exact hHeld.call hb4
 clear hK K
 try simp only [Act.put,List.setIfInBounds_toArray,List.set_cons_zero,List.set_cons_succ]
 have hT:w4.there (w.heap.size+1+1) 0 (br (s % pp)).size:=by rw [br_size];exact hHeld.there
 refine wpAnyH_ready (rs:=[6]) (by kernel_rfl) (by simp) ?_
 refine AllReadyH.cons rfl (fun K hK => ?_) AllReadyH.nil
 rw [if_pos (by rfl)]
 refine wp_store_mid _ _ _ rfl _ _ (br (s % pp)) rfl rfl hT (by rw [br_size];exact size_32) (br_one _) ?_
 refine hK.out _ _ ?_ (fun hHeld => ?_)
 ·exact hHeld.store (by omega) (ne2 (by omega) (by omega)) _
 clear hK K
 try simp only [Act.put,List.setIfInBounds_toArray,List.set_cons_zero,List.set_cons_succ]
 refine wpAnyH_done (by kernel_rfl) ?_ _
 go_wp2
 refine bodyPost_ret (v := .agg (bl (s % pp)).toArray) ?_ rfl ⟨?_,hHeld.below⟩
 ·exact results_mid Tryz.results101 _ _ (w.heap.size+1+1) 0 (bl (s % pp)) _ rfl (World.rangeAt_setCells_same _ _ _ _ hT) Tryz.underlying22 rfl (i32 _)
 ·rw [es]
set_option maxRecDepth 100000 in
set_option maxHeartbeats 1000000 in
theorem Mul_any (a b:Nat) (ha:a<RN) (hb:b<RN) (w:World) :
  Calls Tryz.prog 93 #[bv a,bv b] w fun e w'=>e = .returned (bv ((a*b) % pp))∧Below w.heap.size w w':=by
 have hz:=zero_32
 have ld : ∀ n w,Calls Tryz.prog 111 #[Value.agg (bl n).toArray] w fun e w'=>e = .returned (nv n)∧Below w.heap.size w w':=load_any
 have st : ∀ n,n<RN → ∀ w,Calls Tryz.prog 109 #[nv n] w fun e w'=>e = .returned (.agg (bl (n % pp)).toArray)∧Below w.heap.size w w':=store_any
 have HS:Hid (SS w [(w.heap.size,bl a,22),(w.heap.size+1,bl b,22)] (w.heap.size+1+1) 32 (((w.alloc (.cells (bl a).toArray 22)).alloc (.cells (bl b).toArray 22)).alloc (.cells (bl 0).toArray 22))):=SS.two w _ _ _ _
 have hza:(bl a).toArray.size=32:=br_size a
 have hzb:(bl b).toArray.size=32:=br_size b
 have hz0:(bl 0).toArray.size=32:=br_size 0
 simp only [bv,br] at hz ⊢
 go_enter Tryz.func93,Tryz.ntmps93
 go_wp2
 obtain ⟨x0,hx0⟩ : ∃ x,x=((w.alloc (.cells (bl a).toArray 22)).alloc (.cells (bl b).toArray 22)).alloc (.cells (bl 0).toArray 22):=⟨_,rfl⟩
 rw [←hx0] at HS ⊢
 clear hx0
 refine wp_region_held_drew (S:=(fun w'=>SS w [(w.heap.size,bl a,22),(w.heap.size+1,bl b,22)] (w.heap.size+1+1) 32 w')) (by kernel_rfl) ?_ (fun hHeld => ?_)
 ·exact HS.out.drew
 refine wpAnyH_take (i:=0) (v:=_) rfl (by kernel_rfl) (by kernel_rfl) (by kernel_rfl) (fun _ _ _ h=>h) (yieldsIf_load_mid (by rfl) _ _ rfl _ _ rfl _ _ (fun w h=>h.range (i:=0) rfl) Tryz.underlying22 rfl (i32 a)) hHeld ?_
 simp only [Act.put,List.setIfInBounds_toArray,List.set_cons_zero,List.set_cons_succ]
 refine wpAnyH_take (i:=2) (v:=_) rfl (by kernel_rfl) (by kernel_rfl) (by kernel_rfl) (fun _ _ _ h=>h) (yieldsIf_load_mid (by rfl) _ _ rfl _ _ rfl _ _ (fun w h=>h.range (i:=1) rfl) Tryz.underlying22 rfl (i32 b)) hHeld ?_
 simp only [Act.put,List.setIfInBounds_toArray,List.set_cons_zero,List.set_cons_succ]
 refine wpAnyH_ready (rs:=[1]) (by kernel_rfl) (by simp) ?_
 refine AllReadyH.cons rfl (fun K hK => ?_) AllReadyH.nil
 go_simp
 go_at_call 111
 refine (ld a _).mono ?_
 rintro e w1 ⟨rfl,hb1⟩
 refine hK.out _ _ ?_ (fun hHeld => ?_)
 ·exact hHeld.call hb1
 clear hK K
 try simp only [Act.put,List.setIfInBounds_toArray,List.set_cons_zero,List.set_cons_succ]
 refine wpAnyH_ready (rs:=[3]) (by kernel_rfl) (by simp) ?_
 refine AllReadyH.cons rfl (fun K hK => ?_) AllReadyH.nil
 go_simp
 go_at_call 111
 refine (ld b _).mono ?_
 rintro e w2 ⟨rfl,hb2⟩
 refine hK.out _ _ ?_ (fun hHeld => ?_)
 ·exact hHeld.call hb2
 clear hK K
 try simp only [Act.put,List.setIfInBounds_toArray,List.set_cons_zero,List.set_cons_succ]
 refine wpAnyH_ready (rs:=[4]) (by kernel_rfl) (by simp) ?_
 refine AllReadyH.cons rfl (fun K hK => ?_) AllReadyH.nil
 go_simp
 go_at_call 112
 refine (mul_nat a b ha hb _).mono ?_
 rintro e w3 ⟨s,hs,rfl,es,hb3⟩
 refine hK.out _ _ ?_ (fun hHeld => ?_)
 ·exact hHeld.call hb3
 clear hK K
 try simp only [Act.put,List.setIfInBounds_toArray,List.set_cons_zero,List.set_cons_succ]
 refine wpAnyH_ready (rs:=[5]) (by kernel_rfl) (by simp) ?_
 refine AllReadyH.cons rfl (fun K hK => ?_) AllReadyH.nil
 go_simp
 go_at_call 109
 refine (st s hs _).mono ?_
 rintro e w4 ⟨rfl,hb4⟩
 refine hK.out _ _ ?_ (fun hHeld => ?_)
 ·exact hHeld.call hb4
 clear hK K
 try simp only [Act.put,List.setIfInBounds_toArray,List.set_cons_zero,List.set_cons_succ]
 have hT:w4.there (w.heap.size+1+1) 0 (br (s % pp)).size:=by rw [br_size];exact hHeld.there
 refine wpAnyH_ready (rs:=[6]) (by kernel_rfl) (by simp) ?_
 refine AllReadyH.cons rfl (fun K hK => ?_) AllReadyH.nil
 rw [if_pos (by rfl)]
 refine wp_store_mid _ _ _ rfl _ _ (br (s % pp)) rfl rfl hT (by rw [br_size];exact size_32) (br_one _) ?_
 refine hK.out _ _ ?_ (fun hHeld => ?_)
 ·exact hHeld.store (by omega) (ne2 (by omega) (by omega)) _
 clear hK K
 try simp only [Act.put,List.setIfInBounds_toArray,List.set_cons_zero,List.set_cons_succ]
 refine wpAnyH_done (by kernel_rfl) ?_ _
 go_wp2
 refine bodyPost_ret (v := .agg (bl (s % pp)).toArray) ?_ rfl ⟨?_,hHeld.below⟩
 ·exact results_mid Tryz.results93 _ _ (w.heap.size+1+1) 0 (bl (s % pp)) _ rfl (World.rangeAt_setCells_same _ _ _ _ hT) Tryz.underlying22 rfl (i32 _)
 ·rw [es]
end Go.Proofs.YtkhjnjlinfbfoaaGreatDoor
