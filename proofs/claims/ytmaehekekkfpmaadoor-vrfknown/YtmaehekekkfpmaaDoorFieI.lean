/- Package field: Add, Sub, Mul, Canonical. -/
import Derived.Test.YtmaehekekkfpmaaDoorFieE
import Derived.ChangeKeysEq
import Derived.Laws.StructEq
import Derived.Test.YtmaehekekkfpmaaDoorFieN
set_option linter.unusedSimpArgs false
set_option linter.unusedVariables false
namespace Go.Proofs.YtmaehekekkfpmaaDoor
open Go Go.RowKit Go.Lib
theorem lt_of_cell {x:World} {g i:Nat} (h:(x.cell? ⟨g,i,none⟩).isSome=true):g<x.heap.size:=by
 obtain ⟨v,hv⟩:=Option.isSome_iff_exists.1 h
 exact block_lt_of_cell hv
theorem there_keep {x x':World} {g n:Nat} (hb:Below x.heap.size x x') (hn:0<n) (h:x.there g 0 n):x'.there g 0 n:=fun j hj=>by
 have hlt:=lt_of_cell (h 0 hn).1
 have e:=hb.block g hlt
 refine ⟨?_,?_⟩
 ·have:x'.cell? ⟨g,0+j,none⟩=x.cell? ⟨g,0+j,none⟩:=hb.cell (p:=⟨g,0+j,none⟩) hlt
  rw [this];exact (h j hj).1
 ·have:=(h j hj).2
  unfold World.frozen? at *
  simp only [e];exact this
structure SS (w0:World) (bs:List (Nat × List Value × TypeId)) (r n:Nat) (w:World):Prop where
 below:Below w0.heap.size w0 w
 holds : ∀ (i g:Nat) (L:List Value) (t:TypeId),bs[i]? = some (g,L,t)→w.heap[g]? = some (.cells L.toArray t (0,0))
 there:w.there r 0 n
theorem SS.call {w0:World} {bs:List (Nat × List Value × TypeId)} {r n:Nat} {w w':World} (h:SS w0 bs r (n+1) w) (hb:Below w.heap.size w w'):SS w0 bs r (n+1) w' :=
 ⟨chain h.below hb,fun i g L t hm=>keep' hb (h.holds i g L t hm),there_keep hb (by omega) h.there⟩
theorem SS.drew {w0:World} {bs:List (Nat × List Value × TypeId)} {r n:Nat} {w:World} (h:SS w0 bs r n w):SS w0 bs r n w.drew:=⟨h.below.drew,h.holds,h.there⟩
theorem SS.alloc {w0:World} {bs:List (Nat × List Value × TypeId)} {r n:Nat} {w:World} (h:SS w0 bs r (n+1) w) (o:Obj):SS w0 bs r (n+1) (w.alloc o) :=
 h.call ((Below.refl _ _).alloc (Nat.le_refl _) _)
theorem SS.range {w0:World} {bs:List (Nat × List Value × TypeId)} {r n:Nat} {w:World} (h:SS w0 bs r n w) {i g:Nat} {L:List Value} {t:TypeId} (hm:bs[i]? = some (g,L,t)):w.rangeAt g 0 L:=range_of_row (cs:=L.toArray) (h.holds i g L t hm)
theorem SS.store {w0:World} {bs:List (Nat × List Value × TypeId)} {r n:Nat} {w:World} (h:SS w0 bs r n w) (hr:w0.heap.size≤r) (hne : ∀ b ∈ bs,¬ b.1=r) (vs:List Value):SS w0 bs r n (w.setCells r 0 vs) :=
 ⟨below_setCells _ hr _ _ _ h.below,fun i g L t hm=>(heap_setCells_past r g (hne _ (List.mem_of_getElem? hm)) vs 0 w).trans (h.holds i g L t hm),World.there_setCells h.there _ _ _⟩
theorem SS.two (w:World) (a b:Nat) (t t':TypeId):SS w [(w.heap.size,bl a,t),(w.heap.size+1,bl b,t)] (w.heap.size+1+1) 32 (((w.alloc (.cells (bl a).toArray t)).alloc (.cells (bl b).toArray t)).alloc (.cells (bl 0).toArray t')):=by
 refine ⟨(((Below.refl _ _).alloc (Nat.le_refl _) _).alloc (by simp) _).alloc (by simp;omega) _,?_,there_of_row (heap_alloc_here _ _ _ (by simp)) 0 32 (by have:=br_size 0;simp only [br] at this;omega)⟩
 intro i g L t hm
 match i,hm with
 | 0,hm =>
  cases hm
  exact (heap_alloc_past _ _ _ (by simp;omega)).trans ((heap_alloc_past _ _ _ (by simp)).trans (heap_alloc_here _ _ _ rfl))
 | 1,hm =>
  cases hm
  exact (heap_alloc_past _ _ _ (by simp)).trans (heap_alloc_here _ _ _ (by simp))
theorem ne1 {a r:Nat} {x:List Value × TypeId} (h : ¬ a=r) : ∀ b ∈ [(a,x)],¬ b.1=r:=by
 intro b hb
 simp only [List.mem_cons,List.not_mem_nil,or_false] at hb
 rcases hb with rfl
 exact h
theorem ne2 {a a' r:Nat} {x x':List Value × TypeId} (h : ¬ a=r) (h' : ¬ a'=r) : ∀ b ∈ [(a,x),(a',x')],¬ b.1=r:=by
 intro b hb
 simp only [List.mem_cons,List.not_mem_nil,or_false] at hb
 rcases hb with rfl | rfl
 ·exact h
 ·exact h'
theorem ne3 {a a' a2 r:Nat} {x x' x2:List Value × TypeId} (h : ¬ a=r) (h' : ¬ a'=r) (h2 : ¬ a2=r) : ∀ b ∈ [(a,x),(a',x'),(a2,x2)],¬ b.1=r:=by
 intro b hb
 simp only [List.mem_cons,List.not_mem_nil,or_false] at hb
 rcases hb with rfl | rfl | rfl
 ·exact h
 ·exact h'
 ·exact h2
theorem size_32:(Tryd.prog.info? 26).map (·.size)=some 32:=by kernel_rfl
theorem i32 (n:Nat):(Tryd.prog.info? 26).map (·.size)=some (bl n).length:=by rw [bl_length];exact size_32
set_option maxRecDepth 100000 in
set_option maxHeartbeats 1000000 in
theorem Add_any (a b:Nat) (ha:a<RN) (hb:b<RN) (w:World) :
  Calls Tryd.prog 58 #[bv a,bv b] w fun e w'=>e = .returned (bv ((a+b) % pp))∧Below w.heap.size w w':=by
 have hz:=zero_32
 have ld : ∀ n w,Calls Tryd.prog 63 #[Value.agg (bl n).toArray] w fun e w'=>e = .returned (nv n)∧Below w.heap.size w w':=load_any
 have st : ∀ n,n<RN → ∀ w,Calls Tryd.prog 61 #[nv n] w fun e w'=>e = .returned (.agg (bl (n % pp)).toArray)∧Below w.heap.size w w':=store_any
 have HS:Hid (SS w [(w.heap.size,bl a,26),(w.heap.size+1,bl b,26)] (w.heap.size+1+1) 32 (((w.alloc (.cells (bl a).toArray 26)).alloc (.cells (bl b).toArray 26)).alloc (.cells (bl 0).toArray 26))):=SS.two w _ _ _ _
 have hza:(bl a).toArray.size=32:=br_size a
 have hzb:(bl b).toArray.size=32:=br_size b
 have hz0:(bl 0).toArray.size=32:=br_size 0
 simp only [bv,br] at hz ⊢
 go_enter Tryd.func58,Tryd.ntmps58
 go_wp2
 obtain ⟨x0,hx0⟩ : ∃ x,x=((w.alloc (.cells (bl a).toArray 26)).alloc (.cells (bl b).toArray 26)).alloc (.cells (bl 0).toArray 26):=⟨_,rfl⟩
 rw [←hx0] at HS ⊢
 clear hx0
 refine wp_region_held_drew (S:=(fun w'=>SS w [(w.heap.size,bl a,26),(w.heap.size+1,bl b,26)] (w.heap.size+1+1) 32 w')) (by kernel_rfl) ?_ (fun hHeld => ?_)
 ·exact HS.out.drew
 refine wpAnyH_take (i:=0) (v:=_) rfl (by kernel_rfl) (by kernel_rfl) (by kernel_rfl) (fun _ _ _ h=>h) (yieldsIf_load_mid (by rfl) _ _ rfl _ _ rfl _ _ (fun w h=>h.range (i:=0) rfl) Tryd.underlying26 rfl (i32 a)) hHeld ?_
 simp only [Act.put,List.setIfInBounds_toArray,List.set_cons_zero,List.set_cons_succ]
 refine wpAnyH_take (i:=2) (v:=_) rfl (by kernel_rfl) (by kernel_rfl) (by kernel_rfl) (fun _ _ _ h=>h) (yieldsIf_load_mid (by rfl) _ _ rfl _ _ rfl _ _ (fun w h=>h.range (i:=1) rfl) Tryd.underlying26 rfl (i32 b)) hHeld ?_
 simp only [Act.put,List.setIfInBounds_toArray,List.set_cons_zero,List.set_cons_succ]
 refine wpAnyH_ready (rs:=[1]) (by kernel_rfl) (by simp) ?_
 refine AllReadyH.cons rfl (fun K hK => ?_) AllReadyH.nil
 go_simp
 go_at_call 63
 refine (ld a _).mono ?_
 rintro e w1 ⟨rfl,hb1⟩
 refine hK.out _ _ ?_ (fun hHeld => ?_)
 ·exact hHeld.call hb1
 clear hK K
 try simp only [Act.put,List.setIfInBounds_toArray,List.set_cons_zero,List.set_cons_succ]
 refine wpAnyH_ready (rs:=[3]) (by kernel_rfl) (by simp) ?_
 refine AllReadyH.cons rfl (fun K hK => ?_) AllReadyH.nil
 go_simp
 go_at_call 63
 refine (ld b _).mono ?_
 rintro e w2 ⟨rfl,hb2⟩
 refine hK.out _ _ ?_ (fun hHeld => ?_)
 ·exact hHeld.call hb2
 clear hK K
 try simp only [Act.put,List.setIfInBounds_toArray,List.set_cons_zero,List.set_cons_succ]
 refine wpAnyH_ready (rs:=[4]) (by kernel_rfl) (by simp) ?_
 refine AllReadyH.cons rfl (fun K hK => ?_) AllReadyH.nil
 go_simp
 go_at_call 75
 refine (add_nat a b ha hb _).mono ?_
 rintro e w3 ⟨s,hs,rfl,es,hb3⟩
 refine hK.out _ _ ?_ (fun hHeld => ?_)
 ·exact hHeld.call hb3
 clear hK K
 try simp only [Act.put,List.setIfInBounds_toArray,List.set_cons_zero,List.set_cons_succ]
 refine wpAnyH_ready (rs:=[5]) (by kernel_rfl) (by simp) ?_
 refine AllReadyH.cons rfl (fun K hK => ?_) AllReadyH.nil
 go_simp
 go_at_call 61
 refine (st s hs _).mono ?_
 rintro e w4 ⟨rfl,hb4⟩
 refine hK.out _ _ ?_ (fun hHeld => ?_)
 ·exact hHeld.call hb4
 clear hK K
 try simp only [Act.put,List.setIfInBounds_toArray,List.set_cons_zero,List.set_cons_succ]
 have hT:w4.there (w.heap.size+1+1) 0 (br (s % pp)).size:=by rw [br_size];exact hHeld.there
 refine wpAnyH_ready (rs:=[6]) (by kernel_rfl) (by simp) ?_
 refine AllReadyH.cons rfl (fun K hK => ?_) AllReadyH.nil
 rw [if_pos (by rfl)]
 refine wp_store_mid _ _ _ rfl _ _ (br (s % pp)) rfl rfl hT (by rw [br_size];exact size_32) (br_one _) ?_
 refine hK.out _ _ ?_ (fun hHeld => ?_)
 ·exact hHeld.store (by omega) (ne2 (by omega) (by omega)) _
 clear hK K
 try simp only [Act.put,List.setIfInBounds_toArray,List.set_cons_zero,List.set_cons_succ]
 refine wpAnyH_done (by kernel_rfl) ?_ _
 go_wp2
 refine bodyPost_ret (v := .agg (bl (s % pp)).toArray) ?_ rfl ⟨?_,hHeld.below⟩
 ·exact results_mid Tryd.results58 _ _ (w.heap.size+1+1) 0 (bl (s % pp)) _ rfl (World.rangeAt_setCells_same _ _ _ _ hT) Tryd.underlying26 rfl (i32 _)
 ·rw [es]
set_option maxRecDepth 100000 in
set_option maxHeartbeats 1000000 in
theorem Sub_any (a b:Nat) (ha:a<RN) (hb:b<RN) (w:World) :
  Calls Tryd.prog 56 #[bv a,bv b] w fun e w'=>e = .returned (bv ((a+(pp - b % pp)) % pp))∧Below w.heap.size w w':=by
 have hz:=zero_32
 have ld : ∀ n w,Calls Tryd.prog 63 #[Value.agg (bl n).toArray] w fun e w'=>e = .returned (nv n)∧Below w.heap.size w w':=load_any
 have st : ∀ n,n<RN → ∀ w,Calls Tryd.prog 61 #[nv n] w fun e w'=>e = .returned (.agg (bl (n % pp)).toArray)∧Below w.heap.size w w':=store_any
 have HS:Hid (SS w [(w.heap.size,bl a,26),(w.heap.size+1,bl b,26)] (w.heap.size+1+1) 32 (((w.alloc (.cells (bl a).toArray 26)).alloc (.cells (bl b).toArray 26)).alloc (.cells (bl 0).toArray 26))):=SS.two w _ _ _ _
 have hza:(bl a).toArray.size=32:=br_size a
 have hzb:(bl b).toArray.size=32:=br_size b
 have hz0:(bl 0).toArray.size=32:=br_size 0
 simp only [bv,br] at hz ⊢
 go_enter Tryd.func56,Tryd.ntmps56
 go_wp2
 obtain ⟨x0,hx0⟩ : ∃ x,x=((w.alloc (.cells (bl a).toArray 26)).alloc (.cells (bl b).toArray 26)).alloc (.cells (bl 0).toArray 26):=⟨_,rfl⟩
 rw [←hx0] at HS ⊢
 clear hx0
 refine wp_region_held_drew (S:=(fun w'=>SS w [(w.heap.size,bl a,26),(w.heap.size+1,bl b,26)] (w.heap.size+1+1) 32 w')) (by kernel_rfl) ?_ (fun hHeld => ?_)
 ·exact HS.out.drew
 refine wpAnyH_take (i:=0) (v:=_) rfl (by kernel_rfl) (by kernel_rfl) (by kernel_rfl) (fun _ _ _ h=>h) (yieldsIf_load_mid (by rfl) _ _ rfl _ _ rfl _ _ (fun w h=>h.range (i:=0) rfl) Tryd.underlying26 rfl (i32 a)) hHeld ?_
 simp only [Act.put,List.setIfInBounds_toArray,List.set_cons_zero,List.set_cons_succ]
 refine wpAnyH_take (i:=2) (v:=_) rfl (by kernel_rfl) (by kernel_rfl) (by kernel_rfl) (fun _ _ _ h=>h) (yieldsIf_load_mid (by rfl) _ _ rfl _ _ rfl _ _ (fun w h=>h.range (i:=1) rfl) Tryd.underlying26 rfl (i32 b)) hHeld ?_
 simp only [Act.put,List.setIfInBounds_toArray,List.set_cons_zero,List.set_cons_succ]
 refine wpAnyH_ready (rs:=[1]) (by kernel_rfl) (by simp) ?_
 refine AllReadyH.cons rfl (fun K hK => ?_) AllReadyH.nil
 go_simp
 go_at_call 63
 refine (ld a _).mono ?_
 rintro e w1 ⟨rfl,hb1⟩
 refine hK.out _ _ ?_ (fun hHeld => ?_)
 ·exact hHeld.call hb1
 clear hK K
 try simp only [Act.put,List.setIfInBounds_toArray,List.set_cons_zero,List.set_cons_succ]
 refine wpAnyH_ready (rs:=[3]) (by kernel_rfl) (by simp) ?_
 refine AllReadyH.cons rfl (fun K hK => ?_) AllReadyH.nil
 go_simp
 go_at_call 63
 refine (ld b _).mono ?_
 rintro e w2 ⟨rfl,hb2⟩
 refine hK.out _ _ ?_ (fun hHeld => ?_)
 ·exact hHeld.call hb2
 clear hK K
 try simp only [Act.put,List.setIfInBounds_toArray,List.set_cons_zero,List.set_cons_succ]
 refine wpAnyH_ready (rs:=[4]) (by kernel_rfl) (by simp) ?_
 refine AllReadyH.cons rfl (fun K hK => ?_) AllReadyH.nil
 go_simp
 go_at_call 74
 refine (sub_nat a b ha hb _).mono ?_
 rintro e w3 ⟨s,hs,rfl,es,hb3⟩
 refine hK.out _ _ ?_ (fun hHeld => ?_)
 ·exact hHeld.call hb3
 clear hK K
 try simp only [Act.put,List.setIfInBounds_toArray,List.set_cons_zero,List.set_cons_succ]
 refine wpAnyH_ready (rs:=[5]) (by kernel_rfl) (by simp) ?_
 refine AllReadyH.cons rfl (fun K hK => ?_) AllReadyH.nil
 go_simp
 go_at_call 61
 refine (st s hs _).mono ?_
 rintro e w4 ⟨rfl,hb4⟩
 refine hK.out _ _ ?_ (fun hHeld => ?_)
 ·exact hHeld.call hb4
 clear hK K
 try simp only [Act.put,List.setIfInBounds_toArray,List.set_cons_zero,List.set_cons_succ]
 have hT:w4.there (w.heap.size+1+1) 0 (br (s % pp)).size:=by rw [br_size];exact hHeld.there
 refine wpAnyH_ready (rs:=[6]) (by kernel_rfl) (by simp) ?_
 refine AllReadyH.cons rfl (fun K hK => ?_) AllReadyH.nil
 rw [if_pos (by rfl)]
 refine wp_store_mid _ _ _ rfl _ _ (br (s % pp)) rfl rfl hT (by rw [br_size];exact size_32) (br_one _) ?_
 refine hK.out _ _ ?_ (fun hHeld => ?_)
 ·exact hHeld.store (by omega) (ne2 (by omega) (by omega)) _
 clear hK K
 try simp only [Act.put,List.setIfInBounds_toArray,List.set_cons_zero,List.set_cons_succ]
 refine wpAnyH_done (by kernel_rfl) ?_ _
 go_wp2
 refine bodyPost_ret (v := .agg (bl (s % pp)).toArray) ?_ rfl ⟨?_,hHeld.below⟩
 ·exact results_mid Tryd.results56 _ _ (w.heap.size+1+1) 0 (bl (s % pp)) _ rfl (World.rangeAt_setCells_same _ _ _ _ hT) Tryd.underlying26 rfl (i32 _)
 ·rw [es]
set_option maxRecDepth 100000 in
set_option maxHeartbeats 1000000 in
theorem Mul_any (a b:Nat) (ha:a<RN) (hb:b<RN) (w:World) :
  Calls Tryd.prog 40 #[bv a,bv b] w fun e w'=>e = .returned (bv ((a*b) % pp))∧Below w.heap.size w w':=by
 have hz:=zero_32
 have ld : ∀ n w,Calls Tryd.prog 63 #[Value.agg (bl n).toArray] w fun e w'=>e = .returned (nv n)∧Below w.heap.size w w':=load_any
 have st : ∀ n,n<RN → ∀ w,Calls Tryd.prog 61 #[nv n] w fun e w'=>e = .returned (.agg (bl (n % pp)).toArray)∧Below w.heap.size w w':=store_any
 have HS:Hid (SS w [(w.heap.size,bl a,26),(w.heap.size+1,bl b,26)] (w.heap.size+1+1) 32 (((w.alloc (.cells (bl a).toArray 26)).alloc (.cells (bl b).toArray 26)).alloc (.cells (bl 0).toArray 26))):=SS.two w _ _ _ _
 have hza:(bl a).toArray.size=32:=br_size a
 have hzb:(bl b).toArray.size=32:=br_size b
 have hz0:(bl 0).toArray.size=32:=br_size 0
 simp only [bv,br] at hz ⊢
 go_enter Tryd.func40,Tryd.ntmps40
 go_wp2
 obtain ⟨x0,hx0⟩ : ∃ x,x=((w.alloc (.cells (bl a).toArray 26)).alloc (.cells (bl b).toArray 26)).alloc (.cells (bl 0).toArray 26):=⟨_,rfl⟩
 rw [←hx0] at HS ⊢
 clear hx0
 refine wp_region_held_drew (S:=(fun w'=>SS w [(w.heap.size,bl a,26),(w.heap.size+1,bl b,26)] (w.heap.size+1+1) 32 w')) (by kernel_rfl) ?_ (fun hHeld => ?_)
 ·exact HS.out.drew
 refine wpAnyH_take (i:=0) (v:=_) rfl (by kernel_rfl) (by kernel_rfl) (by kernel_rfl) (fun _ _ _ h=>h) (yieldsIf_load_mid (by rfl) _ _ rfl _ _ rfl _ _ (fun w h=>h.range (i:=0) rfl) Tryd.underlying26 rfl (i32 a)) hHeld ?_
 simp only [Act.put,List.setIfInBounds_toArray,List.set_cons_zero,List.set_cons_succ]
 refine wpAnyH_take (i:=2) (v:=_) rfl (by kernel_rfl) (by kernel_rfl) (by kernel_rfl) (fun _ _ _ h=>h) (yieldsIf_load_mid (by rfl) _ _ rfl _ _ rfl _ _ (fun w h=>h.range (i:=1) rfl) Tryd.underlying26 rfl (i32 b)) hHeld ?_
 simp only [Act.put,List.setIfInBounds_toArray,List.set_cons_zero,List.set_cons_succ]
 refine wpAnyH_ready (rs:=[1]) (by kernel_rfl) (by simp) ?_
 refine AllReadyH.cons rfl (fun K hK => ?_) AllReadyH.nil
 go_simp
 go_at_call 63
 refine (ld a _).mono ?_
 rintro e w1 ⟨rfl,hb1⟩
 refine hK.out _ _ ?_ (fun hHeld => ?_)
 ·exact hHeld.call hb1
 clear hK K
 try simp only [Act.put,List.setIfInBounds_toArray,List.set_cons_zero,List.set_cons_succ]
 refine wpAnyH_ready (rs:=[3]) (by kernel_rfl) (by simp) ?_
 refine AllReadyH.cons rfl (fun K hK => ?_) AllReadyH.nil
 go_simp
 go_at_call 63
 refine (ld b _).mono ?_
 rintro e w2 ⟨rfl,hb2⟩
 refine hK.out _ _ ?_ (fun hHeld => ?_)
 ·exact hHeld.call hb2
 clear hK K
 try simp only [Act.put,List.setIfInBounds_toArray,List.set_cons_zero,List.set_cons_succ]
 refine wpAnyH_ready (rs:=[4]) (by kernel_rfl) (by simp) ?_
 refine AllReadyH.cons rfl (fun K hK => ?_) AllReadyH.nil
 go_simp
 go_at_call 64
 refine (mul_nat a b ha hb _).mono ?_
 rintro e w3 ⟨s,hs,rfl,es,hb3⟩
 refine hK.out _ _ ?_ (fun hHeld => ?_)
 ·exact hHeld.call hb3
 clear hK K
 try simp only [Act.put,List.setIfInBounds_toArray,List.set_cons_zero,List.set_cons_succ]
 refine wpAnyH_ready (rs:=[5]) (by kernel_rfl) (by simp) ?_
 refine AllReadyH.cons rfl (fun K hK => ?_) AllReadyH.nil
 go_simp
 go_at_call 61
 refine (st s hs _).mono ?_
 rintro e w4 ⟨rfl,hb4⟩
 refine hK.out _ _ ?_ (fun hHeld => ?_)
 ·exact hHeld.call hb4
 clear hK K
 try simp only [Act.put,List.setIfInBounds_toArray,List.set_cons_zero,List.set_cons_succ]
 have hT:w4.there (w.heap.size+1+1) 0 (br (s % pp)).size:=by rw [br_size];exact hHeld.there
 refine wpAnyH_ready (rs:=[6]) (by kernel_rfl) (by simp) ?_
 refine AllReadyH.cons rfl (fun K hK => ?_) AllReadyH.nil
 rw [if_pos (by rfl)]
 refine wp_store_mid _ _ _ rfl _ _ (br (s % pp)) rfl rfl hT (by rw [br_size];exact size_32) (br_one _) ?_
 refine hK.out _ _ ?_ (fun hHeld => ?_)
 ·exact hHeld.store (by omega) (ne2 (by omega) (by omega)) _
 clear hK K
 try simp only [Act.put,List.setIfInBounds_toArray,List.set_cons_zero,List.set_cons_succ]
 refine wpAnyH_done (by kernel_rfl) ?_ _
 go_wp2
 refine bodyPost_ret (v := .agg (bl (s % pp)).toArray) ?_ rfl ⟨?_,hHeld.below⟩
 ·exact results_mid Tryd.results40 _ _ (w.heap.size+1+1) 0 (bl (s % pp)) _ rfl (World.rangeAt_setCells_same _ _ _ _ hT) Tryd.underlying26 rfl (i32 _)
 ·rw [es]
end Go.Proofs.YtmaehekekkfpmaaDoor
/- Equality of 32 bytes and of numbers; what a law holds while it walks. -/
namespace Go.Proofs.YtmaehekekkfpmaaDoor
open Go Go.RowKit Go.Lib
set_option maxRecDepth 100000
theorem items (m n:Nat) (d:Nat) (w:World) : ∀ is:List Nat,(∀ i ∈ is,i<32) →
  (Op.eqItems (d+1) 5 (Tryd.prog.cellsOf 5) (br m) (br n) is).run Tryd.prog w = .ok (is.all fun i=>decide (by8 m i=by8 n i)) w
 | [],_=>by simp [Op.eqItems]
 | i :: is,h=>by
  have hi:=h i (by simp)
  have hc:Tryd.prog.cellsOf 5=1:=by kernel_rfl
  have hp:Tryd.prog.plainKey 5=true:=by kernel_rfl
  have p1:=run_part_plain (P:=Tryd.prog) w hp (xs:=br m) (off:=i) (br_get m i hi)
  have p2:=run_part_plain (P:=Tryd.prog) w hp (xs:=br n) (off:=i) (br_get n i hi)
  have p3:=run_equalIn_int (P:=Tryd.prog) w d 5 .u8 .u8 (by8 m i) (by8 n i) Tryd.underlying5
  have ih:=items m n d w is (fun j hj=>h j (by simp [hj]))
  rw [hc] at ih
  simp only [Op.eqItems,hc,Nat.mul_one,Sem.run_bind,p1,p2,p3,Result.andThen_ok,List.all_cons]
  by_cases e:by8 m i=by8 n i
  ·simp [e,ih]
  ·simp [e]
theorem low_eq {m n:Nat} : ∀ k,(∀ i,i<k→by8 m i=by8 n i)→m % 256 ^ k=n % 256 ^ k
 | 0,_=>by simp [Nat.mod_one]
 | k+1,h=>by
  have e:=h k (by omega)
  have ih:=low_eq k (fun i hi=>h i (by omega))
  unfold by8 at e
  rw [Nat.mod_pow_succ,Nat.mod_pow_succ,ih]
  have:m/256 ^ k % 256=n/256 ^ k % 256:=by omega
  rw [this]
theorem eq_row (m n:Nat) (hm:m<RN) (hn:n<RN) (w:World):(Op.equalIn 10000 26 (.agg (bl m).toArray) (.agg (bl n).toArray)).run Tryd.prog w = .ok (decide (m=n)) w:=by
 obtain ⟨i,hi⟩ : ∃ i,Tryd.prog.info? 5=some i:=by
  cases h:Tryd.prog.info? 5 with
  | none=>have:=size_u8;rw [h] at this;cases this
  | some i=>exact ⟨i,rfl⟩
 have:=run_equalIn_array (P:=Tryd.prog) w 9999 (br m) (br n) Tryd.underlying26 hi
 rw [items m n 9998 w _ (fun i hi=>List.mem_range.1 hi)] at this
 refine this.trans ?_
 congr 1
 by_cases e:m=n
 ·subst e;simp
 ·rw [decide_eq_false e]
  rw [Bool.eq_false_iff]
  intro h
  rw [List.all_eq_true] at h
  refine e ?_
  have:=low_eq (m:=m) (n:=n) 32 (fun i hi=>by simpa using h i (List.mem_range.2 hi))
  rw [Nat.mod_eq_of_lt (by exact hm),Nat.mod_eq_of_lt (by exact hn)] at this
  exact this
theorem eq_num (m n:Nat) (hm:m<RN) (hn:n<RN) (w:World):(Op.equalIn 10000 94 (nv m) (nv n)).run Tryd.prog w = .ok (decide (m=n)) w:=by
 have hS:Tryd.prog.underlying 94=some (.struct (Tryd.prog.fieldsOf 94)):=by kernel_rfl
 have hp:Tryd.prog.stoodInHeld 94=false:=by kernel_rfl
 have u:=Tryd.underlying57
 have key:(Op.equalIn 10000 94 (nv m) (nv n)).run Tryd.prog w = .ok (lw m 0 == lw n 0 && (lw m 1 == lw n 1 && (lw m 2 == lw n 2 && lw m 3 == lw n 3))) w:=by
  unfold nv
  rw [show (10000:Nat)=9999+1 from rfl,run_equalIn_agg w 9999 94 _ _ hS hp]
  simp only [Program.fieldsOf,Tryd.underlying94]
  go_simp
  by_cases h0:lw m 0=lw n 0 <;> by_cases h1:lw m 1=lw n 1 <;> by_cases h2:lw m 2=lw n 2 <;> by_cases h3:lw m 3=lw n 3 <;> simp [h0,h1,h2,h3]
 rw [key]
 congr 1
 by_cases e:m=n
 ·subst e;simp
 ·rw [decide_eq_false e,Bool.eq_false_iff]
  intro h
  simp only [Bool.and_eq_true,beq_iff_eq] at h
  refine e (nv_inj hm hn ?_)
  simp only [nv,h.1,h.2.1,h.2.2.1,h.2.2.2]
structure HH (w0:World) (bs:List (Nat × List Value × TypeId)) (w:World):Prop where
 below:Below w0.heap.size w0 w
 holds : ∀ (i g:Nat) (L:List Value) (t:TypeId),bs[i]? = some (g,L,t)→w.heap[g]? = some (.cells L.toArray t (0,0))
theorem HH.call {w0:World} {bs:List (Nat × List Value × TypeId)} {w w':World} (h:HH w0 bs w) (hb:Below w.heap.size w w'):HH w0 bs w' :=
 ⟨chain h.below hb,fun i g L t hm=>keep' hb (h.holds i g L t hm)⟩
theorem HH.drew {w0:World} {bs:List (Nat × List Value × TypeId)} {w:World} (h:HH w0 bs w):HH w0 bs w.drew:=⟨h.below.drew,h.holds⟩
theorem HH.range {w0:World} {bs:List (Nat × List Value × TypeId)} {w:World} (h:HH w0 bs w) {i g:Nat} {L:List Value} {t:TypeId} (hm:bs[i]? = some (g,L,t)):w.rangeAt g 0 L:=range_of_row (cs:=L.toArray) (h.holds i g L t hm)
theorem HH.one (w:World) (L:List Value) (t:TypeId):HH w [(w.heap.size,L,t)] (w.alloc (.cells L.toArray t)):=by
 refine ⟨(Below.refl _ _).alloc (Nat.le_refl _) _,?_⟩
 intro i g L t hm
 match i,hm with
 | 0,hm=>cases hm;exact heap_alloc_here _ _ _ rfl
theorem take1 {P:Program} {md:Region.Mode} {ops:Array Oper} {Q:Exit→Act→World→Prop} {S:World→Prop} {i:Nat} {oi:Oper} {v:Value} {fuel:Nat} {listed:Array Bool} {a:Act} {w:World} (d:Tmp) (hi:ops[i]? = some oi) (hd:oi.dst=some d)
  (hs:Region.noSelect ops=true) (hf:Region.free md ops listed i=true) (hr:(Region.ready md ops listed).contains i=true)
  (hQ : ∀ c a w,Q (.panic c) (a.put (some d) v) w→Q (.panic c) a w) (hy:YieldsIf P ops S oi v a) (hS:S w)
  (h:wpAnyH P md ops Q S fuel (listed.setIfInBounds i true) (a.put (some d) v) w):wpAnyH P md ops Q S (fuel+1) listed a w :=
 wpAnyH_take hi hs hf hr (by rw [hd];exact hQ) hy hS (by rw [hd];exact h)
end Go.Proofs.YtmaehekekkfpmaaDoor
/- Package field: Canonical; the law's awake. -/
namespace Go.Proofs.YtmaehekekkfpmaaDoor
open Go Go.RowKit Go.Lib
theorem pp_lt:pp<RN:=by decide
theorem mod_lt_RN (a:Nat):a % pp<RN:=Nat.lt_trans (Nat.mod_lt _ (by decide)) pp_lt
theorem mod_eq_self (a:Nat):decide (a % pp=a)=decide (a<pp):=by
 by_cases h:a<pp
 ·rw [decide_eq_true h,decide_eq_true (Nat.mod_eq_of_lt h)]
 ·have:=Nat.mod_lt a (show pp>0 by decide)
  rw [decide_eq_false h,decide_eq_false (by omega)]
set_option maxRecDepth 100000 in
set_option maxHeartbeats 1000000 in
theorem Canonical_any (a:Nat) (ha:a<RN) (w:World) :
  Calls Tryd.prog 53 #[bv a] w fun e w'=>e = .returned (.bool (decide (a<pp)))∧Below w.heap.size w w':=by
 have ld : ∀ n w,Calls Tryd.prog 63 #[Value.agg (bl n).toArray] w fun e w'=>e = .returned (nv n)∧Below w.heap.size w w':=load_any
 have st : ∀ n,n<RN → ∀ w,Calls Tryd.prog 61 #[nv n] w fun e w'=>e = .returned (.agg (bl (n % pp)).toArray)∧Below w.heap.size w w':=store_any
 have HS:Hid (HH w [(w.heap.size,bl a,26)] (w.alloc (.cells (bl a).toArray 26))):=HH.one w _ _
 have hza:(bl a).toArray.size=32:=br_size a
 have he:=eq_row (a % pp) a (mod_lt_RN a) ha
 rw [mod_eq_self] at he
 simp only [bv,br]
 go_enter Tryd.func53,Tryd.ntmps53
 go_wp2
 obtain ⟨x0,hx0⟩ : ∃ x,x=w.alloc (.cells (bl a).toArray 26):=⟨_,rfl⟩
 rw [←hx0] at HS ⊢
 clear hx0
 refine wp_region_held_drew (S:=(fun w'=>HH w [(w.heap.size,bl a,26)] w')) (by kernel_rfl) ?_ (fun hHeld => ?_)
 ·exact HS.out.drew
 refine take1 (i:=0) (v:=_) 3 rfl rfl (by kernel_rfl) (by kernel_rfl) (by kernel_rfl) (fun _ _ _ h=>h) (yieldsIf_load_mid (by rfl) _ _ rfl _ _ rfl _ _ (fun w h=>h.range (i:=0) rfl) Tryd.underlying26 rfl (i32 a)) hHeld ?_
 simp only [Act.put,List.setIfInBounds_toArray,List.set_cons_zero,List.set_cons_succ]
 refine take1 (i:=3) (v:=_) 6 rfl rfl (by kernel_rfl) (by kernel_rfl) (by kernel_rfl) (fun _ _ _ h=>h) (yieldsIf_load_mid (by rfl) _ _ rfl _ _ rfl _ _ (fun w h=>h.range (i:=0) rfl) Tryd.underlying26 rfl (i32 a)) hHeld ?_
 simp only [Act.put,List.setIfInBounds_toArray,List.set_cons_zero,List.set_cons_succ]
 refine wpAnyH_ready (rs:=[1]) (by kernel_rfl) (by simp) ?_
 refine AllReadyH.cons rfl (fun K hK => ?_) AllReadyH.nil
 go_simp
 go_at_call 63
 refine (ld a _).mono ?_
 rintro e w1 ⟨rfl,hb1⟩
 refine hK.out _ _ ?_ (fun hHeld => ?_)
 ·exact hHeld.call hb1
 clear hK K
 try simp only [Act.put,List.setIfInBounds_toArray,List.set_cons_zero,List.set_cons_succ]
 refine wpAnyH_ready (rs:=[2]) (by kernel_rfl) (by simp) ?_
 refine AllReadyH.cons rfl (fun K hK => ?_) AllReadyH.nil
 go_simp
 go_at_call 61
 refine (st a ha _).mono ?_
 rintro e w2 ⟨rfl,hb2⟩
 refine hK.out _ _ ?_ (fun hHeld => ?_)
 ·exact hHeld.call hb2
 clear hK K
 try simp only [Act.put,List.setIfInBounds_toArray,List.set_cons_zero,List.set_cons_succ]
 refine take1 (i:=4) (v := ?_) 7 rfl rfl (by kernel_rfl) (by kernel_rfl) (by kernel_rfl) (fun _ _ _ h=>h) (Or.inl ⟨by rfl,?_⟩) hHeld ?_
 rotate_left 1
 ·intro w hSw;go_simp <;> with_reducible rfl
 simp only [Act.put,List.setIfInBounds_toArray,List.set_cons_zero,List.set_cons_succ]
 refine take1 (i:=5) (v := ?_) 2 rfl rfl (by kernel_rfl) (by kernel_rfl) (by kernel_rfl) (fun _ _ _ h=>h) (Or.inl ⟨by rfl,?_⟩) hHeld ?_
 rotate_left 1
 ·intro w hSw;go_simp <;> with_reducible rfl
 simp only [Act.put,List.setIfInBounds_toArray,List.set_cons_zero,List.set_cons_succ]
 refine wpAnyH_done (by kernel_rfl) ?_ _
 go_wp2
 go_ret
 exact ⟨rfl,hHeld.below⟩
end Go.Proofs.YtmaehekekkfpmaaDoor
/- The law's awake; what the laws lean on: the four calls in the laws' own spelling. -/
namespace Go.Proofs.YtmaehekekkfpmaaDoor
open Go Go.RowKit Go.Lib
theorem lit0:(#[.int .u8 0,.int .u8 0,.int .u8 0,.int .u8 0,.int .u8 0,.int .u8 0,.int .u8 0,.int .u8 0,.int .u8 0,.int .u8 0,.int .u8 0,.int .u8 0,.int .u8 0,.int .u8 0,.int .u8 0,.int .u8 0,.int .u8 0,.int .u8 0,.int .u8 0,.int .u8 0,.int .u8 0,.int .u8 0,.int .u8 0,.int .u8 0,.int .u8 0,.int .u8 0,.int .u8 0,.int .u8 0,.int .u8 0,.int .u8 0,.int .u8 0,.int .u8 0]:Array Value)=(bl 0).toArray:=by kernel_rfl
end Go.Proofs.YtmaehekekkfpmaaDoor
/- Plain number theory: inverses modulo p. -/
namespace Go.Proofs.YtmaehekekkfpmaaDoor
open Go
theorem pp_pos:0<pp:=by decide
theorem inv_one (a:Nat) (h : ¬ a % pp=0):a*(a ^ (pp - 2) % pp) % pp=1:=by
 have hd : ¬ pp ∣ a:=fun d=>h (Nat.mod_eq_zero_of_dvd d)
 have f:=prm.fermat hd
 rw [Nat.mul_mod_mod,Nat.mul_comm,←Nat.pow_succ,show (pp - 2).succ=pp - 1 by decide]
 exact f
end Go.Proofs.YtmaehekekkfpmaaDoor
