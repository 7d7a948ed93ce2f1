import Derived.Test.YtajehiidpecknaaGreatDoorFieD
import Derived.ChangeKeysEq
import Derived.Laws.StructEq
import Derived.Test.YtajehiidpecknaaGreatDoorFeA
import Derived.Deep.CutRange
import Derived.Test.YtajehiidpecknaaGreatDoorFeG
set_option linter.all false
namespace Go.Proofs.YtajehiidpecknaaGreatDoor
open Go Go.RowKit Go.Lib
theorem oL {x:World} {g i:Nat} (h:(x.cell? ⟨g,i,none⟩).isSome=true):g<x.heap.size:=by
 obtain ⟨v,hv⟩:=Option.isSome_iff_exists.1 h
 exact block_lt_of_cell hv
theorem fm {x x':World} {g n:Nat} (hb:Below x.heap.size x x') (hn:0<n) (h:x.there g 0 n):x'.there g 0 n:=fun j hj=>by
 have hlt:=oL (h 0 hn).1
 have e:=hb.block g hlt
 refine ⟨?_,?_⟩
 ·have:x'.cell? ⟨g,0+j,none⟩=x.cell? ⟨g,0+j,none⟩:=hb.cell (p:=⟨g,0+j,none⟩) hlt
  rw [this];exact (h j hj).1
 ·have:=(h j hj).2
  unfold World.frozen? at *
  simp only [e];exact this
structure SS (w0:World) (bs:List (Nat × List Value × TypeId)) (r n:Nat) (w:World):Prop where
 below:Below w0.heap.size w0 w
 holds : ∀ (i g:Nat) (L:List Value) (t:TypeId),bs[i]? = some (g,L,t)→w.heap[g]? = some (.cells L.toArray t (0,0))
 there:w.there r 0 n
theorem SS.call {w0:World} {bs:List (Nat × List Value × TypeId)} {r n:Nat} {w w':World} (h:SS w0 bs r (n+1) w) (hb:Below w.heap.size w w'):SS w0 bs r (n+1) w' :=
 ⟨chain h.below hb,fun i g L t hm=>cS hb (h.holds i g L t hm),fm hb (by omega) h.there⟩
theorem SS.drew {w0:World} {bs:List (Nat × List Value × TypeId)} {r n:Nat} {w:World} (h:SS w0 bs r n w):SS w0 bs r n w.drew:=⟨h.below.drew,h.holds,h.there⟩
theorem SS.alloc {w0:World} {bs:List (Nat × List Value × TypeId)} {r n:Nat} {w:World} (h:SS w0 bs r (n+1) w) (o:Obj):SS w0 bs r (n+1) (w.alloc o) :=
 h.call ((Below.refl _ _).alloc (Nat.le_refl _) _)
theorem SS.range {w0:World} {bs:List (Nat × List Value × TypeId)} {r n:Nat} {w:World} (h:SS w0 bs r n w) {i g:Nat} {L:List Value} {t:TypeId} (hm:bs[i]? = some (g,L,t)):w.rangeAt g 0 L:=bP (cs:=L.toArray) (h.holds i g L t hm)
theorem SS.store {w0:World} {bs:List (Nat × List Value × TypeId)} {r n:Nat} {w:World} (h:SS w0 bs r n w) (hr:w0.heap.size≤r) (hne : ∀ b ∈ bs,¬ b.1=r) (vs:List Value):SS w0 bs r n (w.setCells r 0 vs) :=
 ⟨af _ hr _ _ _ h.below,fun i g L t hm=>(a7 r g (hne _ (List.mem_of_getElem? hm)) vs 0 w).trans (h.holds i g L t hm),World.there_setCells h.there _ _ _⟩
theorem SS.two (w:World) (a b:Nat) (t t':TypeId):SS w [(w.heap.size,bl a,t),(w.heap.size+1,bl b,t)] (w.heap.size+1+1) 32 (((w.alloc (.cells (bl a).toArray t)).alloc (.cells (bl b).toArray t)).alloc (.cells (bl 0).toArray t')):=by
 refine ⟨(((Below.refl _ _).alloc (Nat.le_refl _) _).alloc (by simp) _).alloc (by simp;omega) _,?_,aw (aj _ _ _ (by simp)) 0 32 (by have:=aM 0;simp only [br] at this;omega)⟩
 intro i g L t hm
 match i,hm with
 | 0,hm =>
  cases hm
  exact (az _ _ _ (by simp;omega)).trans ((az _ _ _ (by simp)).trans (aj _ _ _ rfl))
 | 1,hm =>
  cases hm
  exact (az _ _ _ (by simp)).trans (aj _ _ _ (by simp))
theorem ne1 {a r:Nat} {x:List Value × TypeId} (h : ¬ a=r) : ∀ b ∈ [(a,x)],¬ b.1=r:=by
 intro b hb
 simp only [List.mem_cons,List.not_mem_nil,or_false] at hb
 rcases hb with rfl
 exact h
theorem ne2 {a a' r:Nat} {x x':List Value × TypeId} (h : ¬ a=r) (h' : ¬ a'=r) : ∀ b ∈ [(a,x),(a',x')],¬ b.1=r:=by
 intro b hb
 simp only [List.mem_cons,List.not_mem_nil,or_false] at hb
 rcases hb with rfl | rfl
 ·exact h
 ·exact h'
theorem fK:(Tryz.prog.info? 22).map (·.size)=some 32:=by kernel_rfl
theorem i32 (n:Nat):(Tryz.prog.info? 22).map (·.size)=some (bl n).length:=by rw [bY];exact fK
set_option maxRecDepth 100000 in
set_option maxHeartbeats 1000000 in
theorem Fv (a b:Nat) (ha:a<RN) (hb:b<RN) (w:World) :
  Calls Tryz.prog 115 #[bv a,bv b] w fun e w'=>e = .returned (bv ((a+b) % pp))∧Below w.heap.size w w':=by
 have hz:=bG
 have ld : ∀ n w,Calls Tryz.prog 128 #[Value.agg (bl n).toArray] w fun e w'=>e = .returned (nv n)∧Below w.heap.size w w':=gL
 have st : ∀ n,n<RN → ∀ w,Calls Tryz.prog 126 #[nv n] w fun e w'=>e = .returned (.agg (bl (n % pp)).toArray)∧Below w.heap.size w w':=eS
 have HS:Hid (SS w [(w.heap.size,bl a,22),(w.heap.size+1,bl b,22)] (w.heap.size+1+1) 32 (((w.alloc (.cells (bl a).toArray 22)).alloc (.cells (bl b).toArray 22)).alloc (.cells (bl 0).toArray 22))):=SS.two w _ _ _ _
 have hza:(bl a).toArray.size=32:=aM a
 have hzb:(bl b).toArray.size=32:=aM b
 have hz0:(bl 0).toArray.size=32:=aM 0
 simp only [bv,br] at hz ⊢
 go_enter Tryz.func115,Tryz.ntmps115
 go_wp2
 obtain ⟨x0,hx0⟩ : ∃ x,x=((w.alloc (.cells (bl a).toArray 22)).alloc (.cells (bl b).toArray 22)).alloc (.cells (bl 0).toArray 22):=⟨_,rfl⟩
 rw [←hx0] at HS ⊢
 clear hx0
 refine wp_region_held_drew (S:=(fun w'=>SS w [(w.heap.size,bl a,22),(w.heap.size+1,bl b,22)] (w.heap.size+1+1) 32 w')) (by kernel_rfl) ?_ (fun hHeld => ?_)
 ·exact HS.out.drew
 refine wpAnyH_take (i:=0) (v:=_) rfl (by kernel_rfl) (by kernel_rfl) (by kernel_rfl) (fun _ _ _ h=>h) (yieldsIf_load_mid (by rfl) _ _ rfl _ _ rfl _ _ (fun w h=>h.range (i:=0) rfl) Tryz.underlying22 rfl (i32 a)) hHeld ?_
 simp only [Act.put,qA,qC,qB]
 refine wpAnyH_take (i:=2) (v:=_) rfl (by kernel_rfl) (by kernel_rfl) (by kernel_rfl) (fun _ _ _ h=>h) (yieldsIf_load_mid (by rfl) _ _ rfl _ _ rfl _ _ (fun w h=>h.range (i:=1) rfl) Tryz.underlying22 rfl (i32 b)) hHeld ?_
 simp only [Act.put,qA,qC,qB]
 refine wpAnyH_ready (rs:=[1]) (by kernel_rfl) (by simp) ?_
 refine AllReadyH.cons rfl (fun K hK => ?_) AllReadyH.nil
 go_simp
 go_at_call 128
 refine (ld a _).mono ?_
 rintro e w1 ⟨rfl,hb1⟩
 refine hK.out _ _ ?_ (fun hHeld => ?_)
 ·exact hHeld.call hb1
 clear hK K
 try simp only [Act.put,qA,qC,qB]
 refine wpAnyH_ready (rs:=[3]) (by kernel_rfl) (by simp) ?_
 refine AllReadyH.cons rfl (fun K hK => ?_) AllReadyH.nil
 go_simp
 go_at_call 128
 refine (ld b _).mono ?_
 rintro e w2 ⟨rfl,hb2⟩
 refine hK.out _ _ ?_ (fun hHeld => ?_)
 ·exact hHeld.call hb2
 clear hK K
 try simp only [Act.put,qA,qC,qB]
 refine wpAnyH_ready (rs:=[4]) (by kernel_rfl) (by simp) ?_
 refine AllReadyH.cons rfl (fun K hK => ?_) AllReadyH.nil
 go_simp
 go_at_call 139
 refine (IH a b ha hb _).mono ?_
 rintro e w3 ⟨s,hs,rfl,es,hb3⟩
 refine hK.out _ _ ?_ (fun hHeld => ?_)
 ·exact hHeld.call hb3
 clear hK K
 try simp only [Act.put,qA,qC,qB]
 refine wpAnyH_ready (rs:=[5]) (by kernel_rfl) (by simp) ?_
 refine AllReadyH.cons rfl (fun K hK => ?_) AllReadyH.nil
 go_simp
 go_at_call 126
 refine (st s hs _).mono ?_
 rintro e w4 ⟨rfl,hb4⟩
 refine hK.out _ _ ?_ (fun hHeld => ?_)
 ·exact hHeld.call hb4
 clear hK K
 try simp only [Act.put,qA,qC,qB]
 have hT:w4.there (w.heap.size+1+1) 0 (br (s % pp)).size:=by rw [aM];exact hHeld.there
 refine wpAnyH_ready (rs:=[6]) (by kernel_rfl) (by simp) ?_
 refine AllReadyH.cons rfl (fun K hK => ?_) AllReadyH.nil
 rw [if_pos (by rfl)]
 refine wp_store_mid _ _ _ rfl _ _ (br (s % pp)) rfl rfl hT (by rw [aM];exact fK) (iN _) ?_
 refine hK.out _ _ ?_ (fun hHeld => ?_)
 ·exact hHeld.store (by omega) (ne2 (by omega) (by omega)) _
 clear hK K
 try simp only [Act.put,qA,qC,qB]
 refine wpAnyH_done (by kernel_rfl) ?_ _
 go_wp2
 refine bodyPost_ret (v := .agg (bl (s % pp)).toArray) ?_ rfl ⟨?_,hHeld.below⟩
 ·exact aN Tryz.results115 _ _ (w.heap.size+1+1) 0 (bl (s % pp)) _ rfl (World.rangeAt_setCells_same _ _ _ _ hT) Tryz.underlying22 rfl (i32 _)
 ·rw [es]
set_option maxRecDepth 100000 in
set_option maxHeartbeats 1000000 in
theorem Hw (a b:Nat) (ha:a<RN) (hb:b<RN) (w:World) :
  Calls Tryz.prog 113 #[bv a,bv b] w fun e w'=>e = .returned (bv ((a+(pp - b % pp)) % pp))∧Below w.heap.size w w':=by
 have hz:=bG
 have ld : ∀ n w,Calls Tryz.prog 128 #[Value.agg (bl n).toArray] w fun e w'=>e = .returned (nv n)∧Below w.heap.size w w':=gL
 have st : ∀ n,n<RN → ∀ w,Calls Tryz.prog 126 #[nv n] w fun e w'=>e = .returned (.agg (bl (n % pp)).toArray)∧Below w.heap.size w w':=eS
 have HS:Hid (SS w [(w.heap.size,bl a,22),(w.heap.size+1,bl b,22)] (w.heap.size+1+1) 32 (((w.alloc (.cells (bl a).toArray 22)).alloc (.cells (bl b).toArray 22)).alloc (.cells (bl 0).toArray 22))):=SS.two w _ _ _ _
 have hza:(bl a).toArray.size=32:=aM a
 have hzb:(bl b).toArray.size=32:=aM b
 have hz0:(bl 0).toArray.size=32:=aM 0
 simp only [bv,br] at hz ⊢
 go_enter Tryz.func113,Tryz.ntmps113
 go_wp2
 obtain ⟨x0,hx0⟩ : ∃ x,x=((w.alloc (.cells (bl a).toArray 22)).alloc (.cells (bl b).toArray 22)).alloc (.cells (bl 0).toArray 22):=⟨_,rfl⟩
 rw [←hx0] at HS ⊢
 clear hx0
 refine wp_region_held_drew (S:=(fun w'=>SS w [(w.heap.size,bl a,22),(w.heap.size+1,bl b,22)] (w.heap.size+1+1) 32 w')) (by kernel_rfl) ?_ (fun hHeld => ?_)
 ·exact HS.out.drew
 refine wpAnyH_take (i:=0) (v:=_) rfl (by kernel_rfl) (by kernel_rfl) (by kernel_rfl) (fun _ _ _ h=>h) (yieldsIf_load_mid (by rfl) _ _ rfl _ _ rfl _ _ (fun w h=>h.range (i:=0) rfl) Tryz.underlying22 rfl (i32 a)) hHeld ?_
 simp only [Act.put,qA,qC,qB]
 refine wpAnyH_take (i:=2) (v:=_) rfl (by kernel_rfl) (by kernel_rfl) (by kernel_rfl) (fun _ _ _ h=>h) (yieldsIf_load_mid (by rfl) _ _ rfl _ _ rfl _ _ (fun w h=>h.range (i:=1) rfl) Tryz.underlying22 rfl (i32 b)) hHeld ?_
 simp only [Act.put,qA,qC,qB]
 refine wpAnyH_ready (rs:=[1]) (by kernel_rfl) (by simp) ?_
 refine AllReadyH.cons rfl (fun K hK => ?_) AllReadyH.nil
 go_simp
 go_at_call 128
 refine (ld a _).mono ?_
 rintro e w1 ⟨rfl,hb1⟩
 refine hK.out _ _ ?_ (fun hHeld => ?_)
 ·exact hHeld.call hb1
 clear hK K
 try simp only [Act.put,qA,qC,qB]
 refine wpAnyH_ready (rs:=[3]) (by kernel_rfl) (by simp) ?_
 refine AllReadyH.cons rfl (fun K hK => ?_) AllReadyH.nil
 go_simp
 go_at_call 128
 refine (ld b _).mono ?_
 rintro e w2 ⟨rfl,hb2⟩
 refine hK.out _ _ ?_ (fun hHeld => ?_)
 ·exact hHeld.call hb2
 clear hK K
 try simp only [Act.put,qA,qC,qB]
 refine wpAnyH_ready (rs:=[4]) (by kernel_rfl) (by simp) ?_
 refine AllReadyH.cons rfl (fun K hK => ?_) AllReadyH.nil
 go_simp
 go_at_call 138
 refine (Gc a b ha hb _).mono ?_
 rintro e w3 ⟨s,hs,rfl,es,hb3⟩
 refine hK.out _ _ ?_ (fun hHeld => ?_)
 ·exact hHeld.call hb3
 clear hK K
 try simp only [Act.put,qA,qC,qB]
 refine wpAnyH_ready (rs:=[5]) (by kernel_rfl) (by simp) ?_
 refine AllReadyH.cons rfl (fun K hK => ?_) AllReadyH.nil
 go_simp
 go_at_call 126
 refine (st s hs _).mono ?_
 rintro e w4 ⟨rfl,hb4⟩
 refine hK.out _ _ ?_ (fun hHeld => ?_)
 ·exact hHeld.call hb4
 clear hK K
 try simp only [Act.put,qA,qC,qB]
 have hT:w4.there (w.heap.size+1+1) 0 (br (s % pp)).size:=by rw [aM];exact hHeld.there
 refine wpAnyH_ready (rs:=[6]) (by kernel_rfl) (by simp) ?_
 refine AllReadyH.cons rfl (fun K hK => ?_) AllReadyH.nil
 rw [if_pos (by rfl)]
 refine wp_store_mid _ _ _ rfl _ _ (br (s % pp)) rfl rfl hT (by rw [aM];exact fK) (iN _) ?_
 refine hK.out _ _ ?_ (fun hHeld => ?_)
 ·exact hHeld.store (by omega) (ne2 (by omega) (by omega)) _
 clear hK K
 try simp only [Act.put,qA,qC,qB]
 refine wpAnyH_done (by kernel_rfl) ?_ _
 go_wp2
 refine bodyPost_ret (v := .agg (bl (s % pp)).toArray) ?_ rfl ⟨?_,hHeld.below⟩
 ·exact aN Tryz.results113 _ _ (w.heap.size+1+1) 0 (bl (s % pp)) _ rfl (World.rangeAt_setCells_same _ _ _ _ hT) Tryz.underlying22 rfl (i32 _)
 ·rw [es]
set_option maxRecDepth 100000 in
set_option maxHeartbeats 1000000 in
theorem FD (a b:Nat) (ha:a<RN) (hb:b<RN) (w:World) :
  Calls Tryz.prog 95 #[bv a,bv b] w fun e w'=>e = .returned (bv ((a*b) % pp))∧Below w.heap.size w w':=by
 have hz:=bG
 have ld : ∀ n w,Calls Tryz.prog 128 #[Value.agg (bl n).toArray] w fun e w'=>e = .returned (nv n)∧Below w.heap.size w w':=gL
 have st : ∀ n,n<RN → ∀ w,Calls Tryz.prog 126 #[nv n] w fun e w'=>e = .returned (.agg (bl (n % pp)).toArray)∧Below w.heap.size w w':=eS
 have HS:Hid (SS w [(w.heap.size,bl a,22),(w.heap.size+1,bl b,22)] (w.heap.size+1+1) 32 (((w.alloc (.cells (bl a).toArray 22)).alloc (.cells (bl b).toArray 22)).alloc (.cells (bl 0).toArray 22))):=SS.two w _ _ _ _
 have hza:(bl a).toArray.size=32:=aM a
 have hzb:(bl b).toArray.size=32:=aM b
 have hz0:(bl 0).toArray.size=32:=aM 0
 simp only [bv,br] at hz ⊢
 go_enter Tryz.func95,Tryz.ntmps95
 go_wp2
 obtain ⟨x0,hx0⟩ : ∃ x,x=((w.alloc (.cells (bl a).toArray 22)).alloc (.cells (bl b).toArray 22)).alloc (.cells (bl 0).toArray 22):=⟨_,rfl⟩
 rw [←hx0] at HS ⊢
 clear hx0
 refine wp_region_held_drew (S:=(fun w'=>SS w [(w.heap.size,bl a,22),(w.heap.size+1,bl b,22)] (w.heap.size+1+1) 32 w')) (by kernel_rfl) ?_ (fun hHeld => ?_)
 ·exact HS.out.drew
 refine wpAnyH_take (i:=0) (v:=_) rfl (by kernel_rfl) (by kernel_rfl) (by kernel_rfl) (fun _ _ _ h=>h) (yieldsIf_load_mid (by rfl) _ _ rfl _ _ rfl _ _ (fun w h=>h.range (i:=0) rfl) Tryz.underlying22 rfl (i32 a)) hHeld ?_
 simp only [Act.put,qA,qC,qB]
 refine wpAnyH_take (i:=2) (v:=_) rfl (by kernel_rfl) (by kernel_rfl) (by kernel_rfl) (fun _ _ _ h=>h) (yieldsIf_load_mid (by rfl) _ _ rfl _ _ rfl _ _ (fun w h=>h.range (i:=1) rfl) Tryz.underlying22 rfl (i32 b)) hHeld ?_
 simp only [Act.put,qA,qC,qB]
 refine wpAnyH_ready (rs:=[1]) (by kernel_rfl) (by simp) ?_
 refine AllReadyH.cons rfl (fun K hK => ?_) AllReadyH.nil
 go_simp
 go_at_call 128
 refine (ld a _).mono ?_
 rintro e w1 ⟨rfl,hb1⟩
 refine hK.out _ _ ?_ (fun hHeld => ?_)
 ·exact hHeld.call hb1
 clear hK K
 try simp only [Act.put,qA,qC,qB]
 refine wpAnyH_ready (rs:=[3]) (by kernel_rfl) (by simp) ?_
 refine AllReadyH.cons rfl (fun K hK => ?_) AllReadyH.nil
 go_simp
 go_at_call 128
 refine (ld b _).mono ?_
 rintro e w2 ⟨rfl,hb2⟩
 refine hK.out _ _ ?_ (fun hHeld => ?_)
 ·exact hHeld.call hb2
 clear hK K
 try simp only [Act.put,qA,qC,qB]
 refine wpAnyH_ready (rs:=[4]) (by kernel_rfl) (by simp) ?_
 refine AllReadyH.cons rfl (fun K hK => ?_) AllReadyH.nil
 go_simp
 go_at_call 129
 refine (rR a b ha hb _).mono ?_
 rintro e w3 ⟨s,hs,rfl,es,hb3⟩
 refine hK.out _ _ ?_ (fun hHeld => ?_)
 ·exact hHeld.call hb3
 clear hK K
 try simp only [Act.put,qA,qC,qB]
 refine wpAnyH_ready (rs:=[5]) (by kernel_rfl) (by simp) ?_
 refine AllReadyH.cons rfl (fun K hK => ?_) AllReadyH.nil
 go_simp
 go_at_call 126
 refine (st s hs _).mono ?_
 rintro e w4 ⟨rfl,hb4⟩
 refine hK.out _ _ ?_ (fun hHeld => ?_)
 ·exact hHeld.call hb4
 clear hK K
 try simp only [Act.put,qA,qC,qB]
 have hT:w4.there (w.heap.size+1+1) 0 (br (s % pp)).size:=by rw [aM];exact hHeld.there
 refine wpAnyH_ready (rs:=[6]) (by kernel_rfl) (by simp) ?_
 refine AllReadyH.cons rfl (fun K hK => ?_) AllReadyH.nil
 rw [if_pos (by rfl)]
 refine wp_store_mid _ _ _ rfl _ _ (br (s % pp)) rfl rfl hT (by rw [aM];exact fK) (iN _) ?_
 refine hK.out _ _ ?_ (fun hHeld => ?_)
 ·exact hHeld.store (by omega) (ne2 (by omega) (by omega)) _
 clear hK K
 try simp only [Act.put,qA,qC,qB]
 refine wpAnyH_done (by kernel_rfl) ?_ _
 go_wp2
 refine bodyPost_ret (v := .agg (bl (s % pp)).toArray) ?_ rfl ⟨?_,hHeld.below⟩
 ·exact aN Tryz.results95 _ _ (w.heap.size+1+1) 0 (bl (s % pp)) _ rfl (World.rangeAt_setCells_same _ _ _ _ hT) Tryz.underlying22 rfl (i32 _)
 ·rw [es]
end Go.Proofs.YtajehiidpecknaaGreatDoor
namespace Go.Proofs.YtajehiidpecknaaGreatDoor
open Go Go.RowKit Go.Lib
set_option maxRecDepth 100000
theorem items (m n:Nat) (d:Nat) (w:World) : ∀ is:List Nat,(∀ i ∈ is,i<32) →
  (Op.eqItems (d+1) 5 (Tryz.prog.cellsOf 5) (br m) (br n) is).run Tryz.prog w = .ok (is.all fun i=>decide (by8 m i=by8 n i)) w
 | [],_=>by simp [Op.eqItems]
 | i :: is,h=>by
  have hi:=h i (by simp)
  have hc:Tryz.prog.cellsOf 5=1:=by kernel_rfl
  have hp:Tryz.prog.plainKey 5=true:=by kernel_rfl
  have p1:=run_part_plain (P:=Tryz.prog) w hp (xs:=br m) (off:=i) (jL m i hi)
  have p2:=run_part_plain (P:=Tryz.prog) w hp (xs:=br n) (off:=i) (jL n i hi)
  have p3:=run_equalIn_int (P:=Tryz.prog) w d 5 .u8 .u8 (by8 m i) (by8 n i) Tryz.underlying5
  have ih:=items m n d w is (fun j hj=>h j (by simp [hj]))
  rw [hc] at ih
  simp only [Op.eqItems,hc,Nat.mul_one,Sem.run_bind,p1,p2,p3,Result.andThen_ok,List.all_cons]
  by_cases e:by8 m i=by8 n i
  ·simp [e,ih]
  ·simp [e]
theorem xZ {m n:Nat} : ∀ k,(∀ i,i<k→by8 m i=by8 n i)→m % 256 ^ k=n % 256 ^ k
 | 0,_=>by simp [Nat.mod_one]
 | k+1,h=>by
  have e:=h k (by omega)
  have ih:=xZ k (fun i hi=>h i (by omega))
  unfold by8 at e
  rw [Nat.mod_pow_succ,Nat.mod_pow_succ,ih]
  have:m/256 ^ k % 256=n/256 ^ k % 256:=by omega
  rw [this]
theorem Kl (m n:Nat) (hm:m<RN) (hn:n<RN) (w:World):(Op.equalIn 10000 22 (.agg (bl m).toArray) (.agg (bl n).toArray)).run Tryz.prog w = .ok (decide (m=n)) w:=by
 obtain ⟨i,hi⟩ : ∃ i,Tryz.prog.info? 5=some i:=by
  cases h:Tryz.prog.info? 5 with
  | none=>have:=cq;rw [h] at this;cases this
  | some i=>exact ⟨i,rfl⟩
 have:=run_equalIn_array (P:=Tryz.prog) w 9999 (br m) (br n) Tryz.underlying22 hi
 rw [items m n 9998 w _ (fun i hi=>List.mem_range.1 hi)] at this
 refine this.trans ?_
 congr 1
 by_cases e:m=n
 ·subst e;simp
 ·rw [decide_eq_false e]
  rw [Bool.eq_false_iff]
  intro h
  rw [List.all_eq_true] at h
  refine e ?_
  have:=xZ (m:=m) (n:=n) 32 (fun i hi=>by simpa using h i (List.mem_range.2 hi))
  rw [YK (by exact hm),YK (by exact hn)] at this
  exact this
theorem DH (m n:Nat) (hm:m<RN) (hn:n<RN) (w:World):(Op.equalIn 10000 137 (nv m) (nv n)).run Tryz.prog w = .ok (decide (m=n)) w:=by
 have hS:Tryz.prog.underlying 137=some (.struct (Tryz.prog.fieldsOf 137)):=by kernel_rfl
 have hp:Tryz.prog.stoodInHeld 137=false:=by kernel_rfl
 have u:=Tryz.underlying66
 have key:(Op.equalIn 10000 137 (nv m) (nv n)).run Tryz.prog w = .ok (lw m 0 == lw n 0 && (lw m 1 == lw n 1 && (lw m 2 == lw n 2 && lw m 3 == lw n 3))) w:=by
  unfold nv
  rw [show (10000:Nat)=9999+1 from rfl,run_equalIn_agg w 9999 137 _ _ hS hp]
  simp only [Program.fieldsOf,Tryz.underlying137]
  go_simp
  by_cases h0:lw m 0=lw n 0 <;> by_cases h1:lw m 1=lw n 1 <;> by_cases h2:lw m 2=lw n 2 <;> by_cases h3:lw m 3=lw n 3 <;> simp [h0,h1,h2,h3]
 rw [key]
 congr 1
 by_cases e:m=n
 ·subst e;simp
 ·rw [decide_eq_false e,Bool.eq_false_iff]
  intro h
  simp only [Bool.and_eq_true,beq_iff_eq] at h
  refine e (D8 hm hn ?_)
  simp only [nv,h.1,h.2.1,h.2.2.1,h.2.2.2]
structure HH (w0:World) (bs:List (Nat × List Value × TypeId)) (w:World):Prop where
 below:Below w0.heap.size w0 w
 holds : ∀ (i g:Nat) (L:List Value) (t:TypeId),bs[i]? = some (g,L,t)→w.heap[g]? = some (.cells L.toArray t (0,0))
theorem HH.call {w0:World} {bs:List (Nat × List Value × TypeId)} {w w':World} (h:HH w0 bs w) (hb:Below w.heap.size w w'):HH w0 bs w' :=
 ⟨chain h.below hb,fun i g L t hm=>cS hb (h.holds i g L t hm)⟩
theorem HH.drew {w0:World} {bs:List (Nat × List Value × TypeId)} {w:World} (h:HH w0 bs w):HH w0 bs w.drew:=⟨h.below.drew,h.holds⟩
theorem HH.range {w0:World} {bs:List (Nat × List Value × TypeId)} {w:World} (h:HH w0 bs w) {i g:Nat} {L:List Value} {t:TypeId} (hm:bs[i]? = some (g,L,t)):w.rangeAt g 0 L:=bP (cs:=L.toArray) (h.holds i g L t hm)
theorem HH.one (w:World) (L:List Value) (t:TypeId):HH w [(w.heap.size,L,t)] (w.alloc (.cells L.toArray t)):=by
 refine ⟨(Below.refl _ _).alloc (Nat.le_refl _) _,?_⟩
 intro i g L t hm
 match i,hm with
 | 0,hm=>cases hm;exact aj _ _ _ rfl
theorem HH.more {w0:World} {bs:List (Nat × List Value × TypeId)} {w:World} (h:HH w0 bs w) (L:List Value) (t:TypeId):HH w0 (bs ++ [(w.heap.size,L,t)]) (w.alloc (.cells L.toArray t)):=by
 refine ⟨h.below.alloc h.below.size _,?_⟩
 intro i g L' t' hm
 rw [List.getElem?_append] at hm
 split at hm
 ·exact (az _ _ _ (lt_of_heap (h.holds i g L' t' hm))).trans (h.holds i g L' t' hm)
 ·rename_i hi
  rcases Nat.lt_or_ge (i - bs.length) 1 with hl | hl
  ·rw [show i - bs.length=0 by omega] at hm
   simp only [List.getElem?_cons_zero,qG,qH] at hm
   obtain ⟨rfl,rfl,rfl⟩:=hm
   exact aj _ _ _ rfl
  ·rw [List.getElem?_eq_none (by simp;omega)] at hm
   cases hm
theorem aL {P:Program} {md:Region.Mode} {ops:Array Oper} {Q:Exit→Act→World→Prop} {S:World→Prop} {i:Nat} {oi:Oper} {v:Value} {fuel:Nat} {listed:Array Bool} {a:Act} {w:World} (d:Tmp) (hi:ops[i]? = some oi) (hd:oi.dst=some d)
  (hs:Region.noSelect ops=true) (hf:Region.free md ops listed i=true) (hr:(Region.ready md ops listed).contains i=true)
  (hQ : ∀ c a w,Q (.panic c) (a.put (some d) v) w→Q (.panic c) a w) (hy:YieldsIf P ops S oi v a) (hS:S w)
  (h:wpAnyH P md ops Q S fuel (listed.setIfInBounds i true) (a.put (some d) v) w):wpAnyH P md ops Q S (fuel+1) listed a w :=
 wpAnyH_take hi hs hf hr (by rw [hd];exact hQ) hy hS (by rw [hd];exact h)
end Go.Proofs.YtajehiidpecknaaGreatDoor
namespace Go.Proofs.YtajehiidpecknaaGreatDoor
open Go Go.RowKit Go.Lib
theorem mh:pp<RN:=by decide
theorem cY (a:Nat):a % pp<RN:=Nat.lt_trans (Nat.mod_lt _ (by decide)) mh
theorem ur (a:Nat):decide (a % pp=a)=decide (a<pp):=by
 by_cases h:a<pp
 ·rw [decide_eq_true h,decide_eq_true (YK h)]
 ·have:=Nat.mod_lt a (show pp>0 by decide)
  rw [decide_eq_false h,decide_eq_false (by omega)]
set_option maxRecDepth 100000 in
set_option maxHeartbeats 1000000 in
theorem fU (a:Nat) (ha:a<RN) (w:World) :
  Calls Tryz.prog 110 #[bv a] w fun e w'=>e = .returned (.bool (decide (a<pp)))∧Below w.heap.size w w':=by
 have ld : ∀ n w,Calls Tryz.prog 128 #[Value.agg (bl n).toArray] w fun e w'=>e = .returned (nv n)∧Below w.heap.size w w':=gL
 have st : ∀ n,n<RN → ∀ w,Calls Tryz.prog 126 #[nv n] w fun e w'=>e = .returned (.agg (bl (n % pp)).toArray)∧Below w.heap.size w w':=eS
 have HS:Hid (HH w [(w.heap.size,bl a,22)] (w.alloc (.cells (bl a).toArray 22))):=HH.one w _ _
 have hza:(bl a).toArray.size=32:=aM a
 have he:=Kl (a % pp) a (cY a) ha
 rw [ur] at he
 simp only [bv,br]
 go_enter Tryz.func110,Tryz.ntmps110
 go_wp2
 obtain ⟨x0,hx0⟩ : ∃ x,x=w.alloc (.cells (bl a).toArray 22):=⟨_,rfl⟩
 rw [←hx0] at HS ⊢
 clear hx0
 refine wp_region_held_drew (S:=(fun w'=>HH w [(w.heap.size,bl a,22)] w')) (by kernel_rfl) ?_ (fun hHeld => ?_)
 ·exact HS.out.drew
 refine aL (i:=0) (v:=_) 3 rfl rfl (by kernel_rfl) (by kernel_rfl) (by kernel_rfl) (fun _ _ _ h=>h) (yieldsIf_load_mid (by rfl) _ _ rfl _ _ rfl _ _ (fun w h=>h.range (i:=0) rfl) Tryz.underlying22 rfl (i32 a)) hHeld ?_
 simp only [Act.put,qA,qC,qB]
 refine aL (i:=3) (v:=_) 6 rfl rfl (by kernel_rfl) (by kernel_rfl) (by kernel_rfl) (fun _ _ _ h=>h) (yieldsIf_load_mid (by rfl) _ _ rfl _ _ rfl _ _ (fun w h=>h.range (i:=0) rfl) Tryz.underlying22 rfl (i32 a)) hHeld ?_
 simp only [Act.put,qA,qC,qB]
 refine wpAnyH_ready (rs:=[1]) (by kernel_rfl) (by simp) ?_
 refine AllReadyH.cons rfl (fun K hK => ?_) AllReadyH.nil
 go_simp
 go_at_call 128
 refine (ld a _).mono ?_
 rintro e w1 ⟨rfl,hb1⟩
 refine hK.out _ _ ?_ (fun hHeld => ?_)
 ·exact hHeld.call hb1
 clear hK K
 try simp only [Act.put,qA,qC,qB]
 refine wpAnyH_ready (rs:=[2]) (by kernel_rfl) (by simp) ?_
 refine AllReadyH.cons rfl (fun K hK => ?_) AllReadyH.nil
 go_simp
 go_at_call 126
 refine (st a ha _).mono ?_
 rintro e w2 ⟨rfl,hb2⟩
 refine hK.out _ _ ?_ (fun hHeld => ?_)
 ·exact hHeld.call hb2
 clear hK K
 try simp only [Act.put,qA,qC,qB]
 refine aL (i:=4) (v := ?_) 7 rfl rfl (by kernel_rfl) (by kernel_rfl) (by kernel_rfl) (fun _ _ _ h=>h) (Or.inl ⟨by rfl,?_⟩) hHeld ?_
 rotate_left 1
 ·intro w hSw;go_simp <;> with_reducible rfl
 simp only [Act.put,qA,qC,qB]
 refine aL (i:=5) (v := ?_) 2 rfl rfl (by kernel_rfl) (by kernel_rfl) (by kernel_rfl) (fun _ _ _ h=>h) (Or.inl ⟨by rfl,?_⟩) hHeld ?_
 rotate_left 1
 ·intro w hSw;go_simp <;> with_reducible rfl
 simp only [Act.put,qA,qC,qB]
 refine wpAnyH_done (by kernel_rfl) ?_ _
 go_wp2
 go_ret
 exact ⟨rfl,hHeld.below⟩
end Go.Proofs.YtajehiidpecknaaGreatDoor
namespace Go.Proofs.YtajehiidpecknaaGreatDoor
open Go Go.RowKit Go.Lib
theorem PQ:(#[.int .u8 0,.int .u8 0,.int .u8 0,.int .u8 0,.int .u8 0,.int .u8 0,.int .u8 0,.int .u8 0,.int .u8 0,.int .u8 0,.int .u8 0,.int .u8 0,.int .u8 0,.int .u8 0,.int .u8 0,.int .u8 0,.int .u8 0,.int .u8 0,.int .u8 0,.int .u8 0,.int .u8 0,.int .u8 0,.int .u8 0,.int .u8 0,.int .u8 0,.int .u8 0,.int .u8 0,.int .u8 0,.int .u8 0,.int .u8 0,.int .u8 0,.int .u8 0]:Array Value)=(bl 0).toArray:=by kernel_rfl
end Go.Proofs.YtajehiidpecknaaGreatDoor
namespace Go.Proofs.YtajehiidpecknaaGreatDoor
open Go Go.RowKit Go.Lib
abbrev nl (n:Nat):List Value:=[.int .u64 (lw n 0),.int .u64 (lw n 1),.int .u64 (lw n 2),.int .u64 (lw n 3)]
theorem SS.lt {w0:World} {bs:List (Nat × List Value × TypeId)} {r n:Nat} {w:World} (h:SS w0 bs r n w) : ∀ b ∈ bs,b.1<w.heap.size:=fun b hb=>by
 obtain ⟨i,hi⟩:=List.mem_iff_getElem?.1 hb
 exact lt_of_heap (h.holds i b.1 b.2.1 b.2.2 hi)
theorem SS.put {w0:World} {bs:List (Nat × List Value × TypeId)} {r n q:Nat} {w:World} (h:SS w0 bs r n w) (hq:w0.heap.size≤q) (hne : ∀ b ∈ bs,b.1<q) (vs:List Value):SS w0 bs r n (w.setCells q 0 vs) :=
 ⟨af _ hq _ _ _ h.below,fun i g L t hm=>(a7 q g (by have:=hne _ (List.mem_of_getElem? hm);simp only at this;omega) vs 0 w).trans (h.holds i g L t hm),World.there_setCells h.there _ _ _⟩
theorem SS.add {w0:World} {bs:List (Nat × List Value × TypeId)} {r n q:Nat} {w:World} (h:SS w0 bs r n w) (L:List Value) (t:TypeId) (hq:w.heap[q]? = some (.cells L.toArray t (0,0))):SS w0 (bs ++ [(q,L,t)]) r n w:=by
 refine ⟨h.below,?_,h.there⟩
 intro i g L' t' hm
 rw [List.getElem?_append] at hm
 split at hm
 ·exact h.holds i g L' t' hm
 ·rename_i hi
  rcases Nat.lt_or_ge (i - bs.length) 1 with hl | hl
  ·rw [show i - bs.length=0 by omega] at hm
   simp only [List.getElem?_cons_zero,qG,qH] at hm
   obtain ⟨rfl,rfl,rfl⟩:=hm
   exact hq
  ·rw [List.getElem?_eq_none (by simp;omega)] at hm
   cases hm
theorem dI {w:World} {q:Nat} {x0 x1 x2 x3 y0 y1 y2 y3:Value} {t:TypeId} (h:w.heap[q]? = some (.cells #[x0,x1,x2,x3] t (0,0))):(w.setCells q 0 [y0,y1,y2,y3]).heap[q]? = some (.cells #[y0,y1,y2,y3] t (0,0)):=eV y0 y1 y2 y3 h
theorem bu (n:Nat):(nl n).toArray.all (·.oneCell')=true:=all_oneCell_toArray (fun v hv=>by
 simp only [List.mem_cons,List.not_mem_nil,or_false] at hv
 rcases hv with rfl | rfl | rfl | rfl <;> rfl)
theorem i4 (n:Nat):(Tryz.prog.info? 137).map (·.size)=some (nl n).length:=by kernel_rfl
theorem SS.num (w:World) (n:Nat):SS w [(w.heap.size,nl n,137)] (w.heap.size+1) 4 ((w.alloc (.cells (nl n).toArray 137)).alloc (.cells #[.int .u64 0,.int .u64 0,.int .u64 0,.int .u64 0] 137)):=by
 refine ⟨((Below.refl _ _).alloc (Nat.le_refl _) _).alloc (by simp) _,?_,aw (aj _ _ _ (by simp)) 0 4 (by simp)⟩
 intro i g L t hm
 match i,hm with
 | 0,hm =>
  cases hm
  exact (az _ _ _ (by simp)).trans (aj _ _ _ rfl)
theorem uB (n t:Nat) (hn:n<RN) (ht:t<1000) (w:World) :
  Calls Tryz.prog 141 #[nv n,.int .i64 t] w fun e w' => ∃ s,s<RN∧e = .returned (nv s)∧s % pp=n ^ 2 ^ t % pp∧Below w.heap.size w w':=by
 refine (cD (m:=[]) (r:=fun _=>none) Tryz.func141 (by kernel_rfl) (Fe.JC n t hn ht) (Rel.nil w) (by simp) (cO (cd _ _ rfl) (cO (cd _ _ rfl) rfl))).mono ?_
 rintro e w' ⟨u,rfl,rfl,hb⟩
 exact ⟨Fe.sqN n t,Fe.jV n hn t,rfl,Fe.mC n hn t,hb⟩
def tw (k:Nat):Nat:=2 ^ k
def rn (k:Nat):Nat:=2 ^ k - 1
theorem pe (n t:Nat) (hn:n<RN) (ht:t<1000) (w:World) :
  Calls Tryz.prog 141 #[nv n,.int .i64 t] w fun e w' => ∃ s,s<RN∧e = .returned (nv s)∧s % pp=n ^ tw t % pp∧Below w.heap.size w w':=uB n t hn ht w
theorem SS.rlt {w0:World} {bs:List (Nat × List Value × TypeId)} {r n:Nat} {w:World} (h:SS w0 bs r (n+1) w):r<w.heap.size:=oL (h.there 0 (by omega)).1
theorem Ll (n k:Nat) (A:Value) (h:Fe.Row n k A) : ∃ x,A=nv x∧x<RN∧x % pp=n ^ rn k % pp:=h
theorem Cw (n:Nat) (hn:n<RN) (w:World) :
  Calls Tryz.prog 142 #[nv n] w fun e w' => ∃ s,s<RN∧e = .returned (nv s)∧s % pp=n ^ rn 250 % pp∧Below w.heap.size w w':=by
 refine (Fe.vm n hn w).mono ?_
 rintro e w' ⟨rfl,hb⟩
 obtain ⟨x,hx,h1,h2⟩:=Ll n 250 _ (Fe.Ce n hn)
 rw [hx]
 exact ⟨x,h1,rfl,h2,hb⟩
end Go.Proofs.YtajehiidpecknaaGreatDoor
namespace Go.Proofs.YtajehiidpecknaaGreatDoor
open Go Go.RowKit Go.Lib
theorem pow_mul (n A B D x y s:Nat) (hD:A+B=D) (h1:x % pp=n ^ A % pp) (h2:y % pp=n ^ B % pp) (h3:s % pp=x*y % pp):s % pp=n ^ D % pp:=by
 subst hD
 rw [h3,Nat.mul_mod,h1,h2,←Nat.mul_mod,←Nat.pow_add]
theorem iR (n A B C D o u t s:Nat) (hD:A*B+C=D) (h1:o % pp=n ^ A % pp) (h2:u % pp=o ^ B % pp) (h3:t % pp=n ^ C % pp) (h4:s % pp=u*t % pp):s % pp=n ^ D % pp:=by
 subst hD
 rw [h4,Nat.mul_mod,h2,h3,Nat.pow_mod,h1,←Nat.pow_mod,←Nat.mul_mod,←Nat.pow_mul,←Nat.pow_add]
theorem J8 (n:Nat):n % pp=n ^ 1 % pp:=by rw [Nat.pow_one]
theorem uA (n:Nat) (hn:n<RN) (w:World) :
  Calls Tryz.prog 127 #[nv n] w fun e w' => ∃ s,s<RN∧e = .returned (nv s)∧s % pp=n ^ (pp - 2) % pp∧Below w.heap.size w w':=Fe.Gv n hn w
theorem SS.one32 (w:World) (a:Nat):SS w [(w.heap.size,bl a,22)] (w.heap.size+1) 32 ((w.alloc (.cells (bl a).toArray 22)).alloc (.cells (bl 0).toArray 22)):=by
 refine ⟨((Below.refl _ _).alloc (Nat.le_refl _) _).alloc (by simp) _,?_,aw (aj _ _ _ (by simp)) 0 32 (by have:=aM 0;simp only [br] at this;omega)⟩
 intro i g L t hm
 match i,hm with
 | 0,hm =>
  cases hm
  exact (az _ _ _ (by simp)).trans (aj _ _ _ rfl)
set_option maxRecDepth 100000 in
set_option maxHeartbeats 1000000 in
theorem I7 (a:Nat) (ha:a<RN) (w:World) :
  Calls Tryz.prog 94 #[bv a] w fun e w'=>e = .returned (bv (a ^ (pp - 2) % pp))∧Below w.heap.size w w':=by
 have hz:=bG
 have ld : ∀ n w,Calls Tryz.prog 128 #[Value.agg (bl n).toArray] w fun e w'=>e = .returned (nv n)∧Below w.heap.size w w':=gL
 have st : ∀ n,n<RN → ∀ w,Calls Tryz.prog 126 #[nv n] w fun e w'=>e = .returned (.agg (bl (n % pp)).toArray)∧Below w.heap.size w w':=eS
 have HS:Hid (SS w _ _ _ _):=SS.one32 w a
 have HC:Hid (World.rangeAt _ w.heap.size 0 (bl a)):=HS.out.range (i:=0) rfl
 have hza:(bl a).toArray.size=32:=aM a
 have hz0:(bl 0).toArray.size=32:=aM 0
 simp only [bv,br] at hz ⊢
 go_enter Tryz.func94,Tryz.ntmps94
 go_wp2_with (refine wpList_load_mid rfl 22 _ rfl w.heap.size 0 rfl (bl a) _ HC.out Tryz.underlying22 rfl (i32 a) ?_)
 refine (ld a _).mono ?_
 rintro e w1 ⟨rfl,hb1⟩
 have S1:Hid (SS w _ _ _ w1):=HS.out.call hb1
 clear HC HS hb1
 go_wp2_with fail
 refine (uA a ha _).mono ?_
 rintro e w2 ⟨s,hs,rfl,es,hb2⟩
 have S2:Hid (SS w _ _ _ w2):=S1.out.call hb2
 have HES:Hid (s % pp=a ^ (pp - 2) % pp):=es
 clear S1 hb2 es
 go_wp2_with fail
 refine (st s hs _).mono ?_
 rintro e w3 ⟨rfl,hb3⟩
 have S3:Hid (SS w _ _ _ w3):=S2.out.call hb3
 have HT:Hid (w3.there (w.heap.size+1) 0 (br (s % pp)).size):=by rw [aM];exact S3.out.there
 clear S2 hb3
 go_wp2_with (refine wpList_store_mid rfl 22 _ _ rfl (w.heap.size+1) 0 (br (s % pp)) rfl rfl HT.out (by rw [aM];exact fK) (iN _) ?_)
 refine bodyPost_ret (v := .agg (bl (s % pp)).toArray) (aN Tryz.results94 _ _ (w.heap.size+1) 0 (bl (s % pp)) _ rfl (World.rangeAt_setCells_same _ _ _ _ HT.out) Tryz.underlying22 rfl (i32 _)) rfl ⟨by rw [HES.out],af _ (by omega) _ _ _ S3.out.below⟩
end Go.Proofs.YtajehiidpecknaaGreatDoor
