/- The reference's numbers: p, I, Small, less. -/
import Derived.Test.YtkhjnjlinfbfoaaGreatDoorFieS
set_option linter.unusedSimpArgs false
set_option linter.unusedVariables false
namespace Go.Proofs.YtkhjnjlinfbfoaaGreatDoor
open Go Go.RowKit Go.Lib
set_option maxRecDepth 100000
theorem r4 (n:Nat):(Tryz.prog.info? 40).map (·.size)=some (nl n).length:=by kernel_rfl
theorem litP:(#[.int .u64 18446744073709551597,.int .u64 18446744073709551615,.int .u64 18446744073709551615,.int .u64 9223372036854775807]:Array Value)=(nl pp).toArray:=by kernel_rfl
theorem rp_any (w:World):Calls Tryz.prog 81 #[] w fun e w'=>e = .returned (.agg (nl pp).toArray)∧Below w.heap.size w w':=by
 rw [←litP]
 go_enter Tryz.func81,Tryz.ntmps81
 go_wp2
 simp [bodyPost,results,Tryz.results81,go_sem]
 exact (Below.refl _ _).alloc (Nat.le_refl _) _
theorem rI_any (w:World):Calls Tryz.prog 86 #[] w fun e w'=>e = .returned (.agg (nl IN).toArray)∧Below w.heap.size w w':=by
 rw [←litI]
 go_enter Tryz.func86,Tryz.ntmps86
 go_wp2
 simp [bodyPost,results,Tryz.results86,go_sem]
 exact (Below.refl _ _).alloc (Nat.le_refl _) _
theorem rSmall_any (x:Int) (w:World):Calls Tryz.prog 50 #[.int .u64 x] w fun e w'=>e = .returned (.agg #[.int .u64 x,.int .u64 0,.int .u64 0,.int .u64 0])∧Below w.heap.size w w':=by
 go_enter Tryz.func50,Tryz.ntmps50
 go_wp2
 simp [bodyPost,results,Tryz.results50,go_sem]
 exact (Below.refl _ _).alloc (Nat.le_refl _) _
theorem SS.cell {w0:World} {bs:List (Nat × List Value × TypeId)} {r n q k:Nat} {w:World} (h:SS w0 bs r n w) (hq:w0.heap.size≤q) (hne : ∀ b ∈ bs,¬ b.1=q) (v:Value):SS w0 bs r n (w.setCell ⟨q,k,none⟩ v) :=
 ⟨h.below.setCell hq v,fun i g L t hm=>(heap_setCells_past q g (hne _ (List.mem_of_getElem? hm)) [v] k w).trans (h.holds i g L t hm),World.there_setCells h.there q k [v]⟩
theorem cell_set {w:World} {g k:Nat} {cs:Array Value} {t:TypeId} (v:Value) (h:w.heap[g]? = some (.cells cs t (0,0))):(w.setCell ⟨g,k,none⟩ v).heap[g]? = some (.cells (cs.setIfInBounds k v) t (0,0)):=heap_setCell_same _ _ _ _ _ _ h
def LessRel (a b:Nat) (k x0 x1 x2 x3 c:Int):Prop:=0≤k∧k≤4∧0≤c∧c≤1∧Word x0∧Word x1∧Word x2∧Word x3∧(k=0→c=0)∧(k=1→x0 - c*18446744073709551616=(lw a 0) - (lw b 0))∧(k=2→x0+x1*18446744073709551616 - c*340282366920938463463374607431768211456=(lw a 0+lw a 1*18446744073709551616) - (lw b 0+lw b 1*18446744073709551616))∧(k=3→x0+x1*18446744073709551616+x2*340282366920938463463374607431768211456 - c*6277101735386680763835789423207666416102355444464034512896=(lw a 0+lw a 1*18446744073709551616+lw a 2*340282366920938463463374607431768211456) - (lw b 0+lw b 1*18446744073709551616+lw b 2*340282366920938463463374607431768211456))∧(k=4→x0+x1*18446744073709551616+x2*340282366920938463463374607431768211456+x3*6277101735386680763835789423207666416102355444464034512896 - c*115792089237316195423570985008687907853269984665640564039457584007913129639936=(lw a 0+lw a 1*18446744073709551616+lw a 2*340282366920938463463374607431768211456+lw a 3*6277101735386680763835789423207666416102355444464034512896) - (lw b 0+lw b 1*18446744073709551616+lw b 2*340282366920938463463374607431768211456+lw b 3*6277101735386680763835789423207666416102355444464034512896))
set_option maxRecDepth 100000 in
set_option maxHeartbeats 4000000 in
theorem less_nat (a b:Nat) (ha:a<RN) (hb:b<RN) (hba:b≤a) (w:World) :
  Calls Tryz.prog 87 #[.agg (nl a).toArray,.agg (nl b).toArray] w fun e w'=>e = .returned (.agg (nl (a - b)).toArray)∧Below w.heap.size w w':=by
 have HSS0:Hid (SS w [(w.heap.size,nl a,40),(w.heap.size+1,nl b,40)] (w.heap.size+1+1) 4 ((((w.alloc (.cells (nl a).toArray 40)).alloc (.cells (nl b).toArray 40)).alloc (.cells #[.int .u64 0,.int .u64 0,.int .u64 0,.int .u64 0] 40)).alloc (.cells #[.int .u64 0,.int .u64 0,.int .u64 0,.int .u64 0] 40))):=by
  have h1:SS w [(w.heap.size,nl a,40)] (w.heap.size+1+1) 4 ((((w.alloc (.cells (nl a).toArray 40)).alloc (.cells (nl b).toArray 40)).alloc (.cells #[.int .u64 0,.int .u64 0,.int .u64 0,.int .u64 0] 40)).alloc (.cells #[.int .u64 0,.int .u64 0,.int .u64 0,.int .u64 0] 40)):=by
   refine ⟨((((Below.refl _ _).alloc (Nat.le_refl _) _).alloc (by simp) _).alloc (by simp;omega) _).alloc (by simp;omega) _,?_,there_of_row ((heap_alloc_past _ _ _ (by simp)).trans (heap_alloc_here _ _ _ (by simp))) 0 4 (by simp)⟩
   intro i g L t hm
   match i,hm with
   | 0,hm =>
    cases hm
    exact (heap_alloc_past _ _ _ (by simp only [World.size_alloc];omega)).trans ((heap_alloc_past _ _ _ (by simp only [World.size_alloc];omega)).trans ((heap_alloc_past _ _ _ (by simp only [World.size_alloc];omega)).trans (heap_alloc_here _ _ _ rfl)))
  exact h1.add (nl b) _ ((heap_alloc_past _ _ _ (by simp only [World.size_alloc];omega)).trans ((heap_alloc_past _ _ _ (by simp only [World.size_alloc];omega)).trans (heap_alloc_here _ _ _ (by simp))))
 go_enter Tryz.func87,Tryz.ntmps87
 go_wp2
 go_loopw [6,8] (fun c i wr => ∃ k x0 x1 x2 x3 d:Int,i = .int .i64 k∧c = .int .u64 d∧LessRel a b k x0 x1 x2 x3 d∧wr.heap[w.heap.size+1+1+1]? = some (.cells #[.int .u64 x0,.int .u64 x1,.int .u64 x2,.int .u64 x3] 40 (0,0))∧SS w [(w.heap.size,nl a,40),(w.heap.size+1,nl b,40)] (w.heap.size+1+1) 4 wr) (fun _ i _=>4 - (intOf i).toNat)
 case atStart=>exact ⟨0,0,0,0,0,0,rfl,rfl,by unfold LessRel Word;omega,heap_alloc_here _ _ _ (by simp),HSS0.out⟩
 case round =>
  obtain ⟨k,x0,x1,x2,x3,c,rfl,rfl,hrl,hout,hss⟩:=hrel
  have HR:Hid (LessRel a b k x0 x1 x2 x3 c):=hrl
  have HO:Hid (wr.heap[w.heap.size+1+1+1]? = some (.cells #[.int .u64 x0,.int .u64 x1,.int .u64 x2,.int .u64 x3] 40 (0,0))):=hout
  have HSS:Hid (SS w [(w.heap.size,nl a,40),(w.heap.size+1,nl b,40)] (w.heap.size+1+1) 4 wr):=hss
  have hk:k=0∨k=1∨k=2∨k=3∨k=4:=by have:=hrl.1;have:=hrl.2.1;omega
  have hout2:wr.drew.heap[w.heap.size+1+1+1]? = some (.cells #[.int .u64 x0,.int .u64 x1,.int .u64 x2,.int .u64 x3] 40 (0,0)):=hout
  obtain ⟨o0,o1,o2,o3,p0,p1,p2,p3⟩:=four hout2
  clear hrl hout hss hout2
  rcases hk with rfl | rfl | rfl | rfl | rfl
  ·obtain ⟨v,hv⟩ : ∃ v,v=(lw a 0 - lw b 0 - c) % 18446744073709551616:=⟨_,rfl⟩
   obtain ⟨c',hc'⟩ : ∃ c',c'=bor (lw a 0) (lw b 0+c):=⟨_,rfl⟩
   have hs : ∀ w,(callFunc 68 #[.int .u64 (lw a 0),.int .u64 (lw b 0),.int .u64 c]).run Tryz.prog w = .ok (.value (.tuple #[.int .u64 v,.int .u64 c'])) w:=fun w=>by
    rw [hv,hc'];exact sub64 (lw a 0) (lw b 0) c (lw_word a 0).1 (lw_word b 0).1 (lw_word b 0).2 HR.out.2.2.1 HR.out.2.2.2.1 w
   have HV:Hid (LessRel a b 1 v x1 x2 x3 c'):=by
    obtain ⟨r1,r2,r3,r4,r5,r6,r7,r8,r9,ra,rb,rc,rd⟩:=HR.out
    have h0:=lw_word a 0;have h1:=lw_word a 1;have h2:=lw_word a 2;have h3:=lw_word a 3
    have g0:=lw_word b 0;have g1:=lw_word b 1;have g2:=lw_word b 2;have g3:=lw_word b 3
    have hw:Word v:=by rw [hv];exact ⟨by omega,by omega⟩
    have e:=r9 rfl
    clear r9 ra rb rc rd
    show LessRel _ _ _ _ _ _ _ _
    unfold LessRel
    unfold Word at *
    unfold bor at hc'
    refine ⟨by omega,by omega,?_,?_,?_,?_,?_,?_,?_,?_,?_,?_,?_⟩
    all_goals (try intro _)
    all_goals (split at hc' <;> omega)
   clear hv hc'
   go_wp2_with fail
   refine wp_region_held_drew (S:=(fun w'=>SS w [(w.heap.size,nl a,40),(w.heap.size+1,nl b,40)] (w.heap.size+1+1) 4 w')) (by kernel_rfl) ?_ (fun hHeld => ?_)
   ·exact HSS.out.drew
   refine take1 (i:=0) (v := ?_) 12 rfl rfl (by kernel_rfl) (by kernel_rfl) (by kernel_rfl) (fun _ _ _ h=>h) (Or.inl ⟨by rfl,?_⟩) hHeld ?_
   rotate_left 1
   ·intro w hSw;go_simp <;> with_reducible rfl
   simp only [Act.put,qA,qC,qB]
   refine take1 (i:=1) (v := ?_) 13 rfl rfl (by kernel_rfl) (by kernel_rfl) (by kernel_rfl) (fun _ _ _ h=>h) (Or.inl ⟨by rfl,?_⟩) hHeld ?_
   rotate_left 1
   ·intro w hSw;go_simp <;> with_reducible rfl
   simp only [Act.put,qA,qC,qB]
   refine take1 (i:=2) (v := ?_) 14 rfl rfl (by kernel_rfl) (by kernel_rfl) (by kernel_rfl) (fun _ _ _ h=>h) (Or.inl ⟨by rfl,?_⟩) hHeld ?_
   rotate_left 1
   ·intro w hSw;go_simp <;> with_reducible rfl
   simp only [Act.put,qA,qC,qB]
   refine take1 (i:=3) (v := ?_) 15 rfl rfl (by kernel_rfl) (by kernel_rfl) (by kernel_rfl) (fun _ _ _ h=>h) (Or.inl ⟨by rfl,?_⟩) hHeld ?_
   rotate_left 1
   ·intro w hSw;obtain ⟨c0,c1,c2,c3,f0,f1,f2,f3⟩:=four (hSw.holds 0 _ _ _ rfl);go_simp <;> with_reducible rfl
   simp only [Act.put,qA,qC,qB]
   refine take1 (i:=4) (v := ?_) 16 rfl rfl (by kernel_rfl) (by kernel_rfl) (by kernel_rfl) (fun _ _ _ h=>h) (Or.inl ⟨by rfl,?_⟩) hHeld ?_
   rotate_left 1
   ·intro w hSw;go_simp <;> with_reducible rfl
   simp only [Act.put,qA,qC,qB]
   refine take1 (i:=5) (v := ?_) 17 rfl rfl (by kernel_rfl) (by kernel_rfl) (by kernel_rfl) (fun _ _ _ h=>h) (Or.inl ⟨by rfl,?_⟩) hHeld ?_
   rotate_left 1
   ·intro w hSw;go_simp <;> with_reducible rfl
   simp only [Act.put,qA,qC,qB]
   refine take1 (i:=6) (v := ?_) 18 rfl rfl (by kernel_rfl) (by kernel_rfl) (by kernel_rfl) (fun _ _ _ h=>h) (Or.inl ⟨by rfl,?_⟩) hHeld ?_
   rotate_left 1
   ·intro w hSw;obtain ⟨c0,c1,c2,c3,f0,f1,f2,f3⟩:=four (hSw.holds 1 _ _ _ rfl);go_simp <;> with_reducible rfl
   simp only [Act.put,qA,qC,qB]
   refine take1 (i:=7) (v := ?_) 19 rfl rfl (by kernel_rfl) (by kernel_rfl) (by kernel_rfl) (fun _ _ _ h=>h) (Or.inl ⟨by rfl,?_⟩) hHeld ?_
   rotate_left 1
   ·intro w hSw;go_simp <;> with_reducible rfl
   simp only [Act.put,qA,qC,qB]
   refine take1 (i:=8) (v := ?_) 20 rfl rfl (by kernel_rfl) (by kernel_rfl) (by kernel_rfl) (fun _ _ _ h=>h) (Or.inl ⟨by rfl,?_⟩) hHeld ?_
   rotate_left 1
   ·intro w hSw;go_simp <;> with_reducible rfl
   simp only [Act.put,qA,qC,qB]
   refine take1 (i:=9) (v := ?_) 11 rfl rfl (by kernel_rfl) (by kernel_rfl) (by kernel_rfl) (fun _ _ _ h=>h) (Or.inl ⟨by rfl,?_⟩) hHeld ?_
   rotate_left 1
   ·intro w hSw;go_simp <;> with_reducible rfl
   simp only [Act.put,qA,qC,qB]
   refine take1 (i:=10) (v := ?_) 21 rfl rfl (by kernel_rfl) (by kernel_rfl) (by kernel_rfl) (fun _ _ _ h=>h) (Or.inl ⟨by rfl,?_⟩) hHeld ?_
   rotate_left 1
   ·intro w hSw;go_simp <;> with_reducible rfl
   simp only [Act.put,qA,qC,qB]
   refine take1 (i:=11) (v := ?_) 22 rfl rfl (by kernel_rfl) (by kernel_rfl) (by kernel_rfl) (fun _ _ _ h=>h) (Or.inl ⟨by rfl,?_⟩) hHeld ?_
   rotate_left 1
   ·intro w hSw;go_simp <;> with_reducible rfl
   simp only [Act.put,qA,qC,qB]
   refine take1 (i:=12) (v := ?_) 23 rfl rfl (by kernel_rfl) (by kernel_rfl) (by kernel_rfl) (fun _ _ _ h=>h) (Or.inl ⟨by rfl,?_⟩) hHeld ?_
   rotate_left 1
   ·intro w hSw;go_simp <;> with_reducible rfl
   simp only [Act.put,qA,qC,qB]
   refine wpAnyH_ready (rs:=[13]) (by kernel_rfl) (by simp) ?_
   refine AllReadyH.cons rfl (fun K hK => ?_) AllReadyH.nil
   go_simp
   refine hK.out _ _ ?_ (fun hHeld => ?_)
   ·exact hHeld.cell (by omega) (ne2 (by omega) (by omega)) _
   clear hK K
   try simp only [Act.put,qA,qC,qB]
   refine take1 (i:=14) (v := ?_) 6 rfl rfl (by kernel_rfl) (by kernel_rfl) (by kernel_rfl) (fun _ _ _ h=>h) (Or.inl ⟨by rfl,?_⟩) hHeld ?_
   rotate_left 1
   ·intro w hSw;go_simp <;> with_reducible rfl
   simp only [Act.put,qA,qC,qB]
   refine wpAnyH_done (by kernel_rfl) ?_ _
   have HO2:Hid ((wr.drew.setCell ⟨w.heap.size+1+1+1,0,none⟩ (.int .u64 v)).heap[w.heap.size+1+1+1]? = some (.cells #[.int .u64 v,.int .u64 x1,.int .u64 x2,.int .u64 x3] 40 (0,0))):=cell_set (k:=0) (.int .u64 v) (w:=wr.drew) HO.out
   have HS2:Hid (SS w [(w.heap.size,nl a,40),(w.heap.size+1,nl b,40)] (w.heap.size+1+1) 4 _):=hHeld
   clear hHeld
   go_wp2
   go_roundw
   case rel=>exact ⟨1,v,x1,x2,x3,c',rfl,rfl,HV.out,HO2.out,HS2.out⟩
   case measure=>simp [intOf]
  ·obtain ⟨v,hv⟩ : ∃ v,v=(lw a 1 - lw b 1 - c) % 18446744073709551616:=⟨_,rfl⟩
   obtain ⟨c',hc'⟩ : ∃ c',c'=bor (lw a 1) (lw b 1+c):=⟨_,rfl⟩
   have hs : ∀ w,(callFunc 68 #[.int .u64 (lw a 1),.int .u64 (lw b 1),.int .u64 c]).run Tryz.prog w = .ok (.value (.tuple #[.int .u64 v,.int .u64 c'])) w:=fun w=>by
    rw [hv,hc'];exact sub64 (lw a 1) (lw b 1) c (lw_word a 1).1 (lw_word b 1).1 (lw_word b 1).2 HR.out.2.2.1 HR.out.2.2.2.1 w
   have HV:Hid (LessRel a b 2 x0 v x2 x3 c'):=by
    obtain ⟨r1,r2,r3,r4,r5,r6,r7,r8,r9,ra,rb,rc,rd⟩:=HR.out
    have h0:=lw_word a 0;have h1:=lw_word a 1;have h2:=lw_word a 2;have h3:=lw_word a 3
    have g0:=lw_word b 0;have g1:=lw_word b 1;have g2:=lw_word b 2;have g3:=lw_word b 3
    have hw:Word v:=by rw [hv];exact ⟨by omega,by omega⟩
    have e:=ra rfl
    clear r9 ra rb rc rd
    show LessRel _ _ _ _ _ _ _ _
    unfold LessRel
    unfold Word at *
    unfold bor at hc'
    refine ⟨by omega,by omega,?_,?_,?_,?_,?_,?_,?_,?_,?_,?_,?_⟩
    all_goals (try intro _)
    all_goals (split at hc' <;> omega)
   clear hv hc'
   go_wp2_with fail
   refine wp_region_held_drew (S:=(fun w'=>SS w [(w.heap.size,nl a,40),(w.heap.size+1,nl b,40)] (w.heap.size+1+1) 4 w')) (by kernel_rfl) ?_ (fun hHeld => ?_)
   ·exact HSS.out.drew
   refine take1 (i:=0) (v := ?_) 12 rfl rfl (by kernel_rfl) (by kernel_rfl) (by kernel_rfl) (fun _ _ _ h=>h) (Or.inl ⟨by rfl,?_⟩) hHeld ?_
   rotate_left 1
   ·intro w hSw;go_simp <;> with_reducible rfl
   simp only [Act.put,qA,qC,qB]
   refine take1 (i:=1) (v := ?_) 13 rfl rfl (by kernel_rfl) (by kernel_rfl) (by kernel_rfl) (fun _ _ _ h=>h) (Or.inl ⟨by rfl,?_⟩) hHeld ?_
   rotate_left 1
   ·intro w hSw;go_simp <;> with_reducible rfl
   simp only [Act.put,qA,qC,qB]
   refine take1 (i:=2) (v := ?_) 14 rfl rfl (by kernel_rfl) (by kernel_rfl) (by kernel_rfl) (fun _ _ _ h=>h) (Or.inl ⟨by rfl,?_⟩) hHeld ?_
   rotate_left 1
   ·intro w hSw;go_simp <;> with_reducible rfl
   simp only [Act.put,qA,qC,qB]
   refine take1 (i:=3) (v := ?_) 15 rfl rfl (by kernel_rfl) (by kernel_rfl) (by kernel_rfl) (fun _ _ _ h=>h) (Or.inl ⟨by rfl,?_⟩) hHeld ?_
   rotate_left 1
   ·intro w hSw;obtain ⟨c0,c1,c2,c3,f0,f1,f2,f3⟩:=four (hSw.holds 0 _ _ _ rfl);go_simp <;> with_reducible rfl
   simp only [Act.put,qA,qC,qB]
   refine take1 (i:=4) (v := ?_) 16 rfl rfl (by kernel_rfl) (by kernel_rfl) (by kernel_rfl) (fun _ _ _ h=>h) (Or.inl ⟨by rfl,?_⟩) hHeld ?_
   rotate_left 1
   ·intro w hSw;go_simp <;> with_reducible rfl
   simp only [Act.put,qA,qC,qB]
   refine take1 (i:=5) (v := ?_) 17 rfl rfl (by kernel_rfl) (by kernel_rfl) (by kernel_rfl) (fun _ _ _ h=>h) (Or.inl ⟨by rfl,?_⟩) hHeld ?_
   rotate_left 1
   ·intro w hSw;go_simp <;> with_reducible rfl
   simp only [Act.put,qA,qC,qB]
   refine take1 (i:=6) (v := ?_) 18 rfl rfl (by kernel_rfl) (by kernel_rfl) (by kernel_rfl) (fun _ _ _ h=>h) (Or.inl ⟨by rfl,?_⟩) hHeld ?_
   rotate_left 1
   ·intro w hSw;obtain ⟨c0,c1,c2,c3,f0,f1,f2,f3⟩:=four (hSw.holds 1 _ _ _ rfl);go_simp <;> with_reducible rfl
   simp only [Act.put,qA,qC,qB]
   refine take1 (i:=7) (v := ?_) 19 rfl rfl (by kernel_rfl) (by kernel_rfl) (by kernel_rfl) (fun _ _ _ h=>h) (Or.inl ⟨by rfl,?_⟩) hHeld ?_
   rotate_left 1
   ·intro w hSw;go_simp <;> with_reducible rfl
   simp only [Act.put,qA,qC,qB]
   refine take1 (i:=8) (v := ?_) 20 rfl rfl (by kernel_rfl) (by kernel_rfl) (by kernel_rfl) (fun _ _ _ h=>h) (Or.inl ⟨by rfl,?_⟩) hHeld ?_
   rotate_left 1
   ·intro w hSw;go_simp <;> with_reducible rfl
   simp only [Act.put,qA,qC,qB]
   refine take1 (i:=9) (v := ?_) 11 rfl rfl (by kernel_rfl) (by kernel_rfl) (by kernel_rfl) (fun _ _ _ h=>h) (Or.inl ⟨by rfl,?_⟩) hHeld ?_
   rotate_left 1
   ·intro w hSw;go_simp <;> with_reducible rfl
   simp only [Act.put,qA,qC,qB]
   refine take1 (i:=10) (v := ?_) 21 rfl rfl (by kernel_rfl) (by kernel_rfl) (by kernel_rfl) (fun _ _ _ h=>h) (Or.inl ⟨by rfl,?_⟩) hHeld ?_
   rotate_left 1
   ·intro w hSw;go_simp <;> with_reducible rfl
   simp only [Act.put,qA,qC,qB]
   refine take1 (i:=11) (v := ?_) 22 rfl rfl (by kernel_rfl) (by kernel_rfl) (by kernel_rfl) (fun _ _ _ h=>h) (Or.inl ⟨by rfl,?_⟩) hHeld ?_
   rotate_left 1
   ·intro w hSw;go_simp <;> with_reducible rfl
   simp only [Act.put,qA,qC,qB]
   refine take1 (i:=12) (v := ?_) 23 rfl rfl (by kernel_rfl) (by kernel_rfl) (by kernel_rfl) (fun _ _ _ h=>h) (Or.inl ⟨by rfl,?_⟩) hHeld ?_
   rotate_left 1
   ·intro w hSw;go_simp <;> with_reducible rfl
   simp only [Act.put,qA,qC,qB]
   refine wpAnyH_ready (rs:=[13]) (by kernel_rfl) (by simp) ?_
   refine AllReadyH.cons rfl (fun K hK => ?_) AllReadyH.nil
   go_simp
   refine hK.out _ _ ?_ (fun hHeld => ?_)
   ·exact hHeld.cell (by omega) (ne2 (by omega) (by omega)) _
   clear hK K
   try simp only [Act.put,qA,qC,qB]
   refine take1 (i:=14) (v := ?_) 6 rfl rfl (by kernel_rfl) (by kernel_rfl) (by kernel_rfl) (fun _ _ _ h=>h) (Or.inl ⟨by rfl,?_⟩) hHeld ?_
   rotate_left 1
   ·intro w hSw;go_simp <;> with_reducible rfl
   simp only [Act.put,qA,qC,qB]
   refine wpAnyH_done (by kernel_rfl) ?_ _
   have HO2:Hid ((wr.drew.setCell ⟨w.heap.size+1+1+1,1,none⟩ (.int .u64 v)).heap[w.heap.size+1+1+1]? = some (.cells #[.int .u64 x0,.int .u64 v,.int .u64 x2,.int .u64 x3] 40 (0,0))):=cell_set (k:=1) (.int .u64 v) (w:=wr.drew) HO.out
   have HS2:Hid (SS w [(w.heap.size,nl a,40),(w.heap.size+1,nl b,40)] (w.heap.size+1+1) 4 _):=hHeld
   clear hHeld
   go_wp2
   go_roundw
   case rel=>exact ⟨2,x0,v,x2,x3,c',rfl,rfl,HV.out,HO2.out,HS2.out⟩
   case measure=>simp [intOf]
  ·obtain ⟨v,hv⟩ : ∃ v,v=(lw a 2 - lw b 2 - c) % 18446744073709551616:=⟨_,rfl⟩
   obtain ⟨c',hc'⟩ : ∃ c',c'=bor (lw a 2) (lw b 2+c):=⟨_,rfl⟩
   have hs : ∀ w,(callFunc 68 #[.int .u64 (lw a 2),.int .u64 (lw b 2),.int .u64 c]).run Tryz.prog w = .ok (.value (.tuple #[.int .u64 v,.int .u64 c'])) w:=fun w=>by
    rw [hv,hc'];exact sub64 (lw a 2) (lw b 2) c (lw_word a 2).1 (lw_word b 2).1 (lw_word b 2).2 HR.out.2.2.1 HR.out.2.2.2.1 w
   have HV:Hid (LessRel a b 3 x0 x1 v x3 c'):=by
    obtain ⟨r1,r2,r3,r4,r5,r6,r7,r8,r9,ra,rb,rc,rd⟩:=HR.out
    have h0:=lw_word a 0;have h1:=lw_word a 1;have h2:=lw_word a 2;have h3:=lw_word a 3
    have g0:=lw_word b 0;have g1:=lw_word b 1;have g2:=lw_word b 2;have g3:=lw_word b 3
    have hw:Word v:=by rw [hv];exact ⟨by omega,by omega⟩
    have e:=rb rfl
    clear r9 ra rb rc rd
    show LessRel _ _ _ _ _ _ _ _
    unfold LessRel
    unfold Word at *
    unfold bor at hc'
    refine ⟨by omega,by omega,?_,?_,?_,?_,?_,?_,?_,?_,?_,?_,?_⟩
    all_goals (try intro _)
    all_goals (split at hc' <;> omega)
   clear hv hc'
   go_wp2_with fail
   refine wp_region_held_drew (S:=(fun w'=>SS w [(w.heap.size,nl a,40),(w.heap.size+1,nl b,40)] (w.heap.size+1+1) 4 w')) (by kernel_rfl) ?_ (fun hHeld => ?_)
   ·exact HSS.out.drew
   refine take1 (i:=0) (v := ?_) 12 rfl rfl (by kernel_rfl) (by kernel_rfl) (by kernel_rfl) (fun _ _ _ h=>h) (Or.inl ⟨by rfl,?_⟩) hHeld ?_
   rotate_left 1
   ·intro w hSw;go_simp <;> with_reducible rfl
   simp only [Act.put,qA,qC,qB]
   refine take1 (i:=1) (v := ?_) 13 rfl rfl (by kernel_rfl) (by kernel_rfl) (by kernel_rfl) (fun _ _ _ h=>h) (Or.inl ⟨by rfl,?_⟩) hHeld ?_
   rotate_left 1
   ·intro w hSw;go_simp <;> with_reducible rfl
   simp only [Act.put,qA,qC,qB]
   refine take1 (i:=2) (v := ?_) 14 rfl rfl (by kernel_rfl) (by kernel_rfl) (by kernel_rfl) (fun _ _ _ h=>h) (Or.inl ⟨by rfl,?_⟩) hHeld ?_
   rotate_left 1
   ·intro w hSw;go_simp <;> with_reducible rfl
   simp only [Act.put,qA,qC,qB]
   refine take1 (i:=3) (v := ?_) 15 rfl rfl (by kernel_rfl) (by kernel_rfl) (by kernel_rfl) (fun _ _ _ h=>h) (Or.inl ⟨by rfl,?_⟩) hHeld ?_
   rotate_left 1
   ·intro w hSw;obtain ⟨c0,c1,c2,c3,f0,f1,f2,f3⟩:=four (hSw.holds 0 _ _ _ rfl);go_simp <;> with_reducible rfl
   simp only [Act.put,qA,qC,qB]
   refine take1 (i:=4) (v := ?_) 16 rfl rfl (by kernel_rfl) (by kernel_rfl) (by kernel_rfl) (fun _ _ _ h=>h) (Or.inl ⟨by rfl,?_⟩) hHeld ?_
   rotate_left 1
   ·intro w hSw;go_simp <;> with_reducible rfl
   simp only [Act.put,qA,qC,qB]
   refine take1 (i:=5) (v := ?_) 17 rfl rfl (by kernel_rfl) (by kernel_rfl) (by kernel_rfl) (fun _ _ _ h=>h) (Or.inl ⟨by rfl,?_⟩) hHeld ?_
   rotate_left 1
   ·intro w hSw;go_simp <;> with_reducible rfl
   simp only [Act.put,qA,qC,qB]
   refine take1 (i:=6) (v := ?_) 18 rfl rfl (by kernel_rfl) (by kernel_rfl) (by kernel_rfl) (fun _ _ _ h=>h) (Or.inl ⟨by rfl,?_⟩) hHeld ?_
   rotate_left 1
   ·intro w hSw;obtain ⟨c0,c1,c2,c3,f0,f1,f2,f3⟩:=four (hSw.holds 1 _ _ _ rfl);go_simp <;> with_reducible rfl
   simp only [Act.put,qA,qC,qB]
   refine take1 (i:=7) (v := ?_) 19 rfl rfl (by kernel_rfl) (by kernel_rfl) (by kernel_rfl) (fun _ _ _ h=>h) (Or.inl ⟨by rfl,?_⟩) hHeld ?_
   rotate_left 1
   ·intro w hSw;go_simp <;> with_reducible rfl
   simp only [Act.put,qA,qC,qB]
   refine take1 (i:=8) (v := ?_) 20 rfl rfl (by kernel_rfl) (by kernel_rfl) (by kernel_rfl) (fun _ _ _ h=>h) (Or.inl ⟨by rfl,?_⟩) hHeld ?_
   rotate_left 1
   ·intro w hSw;go_simp <;> with_reducible rfl
   simp only [Act.put,qA,qC,qB]
   refine take1 (i:=9) (v := ?_) 11 rfl rfl (by kernel_rfl) (by kernel_rfl) (by kernel_rfl) (fun _ _ _ h=>h) (Or.inl ⟨by rfl,?_⟩) hHeld ?_
   rotate_left 1
   ·intro w hSw;go_simp <;> with_reducible rfl
   simp only [Act.put,qA,qC,qB]
   refine take1 (i:=10) (v := ?_) 21 rfl rfl (by kernel_rfl) (by kernel_rfl) (by kernel_rfl) (fun _ _ _ h=>h) (Or.inl ⟨by rfl,?_⟩) hHeld ?_
   rotate_left 1
   ·intro w hSw;go_simp <;> with_reducible rfl
   simp only [Act.put,qA,qC,qB]
   refine take1 (i:=11) (v := ?_) 22 rfl rfl (by kernel_rfl) (by kernel_rfl) (by kernel_rfl) (fun _ _ _ h=>h) (Or.inl ⟨by rfl,?_⟩) hHeld ?_
   rotate_left 1
   ·intro w hSw;go_simp <;> with_reducible rfl
   simp only [Act.put,qA,qC,qB]
   refine take1 (i:=12) (v := ?_) 23 rfl rfl (by kernel_rfl) (by kernel_rfl) (by kernel_rfl) (fun _ _ _ h=>h) (Or.inl ⟨by rfl,?_⟩) hHeld ?_
   rotate_left 1
   ·intro w hSw;go_simp <;> with_reducible rfl
   simp only [Act.put,qA,qC,qB]
   refine wpAnyH_ready (rs:=[13]) (by kernel_rfl) (by simp) ?_
   refine AllReadyH.cons rfl (fun K hK => ?_) AllReadyH.nil
   go_simp
   refine hK.out _ _ ?_ (fun hHeld => ?_)
   ·exact hHeld.cell (by omega) (ne2 (by omega) (by omega)) _
   clear hK K
   try simp only [Act.put,qA,qC,qB]
   refine take1 (i:=14) (v := ?_) 6 rfl rfl (by kernel_rfl) (by kernel_rfl) (by kernel_rfl) (fun _ _ _ h=>h) (Or.inl ⟨by rfl,?_⟩) hHeld ?_
   rotate_left 1
   ·intro w hSw;go_simp <;> with_reducible rfl
   simp only [Act.put,qA,qC,qB]
   refine wpAnyH_done (by kernel_rfl) ?_ _
   have HO2:Hid ((wr.drew.setCell ⟨w.heap.size+1+1+1,2,none⟩ (.int .u64 v)).heap[w.heap.size+1+1+1]? = some (.cells #[.int .u64 x0,.int .u64 x1,.int .u64 v,.int .u64 x3] 40 (0,0))):=cell_set (k:=2) (.int .u64 v) (w:=wr.drew) HO.out
   have HS2:Hid (SS w [(w.heap.size,nl a,40),(w.heap.size+1,nl b,40)] (w.heap.size+1+1) 4 _):=hHeld
   clear hHeld
   go_wp2
   go_roundw
   case rel=>exact ⟨3,x0,x1,v,x3,c',rfl,rfl,HV.out,HO2.out,HS2.out⟩
   case measure=>simp [intOf]
  ·obtain ⟨v,hv⟩ : ∃ v,v=(lw a 3 - lw b 3 - c) % 18446744073709551616:=⟨_,rfl⟩
   obtain ⟨c',hc'⟩ : ∃ c',c'=bor (lw a 3) (lw b 3+c):=⟨_,rfl⟩
   have hs : ∀ w,(callFunc 68 #[.int .u64 (lw a 3),.int .u64 (lw b 3),.int .u64 c]).run Tryz.prog w = .ok (.value (.tuple #[.int .u64 v,.int .u64 c'])) w:=fun w=>by
    rw [hv,hc'];exact sub64 (lw a 3) (lw b 3) c (lw_word a 3).1 (lw_word b 3).1 (lw_word b 3).2 HR.out.2.2.1 HR.out.2.2.2.1 w
   have HV:Hid (LessRel a b 4 x0 x1 x2 v c'):=by
    obtain ⟨r1,r2,r3,r4,r5,r6,r7,r8,r9,ra,rb,rc,rd⟩:=HR.out
    have h0:=lw_word a 0;have h1:=lw_word a 1;have h2:=lw_word a 2;have h3:=lw_word a 3
    have g0:=lw_word b 0;have g1:=lw_word b 1;have g2:=lw_word b 2;have g3:=lw_word b 3
    have hw:Word v:=by rw [hv];exact ⟨by omega,by omega⟩
    have e:=rc rfl
    clear r9 ra rb rc rd
    show LessRel _ _ _ _ _ _ _ _
    unfold LessRel
    unfold Word at *
    unfold bor at hc'
    refine ⟨by omega,by omega,?_,?_,?_,?_,?_,?_,?_,?_,?_,?_,?_⟩
    all_goals (try intro _)
    all_goals (split at hc' <;> omega)
   clear hv hc'
   go_wp2_with fail
   refine wp_region_held_drew (S:=(fun w'=>SS w [(w.heap.size,nl a,40),(w.heap.size+1,nl b,40)] (w.heap.size+1+1) 4 w')) (by kernel_rfl) ?_ (fun hHeld => ?_)
   ·exact HSS.out.drew
   refine take1 (i:=0) (v := ?_) 12 rfl rfl (by kernel_rfl) (by kernel_rfl) (by kernel_rfl) (fun _ _ _ h=>h) (Or.inl ⟨by rfl,?_⟩) hHeld ?_
   rotate_left 1
   ·intro w hSw;go_simp <;> with_reducible rfl
   simp only [Act.put,qA,qC,qB]
   refine take1 (i:=1) (v := ?_) 13 rfl rfl (by kernel_rfl) (by kernel_rfl) (by kernel_rfl) (fun _ _ _ h=>h) (Or.inl ⟨by rfl,?_⟩) hHeld ?_
   rotate_left 1
   ·intro w hSw;go_simp <;> with_reducible rfl
   simp only [Act.put,qA,qC,qB]
   refine take1 (i:=2) (v := ?_) 14 rfl rfl (by kernel_rfl) (by kernel_rfl) (by kernel_rfl) (fun _ _ _ h=>h) (Or.inl ⟨by rfl,?_⟩) hHeld ?_
   rotate_left 1
   ·intro w hSw;go_simp <;> with_reducible rfl
   simp only [Act.put,qA,qC,qB]
   refine take1 (i:=3) (v := ?_) 15 rfl rfl (by kernel_rfl) (by kernel_rfl) (by kernel_rfl) (fun _ _ _ h=>h) (Or.inl ⟨by rfl,?_⟩) hHeld ?_
   rotate_left 1
   ·intro w hSw;obtain ⟨c0,c1,c2,c3,f0,f1,f2,f3⟩:=four (hSw.holds 0 _ _ _ rfl);go_simp <;> with_reducible rfl
   simp only [Act.put,qA,qC,qB]
   refine take1 (i:=4) (v := ?_) 16 rfl rfl (by kernel_rfl) (by kernel_rfl) (by kernel_rfl) (fun _ _ _ h=>h) (Or.inl ⟨by rfl,?_⟩) hHeld ?_
   rotate_left 1
   ·intro w hSw;go_simp <;> with_reducible rfl
   simp only [Act.put,qA,qC,qB]
   refine take1 (i:=5) (v := ?_) 17 rfl rfl (by kernel_rfl) (by kernel_rfl) (by kernel_rfl) (fun _ _ _ h=>h) (Or.inl ⟨by rfl,?_⟩) hHeld ?_
   rotate_left 1
   ·intro w hSw;go_simp <;> with_reducible rfl
   simp only [Act.put,qA,qC,qB]
   refine take1 (i:=6) (v := ?_) 18 rfl rfl (by kernel_rfl) (by kernel_rfl) (by kernel_rfl) (fun _ _ _ h=>h) (Or.inl ⟨by rfl,?_⟩) hHeld ?_
   rotate_left 1
   ·intro w hSw;obtain ⟨c0,c1,c2,c3,f0,f1,f2,f3⟩:=four (hSw.holds 1 _ _ _ rfl);go_simp <;> with_reducible rfl
   simp only [Act.put,qA,qC,qB]
   refine take1 (i:=7) (v := ?_) 19 rfl rfl (by kernel_rfl) (by kernel_rfl) (by kernel_rfl) (fun _ _ _ h=>h) (Or.inl ⟨by rfl,?_⟩) hHeld ?_
   rotate_left 1
   ·intro w hSw;go_simp <;> with_reducible rfl
   simp only [Act.put,qA,qC,qB]
   refine take1 (i:=8) (v := ?_) 20 rfl rfl (by kernel_rfl) (by kernel_rfl) (by kernel_rfl) (fun _ _ _ h=>h) (Or.inl ⟨by rfl,?_⟩) hHeld ?_
   rotate_left 1
   ·intro w hSw;go_simp <;> with_reducible rfl
   simp only [Act.put,qA,qC,qB]
   refine take1 (i:=9) (v := ?_) 11 rfl rfl (by kernel_rfl) (by kernel_rfl) (by kernel_rfl) (fun _ _ _ h=>h) (Or.inl ⟨by rfl,?_⟩) hHeld ?_
   rotate_left 1
   ·intro w hSw;go_simp <;> with_reducible rfl
   simp only [Act.put,qA,qC,qB]
   refine take1 (i:=10) (v := ?_) 21 rfl rfl (by kernel_rfl) (by kernel_rfl) (by kernel_rfl) (fun _ _ _ h=>h) (Or.inl ⟨by rfl,?_⟩) hHeld ?_
   rotate_left 1
   ·intro w hSw;go_simp <;> with_reducible rfl
   simp only [Act.put,qA,qC,qB]
   refine take1 (i:=11) (v := ?_) 22 rfl rfl (by kernel_rfl) (by kernel_rfl) (by kernel_rfl) (fun _ _ _ h=>h) (Or.inl ⟨by rfl,?_⟩) hHeld ?_
   rotate_left 1
   ·intro w hSw;go_simp <;> with_reducible rfl
   simp only [Act.put,qA,qC,qB]
   refine take1 (i:=12) (v := ?_) 23 rfl rfl (by kernel_rfl) (by kernel_rfl) (by kernel_rfl) (fun _ _ _ h=>h) (Or.inl ⟨by rfl,?_⟩) hHeld ?_
   rotate_left 1
   ·intro w hSw;go_simp <;> with_reducible rfl
   simp only [Act.put,qA,qC,qB]
   refine wpAnyH_ready (rs:=[13]) (by kernel_rfl) (by simp) ?_
   refine AllReadyH.cons rfl (fun K hK => ?_) AllReadyH.nil
   go_simp
   refine hK.out _ _ ?_ (fun hHeld => ?_)
   ·exact hHeld.cell (by omega) (ne2 (by omega) (by omega)) _
   clear hK K
   try simp only [Act.put,qA,qC,qB]
   refine take1 (i:=14) (v := ?_) 6 rfl rfl (by kernel_rfl) (by kernel_rfl) (by kernel_rfl) (fun _ _ _ h=>h) (Or.inl ⟨by rfl,?_⟩) hHeld ?_
   rotate_left 1
   ·intro w hSw;go_simp <;> with_reducible rfl
   simp only [Act.put,qA,qC,qB]
   refine wpAnyH_done (by kernel_rfl) ?_ _
   have HO2:Hid ((wr.drew.setCell ⟨w.heap.size+1+1+1,3,none⟩ (.int .u64 v)).heap[w.heap.size+1+1+1]? = some (.cells #[.int .u64 x0,.int .u64 x1,.int .u64 x2,.int .u64 v] 40 (0,0))):=cell_set (k:=3) (.int .u64 v) (w:=wr.drew) HO.out
   have HS2:Hid (SS w [(w.heap.size,nl a,40),(w.heap.size+1,nl b,40)] (w.heap.size+1+1) 4 _):=hHeld
   clear hHeld
   go_wp2
   go_roundw
   case rel=>exact ⟨4,x0,x1,x2,v,c',rfl,rfl,HV.out,HO2.out,HS2.out⟩
   case measure=>simp [intOf]
  ·obtain ⟨y0,y1,y2,y3,z0,z1,z2,z3⟩:=four HO.out
   have HT:Hid (wr.there (w.heap.size+1+1) 0 4):=HSS.out.there
   have HE:Hid (#[Value.int .u64 x0,.int .u64 x1,.int .u64 x2,.int .u64 x3]=(nl (a - b)).toArray):=by
    obtain ⟨r1,r2,r3,r4,r5,r6,r7,r8,r9,ra,rb,rc,rd⟩:=HR.out
    have ea:=Num.of_val a ha
    have eb:=Num.of_val b hb
    have ec:=Num.of_val (a - b) (by omega)
    have e:=rd rfl
    have hbx:=Num.bound (n:=⟨x0,x1,x2,x3⟩) ⟨r5,r6,r7,r8⟩
    have:(⟨x0,x1,x2,x3⟩:Num)=Num.of (a - b):=by
     refine Num.inj ⟨r5,r6,r7,r8⟩ (Num.of_ok _) ?_
     rw [ec]
     simp only [Num.val,Num.of,RR] at *
     omega
    have h0:=congrArg Num.w0 this
    have h1:=congrArg Num.w1 this
    have h2:=congrArg Num.w2 this
    have h3:=congrArg Num.w3 this
    simp only [Num.of] at h0 h1 h2 h3
    show _=_
    rw [h0,h1,h2,h3]
   go_wp2_with (refine wpList_store_mid rfl 40 _ _ rfl (w.heap.size+1+1) 0 (nl (a - b)).toArray rfl (congrArg Value.agg HE.out) HT.out (r4 _) (four_one _) ?_)
   refine bodyPost_ret (v := .agg (nl (a - b)).toArray) (results_mid Tryz.results87 _ _ (w.heap.size+1+1) 0 (nl (a - b)) _ rfl (World.rangeAt_setCells_same _ _ _ _ HT.out) Tryz.underlying40 rfl (r4 _)) rfl ⟨rfl,below_setCells _ (by omega) _ _ _ HSS.out.below⟩
end Go.Proofs.YtkhjnjlinfbfoaaGreatDoor
