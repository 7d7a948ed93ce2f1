/- The reference's below, Least, Minus, Same. -/
import Derived.Test.YtkhjnjlinfbfoaaGreatDoorFieRB
set_option linter.unusedSimpArgs false
set_option linter.unusedVariables false
namespace Go.Proofs.YtkhjnjlinfbfoaaGreatDoor
open Go Go.RowKit Go.Lib
set_option maxRecDepth 100000
theorem nat_words (a:Nat) (ha:a<RN):(a:Int)=lw a 0+lw a 1*18446744073709551616+lw a 2*340282366920938463463374607431768211456+lw a 3*6277101735386680763835789423207666416102355444464034512896:=by
 have:=Num.of_val a ha
 simp only [Num.of,Num.val] at this
 exact this.symm
def BelRel (a b:Nat) (i:Int):Prop := -1≤i∧i≤3∧(i<3→lw a 3=lw b 3)∧(i<2→lw a 2=lw b 2)∧(i<1→lw a 1=lw b 1)∧(i<0→lw a 0=lw b 0)
set_option maxRecDepth 100000 in
set_option maxHeartbeats 4000000 in
theorem below_nat (a b:Nat) (ha:a<RN) (hb:b<RN) (w:World) :
  Calls Tryz.prog 80 #[.agg (nl a).toArray,.agg (nl b).toArray] w fun e w'=>e = .returned (.bool (decide (a<b)))∧Below w.heap.size w w':=by
 have HS0:=(HH.one w (nl a) 40).more (nl b) 40
 simp only [World.size_alloc,List.cons_append,List.nil_append] at HS0
 have HSS:Hid (HH w [(w.heap.size,nl a,40),(w.heap.size+1,nl b,40)] _):=HS0
 clear HS0
 go_enter Tryz.func80,Tryz.ntmps80
 go_wp2
 go_loopw [5] (fun i wr => ∃ k:Int,i = .int .i64 k∧BelRel a b k∧HH w [(w.heap.size,nl a,40),(w.heap.size+1,nl b,40)] wr) (fun i _=>(intOf i+1).toNat)
 case atStart=>exact ⟨3,rfl,by unfold BelRel;omega,HSS.out⟩
 case round =>
  obtain ⟨k,rfl,hr,hs⟩:=hrel
  have HR:Hid (BelRel a b k):=hr
  have HS:Hid (HH w [(w.heap.size,nl a,40),(w.heap.size+1,nl b,40)] wr):=hs
  have hk:k=3∨k=2∨k=1∨k=0∨k = -1:=by have:=hr.1;have:=hr.2.1;omega
  clear hr hs
  rcases hk with rfl | rfl | rfl | rfl | rfl
  ·have ha0:=lw_word a 0;have ha1:=lw_word a 1;have ha2:=lw_word a 2;have ha3:=lw_word a 3
   have hb0:=lw_word b 0;have hb1:=lw_word b 1;have hb2:=lw_word b 2;have hb3:=lw_word b 3
   by_cases hq:lw a 3=lw b 3
   ·have HN:Hid (BelRel a b (2)):=by
     have:=HR.out
     show BelRel _ _ _
     unfold BelRel at *
     omega
    have hqd:decide (lw a 3=lw b 3)=true:=decide_eq_true hq
    clear ha0 ha1 ha2 ha3 hb0 hb1 hb2 hb3
    go_wp2_with fail
    refine wp_region_held_drew (S:=(fun w'=>HH w [(w.heap.size,nl a,40),(w.heap.size+1,nl b,40)] w')) (by kernel_rfl) ?_ (fun hHeld => ?_)
    ·exact HS.out.drew
    refine take1 (i:=0) (v := ?_) 10 rfl rfl (by kernel_rfl) (by kernel_rfl) (by kernel_rfl) (fun _ _ _ h=>h) (Or.inl ⟨by rfl,?_⟩) hHeld ?_
    rotate_left 1
    ·intro w hSw;go_simp <;> with_reducible rfl
    simp only [Act.put,qA,qC,qB]
    refine take1 (i:=1) (v := ?_) 11 rfl rfl (by kernel_rfl) (by kernel_rfl) (by kernel_rfl) (fun _ _ _ h=>h) (Or.inl ⟨by rfl,?_⟩) hHeld ?_
    rotate_left 1
    ·intro w hSw;go_simp <;> with_reducible rfl
    simp only [Act.put,qA,qC,qB]
    refine take1 (i:=2) (v := ?_) 12 rfl rfl (by kernel_rfl) (by kernel_rfl) (by kernel_rfl) (fun _ _ _ h=>h) (Or.inl ⟨by rfl,?_⟩) hHeld ?_
    rotate_left 1
    ·intro w hSw;obtain ⟨c0,c1,c2,c3,f0,f1,f2,f3⟩:=four (hSw.holds 0 _ _ _ rfl);go_simp <;> with_reducible rfl
    simp only [Act.put,qA,qC,qB]
    refine take1 (i:=3) (v := ?_) 13 rfl rfl (by kernel_rfl) (by kernel_rfl) (by kernel_rfl) (fun _ _ _ h=>h) (Or.inl ⟨by rfl,?_⟩) hHeld ?_
    rotate_left 1
    ·intro w hSw;go_simp <;> with_reducible rfl
    simp only [Act.put,qA,qC,qB]
    refine take1 (i:=4) (v := ?_) 14 rfl rfl (by kernel_rfl) (by kernel_rfl) (by kernel_rfl) (fun _ _ _ h=>h) (Or.inl ⟨by rfl,?_⟩) hHeld ?_
    rotate_left 1
    ·intro w hSw;go_simp <;> with_reducible rfl
    simp only [Act.put,qA,qC,qB]
    refine take1 (i:=5) (v := ?_) 15 rfl rfl (by kernel_rfl) (by kernel_rfl) (by kernel_rfl) (fun _ _ _ h=>h) (Or.inl ⟨by rfl,?_⟩) hHeld ?_
    rotate_left 1
    ·intro w hSw;obtain ⟨c0,c1,c2,c3,f0,f1,f2,f3⟩:=four (hSw.holds 1 _ _ _ rfl);go_simp <;> with_reducible rfl
    simp only [Act.put,qA,qC,qB]
    refine take1 (i:=6) (v := ?_) 16 rfl rfl (by kernel_rfl) (by kernel_rfl) (by kernel_rfl) (fun _ _ _ h=>h) (Or.inl ⟨by rfl,?_⟩) hHeld ?_
    rotate_left 1
    ·intro w hSw;go_simp <;> with_reducible rfl
    simp only [Act.put,qA,qC,qB]
    refine wpAnyH_done (by kernel_rfl) ?_ _
    have HS2:Hid (HH w [(w.heap.size,nl a,40),(w.heap.size+1,nl b,40)] _):=hHeld
    clear hHeld
    go_wp2
    go_roundw
    case rel=>exact ⟨2,rfl,HN.out,HS2.out⟩
    case measure=>simp [intOf]
   ·have HN:Hid (decide (lw a 3<lw b 3)=decide (a<b)):=by
     have:=HR.out
     unfold BelRel at this
     unfold Word at *
     have ea:=nat_words a ha
     have eb:=nat_words b hb
     show decide _=decide _
     rw [decide_eq_decide]
     omega
    have hqd:decide (lw a 3=lw b 3)=false:=decide_eq_false hq
    clear ha0 ha1 ha2 ha3 hb0 hb1 hb2 hb3
    go_wp2_with fail
    refine wp_region_held_drew (S:=(fun w'=>HH w [(w.heap.size,nl a,40),(w.heap.size+1,nl b,40)] w')) (by kernel_rfl) ?_ (fun hHeld => ?_)
    ·exact HS.out.drew
    refine take1 (i:=0) (v := ?_) 10 rfl rfl (by kernel_rfl) (by kernel_rfl) (by kernel_rfl) (fun _ _ _ h=>h) (Or.inl ⟨by rfl,?_⟩) hHeld ?_
    rotate_left 1
    ·intro w hSw;go_simp <;> with_reducible rfl
    simp only [Act.put,qA,qC,qB]
    refine take1 (i:=1) (v := ?_) 11 rfl rfl (by kernel_rfl) (by kernel_rfl) (by kernel_rfl) (fun _ _ _ h=>h) (Or.inl ⟨by rfl,?_⟩) hHeld ?_
    rotate_left 1
    ·intro w hSw;go_simp <;> with_reducible rfl
    simp only [Act.put,qA,qC,qB]
    refine take1 (i:=2) (v := ?_) 12 rfl rfl (by kernel_rfl) (by kernel_rfl) (by kernel_rfl) (fun _ _ _ h=>h) (Or.inl ⟨by rfl,?_⟩) hHeld ?_
    rotate_left 1
    ·intro w hSw;obtain ⟨c0,c1,c2,c3,f0,f1,f2,f3⟩:=four (hSw.holds 0 _ _ _ rfl);go_simp <;> with_reducible rfl
    simp only [Act.put,qA,qC,qB]
    refine take1 (i:=3) (v := ?_) 13 rfl rfl (by kernel_rfl) (by kernel_rfl) (by kernel_rfl) (fun _ _ _ h=>h) (Or.inl ⟨by rfl,?_⟩) hHeld ?_
    rotate_left 1
    ·intro w hSw;go_simp <;> with_reducible rfl
    simp only [Act.put,qA,qC,qB]
    refine take1 (i:=4) (v := ?_) 14 rfl rfl (by kernel_rfl) (by kernel_rfl) (by kernel_rfl) (fun _ _ _ h=>h) (Or.inl ⟨by rfl,?_⟩) hHeld ?_
    rotate_left 1
    ·intro w hSw;go_simp <;> with_reducible rfl
    simp only [Act.put,qA,qC,qB]
    refine take1 (i:=5) (v := ?_) 15 rfl rfl (by kernel_rfl) (by kernel_rfl) (by kernel_rfl) (fun _ _ _ h=>h) (Or.inl ⟨by rfl,?_⟩) hHeld ?_
    rotate_left 1
    ·intro w hSw;obtain ⟨c0,c1,c2,c3,f0,f1,f2,f3⟩:=four (hSw.holds 1 _ _ _ rfl);go_simp <;> with_reducible rfl
    simp only [Act.put,qA,qC,qB]
    refine take1 (i:=6) (v := ?_) 16 rfl rfl (by kernel_rfl) (by kernel_rfl) (by kernel_rfl) (fun _ _ _ h=>h) (Or.inl ⟨by rfl,?_⟩) hHeld ?_
    rotate_left 1
    ·intro w hSw;go_simp <;> with_reducible rfl
    simp only [Act.put,qA,qC,qB]
    refine wpAnyH_done (by kernel_rfl) ?_ _
    have HS2:Hid (HH w [(w.heap.size,nl a,40),(w.heap.size+1,nl b,40)] _):=hHeld
    clear hHeld
    go_wp2_with fail
    refine wp_region_held_drew (S:=(fun w'=>HH w [(w.heap.size,nl a,40),(w.heap.size+1,nl b,40)] w')) (by kernel_rfl) ?_ (fun hHeld => ?_)
    ·exact HS2.out.drew
    refine take1 (i:=0) (v := ?_) 17 rfl rfl (by kernel_rfl) (by kernel_rfl) (by kernel_rfl) (fun _ _ _ h=>h) (Or.inl ⟨by rfl,?_⟩) hHeld ?_
    rotate_left 1
    ·intro w hSw;go_simp <;> with_reducible rfl
    simp only [Act.put,qA,qC,qB]
    refine take1 (i:=1) (v := ?_) 18 rfl rfl (by kernel_rfl) (by kernel_rfl) (by kernel_rfl) (fun _ _ _ h=>h) (Or.inl ⟨by rfl,?_⟩) hHeld ?_
    rotate_left 1
    ·intro w hSw;go_simp <;> with_reducible rfl
    simp only [Act.put,qA,qC,qB]
    refine take1 (i:=2) (v := ?_) 19 rfl rfl (by kernel_rfl) (by kernel_rfl) (by kernel_rfl) (fun _ _ _ h=>h) (Or.inl ⟨by rfl,?_⟩) hHeld ?_
    rotate_left 1
    ·intro w hSw;obtain ⟨c0,c1,c2,c3,f0,f1,f2,f3⟩:=four (hSw.holds 0 _ _ _ rfl);go_simp <;> with_reducible rfl
    simp only [Act.put,qA,qC,qB]
    refine take1 (i:=3) (v := ?_) 20 rfl rfl (by kernel_rfl) (by kernel_rfl) (by kernel_rfl) (fun _ _ _ h=>h) (Or.inl ⟨by rfl,?_⟩) hHeld ?_
    rotate_left 1
    ·intro w hSw;go_simp <;> with_reducible rfl
    simp only [Act.put,qA,qC,qB]
    refine take1 (i:=4) (v := ?_) 21 rfl rfl (by kernel_rfl) (by kernel_rfl) (by kernel_rfl) (fun _ _ _ h=>h) (Or.inl ⟨by rfl,?_⟩) hHeld ?_
    rotate_left 1
    ·intro w hSw;go_simp <;> with_reducible rfl
    simp only [Act.put,qA,qC,qB]
    refine take1 (i:=5) (v := ?_) 22 rfl rfl (by kernel_rfl) (by kernel_rfl) (by kernel_rfl) (fun _ _ _ h=>h) (Or.inl ⟨by rfl,?_⟩) hHeld ?_
    rotate_left 1
    ·intro w hSw;obtain ⟨c0,c1,c2,c3,f0,f1,f2,f3⟩:=four (hSw.holds 1 _ _ _ rfl);go_simp <;> with_reducible rfl
    simp only [Act.put,qA,qC,qB]
    refine take1 (i:=6) (v := ?_) 23 rfl rfl (by kernel_rfl) (by kernel_rfl) (by kernel_rfl) (fun _ _ _ h=>h) (Or.inl ⟨by rfl,?_⟩) hHeld ?_
    rotate_left 1
    ·intro w hSw;go_simp <;> with_reducible rfl
    simp only [Act.put,qA,qC,qB]
    refine take1 (i:=7) (v := ?_) 4 rfl rfl (by kernel_rfl) (by kernel_rfl) (by kernel_rfl) (fun _ _ _ h=>h) (Or.inl ⟨by rfl,?_⟩) hHeld ?_
    rotate_left 1
    ·intro w hSw;go_simp <;> with_reducible rfl
    simp only [Act.put,qA,qC,qB]
    refine wpAnyH_done (by kernel_rfl) ?_ _
    go_wp2
    go_ret
    exact ⟨congrArg (fun b=>Ending.returned (.bool b)) HN.out,hHeld.below⟩
  ·have ha0:=lw_word a 0;have ha1:=lw_word a 1;have ha2:=lw_word a 2;have ha3:=lw_word a 3
   have hb0:=lw_word b 0;have hb1:=lw_word b 1;have hb2:=lw_word b 2;have hb3:=lw_word b 3
   by_cases hq:lw a 2=lw b 2
   ·have HN:Hid (BelRel a b (1)):=by
     have:=HR.out
     show BelRel _ _ _
     unfold BelRel at *
     omega
    have hqd:decide (lw a 2=lw b 2)=true:=decide_eq_true hq
    clear ha0 ha1 ha2 ha3 hb0 hb1 hb2 hb3
    go_wp2_with fail
    refine wp_region_held_drew (S:=(fun w'=>HH w [(w.heap.size,nl a,40),(w.heap.size+1,nl b,40)] w')) (by kernel_rfl) ?_ (fun hHeld => ?_)
    ·exact HS.out.drew
    refine take1 (i:=0) (v := ?_) 10 rfl rfl (by kernel_rfl) (by kernel_rfl) (by kernel_rfl) (fun _ _ _ h=>h) (Or.inl ⟨by rfl,?_⟩) hHeld ?_
    rotate_left 1
    ·intro w hSw;go_simp <;> with_reducible rfl
    simp only [Act.put,qA,qC,qB]
    refine take1 (i:=1) (v := ?_) 11 rfl rfl (by kernel_rfl) (by kernel_rfl) (by kernel_rfl) (fun _ _ _ h=>h) (Or.inl ⟨by rfl,?_⟩) hHeld ?_
    rotate_left 1
    ·intro w hSw;go_simp <;> with_reducible rfl
    simp only [Act.put,qA,qC,qB]
    refine take1 (i:=2) (v := ?_) 12 rfl rfl (by kernel_rfl) (by kernel_rfl) (by kernel_rfl) (fun _ _ _ h=>h) (Or.inl ⟨by rfl,?_⟩) hHeld ?_
    rotate_left 1
    ·intro w hSw;obtain ⟨c0,c1,c2,c3,f0,f1,f2,f3⟩:=four (hSw.holds 0 _ _ _ rfl);go_simp <;> with_reducible rfl
    simp only [Act.put,qA,qC,qB]
    refine take1 (i:=3) (v := ?_) 13 rfl rfl (by kernel_rfl) (by kernel_rfl) (by kernel_rfl) (fun _ _ _ h=>h) (Or.inl ⟨by rfl,?_⟩) hHeld ?_
    rotate_left 1
    ·intro w hSw;go_simp <;> with_reducible rfl
    simp only [Act.put,qA,qC,qB]
    refine take1 (i:=4) (v := ?_) 14 rfl rfl (by kernel_rfl) (by kernel_rfl) (by kernel_rfl) (fun _ _ _ h=>h) (Or.inl ⟨by rfl,?_⟩) hHeld ?_
    rotate_left 1
    ·intro w hSw;go_simp <;> with_reducible rfl
    simp only [Act.put,qA,qC,qB]
    refine take1 (i:=5) (v := ?_) 15 rfl rfl (by kernel_rfl) (by kernel_rfl) (by kernel_rfl) (fun _ _ _ h=>h) (Or.inl ⟨by rfl,?_⟩) hHeld ?_
    rotate_left 1
    ·intro w hSw;obtain ⟨c0,c1,c2,c3,f0,f1,f2,f3⟩:=four (hSw.holds 1 _ _ _ rfl);go_simp <;> with_reducible rfl
    simp only [Act.put,qA,qC,qB]
    refine take1 (i:=6) (v := ?_) 16 rfl rfl (by kernel_rfl) (by kernel_rfl) (by kernel_rfl) (fun _ _ _ h=>h) (Or.inl ⟨by rfl,?_⟩) hHeld ?_
    rotate_left 1
    ·intro w hSw;go_simp <;> with_reducible rfl
    simp only [Act.put,qA,qC,qB]
    refine wpAnyH_done (by kernel_rfl) ?_ _
    have HS2:Hid (HH w [(w.heap.size,nl a,40),(w.heap.size+1,nl b,40)] _):=hHeld
    clear hHeld
    go_wp2
    go_roundw
    case rel=>exact ⟨1,rfl,HN.out,HS2.out⟩
    case measure=>simp [intOf]
   ·have HN:Hid (decide (lw a 2<lw b 2)=decide (a<b)):=by
     have:=HR.out
     unfold BelRel at this
     unfold Word at *
     have ea:=nat_words a ha
     have eb:=nat_words b hb
     show decide _=decide _
     rw [decide_eq_decide]
     omega
    have hqd:decide (lw a 2=lw b 2)=false:=decide_eq_false hq
    clear ha0 ha1 ha2 ha3 hb0 hb1 hb2 hb3
    go_wp2_with fail
    refine wp_region_held_drew (S:=(fun w'=>HH w [(w.heap.size,nl a,40),(w.heap.size+1,nl b,40)] w')) (by kernel_rfl) ?_ (fun hHeld => ?_)
    ·exact HS.out.drew
    refine take1 (i:=0) (v := ?_) 10 rfl rfl (by kernel_rfl) (by kernel_rfl) (by kernel_rfl) (fun _ _ _ h=>h) (Or.inl ⟨by rfl,?_⟩) hHeld ?_
    rotate_left 1
    ·intro w hSw;go_simp <;> with_reducible rfl
    simp only [Act.put,qA,qC,qB]
    refine take1 (i:=1) (v := ?_) 11 rfl rfl (by kernel_rfl) (by kernel_rfl) (by kernel_rfl) (fun _ _ _ h=>h) (Or.inl ⟨by rfl,?_⟩) hHeld ?_
    rotate_left 1
    ·intro w hSw;go_simp <;> with_reducible rfl
    simp only [Act.put,qA,qC,qB]
    refine take1 (i:=2) (v := ?_) 12 rfl rfl (by kernel_rfl) (by kernel_rfl) (by kernel_rfl) (fun _ _ _ h=>h) (Or.inl ⟨by rfl,?_⟩) hHeld ?_
    rotate_left 1
    ·intro w hSw;obtain ⟨c0,c1,c2,c3,f0,f1,f2,f3⟩:=four (hSw.holds 0 _ _ _ rfl);go_simp <;> with_reducible rfl
    simp only [Act.put,qA,qC,qB]
    refine take1 (i:=3) (v := ?_) 13 rfl rfl (by kernel_rfl) (by kernel_rfl) (by kernel_rfl) (fun _ _ _ h=>h) (Or.inl ⟨by rfl,?_⟩) hHeld ?_
    rotate_left 1
    ·intro w hSw;go_simp <;> with_reducible rfl
    simp only [Act.put,qA,qC,qB]
    refine take1 (i:=4) (v := ?_) 14 rfl rfl (by kernel_rfl) (by kernel_rfl) (by kernel_rfl) (fun _ _ _ h=>h) (Or.inl ⟨by rfl,?_⟩) hHeld ?_
    rotate_left 1
    ·intro w hSw;go_simp <;> with_reducible rfl
    simp only [Act.put,qA,qC,qB]
    refine take1 (i:=5) (v := ?_) 15 rfl rfl (by kernel_rfl) (by kernel_rfl) (by kernel_rfl) (fun _ _ _ h=>h) (Or.inl ⟨by rfl,?_⟩) hHeld ?_
    rotate_left 1
    ·intro w hSw;obtain ⟨c0,c1,c2,c3,f0,f1,f2,f3⟩:=four (hSw.holds 1 _ _ _ rfl);go_simp <;> with_reducible rfl
    simp only [Act.put,qA,qC,qB]
    refine take1 (i:=6) (v := ?_) 16 rfl rfl (by kernel_rfl) (by kernel_rfl) (by kernel_rfl) (fun _ _ _ h=>h) (Or.inl ⟨by rfl,?_⟩) hHeld ?_
    rotate_left 1
    ·intro w hSw;go_simp <;> with_reducible rfl
    simp only [Act.put,qA,qC,qB]
    refine wpAnyH_done (by kernel_rfl) ?_ _
    have HS2:Hid (HH w [(w.heap.size,nl a,40),(w.heap.size+1,nl b,40)] _):=hHeld
    clear hHeld
    go_wp2_with fail
    refine wp_region_held_drew (S:=(fun w'=>HH w [(w.heap.size,nl a,40),(w.heap.size+1,nl b,40)] w')) (by kernel_rfl) ?_ (fun hHeld => ?_)
    ·exact HS2.out.drew
    refine take1 (i:=0) (v := ?_) 17 rfl rfl (by kernel_rfl) (by kernel_rfl) (by kernel_rfl) (fun _ _ _ h=>h) (Or.inl ⟨by rfl,?_⟩) hHeld ?_
    rotate_left 1
    ·intro w hSw;go_simp <;> with_reducible rfl
    simp only [Act.put,qA,qC,qB]
    refine take1 (i:=1) (v := ?_) 18 rfl rfl (by kernel_rfl) (by kernel_rfl) (by kernel_rfl) (fun _ _ _ h=>h) (Or.inl ⟨by rfl,?_⟩) hHeld ?_
    rotate_left 1
    ·intro w hSw;go_simp <;> with_reducible rfl
    simp only [Act.put,qA,qC,qB]
    refine take1 (i:=2) (v := ?_) 19 rfl rfl (by kernel_rfl) (by kernel_rfl) (by kernel_rfl) (fun _ _ _ h=>h) (Or.inl ⟨by rfl,?_⟩) hHeld ?_
    rotate_left 1
    ·intro w hSw;obtain ⟨c0,c1,c2,c3,f0,f1,f2,f3⟩:=four (hSw.holds 0 _ _ _ rfl);go_simp <;> with_reducible rfl
    simp only [Act.put,qA,qC,qB]
    refine take1 (i:=3) (v := ?_) 20 rfl rfl (by kernel_rfl) (by kernel_rfl) (by kernel_rfl) (fun _ _ _ h=>h) (Or.inl ⟨by rfl,?_⟩) hHeld ?_
    rotate_left 1
    ·intro w hSw;go_simp <;> with_reducible rfl
    simp only [Act.put,qA,qC,qB]
    refine take1 (i:=4) (v := ?_) 21 rfl rfl (by kernel_rfl) (by kernel_rfl) (by kernel_rfl) (fun _ _ _ h=>h) (Or.inl ⟨by rfl,?_⟩) hHeld ?_
    rotate_left 1
    ·intro w hSw;go_simp <;> with_reducible rfl
    simp only [Act.put,qA,qC,qB]
    refine take1 (i:=5) (v := ?_) 22 rfl rfl (by kernel_rfl) (by kernel_rfl) (by kernel_rfl) (fun _ _ _ h=>h) (Or.inl ⟨by rfl,?_⟩) hHeld ?_
    rotate_left 1
    ·intro w hSw;obtain ⟨c0,c1,c2,c3,f0,f1,f2,f3⟩:=four (hSw.holds 1 _ _ _ rfl);go_simp <;> with_reducible rfl
    simp only [Act.put,qA,qC,qB]
    refine take1 (i:=6) (v := ?_) 23 rfl rfl (by kernel_rfl) (by kernel_rfl) (by kernel_rfl) (fun _ _ _ h=>h) (Or.inl ⟨by rfl,?_⟩) hHeld ?_
    rotate_left 1
    ·intro w hSw;go_simp <;> with_reducible rfl
    simp only [Act.put,qA,qC,qB]
    refine take1 (i:=7) (v := ?_) 4 rfl rfl (by kernel_rfl) (by kernel_rfl) (by kernel_rfl) (fun _ _ _ h=>h) (Or.inl ⟨by rfl,?_⟩) hHeld ?_
    rotate_left 1
    ·intro w hSw;go_simp <;> with_reducible rfl
    simp only [Act.put,qA,qC,qB]
    refine wpAnyH_done (by kernel_rfl) ?_ _
    go_wp2
    go_ret
    exact ⟨congrArg (fun b=>Ending.returned (.bool b)) HN.out,hHeld.below⟩
  ·have ha0:=lw_word a 0;have ha1:=lw_word a 1;have ha2:=lw_word a 2;have ha3:=lw_word a 3
   have hb0:=lw_word b 0;have hb1:=lw_word b 1;have hb2:=lw_word b 2;have hb3:=lw_word b 3
   by_cases hq:lw a 1=lw b 1
   ·have HN:Hid (BelRel a b (0)):=by
     have:=HR.out
     show BelRel _ _ _
     unfold BelRel at *
     omega
    have hqd:decide (lw a 1=lw b 1)=true:=decide_eq_true hq
    clear ha0 ha1 ha2 ha3 hb0 hb1 hb2 hb3
    go_wp2_with fail
    refine wp_region_held_drew (S:=(fun w'=>HH w [(w.heap.size,nl a,40),(w.heap.size+1,nl b,40)] w')) (by kernel_rfl) ?_ (fun hHeld => ?_)
    ·exact HS.out.drew
    refine take1 (i:=0) (v := ?_) 10 rfl rfl (by kernel_rfl) (by kernel_rfl) (by kernel_rfl) (fun _ _ _ h=>h) (Or.inl ⟨by rfl,?_⟩) hHeld ?_
    rotate_left 1
    ·intro w hSw;go_simp <;> with_reducible rfl
    simp only [Act.put,qA,qC,qB]
    refine take1 (i:=1) (v := ?_) 11 rfl rfl (by kernel_rfl) (by kernel_rfl) (by kernel_rfl) (fun _ _ _ h=>h) (Or.inl ⟨by rfl,?_⟩) hHeld ?_
    rotate_left 1
    ·intro w hSw;go_simp <;> with_reducible rfl
    simp only [Act.put,qA,qC,qB]
    refine take1 (i:=2) (v := ?_) 12 rfl rfl (by kernel_rfl) (by kernel_rfl) (by kernel_rfl) (fun _ _ _ h=>h) (Or.inl ⟨by rfl,?_⟩) hHeld ?_
    rotate_left 1
    ·intro w hSw;obtain ⟨c0,c1,c2,c3,f0,f1,f2,f3⟩:=four (hSw.holds 0 _ _ _ rfl);go_simp <;> with_reducible rfl
    simp only [Act.put,qA,qC,qB]
    refine take1 (i:=3) (v := ?_) 13 rfl rfl (by kernel_rfl) (by kernel_rfl) (by kernel_rfl) (fun _ _ _ h=>h) (Or.inl ⟨by rfl,?_⟩) hHeld ?_
    rotate_left 1
    ·intro w hSw;go_simp <;> with_reducible rfl
    simp only [Act.put,qA,qC,qB]
    refine take1 (i:=4) (v := ?_) 14 rfl rfl (by kernel_rfl) (by kernel_rfl) (by kernel_rfl) (fun _ _ _ h=>h) (Or.inl ⟨by rfl,?_⟩) hHeld ?_
    rotate_left 1
    ·intro w hSw;go_simp <;> with_reducible rfl
    simp only [Act.put,qA,qC,qB]
    refine take1 (i:=5) (v := ?_) 15 rfl rfl (by kernel_rfl) (by kernel_rfl) (by kernel_rfl) (fun _ _ _ h=>h) (Or.inl ⟨by rfl,?_⟩) hHeld ?_
    rotate_left 1
    ·intro w hSw;obtain ⟨c0,c1,c2,c3,f0,f1,f2,f3⟩:=four (hSw.holds 1 _ _ _ rfl);go_simp <;> with_reducible rfl
    simp only [Act.put,qA,qC,qB]
    refine take1 (i:=6) (v := ?_) 16 rfl rfl (by kernel_rfl) (by kernel_rfl) (by kernel_rfl) (fun _ _ _ h=>h) (Or.inl ⟨by rfl,?_⟩) hHeld ?_
    rotate_left 1
    ·intro w hSw;go_simp <;> with_reducible rfl
    simp only [Act.put,qA,qC,qB]
    refine wpAnyH_done (by kernel_rfl) ?_ _
    have HS2:Hid (HH w [(w.heap.size,nl a,40),(w.heap.size+1,nl b,40)] _):=hHeld
    clear hHeld
    go_wp2
    go_roundw
    case rel=>exact ⟨0,rfl,HN.out,HS2.out⟩
    case measure=>simp [intOf]
   ·have HN:Hid (decide (lw a 1<lw b 1)=decide (a<b)):=by
     have:=HR.out
     unfold BelRel at this
     unfold Word at *
     have ea:=nat_words a ha
     have eb:=nat_words b hb
     show decide _=decide _
     rw [decide_eq_decide]
     omega
    have hqd:decide (lw a 1=lw b 1)=false:=decide_eq_false hq
    clear ha0 ha1 ha2 ha3 hb0 hb1 hb2 hb3
    go_wp2_with fail
    refine wp_region_held_drew (S:=(fun w'=>HH w [(w.heap.size,nl a,40),(w.heap.size+1,nl b,40)] w')) (by kernel_rfl) ?_ (fun hHeld => ?_)
    ·exact HS.out.drew
    refine take1 (i:=0) (v := ?_) 10 rfl rfl (by kernel_rfl) (by kernel_rfl) (by kernel_rfl) (fun _ _ _ h=>h) (Or.inl ⟨by rfl,?_⟩) hHeld ?_
    rotate_left 1
    ·intro w hSw;go_simp <;> with_reducible rfl
    simp only [Act.put,qA,qC,qB]
    refine take1 (i:=1) (v := ?_) 11 rfl rfl (by kernel_rfl) (by kernel_rfl) (by kernel_rfl) (fun _ _ _ h=>h) (Or.inl ⟨by rfl,?_⟩) hHeld ?_
    rotate_left 1
    ·intro w hSw;go_simp <;> with_reducible rfl
    simp only [Act.put,qA,qC,qB]
    refine take1 (i:=2) (v := ?_) 12 rfl rfl (by kernel_rfl) (by kernel_rfl) (by kernel_rfl) (fun _ _ _ h=>h) (Or.inl ⟨by rfl,?_⟩) hHeld ?_
    rotate_left 1
    ·intro w hSw;obtain ⟨c0,c1,c2,c3,f0,f1,f2,f3⟩:=four (hSw.holds 0 _ _ _ rfl);go_simp <;> with_reducible rfl
    simp only [Act.put,qA,qC,qB]
    refine take1 (i:=3) (v := ?_) 13 rfl rfl (by kernel_rfl) (by kernel_rfl) (by kernel_rfl) (fun _ _ _ h=>h) (Or.inl ⟨by rfl,?_⟩) hHeld ?_
    rotate_left 1
    ·intro w hSw;go_simp <;> with_reducible rfl
    simp only [Act.put,qA,qC,qB]
    refine take1 (i:=4) (v := ?_) 14 rfl rfl (by kernel_rfl) (by kernel_rfl) (by kernel_rfl) (fun _ _ _ h=>h) (Or.inl ⟨by rfl,?_⟩) hHeld ?_
    rotate_left 1
    ·intro w hSw;go_simp <;> with_reducible rfl
    simp only [Act.put,qA,qC,qB]
    refine take1 (i:=5) (v := ?_) 15 rfl rfl (by kernel_rfl) (by kernel_rfl) (by kernel_rfl) (fun _ _ _ h=>h) (Or.inl ⟨by rfl,?_⟩) hHeld ?_
    rotate_left 1
    ·intro w hSw;obtain ⟨c0,c1,c2,c3,f0,f1,f2,f3⟩:=four (hSw.holds 1 _ _ _ rfl);go_simp <;> with_reducible rfl
    simp only [Act.put,qA,qC,qB]
    refine take1 (i:=6) (v := ?_) 16 rfl rfl (by kernel_rfl) (by kernel_rfl) (by kernel_rfl) (fun _ _ _ h=>h) (Or.inl ⟨by rfl,?_⟩) hHeld ?_
    rotate_left 1
    ·intro w hSw;go_simp <;> with_reducible rfl
    simp only [Act.put,qA,qC,qB]
    refine wpAnyH_done (by kernel_rfl) ?_ _
    have HS2:Hid (HH w [(w.heap.size,nl a,40),(w.heap.size+1,nl b,40)] _):=hHeld
    clear hHeld
    go_wp2_with fail
    refine wp_region_held_drew (S:=(fun w'=>HH w [(w.heap.size,nl a,40),(w.heap.size+1,nl b,40)] w')) (by kernel_rfl) ?_ (fun hHeld => ?_)
    ·exact HS2.out.drew
    refine take1 (i:=0) (v := ?_) 17 rfl rfl (by kernel_rfl) (by kernel_rfl) (by kernel_rfl) (fun _ _ _ h=>h) (Or.inl ⟨by rfl,?_⟩) hHeld ?_
    rotate_left 1
    ·intro w hSw;go_simp <;> with_reducible rfl
    simp only [Act.put,qA,qC,qB]
    refine take1 (i:=1) (v := ?_) 18 rfl rfl (by kernel_rfl) (by kernel_rfl) (by kernel_rfl) (fun _ _ _ h=>h) (Or.inl ⟨by rfl,?_⟩) hHeld ?_
    rotate_left 1
    ·intro w hSw;go_simp <;> with_reducible rfl
    simp only [Act.put,qA,qC,qB]
    refine take1 (i:=2) (v := ?_) 19 rfl rfl (by kernel_rfl) (by kernel_rfl) (by kernel_rfl) (fun _ _ _ h=>h) (Or.inl ⟨by rfl,?_⟩) hHeld ?_
    rotate_left 1
    ·intro w hSw;obtain ⟨c0,c1,c2,c3,f0,f1,f2,f3⟩:=four (hSw.holds 0 _ _ _ rfl);go_simp <;> with_reducible rfl
    simp only [Act.put,qA,qC,qB]
    refine take1 (i:=3) (v := ?_) 20 rfl rfl (by kernel_rfl) (by kernel_rfl) (by kernel_rfl) (fun _ _ _ h=>h) (Or.inl ⟨by rfl,?_⟩) hHeld ?_
    rotate_left 1
    ·intro w hSw;go_simp <;> with_reducible rfl
    simp only [Act.put,qA,qC,qB]
    refine take1 (i:=4) (v := ?_) 21 rfl rfl (by kernel_rfl) (by kernel_rfl) (by kernel_rfl) (fun _ _ _ h=>h) (Or.inl ⟨by rfl,?_⟩) hHeld ?_
    rotate_left 1
    ·intro w hSw;go_simp <;> with_reducible rfl
    simp only [Act.put,qA,qC,qB]
    refine take1 (i:=5) (v := ?_) 22 rfl rfl (by kernel_rfl) (by kernel_rfl) (by kernel_rfl) (fun _ _ _ h=>h) (Or.inl ⟨by rfl,?_⟩) hHeld ?_
    rotate_left 1
    ·intro w hSw;obtain ⟨c0,c1,c2,c3,f0,f1,f2,f3⟩:=four (hSw.holds 1 _ _ _ rfl);go_simp <;> with_reducible rfl
    simp only [Act.put,qA,qC,qB]
    refine take1 (i:=6) (v := ?_) 23 rfl rfl (by kernel_rfl) (by kernel_rfl) (by kernel_rfl) (fun _ _ _ h=>h) (Or.inl ⟨by rfl,?_⟩) hHeld ?_
    rotate_left 1
    ·intro w hSw;go_simp <;> with_reducible rfl
    simp only [Act.put,qA,qC,qB]
    refine take1 (i:=7) (v := ?_) 4 rfl rfl (by kernel_rfl) (by kernel_rfl) (by kernel_rfl) (fun _ _ _ h=>h) (Or.inl ⟨by rfl,?_⟩) hHeld ?_
    rotate_left 1
    ·intro w hSw;go_simp <;> with_reducible rfl
    simp only [Act.put,qA,qC,qB]
    refine wpAnyH_done (by kernel_rfl) ?_ _
    go_wp2
    go_ret
    exact ⟨congrArg (fun b=>Ending.returned (.bool b)) HN.out,hHeld.below⟩
  ·have ha0:=lw_word a 0;have ha1:=lw_word a 1;have ha2:=lw_word a 2;have ha3:=lw_word a 3
   have hb0:=lw_word b 0;have hb1:=lw_word b 1;have hb2:=lw_word b 2;have hb3:=lw_word b 3
   by_cases hq:lw a 0=lw b 0
   ·have HN:Hid (BelRel a b (-1)):=by
     have:=HR.out
     show BelRel _ _ _
     unfold BelRel at *
     omega
    have hqd:decide (lw a 0=lw b 0)=true:=decide_eq_true hq
    clear ha0 ha1 ha2 ha3 hb0 hb1 hb2 hb3
    go_wp2_with fail
    refine wp_region_held_drew (S:=(fun w'=>HH w [(w.heap.size,nl a,40),(w.heap.size+1,nl b,40)] w')) (by kernel_rfl) ?_ (fun hHeld => ?_)
    ·exact HS.out.drew
    refine take1 (i:=0) (v := ?_) 10 rfl rfl (by kernel_rfl) (by kernel_rfl) (by kernel_rfl) (fun _ _ _ h=>h) (Or.inl ⟨by rfl,?_⟩) hHeld ?_
    rotate_left 1
    ·intro w hSw;go_simp <;> with_reducible rfl
    simp only [Act.put,qA,qC,qB]
    refine take1 (i:=1) (v := ?_) 11 rfl rfl (by kernel_rfl) (by kernel_rfl) (by kernel_rfl) (fun _ _ _ h=>h) (Or.inl ⟨by rfl,?_⟩) hHeld ?_
    rotate_left 1
    ·intro w hSw;go_simp <;> with_reducible rfl
    simp only [Act.put,qA,qC,qB]
    refine take1 (i:=2) (v := ?_) 12 rfl rfl (by kernel_rfl) (by kernel_rfl) (by kernel_rfl) (fun _ _ _ h=>h) (Or.inl ⟨by rfl,?_⟩) hHeld ?_
    rotate_left 1
    ·intro w hSw;obtain ⟨c0,c1,c2,c3,f0,f1,f2,f3⟩:=four (hSw.holds 0 _ _ _ rfl);go_simp <;> with_reducible rfl
    simp only [Act.put,qA,qC,qB]
    refine take1 (i:=3) (v := ?_) 13 rfl rfl (by kernel_rfl) (by kernel_rfl) (by kernel_rfl) (fun _ _ _ h=>h) (Or.inl ⟨by rfl,?_⟩) hHeld ?_
    rotate_left 1
    ·intro w hSw;go_simp <;> with_reducible rfl
    simp only [Act.put,qA,qC,qB]
    refine take1 (i:=4) (v := ?_) 14 rfl rfl (by kernel_rfl) (by kernel_rfl) (by kernel_rfl) (fun _ _ _ h=>h) (Or.inl ⟨by rfl,?_⟩) hHeld ?_
    rotate_left 1
    ·intro w hSw;go_simp <;> with_reducible rfl
    simp only [Act.put,qA,qC,qB]
    refine take1 (i:=5) (v := ?_) 15 rfl rfl (by kernel_rfl) (by kernel_rfl) (by kernel_rfl) (fun _ _ _ h=>h) (Or.inl ⟨by rfl,?_⟩) hHeld ?_
    rotate_left 1
    ·intro w hSw;obtain ⟨c0,c1,c2,c3,f0,f1,f2,f3⟩:=four (hSw.holds 1 _ _ _ rfl);go_simp <;> with_reducible rfl
    simp only [Act.put,qA,qC,qB]
    refine take1 (i:=6) (v := ?_) 16 rfl rfl (by kernel_rfl) (by kernel_rfl) (by kernel_rfl) (fun _ _ _ h=>h) (Or.inl ⟨by rfl,?_⟩) hHeld ?_
    rotate_left 1
    ·intro w hSw;go_simp <;> with_reducible rfl
    simp only [Act.put,qA,qC,qB]
    refine wpAnyH_done (by kernel_rfl) ?_ _
    have HS2:Hid (HH w [(w.heap.size,nl a,40),(w.heap.size+1,nl b,40)] _):=hHeld
    clear hHeld
    go_wp2
    go_roundw
    case rel=>exact ⟨-1,rfl,HN.out,HS2.out⟩
    case measure=>simp [intOf]
   ·have HN:Hid (decide (lw a 0<lw b 0)=decide (a<b)):=by
     have:=HR.out
     unfold BelRel at this
     unfold Word at *
     have ea:=nat_words a ha
     have eb:=nat_words b hb
     show decide _=decide _
     rw [decide_eq_decide]
     omega
    have hqd:decide (lw a 0=lw b 0)=false:=decide_eq_false hq
    clear ha0 ha1 ha2 ha3 hb0 hb1 hb2 hb3
    go_wp2_with fail
    refine wp_region_held_drew (S:=(fun w'=>HH w [(w.heap.size,nl a,40),(w.heap.size+1,nl b,40)] w')) (by kernel_rfl) ?_ (fun hHeld => ?_)
    ·exact HS.out.drew
    refine take1 (i:=0) (v := ?_) 10 rfl rfl (by kernel_rfl) (by kernel_rfl) (by kernel_rfl) (fun _ _ _ h=>h) (Or.inl ⟨by rfl,?_⟩) hHeld ?_
    rotate_left 1
    ·intro w hSw;go_simp <;> with_reducible rfl
    simp only [Act.put,qA,qC,qB]
    refine take1 (i:=1) (v := ?_) 11 rfl rfl (by kernel_rfl) (by kernel_rfl) (by kernel_rfl) (fun _ _ _ h=>h) (Or.inl ⟨by rfl,?_⟩) hHeld ?_
    rotate_left 1
    ·intro w hSw;go_simp <;> with_reducible rfl
    simp only [Act.put,qA,qC,qB]
    refine take1 (i:=2) (v := ?_) 12 rfl rfl (by kernel_rfl) (by kernel_rfl) (by kernel_rfl) (fun _ _ _ h=>h) (Or.inl ⟨by rfl,?_⟩) hHeld ?_
    rotate_left 1
    ·intro w hSw;obtain ⟨c0,c1,c2,c3,f0,f1,f2,f3⟩:=four (hSw.holds 0 _ _ _ rfl);go_simp <;> with_reducible rfl
    simp only [Act.put,qA,qC,qB]
    refine take1 (i:=3) (v := ?_) 13 rfl rfl (by kernel_rfl) (by kernel_rfl) (by kernel_rfl) (fun _ _ _ h=>h) (Or.inl ⟨by rfl,?_⟩) hHeld ?_
    rotate_left 1
    ·intro w hSw;go_simp <;> with_reducible rfl
    simp only [Act.put,qA,qC,qB]
    refine take1 (i:=4) (v := ?_) 14 rfl rfl (by kernel_rfl) (by kernel_rfl) (by kernel_rfl) (fun _ _ _ h=>h) (Or.inl ⟨by rfl,?_⟩) hHeld ?_
    rotate_left 1
    ·intro w hSw;go_simp <;> with_reducible rfl
    simp only [Act.put,qA,qC,qB]
    refine take1 (i:=5) (v := ?_) 15 rfl rfl (by kernel_rfl) (by kernel_rfl) (by kernel_rfl) (fun _ _ _ h=>h) (Or.inl ⟨by rfl,?_⟩) hHeld ?_
    rotate_left 1
    ·intro w hSw;obtain ⟨c0,c1,c2,c3,f0,f1,f2,f3⟩:=four (hSw.holds 1 _ _ _ rfl);go_simp <;> with_reducible rfl
    simp only [Act.put,qA,qC,qB]
    refine take1 (i:=6) (v := ?_) 16 rfl rfl (by kernel_rfl) (by kernel_rfl) (by kernel_rfl) (fun _ _ _ h=>h) (Or.inl ⟨by rfl,?_⟩) hHeld ?_
    rotate_left 1
    ·intro w hSw;go_simp <;> with_reducible rfl
    simp only [Act.put,qA,qC,qB]
    refine wpAnyH_done (by kernel_rfl) ?_ _
    have HS2:Hid (HH w [(w.heap.size,nl a,40),(w.heap.size+1,nl b,40)] _):=hHeld
    clear hHeld
    go_wp2_with fail
    refine wp_region_held_drew (S:=(fun w'=>HH w [(w.heap.size,nl a,40),(w.heap.size+1,nl b,40)] w')) (by kernel_rfl) ?_ (fun hHeld => ?_)
    ·exact HS2.out.drew
    refine take1 (i:=0) (v := ?_) 17 rfl rfl (by kernel_rfl) (by kernel_rfl) (by kernel_rfl) (fun _ _ _ h=>h) (Or.inl ⟨by rfl,?_⟩) hHeld ?_
    rotate_left 1
    ·intro w hSw;go_simp <;> with_reducible rfl
    simp only [Act.put,qA,qC,qB]
    refine take1 (i:=1) (v := ?_) 18 rfl rfl (by kernel_rfl) (by kernel_rfl) (by kernel_rfl) (fun _ _ _ h=>h) (Or.inl ⟨by rfl,?_⟩) hHeld ?_
    rotate_left 1
    ·intro w hSw;go_simp <;> with_reducible rfl
    simp only [Act.put,qA,qC,qB]
    refine take1 (i:=2) (v := ?_) 19 rfl rfl (by kernel_rfl) (by kernel_rfl) (by kernel_rfl) (fun _ _ _ h=>h) (Or.inl ⟨by rfl,?_⟩) hHeld ?_
    rotate_left 1
    ·intro w hSw;obtain ⟨c0,c1,c2,c3,f0,f1,f2,f3⟩:=four (hSw.holds 0 _ _ _ rfl);go_simp <;> with_reducible rfl
    simp only [Act.put,qA,qC,qB]
    refine take1 (i:=3) (v := ?_) 20 rfl rfl (by kernel_rfl) (by kernel_rfl) (by kernel_rfl) (fun _ _ _ h=>h) (Or.inl ⟨by rfl,?_⟩) hHeld ?_
    rotate_left 1
    ·intro w hSw;go_simp <;> with_reducible rfl
    simp only [Act.put,qA,qC,qB]
    refine take1 (i:=4) (v := ?_) 21 rfl rfl (by kernel_rfl) (by kernel_rfl) (by kernel_rfl) (fun _ _ _ h=>h) (Or.inl ⟨by rfl,?_⟩) hHeld ?_
    rotate_left 1
    ·intro w hSw;go_simp <;> with_reducible rfl
    simp only [Act.put,qA,qC,qB]
    refine take1 (i:=5) (v := ?_) 22 rfl rfl (by kernel_rfl) (by kernel_rfl) (by kernel_rfl) (fun _ _ _ h=>h) (Or.inl ⟨by rfl,?_⟩) hHeld ?_
    rotate_left 1
    ·intro w hSw;obtain ⟨c0,c1,c2,c3,f0,f1,f2,f3⟩:=four (hSw.holds 1 _ _ _ rfl);go_simp <;> with_reducible rfl
    simp only [Act.put,qA,qC,qB]
    refine take1 (i:=6) (v := ?_) 23 rfl rfl (by kernel_rfl) (by kernel_rfl) (by kernel_rfl) (fun _ _ _ h=>h) (Or.inl ⟨by rfl,?_⟩) hHeld ?_
    rotate_left 1
    ·intro w hSw;go_simp <;> with_reducible rfl
    simp only [Act.put,qA,qC,qB]
    refine take1 (i:=7) (v := ?_) 4 rfl rfl (by kernel_rfl) (by kernel_rfl) (by kernel_rfl) (fun _ _ _ h=>h) (Or.inl ⟨by rfl,?_⟩) hHeld ?_
    rotate_left 1
    ·intro w hSw;go_simp <;> with_reducible rfl
    simp only [Act.put,qA,qC,qB]
    refine wpAnyH_done (by kernel_rfl) ?_ _
    go_wp2
    go_ret
    exact ⟨congrArg (fun b=>Ending.returned (.bool b)) HN.out,hHeld.below⟩
  ·have HN:Hid (false=decide (a<b)):=by
    have:=HR.out
    unfold BelRel at this
    have ea:=nat_words a ha
    have eb:=nat_words b hb
    show _=_
    rw [eq_comm,decide_eq_false_iff_not]
    omega
   go_wp2
   go_ret
   exact ⟨congrArg (fun b=>Ending.returned (.bool b)) HN.out,HS.out.below⟩
end Go.Proofs.YtkhjnjlinfbfoaaGreatDoor
