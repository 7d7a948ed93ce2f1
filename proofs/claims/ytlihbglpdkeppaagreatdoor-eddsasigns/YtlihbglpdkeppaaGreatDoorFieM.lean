/- Package field: squared, ones, inverse, Inv. -/
import Derived.Test.YtlihbglpdkeppaaGreatDoorFieI
import Derived.Test.YtlihbglpdkeppaaGreatDoorFeA
import Derived.Deep.CutRange
set_option linter.unusedSimpArgs false
set_option linter.unusedVariables false
namespace Go.Proofs.YtlihbglpdkeppaaGreatDoor
open Go Go.RowKit Go.Lib
abbrev nl (n:Nat):List Value:=[.int .u64 (lw n 0),.int .u64 (lw n 1),.int .u64 (lw n 2),.int .u64 (lw n 3)]
theorem SS.lt {w0:World} {bs:List (Nat × List Value × TypeId)} {r n:Nat} {w:World} (h:SS w0 bs r n w) : ∀ b ∈ bs,b.1<w.heap.size:=fun b hb=>by
 obtain ⟨i,hi⟩:=List.mem_iff_getElem?.1 hb
 exact lt_of_heap (h.holds i b.1 b.2.1 b.2.2 hi)
theorem SS.put {w0:World} {bs:List (Nat × List Value × TypeId)} {r n q:Nat} {w:World} (h:SS w0 bs r n w) (hq:w0.heap.size≤q) (hne : ∀ b ∈ bs,b.1<q) (vs:List Value):SS w0 bs r n (w.setCells q 0 vs) :=
 ⟨below_setCells _ hq _ _ _ h.below,fun i g L t hm=>(heap_setCells_past q g (by have:=hne _ (List.mem_of_getElem? hm);simp only at this;omega) vs 0 w).trans (h.holds i g L t hm),World.there_setCells h.there _ _ _⟩
theorem SS.add {w0:World} {bs:List (Nat × List Value × TypeId)} {r n q:Nat} {w:World} (h:SS w0 bs r n w) (L:List Value) (t:TypeId) (hq:w.heap[q]? = some (.cells L.toArray t (0,0))):SS w0 (bs ++ [(q,L,t)]) r n w:=by
 refine ⟨h.below,?_,h.there⟩
 intro i g L' t' hm
 rw [List.getElem?_append] at hm
 split at hm
 ·exact h.holds i g L' t' hm
 ·rename_i hi
  rcases Nat.lt_or_ge (i - bs.length) 1 with hl | hl
  ·rw [show i - bs.length=0 by omega] at hm
   simp only [List.getElem?_cons_zero,Option.some.injEq,Prod.mk.injEq] at hm
   obtain ⟨rfl,rfl,rfl⟩:=hm
   exact hq
  ·rw [List.getElem?_eq_none (by simp;omega)] at hm
   cases hm
theorem set_row4 {w:World} {q:Nat} {x0 x1 x2 x3 y0 y1 y2 y3:Value} {t:TypeId} (h:w.heap[q]? = some (.cells #[x0,x1,x2,x3] t (0,0))):(w.setCells q 0 [y0,y1,y2,y3]).heap[q]? = some (.cells #[y0,y1,y2,y3] t (0,0)):=set4_here y0 y1 y2 y3 h
theorem four_one (n:Nat):(nl n).toArray.all (·.oneCell')=true:=all_oneCell_toArray (fun v hv=>by
 simp only [List.mem_cons,List.not_mem_nil,or_false] at hv
 rcases hv with rfl | rfl | rfl | rfl <;> rfl)
theorem i4 (n:Nat):(Tryz.prog.info? 120).map (·.size)=some (nl n).length:=by kernel_rfl
theorem SS.num (w:World) (n:Nat):SS w [(w.heap.size,nl n,120)] (w.heap.size+1) 4 ((w.alloc (.cells (nl n).toArray 120)).alloc (.cells #[.int .u64 0,.int .u64 0,.int .u64 0,.int .u64 0] 120)):=by
 refine ⟨((Below.refl _ _).alloc (Nat.le_refl _) _).alloc (by simp) _,?_,there_of_row (heap_alloc_here _ _ _ (by simp)) 0 4 (by simp)⟩
 intro i g L t hm
 match i,hm with
 | 0,hm =>
  cases hm
  exact (heap_alloc_past _ _ _ (by simp)).trans (heap_alloc_here _ _ _ rfl)
theorem squared_nat (n t:Nat) (hn:n<RN) (ht:t<1000) (w:World) :
  Calls Tryz.prog 125 #[nv n,.int .i64 t] w fun e w' => ∃ s,s<RN∧e = .returned (nv s)∧s % pp=n ^ 2 ^ t % pp∧Below w.heap.size w w':=by
 refine (calls_of_SW (m:=[]) (r:=fun _=>none) Tryz.func125 (by kernel_rfl) (Fe.sq_SW n t hn ht) (Rel.nil w) (by simp) (trL_mk (tr_flat _ _ rfl) (trL_mk (tr_flat _ _ rfl) rfl))).mono ?_
 rintro e w' ⟨u,rfl,rfl,hb⟩
 exact ⟨Fe.sqN n t,Fe.sqN_lt n hn t,rfl,Fe.sqN_mod n hn t,hb⟩
def tw (k:Nat):Nat:=2 ^ k
def rn (k:Nat):Nat:=2 ^ k - 1
theorem squared_tw (n t:Nat) (hn:n<RN) (ht:t<1000) (w:World) :
  Calls Tryz.prog 125 #[nv n,.int .i64 t] w fun e w' => ∃ s,s<RN∧e = .returned (nv s)∧s % pp=n ^ tw t % pp∧Below w.heap.size w w':=squared_nat n t hn ht w
theorem SS.rlt {w0:World} {bs:List (Nat × List Value × TypeId)} {r n:Nat} {w:World} (h:SS w0 bs r (n+1) w):r<w.heap.size:=lt_of_cell (h.there 0 (by omega)).1
theorem SS.pick2 {w0:World} {bs:List (Nat × List Value × TypeId)} {r n:Nat} {w:World} (h:SS w0 bs r n w) (i j:Nat) {x y:Nat × List Value × TypeId} (hi:bs[i]? = some x) (hj:bs[j]? = some y):SS w0 [x,y] r n w:=by
 refine ⟨h.below,fun k g L t hm => ?_,h.there⟩
 match k,hm with
 | 0,hm=>cases hm;exact h.holds i g L t hi
 | 1,hm=>cases hm;exact h.holds j g L t hj
theorem row_rn (n k:Nat) (A:Value) (h:Fe.Row n k A) : ∃ x,A=nv x∧x<RN∧x % pp=n ^ rn k % pp:=h
theorem ones_nat (n:Nat) (hn:n<RN) (w:World) :
  Calls Tryz.prog 126 #[nv n] w fun e w' => ∃ s,s<RN∧e = .returned (nv s)∧s % pp=n ^ rn 250 % pp∧Below w.heap.size w w':=by
 refine (Fe.ones_any n hn w).mono ?_
 rintro e w' ⟨rfl,hb⟩
 obtain ⟨x,hx,h1,h2⟩:=row_rn n 250 _ (Fe.row250 n hn)
 rw [hx]
 exact ⟨x,h1,rfl,h2,hb⟩
end Go.Proofs.YtlihbglpdkeppaaGreatDoor
namespace Go.Proofs.YtlihbglpdkeppaaGreatDoor
open Go Go.RowKit Go.Lib
theorem pow_mul (n A B D x y s:Nat) (hD:A+B=D) (h1:x % pp=n ^ A % pp) (h2:y % pp=n ^ B % pp) (h3:s % pp=x*y % pp):s % pp=n ^ D % pp:=by
 subst hD
 rw [h3,Nat.mul_mod,h1,h2,←Nat.mul_mod,←Nat.pow_add]
theorem pow_comb (n A B C D o u t s:Nat) (hD:A*B+C=D) (h1:o % pp=n ^ A % pp) (h2:u % pp=o ^ B % pp) (h3:t % pp=n ^ C % pp) (h4:s % pp=u*t % pp):s % pp=n ^ D % pp:=by
 subst hD
 rw [h4,Nat.mul_mod,h2,h3,Nat.pow_mod,h1,←Nat.pow_mod,←Nat.mul_mod,←Nat.pow_mul,←Nat.pow_add]
theorem powOne (n:Nat):n % pp=n ^ 1 % pp:=by rw [Nat.pow_one]
set_option maxRecDepth 100000 in
set_option maxHeartbeats 4000000 in
theorem inverse_nat (n:Nat) (hn:n<RN) (w:World) :
  Calls Tryz.prog 109 #[nv n] w fun e w' => ∃ s,s<RN∧e = .returned (nv s)∧s % pp=n ^ (pp - 2) % pp∧Below w.heap.size w w':=by
 have ml : ∀ a b:Nat,a<RN→b<RN → ∀ w,Calls Tryz.prog 111 #[.agg (nl a).toArray,.agg (nl b).toArray] w fun e w' => ∃ s:Nat,s<RN∧e = .returned (.agg (nl s).toArray)∧s % pp=(a*b) % pp∧Below w.heap.size w w':=mul_nat
 have on : ∀ n:Nat,n<RN → ∀ w,Calls Tryz.prog 126 #[.agg (nl n).toArray] w fun e w' => ∃ s:Nat,s<RN∧e = .returned (.agg (nl s).toArray)∧s % pp=n ^ rn 250 % pp∧Below w.heap.size w w':=ones_nat
 have sq1 : ∀ n:Nat,n<RN → ∀ w,Calls Tryz.prog 125 #[.agg (nl n).toArray,.int .i64 1] w fun e w' => ∃ s:Nat,s<RN∧e = .returned (.agg (nl s).toArray)∧s % pp=n ^ tw 1 % pp∧Below w.heap.size w w':=fun n hn w=>squared_tw n 1 hn (by decide) w
 have sq3 : ∀ n:Nat,n<RN → ∀ w,Calls Tryz.prog 125 #[.agg (nl n).toArray,.int .i64 3] w fun e w' => ∃ s:Nat,s<RN∧e = .returned (.agg (nl s).toArray)∧s % pp=n ^ tw 3 % pp∧Below w.heap.size w w':=fun n hn w=>squared_tw n 3 hn (by decide) w
 have sq5 : ∀ n:Nat,n<RN → ∀ w,Calls Tryz.prog 125 #[.agg (nl n).toArray,.int .i64 5] w fun e w' => ∃ s:Nat,s<RN∧e = .returned (.agg (nl s).toArray)∧s % pp=n ^ tw 5 % pp∧Below w.heap.size w w':=fun n hn w=>squared_tw n 5 hn (by decide) w
 have HS0:Hid (SS w _ _ _ _):=SS.num w n
 unfold nv
 go_enter Tryz.func109,Tryz.ntmps109
 go_wp2_with fail
 refine (sq1 n hn _).mono ?_
 rintro e w1 ⟨y,hy,rfl,ey,hb1⟩
 have S1:=HS0.out.call hb1
 have HY:Hid (y % pp=n ^ tw 1 % pp):=ey
 have lr:=S1.rlt
 have S2:Hid (SS w [(w.heap.size,nl n,120),(w1.heap.size,nl y,120)] (w.heap.size+1) 4 (w1.alloc (.cells (nl y).toArray 120))):=(S1.alloc _).add (nl y) _ (heap_alloc_here _ _ _ rfl)
 clear hb1 S1 HS0 ey
 go_wp2_with fail
 obtain ⟨x1,hx1⟩ : ∃ x,x=w1.alloc (.cells (nl y).toArray 120):=⟨_,rfl⟩
 have HS1:Hid (SS w [(w.heap.size,nl n,120),(w1.heap.size,nl y,120)] (w.heap.size+1) 4 x1):=by rw [hx1];exact S2.out
 rw [←hx1]
 clear hx1 S2
 go_cut [4] from 7 to 13 (fun sz wx => ∃ q s:Nat,sz = .pointer (some ⟨q,0,none⟩)∧s<RN∧s % pp=n ^ 11 % pp∧w.heap.size+1<q∧SS w [(w.heap.size,nl n,120),(w1.heap.size,nl y,120),(q,nl s,120)] (w.heap.size+1) 4 wx)
 case first =>
  refine wp_region_held_drew (S:=(fun w'=>SS w [(w.heap.size,nl n,120),(w1.heap.size,nl y,120)] (w.heap.size+1) 4 w')) (by kernel_rfl) ?_ (fun hHeld => ?_)
  ·exact HS1.out.drew
  refine take1 (i:=0) (v:=_) 7 rfl rfl (by kernel_rfl) (by kernel_rfl) (by kernel_rfl) (fun _ _ _ h=>h) (yieldsIf_load_mid (by rfl) _ _ rfl _ _ rfl _ _ (fun w h=>h.range (i:=0) rfl) Tryz.underlying120 rfl (i4 n)) hHeld ?_
  simp only [Act.put,pq]
  refine take1 (i:=2) (v:=_) 9 rfl rfl (by kernel_rfl) (by kernel_rfl) (by kernel_rfl) (fun _ _ _ h=>h) (yieldsIf_load_mid (by rfl) _ _ rfl _ _ rfl _ _ (fun w h=>h.range (i:=1) rfl) Tryz.underlying120 rfl (i4 y)) hHeld ?_
  simp only [Act.put,pq]
  refine take1 (i:=4) (v:=_) 11 rfl rfl (by kernel_rfl) (by kernel_rfl) (by kernel_rfl) (fun _ _ _ h=>h) (yieldsIf_load_mid (by rfl) _ _ rfl _ _ rfl _ _ (fun w h=>h.range (i:=0) rfl) Tryz.underlying120 rfl (i4 n)) hHeld ?_
  simp only [Act.put,pq]
  refine wpAnyH_ready (rs:=[1,6]) (by kernel_rfl) (by simp) ?_
  refine AllReadyH.cons rfl (fun K hK => ?_) (AllReadyH.cons rfl (fun K hK => ?_) (AllReadyH.nil))
  ·go_simp
   go_at_call 125
   refine (sq3 n hn _).mono ?_
   rintro e wA ⟨y1,hy1,rfl,ey1,hbA⟩
   refine hK.out _ _ ?_ (fun hHeld => ?_)
   ·exact hHeld.call hbA
   clear hK K
   try simp only [Act.put,pq]
   refine wpAnyH_ready (rs:=[3,6]) (by kernel_rfl) (by simp) ?_
   refine AllReadyH.cons rfl (fun K hK => ?_) (AllReadyH.cons rfl (fun K hK => ?_) (AllReadyH.nil))
   ·go_simp
    go_at_call 111
    refine (ml y1 y hy1 hy _).mono ?_
    rintro e wB ⟨z,hz,rfl,ez,hbB⟩
    refine hK.out _ _ ?_ (fun hHeld => ?_)
    ·exact hHeld.call hbB
    clear hK K
    try simp only [Act.put,pq]
    refine wpAnyH_ready (rs:=[5,6]) (by kernel_rfl) (by simp) ?_
    refine AllReadyH.cons rfl (fun K hK => ?_) (AllReadyH.cons rfl (fun K hK => ?_) (AllReadyH.nil))
    ·go_simp
     go_at_call 111
     refine (ml z n hz hn _).mono ?_
     rintro e wC ⟨s,hs,rfl,es,hbC⟩
     refine hK.out _ _ ?_ (fun hHeld => ?_)
     ·exact hHeld.call hbC
     clear hK K
     try simp only [Act.put,pq]
     refine wpAnyH_ready (rs:=[6]) (by kernel_rfl) (by simp) ?_
     refine AllReadyH.cons rfl (fun K hK => ?_) (AllReadyH.nil)
     have hlt:=hHeld.lt
     have hrq:=hHeld.rlt
     have hq:((wC).alloc (.cells #[.int .u64 0,.int .u64 0,.int .u64 0,.int .u64 0] 120)).heap[(wC).heap.size]? = some (.cells #[.int .u64 0,.int .u64 0,.int .u64 0,.int .u64 0] 120 (0,0)):=heap_alloc_here _ _ _ rfl
     have hqs:=hHeld.below.size
     go_simp
     refine hK.out _ _ ?_ (fun hHeld => ?_)
     ·exact hHeld.alloc _
     clear hK K
     try simp only [Act.put,pq]
     refine wpAnyH_ready (rs:=[7]) (by kernel_rfl) (by simp) ?_
     refine AllReadyH.cons rfl (fun K hK => ?_) (AllReadyH.nil)
     rw [if_pos (by rfl)]
     refine wp_store_mid _ _ _ rfl _ _ (nl s).toArray rfl rfl (there_of_row hq 0 4 (by simp)) (i4 s) (four_one s) ?_
     refine hK.out _ _ ?_ (fun hHeld => ?_)
     ·exact hHeld.put hqs hlt _
     clear hK K
     try simp only [Act.put,pq]
     refine wpAnyH_done (by kernel_rfl) ?_ _
     go_wp2_with fail
     go_meet
     exact ⟨_,s,rfl,hs,pow_mul n 10 1 11 z n s rfl (pow_mul n (tw 3) (tw 1) 10 y1 y z rfl ey1 HY.out ez) (powOne n) es,hrq,hHeld.add (nl s) _ (set_row4 hq)⟩
    ·have hlt:=hHeld.lt
     have hrq:=hHeld.rlt
     have hq:((wB).alloc (.cells #[.int .u64 0,.int .u64 0,.int .u64 0,.int .u64 0] 120)).heap[(wB).heap.size]? = some (.cells #[.int .u64 0,.int .u64 0,.int .u64 0,.int .u64 0] 120 (0,0)):=heap_alloc_here _ _ _ rfl
     have hqs:=hHeld.below.size
     go_simp
     refine hK.out _ _ ?_ (fun hHeld => ?_)
     ·exact hHeld.alloc _
     clear hK K
     try simp only [Act.put,pq]
     refine wpAnyH_ready (rs:=[5]) (by kernel_rfl) (by simp) ?_
     refine AllReadyH.cons rfl (fun K hK => ?_) (AllReadyH.nil)
     go_simp
     go_at_call 111
     refine (ml z n hz hn _).mono ?_
     rintro e wC ⟨s,hs,rfl,es,hbC⟩
     refine hK.out _ _ ?_ (fun hHeld => ?_)
     ·exact hHeld.call hbC
     clear hK K
     try simp only [Act.put,pq]
     have hq:=keep' hbC hq
     refine wpAnyH_ready (rs:=[7]) (by kernel_rfl) (by simp) ?_
     refine AllReadyH.cons rfl (fun K hK => ?_) (AllReadyH.nil)
     rw [if_pos (by rfl)]
     refine wp_store_mid _ _ _ rfl _ _ (nl s).toArray rfl rfl (there_of_row hq 0 4 (by simp)) (i4 s) (four_one s) ?_
     refine hK.out _ _ ?_ (fun hHeld => ?_)
     ·exact hHeld.put hqs hlt _
     clear hK K
     try simp only [Act.put,pq]
     refine wpAnyH_done (by kernel_rfl) ?_ _
     go_wp2_with fail
     go_meet
     exact ⟨_,s,rfl,hs,pow_mul n 10 1 11 z n s rfl (pow_mul n (tw 3) (tw 1) 10 y1 y z rfl ey1 HY.out ez) (powOne n) es,hrq,hHeld.add (nl s) _ (set_row4 hq)⟩
   ·have hlt:=hHeld.lt
    have hrq:=hHeld.rlt
    have hq:((wA).alloc (.cells #[.int .u64 0,.int .u64 0,.int .u64 0,.int .u64 0] 120)).heap[(wA).heap.size]? = some (.cells #[.int .u64 0,.int .u64 0,.int .u64 0,.int .u64 0] 120 (0,0)):=heap_alloc_here _ _ _ rfl
    have hqs:=hHeld.below.size
    go_simp
    refine hK.out _ _ ?_ (fun hHeld => ?_)
    ·exact hHeld.alloc _
    clear hK K
    try simp only [Act.put,pq]
    refine wpAnyH_ready (rs:=[3]) (by kernel_rfl) (by simp) ?_
    refine AllReadyH.cons rfl (fun K hK => ?_) (AllReadyH.nil)
    go_simp
    go_at_call 111
    refine (ml y1 y hy1 hy _).mono ?_
    rintro e wB ⟨z,hz,rfl,ez,hbB⟩
    refine hK.out _ _ ?_ (fun hHeld => ?_)
    ·exact hHeld.call hbB
    clear hK K
    try simp only [Act.put,pq]
    have hq:=keep' hbB hq
    refine wpAnyH_ready (rs:=[5]) (by kernel_rfl) (by simp) ?_
    refine AllReadyH.cons rfl (fun K hK => ?_) (AllReadyH.nil)
    go_simp
    go_at_call 111
    refine (ml z n hz hn _).mono ?_
    rintro e wC ⟨s,hs,rfl,es,hbC⟩
    refine hK.out _ _ ?_ (fun hHeld => ?_)
    ·exact hHeld.call hbC
    clear hK K
    try simp only [Act.put,pq]
    have hq:=keep' hbC hq
    refine wpAnyH_ready (rs:=[7]) (by kernel_rfl) (by simp) ?_
    refine AllReadyH.cons rfl (fun K hK => ?_) (AllReadyH.nil)
    rw [if_pos (by rfl)]
    refine wp_store_mid _ _ _ rfl _ _ (nl s).toArray rfl rfl (there_of_row hq 0 4 (by simp)) (i4 s) (four_one s) ?_
    refine hK.out _ _ ?_ (fun hHeld => ?_)
    ·exact hHeld.put hqs hlt _
    clear hK K
    try simp only [Act.put,pq]
    refine wpAnyH_done (by kernel_rfl) ?_ _
    go_wp2_with fail
    go_meet
    exact ⟨_,s,rfl,hs,pow_mul n 10 1 11 z n s rfl (pow_mul n (tw 3) (tw 1) 10 y1 y z rfl ey1 HY.out ez) (powOne n) es,hrq,hHeld.add (nl s) _ (set_row4 hq)⟩
  ·have hlt:=hHeld.lt
   have hrq:=hHeld.rlt
   have hq:((x1.drew).alloc (.cells #[.int .u64 0,.int .u64 0,.int .u64 0,.int .u64 0] 120)).heap[(x1.drew).heap.size]? = some (.cells #[.int .u64 0,.int .u64 0,.int .u64 0,.int .u64 0] 120 (0,0)):=heap_alloc_here _ _ _ rfl
   have hqs:=hHeld.below.size
   go_simp
   refine hK.out _ _ ?_ (fun hHeld => ?_)
   ·exact hHeld.alloc _
   clear hK K
   try simp only [Act.put,pq]
   refine wpAnyH_ready (rs:=[1]) (by kernel_rfl) (by simp) ?_
   refine AllReadyH.cons rfl (fun K hK => ?_) (AllReadyH.nil)
   go_simp
   go_at_call 125
   refine (sq3 n hn _).mono ?_
   rintro e wA ⟨y1,hy1,rfl,ey1,hbA⟩
   refine hK.out _ _ ?_ (fun hHeld => ?_)
   ·exact hHeld.call hbA
   clear hK K
   try simp only [Act.put,pq]
   have hq:=keep' hbA hq
   refine wpAnyH_ready (rs:=[3]) (by kernel_rfl) (by simp) ?_
   refine AllReadyH.cons rfl (fun K hK => ?_) (AllReadyH.nil)
   go_simp
   go_at_call 111
   refine (ml y1 y hy1 hy _).mono ?_
   rintro e wB ⟨z,hz,rfl,ez,hbB⟩
   refine hK.out _ _ ?_ (fun hHeld => ?_)
   ·exact hHeld.call hbB
   clear hK K
   try simp only [Act.put,pq]
   have hq:=keep' hbB hq
   refine wpAnyH_ready (rs:=[5]) (by kernel_rfl) (by simp) ?_
   refine AllReadyH.cons rfl (fun K hK => ?_) (AllReadyH.nil)
   go_simp
   go_at_call 111
   refine (ml z n hz hn _).mono ?_
   rintro e wC ⟨s,hs,rfl,es,hbC⟩
   refine hK.out _ _ ?_ (fun hHeld => ?_)
   ·exact hHeld.call hbC
   clear hK K
   try simp only [Act.put,pq]
   have hq:=keep' hbC hq
   refine wpAnyH_ready (rs:=[7]) (by kernel_rfl) (by simp) ?_
   refine AllReadyH.cons rfl (fun K hK => ?_) (AllReadyH.nil)
   rw [if_pos (by rfl)]
   refine wp_store_mid _ _ _ rfl _ _ (nl s).toArray rfl rfl (there_of_row hq 0 4 (by simp)) (i4 s) (four_one s) ?_
   refine hK.out _ _ ?_ (fun hHeld => ?_)
   ·exact hHeld.put hqs hlt _
   clear hK K
   try simp only [Act.put,pq]
   refine wpAnyH_done (by kernel_rfl) ?_ _
   go_wp2_with fail
   go_meet
   exact ⟨_,s,rfl,hs,pow_mul n 10 1 11 z n s rfl (pow_mul n (tw 3) (tw 1) 10 y1 y z rfl ey1 HY.out ez) (powOne n) es,hrq,hHeld.add (nl s) _ (set_row4 hq)⟩
 case rest =>
  obtain ⟨q,t,rfl,ht,et,lq,hss⟩:=hcut
  have HT:Hid (t % pp=n ^ 11 % pp):=et
  obtain ⟨x2,hx2⟩ : ∃ x,x=wc:=⟨_,rfl⟩
  rw [←hx2] at hss ⊢
  have HS2:Hid (SS w [(w.heap.size,nl n,120),(q,nl t,120)] (w.heap.size+1) 4 x2):=hss.pick2 0 2 rfl rfl
  clear et hss hx2
  go_wp2_with fail
  refine wp_region_held_drew (S:=(fun w'=>SS w [(w.heap.size,nl n,120),(q,nl t,120)] (w.heap.size+1) 4 w')) (by kernel_rfl) ?_ (fun hHeld => ?_)
  ·exact HS2.out.drew
  refine take1 (i:=0) (v:=_) 13 rfl rfl (by kernel_rfl) (by kernel_rfl) (by kernel_rfl) (fun _ _ _ h=>h) (yieldsIf_load_mid (by rfl) _ _ rfl _ _ rfl _ _ (fun w h=>h.range (i:=0) rfl) Tryz.underlying120 rfl (i4 n)) hHeld ?_
  simp only [Act.put,pq]
  refine take1 (i:=3) (v:=_) 16 rfl rfl (by kernel_rfl) (by kernel_rfl) (by kernel_rfl) (fun _ _ _ h=>h) (yieldsIf_load_mid (by rfl) _ _ rfl _ _ rfl _ _ (fun w h=>h.range (i:=1) rfl) Tryz.underlying120 rfl (i4 t)) hHeld ?_
  simp only [Act.put,pq]
  refine wpAnyH_ready (rs:=[1]) (by kernel_rfl) (by simp) ?_
  refine AllReadyH.cons rfl (fun K hK => ?_) (AllReadyH.nil)
  go_simp
  go_at_call 126
  refine (on n hn _).mono ?_
  rintro e wA ⟨o,ho,rfl,eo,hbA⟩
  refine hK.out _ _ ?_ (fun hHeld => ?_)
  ·exact hHeld.call hbA
  clear hK K
  try simp only [Act.put,pq]
  refine wpAnyH_ready (rs:=[2]) (by kernel_rfl) (by simp) ?_
  refine AllReadyH.cons rfl (fun K hK => ?_) (AllReadyH.nil)
  go_simp
  go_at_call 125
  refine (sq5 o ho _).mono ?_
  rintro e wB ⟨u,hu,rfl,eu,hbB⟩
  refine hK.out _ _ ?_ (fun hHeld => ?_)
  ·exact hHeld.call hbB
  clear hK K
  try simp only [Act.put,pq]
  refine wpAnyH_ready (rs:=[4]) (by kernel_rfl) (by simp) ?_
  refine AllReadyH.cons rfl (fun K hK => ?_) (AllReadyH.nil)
  go_simp
  go_at_call 111
  refine (ml u t hu ht _).mono ?_
  rintro e wC ⟨s,hs,rfl,es,hbC⟩
  have hT:=((HS2.out.drew.call hbA).call hbB |>.call hbC).there
  refine hK.out _ _ ?_ (fun hHeld => ?_)
  ·exact hHeld.call hbC
  clear hK K
  try simp only [Act.put,pq]
  refine wpAnyH_ready (rs:=[5]) (by kernel_rfl) (by simp) ?_
  refine AllReadyH.cons rfl (fun K hK => ?_) (AllReadyH.nil)
  rw [if_pos (by rfl)]
  refine wp_store_mid _ _ _ rfl _ _ (nl s).toArray rfl rfl hT (i4 s) (four_one s) ?_
  refine hK.out _ _ ?_ (fun hHeld => ?_)
  ·exact hHeld.store (by omega) (ne2 (by omega) (by omega)) _
  clear hK K
  try simp only [Act.put,pq]
  refine wpAnyH_done (by kernel_rfl) ?_ _
  go_wp2
  refine bodyPost_ret (v := .agg (nl s).toArray) (results_mid Tryz.results109 _ _ (w.heap.size+1) 0 (nl s) _ rfl (World.rangeAt_setCells_same _ _ _ _ hT) Tryz.underlying120 rfl (i4 s)) rfl ⟨s,hs,rfl,pow_comb n (rn 250) (tw 5) 11 (pp - 2) o u t s (by decide) eo eu HT.out es,hHeld.below⟩
theorem SS.one32 (w:World) (a:Nat):SS w [(w.heap.size,bl a,22)] (w.heap.size+1) 32 ((w.alloc (.cells (bl a).toArray 22)).alloc (.cells (bl 0).toArray 22)):=by
 refine ⟨((Below.refl _ _).alloc (Nat.le_refl _) _).alloc (by simp) _,?_,there_of_row (heap_alloc_here _ _ _ (by simp)) 0 32 (by have:=br_size 0;simp only [br] at this;omega)⟩
 intro i g L t hm
 match i,hm with
 | 0,hm =>
  cases hm
  exact (heap_alloc_past _ _ _ (by simp)).trans (heap_alloc_here _ _ _ rfl)
set_option maxRecDepth 100000 in
set_option maxHeartbeats 1000000 in
theorem Inv_any (a:Nat) (ha:a<RN) (w:World) :
  Calls Tryz.prog 76 #[bv a] w fun e w'=>e = .returned (bv (a ^ (pp - 2) % pp))∧Below w.heap.size w w':=by
 have hz:=zero_32
 have ld : ∀ n w,Calls Tryz.prog 110 #[Value.agg (bl n).toArray] w fun e w'=>e = .returned (nv n)∧Below w.heap.size w w':=load_any
 have st : ∀ n,n<RN → ∀ w,Calls Tryz.prog 108 #[nv n] w fun e w'=>e = .returned (.agg (bl (n % pp)).toArray)∧Below w.heap.size w w':=store_any
 have HS:Hid (SS w _ _ _ _):=SS.one32 w a
 have HC:Hid (World.rangeAt _ w.heap.size 0 (bl a)):=HS.out.range (i:=0) rfl
 have hza:(bl a).toArray.size=32:=br_size a
 have hz0:(bl 0).toArray.size=32:=br_size 0
 simp only [bv,br] at hz ⊢
 go_enter Tryz.func76,Tryz.ntmps76
 go_wp2_with (refine wpList_load_mid rfl 22 _ rfl w.heap.size 0 rfl (bl a) _ HC.out Tryz.underlying22 rfl (i32 a) ?_)
 refine (ld a _).mono ?_
 rintro e w1 ⟨rfl,hb1⟩
 have S1:Hid (SS w _ _ _ w1):=HS.out.call hb1
 clear HC HS hb1
 go_wp2_with fail
 refine (inverse_nat a ha _).mono ?_
 rintro e w2 ⟨s,hs,rfl,es,hb2⟩
 have S2:Hid (SS w _ _ _ w2):=S1.out.call hb2
 have HES:Hid (s % pp=a ^ (pp - 2) % pp):=es
 clear S1 hb2 es
 go_wp2_with fail
 refine (st s hs _).mono ?_
 rintro e w3 ⟨rfl,hb3⟩
 have S3:Hid (SS w _ _ _ w3):=S2.out.call hb3
 have HT:Hid (w3.there (w.heap.size+1) 0 (br (s % pp)).size):=by rw [br_size];exact S3.out.there
 clear S2 hb3
 go_wp2_with (refine wpList_store_mid rfl 22 _ _ rfl (w.heap.size+1) 0 (br (s % pp)) rfl rfl HT.out (by rw [br_size];exact size_32) (br_one _) ?_)
 refine bodyPost_ret (v := .agg (bl (s % pp)).toArray) (results_mid Tryz.results76 _ _ (w.heap.size+1) 0 (bl (s % pp)) _ rfl (World.rangeAt_setCells_same _ _ _ _ HT.out) Tryz.underlying22 rfl (i32 _)) rfl ⟨by rw [HES.out],below_setCells _ (by omega) _ _ _ S3.out.below⟩
end Go.Proofs.YtlihbglpdkeppaaGreatDoor
namespace Go.Proofs.YtlihbglpdkeppaaGreatDoor
open Go Go.RowKit Go.Lib
def IN:Nat:=19681161376707505956807079304988542015446066515923890162744021073123829784752
theorem IN_lt:IN<RN:=by decide
theorem litI:(#[.int .u64 14190309331451158704,.int .u64 3405592160176694392,.int .u64 3120150775007532967,.int .u64 3135389899092516619]:Array Value)=(nl IN).toArray:=by kernel_rfl
theorem rootM_any (w:World):Calls Tryz.prog 140 #[] w fun e w'=>e = .returned (.agg (nl IN).toArray)∧Below w.heap.size w w':=by
 rw [←litI]
 go_enter Tryz.func140,Tryz.ntmps140
 go_wp2
 simp [bodyPost,results,Tryz.results140,go_sem]
 exact (Below.refl _ _).alloc (Nat.le_refl _) _
def rx (n:Nat):Nat:=n ^ ((pp+3)/8) % pp
def rt (n:Nat):Nat:=if rx n*rx n % pp=n % pp then rx n else rx n*IN % pp
def ev (m:Nat):Nat:=if m % 2=1 then pp - m else m
theorem rx_lt (n:Nat):rx n<pp:=by unfold rx;exact Nat.mod_lt _ (by decide)
theorem rt_lt (n:Nat):rt n<pp:=by unfold rt;split;exact rx_lt n;exact Nat.mod_lt _ (by decide)
theorem sq_of {s x:Nat} (h:s % pp=x):s*s % pp=x*x % pp:=by rw [Nat.mul_mod,h]
set_option maxRecDepth 100000 in
set_option maxHeartbeats 4000000 in
theorem root_nat (n:Nat) (hn:n<RN) (w:World) :
  Calls Tryz.prog 135 #[nv n] w fun e w' => ∃ s,s<RN∧e = .returned (nv s)∧s % pp=rt n∧Below w.heap.size w w':=by
 have ml : ∀ a b:Nat,a<RN→b<RN → ∀ w,Calls Tryz.prog 111 #[.agg (nl a).toArray,.agg (nl b).toArray] w fun e w' => ∃ s:Nat,s<RN∧e = .returned (.agg (nl s).toArray)∧s % pp=(a*b) % pp∧Below w.heap.size w w':=mul_nat
 have on : ∀ n:Nat,n<RN → ∀ w,Calls Tryz.prog 126 #[.agg (nl n).toArray] w fun e w' => ∃ s:Nat,s<RN∧e = .returned (.agg (nl s).toArray)∧s % pp=n ^ rn 250 % pp∧Below w.heap.size w w':=ones_nat
 have sq1 : ∀ n:Nat,n<RN → ∀ w,Calls Tryz.prog 125 #[.agg (nl n).toArray,.int .i64 1] w fun e w' => ∃ s:Nat,s<RN∧e = .returned (.agg (nl s).toArray)∧s % pp=n ^ tw 1 % pp∧Below w.heap.size w w':=fun n hn w=>squared_tw n 1 hn (by decide) w
 have sq2 : ∀ n:Nat,n<RN → ∀ w,Calls Tryz.prog 125 #[.agg (nl n).toArray,.int .i64 2] w fun e w' => ∃ s:Nat,s<RN∧e = .returned (.agg (nl s).toArray)∧s % pp=n ^ tw 2 % pp∧Below w.heap.size w w':=fun n hn w=>squared_tw n 2 hn (by decide) w
 have HSa:=SS.num w n
 unfold nv
 go_enter Tryz.func135,Tryz.ntmps135
 go_wp2_with fail
 obtain ⟨x0,hx0⟩ : ∃ x,x=(w.alloc (.cells (nl n).toArray 120)).alloc (.cells #[.int .u64 0,.int .u64 0,.int .u64 0,.int .u64 0] 120):=⟨_,rfl⟩
 have HS0:Hid (SS w [(w.heap.size,nl n,120)] (w.heap.size+1) 4 x0):=by rw [hx0];exact HSa
 rw [←hx0]
 clear hx0 HSa
 go_cut [3] from 4 to 10 (fun sz wx => ∃ q s:Nat,sz = .pointer (some ⟨q,0,none⟩)∧s<RN∧s % pp=n ^ ((pp+3)/8) % pp∧w.heap.size+1<q∧SS w [(w.heap.size,nl n,120),(q,nl s,120)] (w.heap.size+1) 4 wx)
 case first =>
  refine wp_region_held_drew (S:=(fun w'=>SS w [(w.heap.size,nl n,120)] (w.heap.size+1) 4 w')) (by kernel_rfl) ?_ (fun hHeld => ?_)
  ·exact HS0.out.drew
  refine take1 (i:=0) (v:=_) 4 rfl rfl (by kernel_rfl) (by kernel_rfl) (by kernel_rfl) (fun _ _ _ h=>h) (yieldsIf_load_mid (by rfl) _ _ rfl _ _ rfl _ _ (fun w h=>h.range (i:=0) rfl) Tryz.underlying120 rfl (i4 n)) hHeld ?_
  simp only [Act.put,pq]
  refine take1 (i:=3) (v:=_) 7 rfl rfl (by kernel_rfl) (by kernel_rfl) (by kernel_rfl) (fun _ _ _ h=>h) (yieldsIf_load_mid (by rfl) _ _ rfl _ _ rfl _ _ (fun w h=>h.range (i:=0) rfl) Tryz.underlying120 rfl (i4 n)) hHeld ?_
  simp only [Act.put,pq]
  refine wpAnyH_ready (rs:=[1,6]) (by kernel_rfl) (by simp) ?_
  refine AllReadyH.cons rfl (fun K hK => ?_) (AllReadyH.cons rfl (fun K hK => ?_) (AllReadyH.nil))
  ·go_simp
   go_at_call 126
   refine (on n hn _).mono ?_
   rintro e wA ⟨o,ho,rfl,eo,hbA⟩
   refine hK.out _ _ ?_ (fun hHeld => ?_)
   ·exact hHeld.call hbA
   clear hK K
   try simp only [Act.put,pq]
   refine wpAnyH_ready (rs:=[2,6]) (by kernel_rfl) (by simp) ?_
   refine AllReadyH.cons rfl (fun K hK => ?_) (AllReadyH.cons rfl (fun K hK => ?_) (AllReadyH.nil))
   ·go_simp
    go_at_call 125
    refine (sq2 o ho _).mono ?_
    rintro e wB ⟨u,hu,rfl,eu,hbB⟩
    refine hK.out _ _ ?_ (fun hHeld => ?_)
    ·exact hHeld.call hbB
    clear hK K
    try simp only [Act.put,pq]
    refine wpAnyH_ready (rs:=[4,6]) (by kernel_rfl) (by simp) ?_
    refine AllReadyH.cons rfl (fun K hK => ?_) (AllReadyH.cons rfl (fun K hK => ?_) (AllReadyH.nil))
    ·go_simp
     go_at_call 125
     refine (sq1 n hn _).mono ?_
     rintro e wC ⟨v,hv,rfl,ev,hbC⟩
     refine hK.out _ _ ?_ (fun hHeld => ?_)
     ·exact hHeld.call hbC
     clear hK K
     try simp only [Act.put,pq]
     refine wpAnyH_ready (rs:=[5,6]) (by kernel_rfl) (by simp) ?_
     refine AllReadyH.cons rfl (fun K hK => ?_) (AllReadyH.cons rfl (fun K hK => ?_) (AllReadyH.nil))
     ·go_simp
      go_at_call 111
      refine (ml u v hu hv _).mono ?_
      rintro e wD ⟨s,hs,rfl,es,hbD⟩
      refine hK.out _ _ ?_ (fun hHeld => ?_)
      ·exact hHeld.call hbD
      clear hK K
      try simp only [Act.put,pq]
      refine wpAnyH_ready (rs:=[6]) (by kernel_rfl) (by simp) ?_
      refine AllReadyH.cons rfl (fun K hK => ?_) (AllReadyH.nil)
      have hlt:=hHeld.lt
      have hrq:=hHeld.rlt
      have hq:((wD).alloc (.cells #[.int .u64 0,.int .u64 0,.int .u64 0,.int .u64 0] 120)).heap[(wD).heap.size]? = some (.cells #[.int .u64 0,.int .u64 0,.int .u64 0,.int .u64 0] 120 (0,0)):=heap_alloc_here _ _ _ rfl
      have hqs:=hHeld.below.size
      go_simp
      refine hK.out _ _ ?_ (fun hHeld => ?_)
      ·exact hHeld.alloc _
      clear hK K
      try simp only [Act.put,pq]
      refine wpAnyH_ready (rs:=[7]) (by kernel_rfl) (by simp) ?_
      refine AllReadyH.cons rfl (fun K hK => ?_) (AllReadyH.nil)
      rw [if_pos (by rfl)]
      refine wp_store_mid _ _ _ rfl _ _ (nl s).toArray rfl rfl (there_of_row hq 0 4 (by simp)) (i4 s) (four_one s) ?_
      refine hK.out _ _ ?_ (fun hHeld => ?_)
      ·exact hHeld.put hqs hlt _
      clear hK K
      try simp only [Act.put,pq]
      refine wpAnyH_done (by kernel_rfl) ?_ _
      go_wp2_with fail
      go_meet
      exact ⟨_,s,rfl,hs,pow_comb n (rn 250) (tw 2) (tw 1) ((pp+3)/8) o u v s (by decide) eo eu ev es,hrq,hHeld.add (nl s) _ (set_row4 hq)⟩
     ·have hlt:=hHeld.lt
      have hrq:=hHeld.rlt
      have hq:((wC).alloc (.cells #[.int .u64 0,.int .u64 0,.int .u64 0,.int .u64 0] 120)).heap[(wC).heap.size]? = some (.cells #[.int .u64 0,.int .u64 0,.int .u64 0,.int .u64 0] 120 (0,0)):=heap_alloc_here _ _ _ rfl
      have hqs:=hHeld.below.size
      go_simp
      refine hK.out _ _ ?_ (fun hHeld => ?_)
      ·exact hHeld.alloc _
      clear hK K
      try simp only [Act.put,pq]
      refine wpAnyH_ready (rs:=[5]) (by kernel_rfl) (by simp) ?_
      refine AllReadyH.cons rfl (fun K hK => ?_) (AllReadyH.nil)
      go_simp
      go_at_call 111
      refine (ml u v hu hv _).mono ?_
      rintro e wD ⟨s,hs,rfl,es,hbD⟩
      refine hK.out _ _ ?_ (fun hHeld => ?_)
      ·exact hHeld.call hbD
      clear hK K
      try simp only [Act.put,pq]
      have hq:=keep' hbD hq
      refine wpAnyH_ready (rs:=[7]) (by kernel_rfl) (by simp) ?_
      refine AllReadyH.cons rfl (fun K hK => ?_) (AllReadyH.nil)
      rw [if_pos (by rfl)]
      refine wp_store_mid _ _ _ rfl _ _ (nl s).toArray rfl rfl (there_of_row hq 0 4 (by simp)) (i4 s) (four_one s) ?_
      refine hK.out _ _ ?_ (fun hHeld => ?_)
      ·exact hHeld.put hqs hlt _
      clear hK K
      try simp only [Act.put,pq]
      refine wpAnyH_done (by kernel_rfl) ?_ _
      go_wp2_with fail
      go_meet
      exact ⟨_,s,rfl,hs,pow_comb n (rn 250) (tw 2) (tw 1) ((pp+3)/8) o u v s (by decide) eo eu ev es,hrq,hHeld.add (nl s) _ (set_row4 hq)⟩
    ·have hlt:=hHeld.lt
     have hrq:=hHeld.rlt
     have hq:((wB).alloc (.cells #[.int .u64 0,.int .u64 0,.int .u64 0,.int .u64 0] 120)).heap[(wB).heap.size]? = some (.cells #[.int .u64 0,.int .u64 0,.int .u64 0,.int .u64 0] 120 (0,0)):=heap_alloc_here _ _ _ rfl
     have hqs:=hHeld.below.size
     go_simp
     refine hK.out _ _ ?_ (fun hHeld => ?_)
     ·exact hHeld.alloc _
     clear hK K
     try simp only [Act.put,pq]
     refine wpAnyH_ready (rs:=[4]) (by kernel_rfl) (by simp) ?_
     refine AllReadyH.cons rfl (fun K hK => ?_) (AllReadyH.nil)
     go_simp
     go_at_call 125
     refine (sq1 n hn _).mono ?_
     rintro e wC ⟨v,hv,rfl,ev,hbC⟩
     refine hK.out _ _ ?_ (fun hHeld => ?_)
     ·exact hHeld.call hbC
     clear hK K
     try simp only [Act.put,pq]
     have hq:=keep' hbC hq
     refine wpAnyH_ready (rs:=[5]) (by kernel_rfl) (by simp) ?_
     refine AllReadyH.cons rfl (fun K hK => ?_) (AllReadyH.nil)
     go_simp
     go_at_call 111
     refine (ml u v hu hv _).mono ?_
     rintro e wD ⟨s,hs,rfl,es,hbD⟩
     refine hK.out _ _ ?_ (fun hHeld => ?_)
     ·exact hHeld.call hbD
     clear hK K
     try simp only [Act.put,pq]
     have hq:=keep' hbD hq
     refine wpAnyH_ready (rs:=[7]) (by kernel_rfl) (by simp) ?_
     refine AllReadyH.cons rfl (fun K hK => ?_) (AllReadyH.nil)
     rw [if_pos (by rfl)]
     refine wp_store_mid _ _ _ rfl _ _ (nl s).toArray rfl rfl (there_of_row hq 0 4 (by simp)) (i4 s) (four_one s) ?_
     refine hK.out _ _ ?_ (fun hHeld => ?_)
     ·exact hHeld.put hqs hlt _
     clear hK K
     try simp only [Act.put,pq]
     refine wpAnyH_done (by kernel_rfl) ?_ _
     go_wp2_with fail
     go_meet
     exact ⟨_,s,rfl,hs,pow_comb n (rn 250) (tw 2) (tw 1) ((pp+3)/8) o u v s (by decide) eo eu ev es,hrq,hHeld.add (nl s) _ (set_row4 hq)⟩
   ·have hlt:=hHeld.lt
    have hrq:=hHeld.rlt
    have hq:((wA).alloc (.cells #[.int .u64 0,.int .u64 0,.int .u64 0,.int .u64 0] 120)).heap[(wA).heap.size]? = some (.cells #[.int .u64 0,.int .u64 0,.int .u64 0,.int .u64 0] 120 (0,0)):=heap_alloc_here _ _ _ rfl
    have hqs:=hHeld.below.size
    go_simp
    refine hK.out _ _ ?_ (fun hHeld => ?_)
    ·exact hHeld.alloc _
    clear hK K
    try simp only [Act.put,pq]
    refine wpAnyH_ready (rs:=[2]) (by kernel_rfl) (by simp) ?_
    refine AllReadyH.cons rfl (fun K hK => ?_) (AllReadyH.nil)
    go_simp
    go_at_call 125
    refine (sq2 o ho _).mono ?_
    rintro e wB ⟨u,hu,rfl,eu,hbB⟩
    refine hK.out _ _ ?_ (fun hHeld => ?_)
    ·exact hHeld.call hbB
    clear hK K
    try simp only [Act.put,pq]
    have hq:=keep' hbB hq
    refine wpAnyH_ready (rs:=[4]) (by kernel_rfl) (by simp) ?_
    refine AllReadyH.cons rfl (fun K hK => ?_) (AllReadyH.nil)
    go_simp
    go_at_call 125
    refine (sq1 n hn _).mono ?_
    rintro e wC ⟨v,hv,rfl,ev,hbC⟩
    refine hK.out _ _ ?_ (fun hHeld => ?_)
    ·exact hHeld.call hbC
    clear hK K
    try simp only [Act.put,pq]
    have hq:=keep' hbC hq
    refine wpAnyH_ready (rs:=[5]) (by kernel_rfl) (by simp) ?_
    refine AllReadyH.cons rfl (fun K hK => ?_) (AllReadyH.nil)
    go_simp
    go_at_call 111
    refine (ml u v hu hv _).mono ?_
    rintro e wD ⟨s,hs,rfl,es,hbD⟩
    refine hK.out _ _ ?_ (fun hHeld => ?_)
    ·exact hHeld.call hbD
    clear hK K
    try simp only [Act.put,pq]
    have hq:=keep' hbD hq
    refine wpAnyH_ready (rs:=[7]) (by kernel_rfl) (by simp) ?_
    refine AllReadyH.cons rfl (fun K hK => ?_) (AllReadyH.nil)
    rw [if_pos (by rfl)]
    refine wp_store_mid _ _ _ rfl _ _ (nl s).toArray rfl rfl (there_of_row hq 0 4 (by simp)) (i4 s) (four_one s) ?_
    refine hK.out _ _ ?_ (fun hHeld => ?_)
    ·exact hHeld.put hqs hlt _
    clear hK K
    try simp only [Act.put,pq]
    refine wpAnyH_done (by kernel_rfl) ?_ _
    go_wp2_with fail
    go_meet
    exact ⟨_,s,rfl,hs,pow_comb n (rn 250) (tw 2) (tw 1) ((pp+3)/8) o u v s (by decide) eo eu ev es,hrq,hHeld.add (nl s) _ (set_row4 hq)⟩
  ·have hlt:=hHeld.lt
   have hrq:=hHeld.rlt
   have hq:((x0.drew).alloc (.cells #[.int .u64 0,.int .u64 0,.int .u64 0,.int .u64 0] 120)).heap[(x0.drew).heap.size]? = some (.cells #[.int .u64 0,.int .u64 0,.int .u64 0,.int .u64 0] 120 (0,0)):=heap_alloc_here _ _ _ rfl
   have hqs:=hHeld.below.size
   go_simp
   refine hK.out _ _ ?_ (fun hHeld => ?_)
   ·exact hHeld.alloc _
   clear hK K
   try simp only [Act.put,pq]
   refine wpAnyH_ready (rs:=[1]) (by kernel_rfl) (by simp) ?_
   refine AllReadyH.cons rfl (fun K hK => ?_) (AllReadyH.nil)
   go_simp
   go_at_call 126
   refine (on n hn _).mono ?_
   rintro e wA ⟨o,ho,rfl,eo,hbA⟩
   refine hK.out _ _ ?_ (fun hHeld => ?_)
   ·exact hHeld.call hbA
   clear hK K
   try simp only [Act.put,pq]
   have hq:=keep' hbA hq
   refine wpAnyH_ready (rs:=[2]) (by kernel_rfl) (by simp) ?_
   refine AllReadyH.cons rfl (fun K hK => ?_) (AllReadyH.nil)
   go_simp
   go_at_call 125
   refine (sq2 o ho _).mono ?_
   rintro e wB ⟨u,hu,rfl,eu,hbB⟩
   refine hK.out _ _ ?_ (fun hHeld => ?_)
   ·exact hHeld.call hbB
   clear hK K
   try simp only [Act.put,pq]
   have hq:=keep' hbB hq
   refine wpAnyH_ready (rs:=[4]) (by kernel_rfl) (by simp) ?_
   refine AllReadyH.cons rfl (fun K hK => ?_) (AllReadyH.nil)
   go_simp
   go_at_call 125
   refine (sq1 n hn _).mono ?_
   rintro e wC ⟨v,hv,rfl,ev,hbC⟩
   refine hK.out _ _ ?_ (fun hHeld => ?_)
   ·exact hHeld.call hbC
   clear hK K
   try simp only [Act.put,pq]
   have hq:=keep' hbC hq
   refine wpAnyH_ready (rs:=[5]) (by kernel_rfl) (by simp) ?_
   refine AllReadyH.cons rfl (fun K hK => ?_) (AllReadyH.nil)
   go_simp
   go_at_call 111
   refine (ml u v hu hv _).mono ?_
   rintro e wD ⟨s,hs,rfl,es,hbD⟩
   refine hK.out _ _ ?_ (fun hHeld => ?_)
   ·exact hHeld.call hbD
   clear hK K
   try simp only [Act.put,pq]
   have hq:=keep' hbD hq
   refine wpAnyH_ready (rs:=[7]) (by kernel_rfl) (by simp) ?_
   refine AllReadyH.cons rfl (fun K hK => ?_) (AllReadyH.nil)
   rw [if_pos (by rfl)]
   refine wp_store_mid _ _ _ rfl _ _ (nl s).toArray rfl rfl (there_of_row hq 0 4 (by simp)) (i4 s) (four_one s) ?_
   refine hK.out _ _ ?_ (fun hHeld => ?_)
   ·exact hHeld.put hqs hlt _
   clear hK K
   try simp only [Act.put,pq]
   refine wpAnyH_done (by kernel_rfl) ?_ _
   go_wp2_with fail
   go_meet
   exact ⟨_,s,rfl,hs,pow_comb n (rn 250) (tw 2) (tw 1) ((pp+3)/8) o u v s (by decide) eo eu ev es,hrq,hHeld.add (nl s) _ (set_row4 hq)⟩
 case rest =>
  obtain ⟨q,s,rfl,hs,es,lq,hss⟩:=hcut
  have HX:Hid (s % pp=rx n):=by show s % pp=rx n;unfold rx;exact es
  obtain ⟨x1,hx1⟩ : ∃ x,x=wc:=⟨_,rfl⟩
  rw [←hx1] at hss ⊢
  have HS1:Hid (SS w [(w.heap.size,nl n,120),(q,nl s,120)] (w.heap.size+1) 4 x1):=hss
  clear es hss hx1
  obtain ⟨c,hc⟩ : ∃ c,c=s*s % pp:=⟨_,rfl⟩
  obtain ⟨d,hd⟩ : ∃ d,d=n % pp:=⟨_,rfl⟩
  have hcl:c<RN:=by rw [hc];exact mod_lt_RN _
  have hdl:d<RN:=by rw [hd];exact mod_lt_RN _
  have sec : ∀ m,m<RN→m % pp=s*s % pp → ∀ w,Calls Tryz.prog 123 #[.agg (nl m).toArray] w fun e w'=>e = .returned (.agg (nl c).toArray)∧Below w.heap.size w w':=fun m hm e w=>by
   have:=settle_nat m hm w
   rw [e,←hc] at this
   exact this
  have sed : ∀ w,Calls Tryz.prog 123 #[.agg (nl n).toArray] w fun e w'=>e = .returned (.agg (nl d).toArray)∧Below w.heap.size w w':=fun w=>by
   have:=settle_nat n hn w
   rw [←hd] at this
   exact this
  have heq : ∀ w,(Op.equalIn 10000 120 (.agg (nl c).toArray) (.agg (nl d).toArray)).run Tryz.prog w = .ok (decide (c=d)) w:=eq_num c d hcl hdl
  have HCC:Hid (c=rx n*rx n % pp):=hc.trans (sq_of HX.out)
  have HDD:Hid (d=n % pp):=hd
  clear hc hd
  by_cases hcd:c=d
  ·rw [decide_eq_true hcd] at heq
   have HD:Hid (rx n*rx n % pp=n % pp):=by show _=_;rw [←HCC.out,hcd,HDD.out]
   go_wp2_with fail
   refine wp_region_held_drew (S:=(fun w'=>SS w [(w.heap.size,nl n,120),(q,nl s,120)] (w.heap.size+1) 4 w')) (by kernel_rfl) ?_ (fun hHeld => ?_)
   ·exact HS1.out.drew
   refine take1 (i:=0) (v:=_) 10 rfl rfl (by kernel_rfl) (by kernel_rfl) (by kernel_rfl) (fun _ _ _ h=>h) (yieldsIf_load_mid (by rfl) _ _ rfl _ _ rfl _ _ (fun w h=>h.range (i:=1) rfl) Tryz.underlying120 rfl (i4 s)) hHeld ?_
   simp only [Act.put,pq]
   refine take1 (i:=1) (v:=_) 11 rfl rfl (by kernel_rfl) (by kernel_rfl) (by kernel_rfl) (fun _ _ _ h=>h) (yieldsIf_load_mid (by rfl) _ _ rfl _ _ rfl _ _ (fun w h=>h.range (i:=1) rfl) Tryz.underlying120 rfl (i4 s)) hHeld ?_
   simp only [Act.put,pq]
   refine take1 (i:=4) (v:=_) 14 rfl rfl (by kernel_rfl) (by kernel_rfl) (by kernel_rfl) (fun _ _ _ h=>h) (yieldsIf_load_mid (by rfl) _ _ rfl _ _ rfl _ _ (fun w h=>h.range (i:=0) rfl) Tryz.underlying120 rfl (i4 n)) hHeld ?_
   simp only [Act.put,pq]
   refine wpAnyH_ready (rs:=[2]) (by kernel_rfl) (by simp) ?_
   refine AllReadyH.cons rfl (fun K hK => ?_) AllReadyH.nil
   go_simp
   go_at_call 111
   refine (ml s s hs hs _).mono ?_
   rintro e wA ⟨m,hm,rfl,em,hbA⟩
   refine hK.out _ _ ?_ (fun hHeld => ?_)
   ·exact hHeld.call hbA
   clear hK K
   try simp only [Act.put,pq]
   refine wpAnyH_ready (rs:=[3]) (by kernel_rfl) (by simp) ?_
   refine AllReadyH.cons rfl (fun K hK => ?_) AllReadyH.nil
   go_simp
   go_at_call 123
   refine (sec m hm em _).mono ?_
   rintro e wB ⟨rfl,hbB⟩
   refine hK.out _ _ ?_ (fun hHeld => ?_)
   ·exact hHeld.call hbB
   clear hK K
   try simp only [Act.put,pq]
   refine wpAnyH_ready (rs:=[5]) (by kernel_rfl) (by simp) ?_
   refine AllReadyH.cons rfl (fun K hK => ?_) AllReadyH.nil
   go_simp
   go_at_call 123
   refine (sed _).mono ?_
   rintro e wC ⟨rfl,hbC⟩
   refine hK.out _ _ ?_ (fun hHeld => ?_)
   ·exact hHeld.call hbC
   clear hK K
   try simp only [Act.put,pq]
   refine take1 (i:=6) (v := ?_) 16 rfl rfl (by kernel_rfl) (by kernel_rfl) (by kernel_rfl) (fun _ _ _ h=>h) (Or.inl ⟨by rfl,?_⟩) hHeld ?_
   rotate_left 1
   ·intro w hSw;go_simp <;> with_reducible rfl
   simp only [Act.put,pq]
   refine wpAnyH_done (by kernel_rfl) ?_ _
   have HS2:Hid (SS w [(w.heap.size,nl n,120),(q,nl s,120)] (w.heap.size+1) 4 _):=hHeld
   have HC:Hid (World.rangeAt _ q 0 (nl s)):=hHeld.range (i:=1) rfl
   have HT:Hid (World.there _ (w.heap.size+1) 0 4):=hHeld.there
   clear hHeld
   go_wp2_with (first | (refine wpList_load_mid rfl 120 _ rfl q 0 rfl (nl s) _ HC.out Tryz.underlying120 rfl (i4 s) ?_) | (refine wpList_store_mid rfl 120 _ _ rfl (w.heap.size+1) 0 (nl s).toArray rfl rfl HT.out (i4 s) (four_one s) ?_))
   refine bodyPost_ret (v := .agg (nl s).toArray) (results_mid Tryz.results135 _ _ (w.heap.size+1) 0 (nl s) _ rfl (World.rangeAt_setCells_same _ _ _ _ HT.out) Tryz.underlying120 rfl (i4 s)) rfl ⟨s,hs,rfl,by rw [rt,if_pos HD.out];exact HX.out,below_setCells _ (by omega) _ _ _ HS2.out.below⟩
  ·rw [decide_eq_false hcd] at heq
   have HD:Hid (¬ rx n*rx n % pp=n % pp):=by show ¬ _=_;rw [←HCC.out,←HDD.out];exact hcd
   go_wp2_with fail
   refine wp_region_held_drew (S:=(fun w'=>SS w [(w.heap.size,nl n,120),(q,nl s,120)] (w.heap.size+1) 4 w')) (by kernel_rfl) ?_ (fun hHeld => ?_)
   ·exact HS1.out.drew
   refine take1 (i:=0) (v:=_) 10 rfl rfl (by kernel_rfl) (by kernel_rfl) (by kernel_rfl) (fun _ _ _ h=>h) (yieldsIf_load_mid (by rfl) _ _ rfl _ _ rfl _ _ (fun w h=>h.range (i:=1) rfl) Tryz.underlying120 rfl (i4 s)) hHeld ?_
   simp only [Act.put,pq]
   refine take1 (i:=1) (v:=_) 11 rfl rfl (by kernel_rfl) (by kernel_rfl) (by kernel_rfl) (fun _ _ _ h=>h) (yieldsIf_load_mid (by rfl) _ _ rfl _ _ rfl _ _ (fun w h=>h.range (i:=1) rfl) Tryz.underlying120 rfl (i4 s)) hHeld ?_
   simp only [Act.put,pq]
   refine take1 (i:=4) (v:=_) 14 rfl rfl (by kernel_rfl) (by kernel_rfl) (by kernel_rfl) (fun _ _ _ h=>h) (yieldsIf_load_mid (by rfl) _ _ rfl _ _ rfl _ _ (fun w h=>h.range (i:=0) rfl) Tryz.underlying120 rfl (i4 n)) hHeld ?_
   simp only [Act.put,pq]
   refine wpAnyH_ready (rs:=[2]) (by kernel_rfl) (by simp) ?_
   refine AllReadyH.cons rfl (fun K hK => ?_) AllReadyH.nil
   go_simp
   go_at_call 111
   refine (ml s s hs hs _).mono ?_
   rintro e wA ⟨m,hm,rfl,em,hbA⟩
   refine hK.out _ _ ?_ (fun hHeld => ?_)
   ·exact hHeld.call hbA
   clear hK K
   try simp only [Act.put,pq]
   refine wpAnyH_ready (rs:=[3]) (by kernel_rfl) (by simp) ?_
   refine AllReadyH.cons rfl (fun K hK => ?_) AllReadyH.nil
   go_simp
   go_at_call 123
   refine (sec m hm em _).mono ?_
   rintro e wB ⟨rfl,hbB⟩
   refine hK.out _ _ ?_ (fun hHeld => ?_)
   ·exact hHeld.call hbB
   clear hK K
   try simp only [Act.put,pq]
   refine wpAnyH_ready (rs:=[5]) (by kernel_rfl) (by simp) ?_
   refine AllReadyH.cons rfl (fun K hK => ?_) AllReadyH.nil
   go_simp
   go_at_call 123
   refine (sed _).mono ?_
   rintro e wC ⟨rfl,hbC⟩
   refine hK.out _ _ ?_ (fun hHeld => ?_)
   ·exact hHeld.call hbC
   clear hK K
   try simp only [Act.put,pq]
   refine take1 (i:=6) (v := ?_) 16 rfl rfl (by kernel_rfl) (by kernel_rfl) (by kernel_rfl) (fun _ _ _ h=>h) (Or.inl ⟨by rfl,?_⟩) hHeld ?_
   rotate_left 1
   ·intro w hSw;go_simp <;> with_reducible rfl
   simp only [Act.put,pq]
   refine wpAnyH_done (by kernel_rfl) ?_ _
   go_wp2_with fail
   obtain ⟨x2,hx2⟩ : ∃ x,x=wC:=⟨_,rfl⟩
   rw [←hx2] at hHeld ⊢
   have HS2:Hid (SS w [(w.heap.size,nl n,120),(q,nl s,120)] (w.heap.size+1) 4 x2):=hHeld
   clear hHeld hx2
   refine wp_region_held_drew (S:=(fun w'=>SS w [(w.heap.size,nl n,120),(q,nl s,120)] (w.heap.size+1) 4 w')) (by kernel_rfl) ?_ (fun hHeld => ?_)
   ·exact HS2.out.drew
   refine take1 (i:=0) (v:=_) 18 rfl rfl (by kernel_rfl) (by kernel_rfl) (by kernel_rfl) (fun _ _ _ h=>h) (yieldsIf_load_mid (by rfl) _ _ rfl _ _ rfl _ _ (fun w h=>h.range (i:=1) rfl) Tryz.underlying120 rfl (i4 s)) hHeld ?_
   simp only [Act.put,pq]
   refine wpAnyH_ready (rs:=[1]) (by kernel_rfl) (by simp) ?_
   refine AllReadyH.cons rfl (fun K hK => ?_) (AllReadyH.nil)
   go_simp
   go_at_call 140
   refine (rootM_any _).mono ?_
   rintro e wD ⟨rfl,hbD⟩
   refine hK.out _ _ ?_ (fun hHeld => ?_)
   ·exact hHeld.call hbD
   clear hK K
   try simp only [Act.put,pq]
   refine wpAnyH_ready (rs:=[2]) (by kernel_rfl) (by simp) ?_
   refine AllReadyH.cons rfl (fun K hK => ?_) (AllReadyH.nil)
   go_simp
   go_at_call 111
   refine (ml s IN hs IN_lt _).mono ?_
   rintro e wE ⟨z,hz,rfl,ez,hbE⟩
   have hT:=((HS2.out.drew.call hbD).call hbE).there
   refine hK.out _ _ ?_ (fun hHeld => ?_)
   ·exact hHeld.call hbE
   clear hK K
   try simp only [Act.put,pq]
   refine wpAnyH_ready (rs:=[3]) (by kernel_rfl) (by simp) ?_
   refine AllReadyH.cons rfl (fun K hK => ?_) (AllReadyH.nil)
   rw [if_pos (by rfl)]
   refine wp_store_mid _ _ _ rfl _ _ (nl z).toArray rfl rfl hT (i4 z) (four_one z) ?_
   refine hK.out _ _ ?_ (fun hHeld => ?_)
   ·exact hHeld.store (by omega) (ne2 (by omega) (by omega)) _
   clear hK K
   try simp only [Act.put,pq]
   refine wpAnyH_done (by kernel_rfl) ?_ _
   go_wp2
   refine bodyPost_ret (v := .agg (nl z).toArray) (results_mid Tryz.results135 _ _ (w.heap.size+1) 0 (nl z) _ rfl (World.rangeAt_setCells_same _ _ _ _ hT) Tryz.underlying120 rfl (i4 z)) rfl ⟨z,hz,rfl,?_,hHeld.below⟩
   rw [rt,if_neg HD.out,ez,Nat.mul_mod,HX.out,Nat.mul_mod_mod]
theorem and1 (m:Nat):bits .and .u64 (lw m 0) 1=((m % 2:Nat):Int):=by
 have h:=bits_and_u64_nat (m/18446744073709551616 ^ 0 % 18446744073709551616) 1 (Nat.mod_lt _ (by decide)) (by decide)
 rw [Nat.and_one_is_mod,Nat.pow_zero,Nat.div_one] at h
 rw [lw,Nat.pow_zero,Nat.div_one]
 refine Eq.trans h ?_
 omega
set_option maxHeartbeats 1000000 in
theorem even_nat (n:Nat) (hn:n<RN) (w:World) :
  Calls Tryz.prog 136 #[nv n] w fun e w' => ∃ s,s<RN∧e = .returned (nv s)∧s % pp=ev (n % pp)∧Below w.heap.size w w':=by
 obtain ⟨m,hm⟩ : ∃ m,m=n % pp:=⟨_,rfl⟩
 have hml:m<pp:=by rw [hm];exact Nat.mod_lt _ (by decide)
 have hmr:m<RN:=Nat.lt_trans hml pp_lt
 have se:=settle_nat n hn
 rw [←hm] at se ⊢
 clear hm
 have sb:=sub_nat 0 m (by decide) hmr
 have ha:=and1 m
 have l0:lw 0 0=0:=by decide
 have l1:lw 0 1=0:=by decide
 have l2:lw 0 2=0:=by decide
 have l3:lw 0 3=0:=by decide
 simp only [nv,l0,l1,l2,l3] at *
 clear l0 l1 l2 l3
 go_enter Tryz.func136,Tryz.ntmps136
 go_wp2_with fail
 refine (se _).mono ?_
 rintro e w1 ⟨rfl,hb⟩
 simp only [Num.v]
 have HB1:Hid (Below w.heap.size w w1):=chain (w:=((w.alloc (.cells #[.int .u64 (lw n 0),.int .u64 (lw n 1),.int .u64 (lw n 2),.int .u64 (lw n 3)] 120)).alloc (.cells #[.int .u64 0,.int .u64 0,.int .u64 0,.int .u64 0] 120))) (Below.alloc (Below.alloc (Below.refl w.heap.size w) ((Below.refl w.heap.size w)).size _) ((Below.alloc (Below.refl w.heap.size w) ((Below.refl w.heap.size w)).size _)).size _) hb
 have z1:w.heap.size+2≤w1.heap.size:=by have:=(show Below (((w.alloc (.cells #[.int .u64 (lw n 0),.int .u64 (lw n 1),.int .u64 (lw n 2),.int .u64 (lw n 3)] 120)).alloc (.cells #[.int .u64 0,.int .u64 0,.int .u64 0,.int .u64 0] 120))).heap.size ((w.alloc (.cells #[.int .u64 (lw n 0),.int .u64 (lw n 1),.int .u64 (lw n 2),.int .u64 (lw n 3)] 120)).alloc (.cells #[.int .u64 0,.int .u64 0,.int .u64 0,.int .u64 0] 120)) w1 from hb).size;(try simp only [set4_size,World.size_alloc] at this);omega
 have B_n_1:w1.heap[w.heap.size]? = some (.cells #[.int .u64 (lw n 0),.int .u64 (lw n 1),.int .u64 (lw n 2),.int .u64 (lw n 3)] 120):=keep' (w:=((w.alloc (.cells #[.int .u64 (lw n 0),.int .u64 (lw n 1),.int .u64 (lw n 2),.int .u64 (lw n 3)] 120)).alloc (.cells #[.int .u64 0,.int .u64 0,.int .u64 0,.int .u64 0] 120))) hb ((heap_alloc_past _ _ _ (lt_of_heap (heap_alloc_here _ _ _ (by simp)))).trans (heap_alloc_here _ _ _ (by simp)))
 have B_r_1:w1.heap[w.heap.size+1]? = some (.cells #[.int .u64 0,.int .u64 0,.int .u64 0,.int .u64 0] 120):=keep' (w:=((w.alloc (.cells #[.int .u64 (lw n 0),.int .u64 (lw n 1),.int .u64 (lw n 2),.int .u64 (lw n 3)] 120)).alloc (.cells #[.int .u64 0,.int .u64 0,.int .u64 0,.int .u64 0] 120))) hb (heap_alloc_here _ _ _ (by simp))
 clear hb
 have l_n_1:w.heap.size<w1.heap.size:=lt_of_heap B_n_1
 have l_r_1:w.heap.size+1<w1.heap.size:=lt_of_heap B_r_1
 obtain ⟨c_n_1_0,c_n_1_1,c_n_1_2,c_n_1_3,f_n_1_0,f_n_1_1,f_n_1_2,f_n_1_3⟩:=four B_n_1
 obtain ⟨c_r_1_0,c_r_1_1,c_r_1_2,c_r_1_3,f_r_1_0,f_r_1_1,f_r_1_2,f_r_1_3⟩:=four B_r_1
 by_cases hodd:m % 2=1
 ·rw [hodd] at ha
  go_wp2_with fail
  refine (sb _).mono ?_
  rintro e w2 ⟨s,hs,rfl,es,hb⟩
  simp only [Num.v]
  have HB2:Hid (Below w.heap.size w w2):=chain (w:=(set4 w1 (w.heap.size) (.int .u64 (lw m 0)) (.int .u64 (lw m 1)) (.int .u64 (lw m 2)) (.int .u64 (lw m 3)))) (below_set4 HB1.out (by omega) _ _ _ _) hb
  have z2:w1.heap.size+0≤w2.heap.size:=by have:=(show Below ((set4 w1 (w.heap.size) (.int .u64 (lw m 0)) (.int .u64 (lw m 1)) (.int .u64 (lw m 2)) (.int .u64 (lw m 3)))).heap.size (set4 w1 (w.heap.size) (.int .u64 (lw m 0)) (.int .u64 (lw m 1)) (.int .u64 (lw m 2)) (.int .u64 (lw m 3))) w2 from hb).size;(try simp only [set4_size,World.size_alloc] at this);omega
  have B_n_2:w2.heap[w.heap.size]? = some (.cells #[.int .u64 (lw m 0),.int .u64 (lw m 1),.int .u64 (lw m 2),.int .u64 (lw m 3)] 120):=keep' (w:=(set4 w1 (w.heap.size) (.int .u64 (lw m 0)) (.int .u64 (lw m 1)) (.int .u64 (lw m 2)) (.int .u64 (lw m 3)))) hb (set4_here _ _ _ _ B_n_1)
  have B_r_2:w2.heap[w.heap.size+1]? = some (.cells #[.int .u64 0,.int .u64 0,.int .u64 0,.int .u64 0] 120):=keep' (w:=(set4 w1 (w.heap.size) (.int .u64 (lw m 0)) (.int .u64 (lw m 1)) (.int .u64 (lw m 2)) (.int .u64 (lw m 3)))) hb ((set4_past _ _ _ _ _ _ _ (by omega)).trans B_r_1)
  clear hb
  have l_n_2:w.heap.size<w2.heap.size:=lt_of_heap B_n_2
  have l_r_2:w.heap.size+1<w2.heap.size:=lt_of_heap B_r_2
  obtain ⟨c_n_2_0,c_n_2_1,c_n_2_2,c_n_2_3,f_n_2_0,f_n_2_1,f_n_2_2,f_n_2_3⟩:=four B_n_2
  obtain ⟨c_r_2_0,c_r_2_1,c_r_2_2,c_r_2_3,f_r_2_0,f_r_2_1,f_r_2_2,f_r_2_3⟩:=four B_r_2
  go_wp2
  refine bodyPost_ret (v := .agg #[.int .u64 (lw s 0),.int .u64 (lw s 1),.int .u64 (lw s 2),.int .u64 (lw s 3)]) (results_mid Tryz.results136 _ _ (w.heap.size+1) 0 [.int .u64 (lw s 0),.int .u64 (lw s 1),.int .u64 (lw s 2),.int .u64 (lw s 3)] _ rfl (range4 (w:=(set4 w2 (w.heap.size+1) (.int .u64 (lw s 0)) (.int .u64 (lw s 1)) (.int .u64 (lw s 2)) (.int .u64 (lw s 3)))) (t:=120) (set4_here _ _ _ _ B_r_2)) Tryz.underlying120 rfl (by kernel_rfl)) rfl ⟨s,hs,rfl,?_,(below_set4 HB2.out (by omega) _ _ _ _)⟩
  have hm0:m % pp=m:=Nat.mod_eq_of_lt hml
  rw [es,ev,if_pos hodd,hm0,Nat.zero_add]
  exact Nat.mod_eq_of_lt (by omega)
 ·have h0:m % 2=0:=by omega
  rw [h0] at ha
  go_wp2
  refine bodyPost_ret (v := .agg #[.int .u64 (lw m 0),.int .u64 (lw m 1),.int .u64 (lw m 2),.int .u64 (lw m 3)]) (results_mid Tryz.results136 _ _ (w.heap.size+1) 0 [.int .u64 (lw m 0),.int .u64 (lw m 1),.int .u64 (lw m 2),.int .u64 (lw m 3)] _ rfl (range4 (w:=(set4 (set4 w1 (w.heap.size) (.int .u64 (lw m 0)) (.int .u64 (lw m 1)) (.int .u64 (lw m 2)) (.int .u64 (lw m 3))) (w.heap.size+1) (.int .u64 (lw m 0)) (.int .u64 (lw m 1)) (.int .u64 (lw m 2)) (.int .u64 (lw m 3)))) (t:=120) (set4_here _ _ _ _ ((set4_past _ _ _ _ _ _ _ (by omega)).trans B_r_1))) Tryz.underlying120 rfl (by kernel_rfl)) rfl ⟨m,hmr,rfl,?_,(below_set4 (below_set4 HB1.out (by omega) _ _ _ _) (by omega) _ _ _ _)⟩
  rw [ev,if_neg hodd]
  exact Nat.mod_eq_of_lt hml
end Go.Proofs.YtlihbglpdkeppaaGreatDoor
namespace Go.Proofs.YtlihbglpdkeppaaGreatDoor
open Go Go.RowKit Go.Lib
def sqv (a:Nat):Nat:=if rt a*rt a % pp=a % pp then ev (rt a) else 0
def sqe (a:Nat):Int:=if rt a*rt a % pp=a % pp then 0 else 4
set_option maxRecDepth 100000 in
set_option maxHeartbeats 4000000 in
theorem Sqrt_any (a:Nat) (ha:a<RN) (w:World) :
  Calls Tryz.prog 117 #[bv a] w fun e w'=>e = .returned (.tuple #[bv (sqv a),.int .i64 (sqe a)])∧Below w.heap.size w w':=by
 have hz:=zero_32
 have ml : ∀ a b:Nat,a<RN→b<RN → ∀ w,Calls Tryz.prog 111 #[.agg (nl a).toArray,.agg (nl b).toArray] w fun e w' => ∃ s:Nat,s<RN∧e = .returned (.agg (nl s).toArray)∧s % pp=(a*b) % pp∧Below w.heap.size w w':=mul_nat
 have ld : ∀ n w,Calls Tryz.prog 110 #[Value.agg (bl n).toArray] w fun e w'=>e = .returned (.agg (nl n).toArray)∧Below w.heap.size w w':=load_any
 have st : ∀ n,n<RN → ∀ w,Calls Tryz.prog 108 #[.agg (nl n).toArray] w fun e w'=>e = .returned (.agg (bl (n % pp)).toArray)∧Below w.heap.size w w':=store_any
 have ro : ∀ n,n<RN → ∀ w,Calls Tryz.prog 135 #[.agg (nl n).toArray] w fun e w' => ∃ s,s<RN∧e = .returned (.agg (nl s).toArray)∧s % pp=rt n∧Below w.heap.size w w':=root_nat
 have eo : ∀ n,n<RN → ∀ w,Calls Tryz.prog 136 #[.agg (nl n).toArray] w fun e w' => ∃ s,s<RN∧e = .returned (.agg (nl s).toArray)∧s % pp=ev (n % pp)∧Below w.heap.size w w':=even_nat
 have HS:Hid (SS w _ _ _ _):=SS.one32 w a
 have HC:Hid (World.rangeAt _ w.heap.size 0 (bl a)):=HS.out.range (i:=0) rfl
 have hza:(bl a).toArray.size=32:=br_size a
 have hz0:(bl 0).toArray.size=32:=br_size 0
 simp only [bv,br] at hz ⊢
 go_enter Tryz.func117,Tryz.ntmps117
 go_wp2_with (refine wpList_load_mid rfl 22 _ rfl w.heap.size 0 rfl (bl a) _ HC.out Tryz.underlying22 rfl (i32 a) ?_)
 refine (ld a _).mono ?_
 rintro e w1 ⟨rfl,hb1⟩
 have S1:=HS.out.call hb1
 have lr1:=S1.rlt
 have HS1a:Hid (SS w [(w.heap.size,bl a,22),(w1.heap.size,nl a,120)] (w.heap.size+1) 32 (w1.alloc (.cells (nl a).toArray 120))):=(S1.alloc _).add (nl a) _ (heap_alloc_here _ _ _ rfl)
 clear HC HS hb1 S1
 go_wp2_with fail
 refine (ro a ha _).mono ?_
 rintro e w2 ⟨s,hs,rfl,es,hb2⟩
 have S2:=HS1a.out.call hb2
 have lr2:=S2.rlt
 have HX:Hid (s % pp=rt a):=es
 have HS2a:Hid (SS w [(w.heap.size,bl a,22),(w1.heap.size,nl a,120),(w2.heap.size,nl s,120)] (w.heap.size+1) 32 (w2.alloc (.cells (nl s).toArray 120))):=(S2.alloc _).add (nl s) _ (heap_alloc_here _ _ _ rfl)
 have l12:w1.heap.size<w2.heap.size:=S2.lt _ (List.mem_of_getElem? (i:=1) rfl)
 clear hb2 S2 HS1a es
 obtain ⟨c,hc⟩ : ∃ c,c=s*s % pp:=⟨_,rfl⟩
 obtain ⟨d,hd⟩ : ∃ d,d=a % pp:=⟨_,rfl⟩
 have hcl:c<RN:=by rw [hc];exact mod_lt_RN _
 have hdl:d<RN:=by rw [hd];exact mod_lt_RN _
 have sec : ∀ m,m<RN→m % pp=s*s % pp → ∀ w,Calls Tryz.prog 123 #[.agg (nl m).toArray] w fun e w'=>e = .returned (.agg (nl c).toArray)∧Below w.heap.size w w':=fun m hm e w=>by
  have:=settle_nat m hm w
  rw [e,←hc] at this
  exact this
 have sed : ∀ w,Calls Tryz.prog 123 #[.agg (nl a).toArray] w fun e w'=>e = .returned (.agg (nl d).toArray)∧Below w.heap.size w w':=fun w=>by
  have:=settle_nat a ha w
  rw [←hd] at this
  exact this
 have heq : ∀ w,(Op.equalIn 10000 120 (.agg (nl c).toArray) (.agg (nl d).toArray)).run Tryz.prog w = .ok (decide (c=d)) w:=eq_num c d hcl hdl
 have HCC:Hid (c=rt a*rt a % pp):=hc.trans (sq_of HX.out)
 have HDD:Hid (d=a % pp):=hd
 clear hc hd
 by_cases hcd:c=d
 ·rw [decide_eq_true hcd] at heq
  have HD:Hid (rt a*rt a % pp=a % pp):=by show _=_;rw [←HCC.out,hcd,HDD.out]
  go_wp2_with fail
  obtain ⟨x1,hx1⟩ : ∃ x,x=w2.alloc (.cells (nl s).toArray 120):=⟨_,rfl⟩
  have HS1:Hid (SS w [(w.heap.size,bl a,22),(w1.heap.size,nl a,120),(w2.heap.size,nl s,120)] (w.heap.size+1) 32 x1):=by rw [hx1];exact HS2a.out
  rw [←hx1]
  clear hx1 HS2a
  refine wp_region_held_drew (S:=(fun w'=>SS w [(w.heap.size,bl a,22),(w1.heap.size,nl a,120),(w2.heap.size,nl s,120)] (w.heap.size+1) 32 w')) (by kernel_rfl) ?_ (fun hHeld => ?_)
  ·exact HS1.out.drew
  refine take1 (i:=0) (v:=_) 10 rfl rfl (by kernel_rfl) (by kernel_rfl) (by kernel_rfl) (fun _ _ _ h=>h) (yieldsIf_load_mid (by rfl) _ _ rfl _ _ rfl _ _ (fun w h=>h.range (i:=2) rfl) Tryz.underlying120 rfl (i4 s)) hHeld ?_
  simp only [Act.put,pq]
  refine take1 (i:=1) (v:=_) 11 rfl rfl (by kernel_rfl) (by kernel_rfl) (by kernel_rfl) (fun _ _ _ h=>h) (yieldsIf_load_mid (by rfl) _ _ rfl _ _ rfl _ _ (fun w h=>h.range (i:=2) rfl) Tryz.underlying120 rfl (i4 s)) hHeld ?_
  simp only [Act.put,pq]
  refine take1 (i:=4) (v:=_) 14 rfl rfl (by kernel_rfl) (by kernel_rfl) (by kernel_rfl) (fun _ _ _ h=>h) (yieldsIf_load_mid (by rfl) _ _ rfl _ _ rfl _ _ (fun w h=>h.range (i:=1) rfl) Tryz.underlying120 rfl (i4 a)) hHeld ?_
  simp only [Act.put,pq]
  refine wpAnyH_ready (rs:=[2]) (by kernel_rfl) (by simp) ?_
  refine AllReadyH.cons rfl (fun K hK => ?_) AllReadyH.nil
  go_simp
  go_at_call 111
  refine (ml s s hs hs _).mono ?_
  rintro e wA ⟨m,hm,rfl,em,hbA⟩
  refine hK.out _ _ ?_ (fun hHeld => ?_)
  ·exact hHeld.call hbA
  clear hK K
  try simp only [Act.put,pq]
  refine wpAnyH_ready (rs:=[3]) (by kernel_rfl) (by simp) ?_
  refine AllReadyH.cons rfl (fun K hK => ?_) AllReadyH.nil
  go_simp
  go_at_call 123
  refine (sec m hm em _).mono ?_
  rintro e wB ⟨rfl,hbB⟩
  refine hK.out _ _ ?_ (fun hHeld => ?_)
  ·exact hHeld.call hbB
  clear hK K
  try simp only [Act.put,pq]
  refine wpAnyH_ready (rs:=[5]) (by kernel_rfl) (by simp) ?_
  refine AllReadyH.cons rfl (fun K hK => ?_) AllReadyH.nil
  go_simp
  go_at_call 123
  refine (sed _).mono ?_
  rintro e wC ⟨rfl,hbC⟩
  refine hK.out _ _ ?_ (fun hHeld => ?_)
  ·exact hHeld.call hbC
  clear hK K
  try simp only [Act.put,pq]
  refine take1 (i:=6) (v := ?_) 16 rfl rfl (by kernel_rfl) (by kernel_rfl) (by kernel_rfl) (fun _ _ _ h=>h) (Or.inl ⟨by rfl,?_⟩) hHeld ?_
  rotate_left 1
  ·intro w hSw;go_simp <;> with_reducible rfl
  simp only [Act.put,pq]
  refine wpAnyH_done (by kernel_rfl) ?_ _
  have HS3:Hid (SS w [(w.heap.size,bl a,22),(w1.heap.size,nl a,120),(w2.heap.size,nl s,120)] (w.heap.size+1) 32 wC):=hHeld
  have HC:Hid (World.rangeAt _ w2.heap.size 0 (nl s)):=hHeld.range (i:=2) rfl
  clear hHeld HS1
  go_wp2_with (refine wpList_load_mid rfl 120 _ rfl w2.heap.size 0 rfl (nl s) _ HC.out Tryz.underlying120 rfl (i4 s) ?_)
  refine (eo s hs _).mono ?_
  rintro e wD ⟨z,hzl,rfl,ez,hbD⟩
  have HS4:Hid (SS w [(w.heap.size,bl a,22),(w1.heap.size,nl a,120),(w2.heap.size,nl s,120)] (w.heap.size+1) 32 wD):=HS3.out.call hbD
  have HZ:Hid (z % pp=ev (rt a)):=ez.trans (by rw [HX.out])
  clear HS3 HC hbD ez
  go_wp2_with fail
  refine (st z hzl _).mono ?_
  rintro e wE ⟨rfl,hbE⟩
  have HS5:Hid (SS w [(w.heap.size,bl a,22),(w1.heap.size,nl a,120),(w2.heap.size,nl s,120)] (w.heap.size+1) 32 wE):=HS4.out.call hbE
  have HT:Hid (wE.there (w.heap.size+1) 0 (br (z % pp)).size):=by rw [br_size];exact HS5.out.there
  clear HS4 hbE
  go_wp2_with (refine wpList_store_mid rfl 22 _ _ rfl (w.heap.size+1) 0 (br (z % pp)) rfl rfl HT.out (by rw [br_size];exact size_32) (br_one _) ?_)
  refine bodyPost_ret (v := .tuple #[.agg (bl (z % pp)).toArray,.int .i64 0]) (results_mid_tmp Tryz.results117 _ _ (w.heap.size+1) 0 (bl (z % pp)) _ _ rfl rfl (World.rangeAt_setCells_same _ _ _ _ HT.out) Tryz.underlying22 rfl (i32 _)) rfl ⟨?_,below_setCells _ (by omega) _ _ _ HS5.out.below⟩
  rw [HZ.out,sqv,sqe,if_pos HD.out,if_pos HD.out]
 ·rw [decide_eq_false hcd] at heq
  have HD:Hid (¬ rt a*rt a % pp=a % pp):=by show ¬ _=_;rw [←HCC.out,←HDD.out];exact hcd
  go_wp2_with fail
  obtain ⟨x1,hx1⟩ : ∃ x,x=w2.alloc (.cells (nl s).toArray 120):=⟨_,rfl⟩
  have HS1:Hid (SS w [(w.heap.size,bl a,22),(w1.heap.size,nl a,120),(w2.heap.size,nl s,120)] (w.heap.size+1) 32 x1):=by rw [hx1];exact HS2a.out
  rw [←hx1]
  clear hx1 HS2a
  refine wp_region_held_drew (S:=(fun w'=>SS w [(w.heap.size,bl a,22),(w1.heap.size,nl a,120),(w2.heap.size,nl s,120)] (w.heap.size+1) 32 w')) (by kernel_rfl) ?_ (fun hHeld => ?_)
  ·exact HS1.out.drew
  refine take1 (i:=0) (v:=_) 10 rfl rfl (by kernel_rfl) (by kernel_rfl) (by kernel_rfl) (fun _ _ _ h=>h) (yieldsIf_load_mid (by rfl) _ _ rfl _ _ rfl _ _ (fun w h=>h.range (i:=2) rfl) Tryz.underlying120 rfl (i4 s)) hHeld ?_
  simp only [Act.put,pq]
  refine take1 (i:=1) (v:=_) 11 rfl rfl (by kernel_rfl) (by kernel_rfl) (by kernel_rfl) (fun _ _ _ h=>h) (yieldsIf_load_mid (by rfl) _ _ rfl _ _ rfl _ _ (fun w h=>h.range (i:=2) rfl) Tryz.underlying120 rfl (i4 s)) hHeld ?_
  simp only [Act.put,pq]
  refine take1 (i:=4) (v:=_) 14 rfl rfl (by kernel_rfl) (by kernel_rfl) (by kernel_rfl) (fun _ _ _ h=>h) (yieldsIf_load_mid (by rfl) _ _ rfl _ _ rfl _ _ (fun w h=>h.range (i:=1) rfl) Tryz.underlying120 rfl (i4 a)) hHeld ?_
  simp only [Act.put,pq]
  refine wpAnyH_ready (rs:=[2]) (by kernel_rfl) (by simp) ?_
  refine AllReadyH.cons rfl (fun K hK => ?_) AllReadyH.nil
  go_simp
  go_at_call 111
  refine (ml s s hs hs _).mono ?_
  rintro e wA ⟨m,hm,rfl,em,hbA⟩
  refine hK.out _ _ ?_ (fun hHeld => ?_)
  ·exact hHeld.call hbA
  clear hK K
  try simp only [Act.put,pq]
  refine wpAnyH_ready (rs:=[3]) (by kernel_rfl) (by simp) ?_
  refine AllReadyH.cons rfl (fun K hK => ?_) AllReadyH.nil
  go_simp
  go_at_call 123
  refine (sec m hm em _).mono ?_
  rintro e wB ⟨rfl,hbB⟩
  refine hK.out _ _ ?_ (fun hHeld => ?_)
  ·exact hHeld.call hbB
  clear hK K
  try simp only [Act.put,pq]
  refine wpAnyH_ready (rs:=[5]) (by kernel_rfl) (by simp) ?_
  refine AllReadyH.cons rfl (fun K hK => ?_) AllReadyH.nil
  go_simp
  go_at_call 123
  refine (sed _).mono ?_
  rintro e wC ⟨rfl,hbC⟩
  refine hK.out _ _ ?_ (fun hHeld => ?_)
  ·exact hHeld.call hbC
  clear hK K
  try simp only [Act.put,pq]
  refine take1 (i:=6) (v := ?_) 16 rfl rfl (by kernel_rfl) (by kernel_rfl) (by kernel_rfl) (fun _ _ _ h=>h) (Or.inl ⟨by rfl,?_⟩) hHeld ?_
  rotate_left 1
  ·intro w hSw;go_simp <;> with_reducible rfl
  simp only [Act.put,pq]
  refine wpAnyH_done (by kernel_rfl) ?_ _
  have HS5:Hid (SS w [(w.heap.size,bl a,22),(w1.heap.size,nl a,120),(w2.heap.size,nl s,120)] (w.heap.size+1) 32 wC):=hHeld
  have HT:Hid (wC.there (w.heap.size+1) 0 (br 0).size):=by rw [br_size];exact hHeld.there
  clear hHeld HS1
  go_wp2_with (refine wpList_store_mid rfl 22 _ _ rfl (w.heap.size+1) 0 (br 0) rfl (by exact congrArg Value.agg lit0) HT.out (by rw [br_size];exact size_32) (br_one _) ?_)
  refine bodyPost_ret (v := .tuple #[.agg (bl 0).toArray,.int .i64 4]) (results_mid_tmp Tryz.results117 _ _ (w.heap.size+1) 0 (bl 0) _ _ rfl rfl (World.rangeAt_setCells_same _ _ _ _ HT.out) Tryz.underlying22 rfl (i32 _)) rfl ⟨?_,below_setCells _ (by omega) _ _ _ HS5.out.below⟩
  rw [sqv,sqe,if_neg HD.out,if_neg HD.out]
end Go.Proofs.YtlihbglpdkeppaaGreatDoor
