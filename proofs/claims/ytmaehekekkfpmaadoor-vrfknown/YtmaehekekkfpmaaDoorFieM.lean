/- Package field: squared, ones, inverse, Inv. -/
import Derived.Test.YtmaehekekkfpmaaDoorFieI
import Derived.Test.YtmaehekekkfpmaaDoorFeB
import Derived.Deep.CutRange
set_option linter.unusedSimpArgs false
set_option linter.unusedVariables false
namespace Go.Proofs.YtmaehekekkfpmaaDoor
open Go Go.RowKit Go.Lib
abbrev nl (n:Nat):List Value:=[.int .u64 (lw n 0),.int .u64 (lw n 1),.int .u64 (lw n 2),.int .u64 (lw n 3)]
theorem SS.lt {w0:World} {bs:List (Nat × List Value × TypeId)} {r n:Nat} {w:World} (h:SS w0 bs r n w) : ∀ b ∈ bs,b.1<w.heap.size:=fun b hb=>by
 obtain ⟨i,hi⟩:=List.mem_iff_getElem?.1 hb
 exact lt_of_heap (h.holds i b.1 b.2.1 b.2.2 hi)
theorem SS.put {w0:World} {bs:List (Nat × List Value × TypeId)} {r n q:Nat} {w:World} (h:SS w0 bs r n w) (hq:w0.heap.size≤q) (hne : ∀ b ∈ bs,b.1<q) (vs:List Value):SS w0 bs r n (w.setCells q 0 vs) :=
 ⟨below_setCells _ hq _ _ _ h.below,fun i g L t hm=>(heap_setCells_past q g (by have:=hne _ (List.mem_of_getElem? hm);simp only at this;omega) vs 0 w).trans (h.holds i g L t hm),World.there_setCells h.there _ _ _⟩
theorem SS.add {w0:World} {bs:List (Nat × List Value × TypeId)} {r n q:Nat} {w:World} (h:SS w0 bs r n w) (L:List Value) (t:TypeId) (hq:w.heap[q]? = some (.cells L.toArray t (0,0))):SS w0 (bs ++ [(q,L,t)]) r n w:=by
 refine ⟨h.below,?_,h.there⟩
 intro i g L' t' hm
 rw [List.getElem?_append] at hm
 split at hm
 ·exact h.holds i g L' t' hm
 ·rename_i hi
  rcases Nat.lt_or_ge (i - bs.length) 1 with hl | hl
  ·rw [show i - bs.length=0 by omega] at hm
   simp only [List.getElem?_cons_zero,Option.some.injEq,Prod.mk.injEq] at hm
   obtain ⟨rfl,rfl,rfl⟩:=hm
   exact hq
  ·rw [List.getElem?_eq_none (by simp;omega)] at hm
   cases hm
theorem set_row4 {w:World} {q:Nat} {x0 x1 x2 x3 y0 y1 y2 y3:Value} {t:TypeId} (h:w.heap[q]? = some (.cells #[x0,x1,x2,x3] t (0,0))):(w.setCells q 0 [y0,y1,y2,y3]).heap[q]? = some (.cells #[y0,y1,y2,y3] t (0,0)):=set4_here y0 y1 y2 y3 h
theorem four_one (n:Nat):(nl n).toArray.all (·.oneCell')=true:=all_oneCell_toArray (fun v hv=>by
 simp only [List.mem_cons,List.not_mem_nil,or_false] at hv
 rcases hv with rfl | rfl | rfl | rfl <;> rfl)
theorem i4 (n:Nat):(Tryd.prog.info? 94).map (·.size)=some (nl n).length:=by kernel_rfl
theorem SS.num (w:World) (n:Nat):SS w [(w.heap.size,nl n,94)] (w.heap.size+1) 4 ((w.alloc (.cells (nl n).toArray 94)).alloc (.cells #[.int .u64 0,.int .u64 0,.int .u64 0,.int .u64 0] 94)):=by
 refine ⟨((Below.refl _ _).alloc (Nat.le_refl _) _).alloc (by simp) _,?_,there_of_row (heap_alloc_here _ _ _ (by simp)) 0 4 (by simp)⟩
 intro i g L t hm
 match i,hm with
 | 0,hm =>
  cases hm
  exact (heap_alloc_past _ _ _ (by simp)).trans (heap_alloc_here _ _ _ rfl)
theorem squared_nat (n t:Nat) (hn:n<RN) (ht:t<1000) (w:World) :
  Calls Tryd.prog 77 #[nv n,.int .i64 t] w fun e w' => ∃ s,s<RN∧e = .returned (nv s)∧s % pp=n ^ 2 ^ t % pp∧Below w.heap.size w w':=by
 refine (calls_of_SW (m:=[]) (r:=fun _=>none) Tryd.func77 (by kernel_rfl) (Fe.sq_SW n t hn ht) (Rel.nil w) (by simp) (trL_mk (tr_flat _ _ rfl) (trL_mk (tr_flat _ _ rfl) rfl))).mono ?_
 rintro e w' ⟨u,rfl,rfl,hb⟩
 exact ⟨Fe.sqN n t,Fe.sqN_lt n hn t,rfl,Fe.sqN_mod n hn t,hb⟩
def tw (k:Nat):Nat:=2 ^ k
def rn (k:Nat):Nat:=2 ^ k - 1
theorem squared_tw (n t:Nat) (hn:n<RN) (ht:t<1000) (w:World) :
  Calls Tryd.prog 77 #[nv n,.int .i64 t] w fun e w' => ∃ s,s<RN∧e = .returned (nv s)∧s % pp=n ^ tw t % pp∧Below w.heap.size w w':=squared_nat n t hn ht w
theorem SS.rlt {w0:World} {bs:List (Nat × List Value × TypeId)} {r n:Nat} {w:World} (h:SS w0 bs r (n+1) w):r<w.heap.size:=lt_of_cell (h.there 0 (by omega)).1
theorem SS.pick2 {w0:World} {bs:List (Nat × List Value × TypeId)} {r n:Nat} {w:World} (h:SS w0 bs r n w) (i j:Nat) {x y:Nat × List Value × TypeId} (hi:bs[i]? = some x) (hj:bs[j]? = some y):SS w0 [x,y] r n w:=by
 refine ⟨h.below,fun k g L t hm => ?_,h.there⟩
 match k,hm with
 | 0,hm=>cases hm;exact h.holds i g L t hi
 | 1,hm=>cases hm;exact h.holds j g L t hj
theorem row_rn (n k:Nat) (A:Value) (h:Fe.Row n k A) : ∃ x,A=nv x∧x<RN∧x % pp=n ^ rn k % pp:=h
theorem ones_nat (n:Nat) (hn:n<RN) (w:World) :
  Calls Tryd.prog 78 #[nv n] w fun e w' => ∃ s,s<RN∧e = .returned (nv s)∧s % pp=n ^ rn 250 % pp∧Below w.heap.size w w':=by
 refine (Fe.ones_any n hn w).mono ?_
 rintro e w' ⟨rfl,hb⟩
 obtain ⟨x,hx,h1,h2⟩:=row_rn n 250 _ (Fe.row250 n hn)
 rw [hx]
 exact ⟨x,h1,rfl,h2,hb⟩
end Go.Proofs.YtmaehekekkfpmaaDoor
/- Package field: inverse, Inv. -/
namespace Go.Proofs.YtmaehekekkfpmaaDoor
open Go Go.RowKit Go.Lib
theorem pow_mul (n A B D x y s:Nat) (hD:A+B=D) (h1:x % pp=n ^ A % pp) (h2:y % pp=n ^ B % pp) (h3:s % pp=x*y % pp):s % pp=n ^ D % pp:=by
 subst hD
 rw [h3,Nat.mul_mod,h1,h2,←Nat.mul_mod,←Nat.pow_add]
theorem pow_comb (n A B C D o u t s:Nat) (hD:A*B+C=D) (h1:o % pp=n ^ A % pp) (h2:u % pp=o ^ B % pp) (h3:t % pp=n ^ C % pp) (h4:s % pp=u*t % pp):s % pp=n ^ D % pp:=by
 subst hD
 rw [h4,Nat.mul_mod,h2,h3,Nat.pow_mod,h1,←Nat.pow_mod,←Nat.mul_mod,←Nat.pow_mul,←Nat.pow_add]
theorem powOne (n:Nat):n % pp=n ^ 1 % pp:=by rw [Nat.pow_one]
set_option maxRecDepth 100000 in
set_option maxHeartbeats 4000000 in
theorem inverse_nat (n:Nat) (hn:n<RN) (w:World) :
  Calls Tryd.prog 62 #[nv n] w fun e w' => ∃ s,s<RN∧e = .returned (nv s)∧s % pp=n ^ (pp - 2) % pp∧Below w.heap.size w w':=by
 have ml : ∀ a b:Nat,a<RN→b<RN → ∀ w,Calls Tryd.prog 64 #[.agg (nl a).toArray,.agg (nl b).toArray] w fun e w' => ∃ s:Nat,s<RN∧e = .returned (.agg (nl s).toArray)∧s % pp=(a*b) % pp∧Below w.heap.size w w':=mul_nat
 have on : ∀ n:Nat,n<RN → ∀ w,Calls Tryd.prog 78 #[.agg (nl n).toArray] w fun e w' => ∃ s:Nat,s<RN∧e = .returned (.agg (nl s).toArray)∧s % pp=n ^ rn 250 % pp∧Below w.heap.size w w':=ones_nat
 have sq1 : ∀ n:Nat,n<RN → ∀ w,Calls Tryd.prog 77 #[.agg (nl n).toArray,.int .i64 1] w fun e w' => ∃ s:Nat,s<RN∧e = .returned (.agg (nl s).toArray)∧s % pp=n ^ tw 1 % pp∧Below w.heap.size w w':=fun n hn w=>squared_tw n 1 hn (by decide) w
 have sq3 : ∀ n:Nat,n<RN → ∀ w,Calls Tryd.prog 77 #[.agg (nl n).toArray,.int .i64 3] w fun e w' => ∃ s:Nat,s<RN∧e = .returned (.agg (nl s).toArray)∧s % pp=n ^ tw 3 % pp∧Below w.heap.size w w':=fun n hn w=>squared_tw n 3 hn (by decide) w
 have sq5 : ∀ n:Nat,n<RN → ∀ w,Calls Tryd.prog 77 #[.agg (nl n).toArray,.int .i64 5] w fun e w' => ∃ s:Nat,s<RN∧e = .returned (.agg (nl s).toArray)∧s % pp=n ^ tw 5 % pp∧Below w.heap.size w w':=fun n hn w=>squared_tw n 5 hn (by decide) w
 have HS0:Hid (SS w _ _ _ _):=SS.num w n
 unfold nv
 go_enter Tryd.func62,Tryd.ntmps62
 go_wp2_with fail
 refine (sq1 n hn _).mono ?_
 rintro e w1 ⟨y,hy,rfl,ey,hb1⟩
 have S1:=HS0.out.call hb1
 have HY:Hid (y % pp=n ^ tw 1 % pp):=ey
 have lr:=S1.rlt
 have S2:Hid (SS w [(w.heap.size,nl n,94),(w1.heap.size,nl y,94)] (w.heap.size+1) 4 (w1.alloc (.cells (nl y).toArray 94))):=(S1.alloc _).add (nl y) _ (heap_alloc_here _ _ _ rfl)
 clear hb1 S1 HS0 ey
 go_wp2_with fail
 obtain ⟨x1,hx1⟩ : ∃ x,x=w1.alloc (.cells (nl y).toArray 94):=⟨_,rfl⟩
 have HS1:Hid (SS w [(w.heap.size,nl n,94),(w1.heap.size,nl y,94)] (w.heap.size+1) 4 x1):=by rw [hx1];exact S2.out
 rw [←hx1]
 clear hx1 S2
 go_cut [4] from 7 to 13 (fun sz wx => ∃ q s:Nat,sz = .pointer (some ⟨q,0,none⟩)∧s<RN∧s % pp=n ^ 11 % pp∧w.heap.size+1<q∧SS w [(w.heap.size,nl n,94),(w1.heap.size,nl y,94),(q,nl s,94)] (w.heap.size+1) 4 wx)
 case first =>
  refine wp_region_held_drew (S:=(fun w'=>SS w [(w.heap.size,nl n,94),(w1.heap.size,nl y,94)] (w.heap.size+1) 4 w')) (by kernel_rfl) ?_ (fun hHeld => ?_)
  ·exact HS1.out.drew
  refine take1 (i:=0) (v:=_) 7 rfl rfl (by kernel_rfl) (by kernel_rfl) (by kernel_rfl) (fun _ _ _ h=>h) (yieldsIf_load_mid (by rfl) _ _ rfl _ _ rfl _ _ (fun w h=>h.range (i:=0) rfl) Tryd.underlying94 rfl (i4 n)) hHeld ?_
  simp only [Act.put,List.setIfInBounds_toArray,List.set_cons_zero,List.set_cons_succ]
  refine take1 (i:=2) (v:=_) 9 rfl rfl (by kernel_rfl) (by kernel_rfl) (by kernel_rfl) (fun _ _ _ h=>h) (yieldsIf_load_mid (by rfl) _ _ rfl _ _ rfl _ _ (fun w h=>h.range (i:=1) rfl) Tryd.underlying94 rfl (i4 y)) hHeld ?_
  simp only [Act.put,List.setIfInBounds_toArray,List.set_cons_zero,List.set_cons_succ]
  refine take1 (i:=4) (v:=_) 11 rfl rfl (by kernel_rfl) (by kernel_rfl) (by kernel_rfl) (fun _ _ _ h=>h) (yieldsIf_load_mid (by rfl) _ _ rfl _ _ rfl _ _ (fun w h=>h.range (i:=0) rfl) Tryd.underlying94 rfl (i4 n)) hHeld ?_
  simp only [Act.put,List.setIfInBounds_toArray,List.set_cons_zero,List.set_cons_succ]
  refine wpAnyH_ready (rs:=[1,6]) (by kernel_rfl) (by simp) ?_
  refine AllReadyH.cons rfl (fun K hK => ?_) (AllReadyH.cons rfl (fun K hK => ?_) (AllReadyH.nil))
  ·go_simp
   go_at_call 77
   refine (sq3 n hn _).mono ?_
   rintro e wA ⟨y1,hy1,rfl,ey1,hbA⟩
   refine hK.out _ _ ?_ (fun hHeld => ?_)
   ·exact hHeld.call hbA
   clear hK K
   try simp only [Act.put,List.setIfInBounds_toArray,List.set_cons_zero,List.set_cons_succ]
   refine wpAnyH_ready (rs:=[3,6]) (by kernel_rfl) (by simp) ?_
   refine AllReadyH.cons rfl (fun K hK => ?_) (AllReadyH.cons rfl (fun K hK => ?_) (AllReadyH.nil))
   ·go_simp
    go_at_call 64
    refine (ml y1 y hy1 hy _).mono ?_
    rintro e wB ⟨z,hz,rfl,ez,hbB⟩
    refine hK.out _ _ ?_ (fun hHeld => ?_)
    ·exact hHeld.call hbB
    clear hK K
    try simp only [Act.put,List.setIfInBounds_toArray,List.set_cons_zero,List.set_cons_succ]
    refine wpAnyH_ready (rs:=[5,6]) (by kernel_rfl) (by simp) ?_
    refine AllReadyH.cons rfl (fun K hK => ?_) (AllReadyH.cons rfl (fun K hK => ?_) (AllReadyH.nil))
    ·go_simp
     go_at_call 64
     refine (ml z n hz hn _).mono ?_
     rintro e wC ⟨s,hs,rfl,es,hbC⟩
     refine hK.out _ _ ?_ (fun hHeld => ?_)
     ·exact hHeld.call hbC
     clear hK K
     try simp only [Act.put,List.setIfInBounds_toArray,List.set_cons_zero,List.set_cons_succ]
     refine wpAnyH_ready (rs:=[6]) (by kernel_rfl) (by simp) ?_
     refine AllReadyH.cons rfl (fun K hK => ?_) (AllReadyH.nil)
     have hlt:=hHeld.lt
     have hrq:=hHeld.rlt
     have hq:((wC).alloc (.cells #[.int .u64 0,.int .u64 0,.int .u64 0,.int .u64 0] 94)).heap[(wC).heap.size]? = some (.cells #[.int .u64 0,.int .u64 0,.int .u64 0,.int .u64 0] 94 (0,0)):=heap_alloc_here _ _ _ rfl
     have hqs:=hHeld.below.size
     go_simp
     refine hK.out _ _ ?_ (fun hHeld => ?_)
     ·exact hHeld.alloc _
     clear hK K
     try simp only [Act.put,List.setIfInBounds_toArray,List.set_cons_zero,List.set_cons_succ]
     refine wpAnyH_ready (rs:=[7]) (by kernel_rfl) (by simp) ?_
     refine AllReadyH.cons rfl (fun K hK => ?_) (AllReadyH.nil)
     rw [if_pos (by rfl)]
     refine wp_store_mid _ _ _ rfl _ _ (nl s).toArray rfl rfl (there_of_row hq 0 4 (by simp)) (i4 s) (four_one s) ?_
     refine hK.out _ _ ?_ (fun hHeld => ?_)
     ·exact hHeld.put hqs hlt _
     clear hK K
     try simp only [Act.put,List.setIfInBounds_toArray,List.set_cons_zero,List.set_cons_succ]
     refine wpAnyH_done (by kernel_rfl) ?_ _
     go_wp2_with fail
     go_meet
     exact ⟨_,s,rfl,hs,pow_mul n 10 1 11 z n s rfl (pow_mul n (tw 3) (tw 1) 10 y1 y z rfl ey1 HY.out ez) (powOne n) es,hrq,hHeld.add (nl s) _ (set_row4 hq)⟩
    ·have hlt:=hHeld.lt
     have hrq:=hHeld.rlt
     have hq:((wB).alloc (.cells #[.int .u64 0,.int .u64 0,.int .u64 0,.int .u64 0] 94)).heap[(wB).heap.size]? = some (.cells #[.int .u64 0,.int .u64 0,.int .u64 0,.int .u64 0] 94 (0,0)):=heap_alloc_here _ _ _ rfl
     have hqs:=hHeld.below.size
     go_simp
     refine hK.out _ _ ?_ (fun hHeld => ?_)
     ·exact hHeld.alloc _
     clear hK K
     try simp only [Act.put,List.setIfInBounds_toArray,List.set_cons_zero,List.set_cons_succ]
     refine wpAnyH_ready (rs:=[5]) (by kernel_rfl) (by simp) ?_
     refine AllReadyH.cons rfl (fun K hK => ?_) (AllReadyH.nil)
     go_simp
     go_at_call 64
     refine (ml z n hz hn _).mono ?_
     rintro e wC ⟨s,hs,rfl,es,hbC⟩
     refine hK.out _ _ ?_ (fun hHeld => ?_)
     ·exact hHeld.call hbC
     clear hK K
     try simp only [Act.put,List.setIfInBounds_toArray,List.set_cons_zero,List.set_cons_succ]
     have hq:=keep' hbC hq
     refine wpAnyH_ready (rs:=[7]) (by kernel_rfl) (by simp) ?_
     refine AllReadyH.cons rfl (fun K hK => ?_) (AllReadyH.nil)
     rw [if_pos (by rfl)]
     refine wp_store_mid _ _ _ rfl _ _ (nl s).toArray rfl rfl (there_of_row hq 0 4 (by simp)) (i4 s) (four_one s) ?_
     refine hK.out _ _ ?_ (fun hHeld => ?_)
     ·exact hHeld.put hqs hlt _
     clear hK K
     try simp only [Act.put,List.setIfInBounds_toArray,List.set_cons_zero,List.set_cons_succ]
     refine wpAnyH_done (by kernel_rfl) ?_ _
     go_wp2_with fail
     go_meet
     exact ⟨_,s,rfl,hs,pow_mul n 10 1 11 z n s rfl (pow_mul n (tw 3) (tw 1) 10 y1 y z rfl ey1 HY.out ez) (powOne n) es,hrq,hHeld.add (nl s) _ (set_row4 hq)⟩
   ·have hlt:=hHeld.lt
    have hrq:=hHeld.rlt
    have hq:((wA).alloc (.cells #[.int .u64 0,.int .u64 0,.int .u64 0,.int .u64 0] 94)).heap[(wA).heap.size]? = some (.cells #[.int .u64 0,.int .u64 0,.int .u64 0,.int .u64 0] 94 (0,0)):=heap_alloc_here _ _ _ rfl
    have hqs:=hHeld.below.size
    go_simp
    refine hK.out _ _ ?_ (fun hHeld => ?_)
    ·exact hHeld.alloc _
    clear hK K
    try simp only [Act.put,List.setIfInBounds_toArray,List.set_cons_zero,List.set_cons_succ]
    refine wpAnyH_ready (rs:=[3]) (by kernel_rfl) (by simp) ?_
    refine AllReadyH.cons rfl (fun K hK => ?_) (AllReadyH.nil)
    go_simp
    go_at_call 64
    refine (ml y1 y hy1 hy _).mono ?_
    rintro e wB ⟨z,hz,rfl,ez,hbB⟩
    refine hK.out _ _ ?_ (fun hHeld => ?_)
    ·exact hHeld.call hbB
    clear hK K
    try simp only [Act.put,List.setIfInBounds_toArray,List.set_cons_zero,List.set_cons_succ]
    have hq:=keep' hbB hq
    refine wpAnyH_ready (rs:=[5]) (by kernel_rfl) (by simp) ?_
    refine AllReadyH.cons rfl (fun K hK => ?_) (AllReadyH.nil)
    go_simp
    go_at_call 64
    refine (ml z n hz hn _).mono ?_
    rintro e wC ⟨s,hs,rfl,es,hbC⟩
    refine hK.out _ _ ?_ (fun hHeld => ?_)
    ·exact hHeld.call hbC
    clear hK K
    try simp only [Act.put,List.setIfInBounds_toArray,List.set_cons_zero,List.set_cons_succ]
    have hq:=keep' hbC hq
    refine wpAnyH_ready (rs:=[7]) (by kernel_rfl) (by simp) ?_
    refine AllReadyH.cons rfl (fun K hK => ?_) (AllReadyH.nil)
    rw [if_pos (by rfl)]
    refine wp_store_mid _ _ _ rfl _ _ (nl s).toArray rfl rfl (there_of_row hq 0 4 (by simp)) (i4 s) (four_one s) ?_
    refine hK.out _ _ ?_ (fun hHeld => ?_)
    ·exact hHeld.put hqs hlt _
    clear hK K
    try simp only [Act.put,List.setIfInBounds_toArray,List.set_cons_zero,List.set_cons_succ]
    refine wpAnyH_done (by kernel_rfl) ?_ _
    go_wp2_with fail
    go_meet
    exact ⟨_,s,rfl,hs,pow_mul n 10 1 11 z n s rfl (pow_mul n (tw 3) (tw 1) 10 y1 y z rfl ey1 HY.out ez) (powOne n) es,hrq,hHeld.add (nl s) _ (set_row4 hq)⟩
  ·have hlt:=hHeld.lt
   have hrq:=hHeld.rlt
   have hq:((x1.drew).alloc (.cells #[.int .u64 0,.int .u64 0,.int .u64 0,.int .u64 0] 94)).heap[(x1.drew).heap.size]? = some (.cells #[.int .u64 0,.int .u64 0,.int .u64 0,.int .u64 0] 94 (0,0)):=heap_alloc_here _ _ _ rfl
   have hqs:=hHeld.below.size
   go_simp
   refine hK.out _ _ ?_ (fun hHeld => ?_)
   ·exact hHeld.alloc _
   clear hK K
   try simp only [Act.put,List.setIfInBounds_toArray,List.set_cons_zero,List.set_cons_succ]
   refine wpAnyH_ready (rs:=[1]) (by kernel_rfl) (by simp) ?_
   refine AllReadyH.cons rfl (fun K hK => ?_) (AllReadyH.nil)
   go_simp
   go_at_call 77
   refine (sq3 n hn _).mono ?_
   rintro e wA ⟨y1,hy1,rfl,ey1,hbA⟩
   refine hK.out _ _ ?_ (fun hHeld => ?_)
   ·exact hHeld.call hbA
   clear hK K
   try simp only [Act.put,List.setIfInBounds_toArray,List.set_cons_zero,List.set_cons_succ]
   have hq:=keep' hbA hq
   refine wpAnyH_ready (rs:=[3]) (by kernel_rfl) (by simp) ?_
   refine AllReadyH.cons rfl (fun K hK => ?_) (AllReadyH.nil)
   go_simp
   go_at_call 64
   refine (ml y1 y hy1 hy _).mono ?_
   rintro e wB ⟨z,hz,rfl,ez,hbB⟩
   refine hK.out _ _ ?_ (fun hHeld => ?_)
   ·exact hHeld.call hbB
   clear hK K
   try simp only [Act.put,List.setIfInBounds_toArray,List.set_cons_zero,List.set_cons_succ]
   have hq:=keep' hbB hq
   refine wpAnyH_ready (rs:=[5]) (by kernel_rfl) (by simp) ?_
   refine AllReadyH.cons rfl (fun K hK => ?_) (AllReadyH.nil)
   go_simp
   go_at_call 64
   refine (ml z n hz hn _).mono ?_
   rintro e wC ⟨s,hs,rfl,es,hbC⟩
   refine hK.out _ _ ?_ (fun hHeld => ?_)
   ·exact hHeld.call hbC
   clear hK K
   try simp only [Act.put,List.setIfInBounds_toArray,List.set_cons_zero,List.set_cons_succ]
   have hq:=keep' hbC hq
   refine wpAnyH_ready (rs:=[7]) (by kernel_rfl) (by simp) ?_
   refine AllReadyH.cons rfl (fun K hK => ?_) (AllReadyH.nil)
   rw [if_pos (by rfl)]
   refine wp_store_mid _ _ _ rfl _ _ (nl s).toArray rfl rfl (there_of_row hq 0 4 (by simp)) (i4 s) (four_one s) ?_
   refine hK.out _ _ ?_ (fun hHeld => ?_)
   ·exact hHeld.put hqs hlt _
   clear hK K
   try simp only [Act.put,List.setIfInBounds_toArray,List.set_cons_zero,List.set_cons_succ]
   refine wpAnyH_done (by kernel_rfl) ?_ _
   go_wp2_with fail
   go_meet
   exact ⟨_,s,rfl,hs,pow_mul n 10 1 11 z n s rfl (pow_mul n (tw 3) (tw 1) 10 y1 y z rfl ey1 HY.out ez) (powOne n) es,hrq,hHeld.add (nl s) _ (set_row4 hq)⟩
 case rest =>
  obtain ⟨q,t,rfl,ht,et,lq,hss⟩:=hcut
  have HT:Hid (t % pp=n ^ 11 % pp):=et
  obtain ⟨x2,hx2⟩ : ∃ x,x=wc:=⟨_,rfl⟩
  rw [←hx2] at hss ⊢
  have HS2:Hid (SS w [(w.heap.size,nl n,94),(q,nl t,94)] (w.heap.size+1) 4 x2):=hss.pick2 0 2 rfl rfl
  clear et hss hx2
  go_wp2_with fail
  refine wp_region_held_drew (S:=(fun w'=>SS w [(w.heap.size,nl n,94),(q,nl t,94)] (w.heap.size+1) 4 w')) (by kernel_rfl) ?_ (fun hHeld => ?_)
  ·exact HS2.out.drew
  refine take1 (i:=0) (v:=_) 13 rfl rfl (by kernel_rfl) (by kernel_rfl) (by kernel_rfl) (fun _ _ _ h=>h) (yieldsIf_load_mid (by rfl) _ _ rfl _ _ rfl _ _ (fun w h=>h.range (i:=0) rfl) Tryd.underlying94 rfl (i4 n)) hHeld ?_
  simp only [Act.put,List.setIfInBounds_toArray,List.set_cons_zero,List.set_cons_succ]
  refine take1 (i:=3) (v:=_) 16 rfl rfl (by kernel_rfl) (by kernel_rfl) (by kernel_rfl) (fun _ _ _ h=>h) (yieldsIf_load_mid (by rfl) _ _ rfl _ _ rfl _ _ (fun w h=>h.range (i:=1) rfl) Tryd.underlying94 rfl (i4 t)) hHeld ?_
  simp only [Act.put,List.setIfInBounds_toArray,List.set_cons_zero,List.set_cons_succ]
  refine wpAnyH_ready (rs:=[1]) (by kernel_rfl) (by simp) ?_
  refine AllReadyH.cons rfl (fun K hK => ?_) (AllReadyH.nil)
  go_simp
  go_at_call 78
  refine (on n hn _).mono ?_
  rintro e wA ⟨o,ho,rfl,eo,hbA⟩
  refine hK.out _ _ ?_ (fun hHeld => ?_)
  ·exact hHeld.call hbA
  clear hK K
  try simp only [Act.put,List.setIfInBounds_toArray,List.set_cons_zero,List.set_cons_succ]
  refine wpAnyH_ready (rs:=[2]) (by kernel_rfl) (by simp) ?_
  refine AllReadyH.cons rfl (fun K hK => ?_) (AllReadyH.nil)
  go_simp
  go_at_call 77
  refine (sq5 o ho _).mono ?_
  rintro e wB ⟨u,hu,rfl,eu,hbB⟩
  refine hK.out _ _ ?_ (fun hHeld => ?_)
  ·exact hHeld.call hbB
  clear hK K
  try simp only [Act.put,List.setIfInBounds_toArray,List.set_cons_zero,List.set_cons_succ]
  refine wpAnyH_ready (rs:=[4]) (by kernel_rfl) (by simp) ?_
  refine AllReadyH.cons rfl (fun K hK => ?_) (AllReadyH.nil)
  go_simp
  go_at_call 64
  refine (ml u t hu ht _).mono ?_
  rintro e wC ⟨s,hs,rfl,es,hbC⟩
  have hT:=((HS2.out.drew.call hbA).call hbB |>.call hbC).there
  refine hK.out _ _ ?_ (fun hHeld => ?_)
  ·exact hHeld.call hbC
  clear hK K
  try simp only [Act.put,List.setIfInBounds_toArray,List.set_cons_zero,List.set_cons_succ]
  refine wpAnyH_ready (rs:=[5]) (by kernel_rfl) (by simp) ?_
  refine AllReadyH.cons rfl (fun K hK => ?_) (AllReadyH.nil)
  rw [if_pos (by rfl)]
  refine wp_store_mid _ _ _ rfl _ _ (nl s).toArray rfl rfl hT (i4 s) (four_one s) ?_
  refine hK.out _ _ ?_ (fun hHeld => ?_)
  ·exact hHeld.store (by omega) (ne2 (by omega) (by omega)) _
  clear hK K
  try simp only [Act.put,List.setIfInBounds_toArray,List.set_cons_zero,List.set_cons_succ]
  refine wpAnyH_done (by kernel_rfl) ?_ _
  go_wp2
  refine bodyPost_ret (v := .agg (nl s).toArray) (results_mid Tryd.results62 _ _ (w.heap.size+1) 0 (nl s) _ rfl (World.rangeAt_setCells_same _ _ _ _ hT) Tryd.underlying94 rfl (i4 s)) rfl ⟨s,hs,rfl,pow_comb n (rn 250) (tw 5) 11 (pp - 2) o u t s (by decide) eo eu HT.out es,hHeld.below⟩
theorem SS.one32 (w:World) (a:Nat):SS w [(w.heap.size,bl a,26)] (w.heap.size+1) 32 ((w.alloc (.cells (bl a).toArray 26)).alloc (.cells (bl 0).toArray 26)):=by
 refine ⟨((Below.refl _ _).alloc (Nat.le_refl _) _).alloc (by simp) _,?_,there_of_row (heap_alloc_here _ _ _ (by simp)) 0 32 (by have:=br_size 0;simp only [br] at this;omega)⟩
 intro i g L t hm
 match i,hm with
 | 0,hm =>
  cases hm
  exact (heap_alloc_past _ _ _ (by simp)).trans (heap_alloc_here _ _ _ rfl)
set_option maxRecDepth 100000 in
set_option maxHeartbeats 1000000 in
theorem Inv_any (a:Nat) (ha:a<RN) (w:World) :
  Calls Tryd.prog 39 #[bv a] w fun e w'=>e = .returned (bv (a ^ (pp - 2) % pp))∧Below w.heap.size w w':=by
 have hz:=zero_32
 have ld : ∀ n w,Calls Tryd.prog 63 #[Value.agg (bl n).toArray] w fun e w'=>e = .returned (nv n)∧Below w.heap.size w w':=load_any
 have st : ∀ n,n<RN → ∀ w,Calls Tryd.prog 61 #[nv n] w fun e w'=>e = .returned (.agg (bl (n % pp)).toArray)∧Below w.heap.size w w':=store_any
 have HS:Hid (SS w _ _ _ _):=SS.one32 w a
 have HC:Hid (World.rangeAt _ w.heap.size 0 (bl a)):=HS.out.range (i:=0) rfl
 have hza:(bl a).toArray.size=32:=br_size a
 have hz0:(bl 0).toArray.size=32:=br_size 0
 simp only [bv,br] at hz ⊢
 go_enter Tryd.func39,Tryd.ntmps39
 go_wp2_with (refine wpList_load_mid rfl 26 _ rfl w.heap.size 0 rfl (bl a) _ HC.out Tryd.underlying26 rfl (i32 a) ?_)
 refine (ld a _).mono ?_
 rintro e w1 ⟨rfl,hb1⟩
 have S1:Hid (SS w _ _ _ w1):=HS.out.call hb1
 clear HC HS hb1
 go_wp2_with fail
 refine (inverse_nat a ha _).mono ?_
 rintro e w2 ⟨s,hs,rfl,es,hb2⟩
 have S2:Hid (SS w _ _ _ w2):=S1.out.call hb2
 have HES:Hid (s % pp=a ^ (pp - 2) % pp):=es
 clear S1 hb2 es
 go_wp2_with fail
 refine (st s hs _).mono ?_
 rintro e w3 ⟨rfl,hb3⟩
 have S3:Hid (SS w _ _ _ w3):=S2.out.call hb3
 have HT:Hid (w3.there (w.heap.size+1) 0 (br (s % pp)).size):=by rw [br_size];exact S3.out.there
 clear S2 hb3
 go_wp2_with (refine wpList_store_mid rfl 26 _ _ rfl (w.heap.size+1) 0 (br (s % pp)) rfl rfl HT.out (by rw [br_size];exact size_32) (br_one _) ?_)
 refine bodyPost_ret (v := .agg (bl (s % pp)).toArray) (results_mid Tryd.results39 _ _ (w.heap.size+1) 0 (bl (s % pp)) _ rfl (World.rangeAt_setCells_same _ _ _ _ HT.out) Tryd.underlying26 rfl (i32 _)) rfl ⟨by rw [HES.out],below_setCells _ (by omega) _ _ _ S3.out.below⟩
end Go.Proofs.YtmaehekekkfpmaaDoor
