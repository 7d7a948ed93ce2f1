import Derived.Test.YtajehiidpecknaaGreatDoorFieI
set_option linter.all false
namespace Go.Proofs.YtajehiidpecknaaGreatDoor
open Go Go.RowKit Go.Lib
theorem pow_mul (n A B D x y s:Nat) (hD:A+B=D) (h1:x % pp=n ^ A % pp) (h2:y % pp=n ^ B % pp) (h3:s % pp=x*y % pp):s % pp=n ^ D % pp:=by
 subst hD
 rw [h3,Nat.mul_mod,h1,h2,←Nat.mul_mod,←Nat.pow_add]
theorem fW (n A B C D o u t s:Nat) (hD:A*B+C=D) (h1:o % pp=n ^ A % pp) (h2:u % pp=o ^ B % pp) (h3:t % pp=n ^ C % pp) (h4:s % pp=u*t % pp):s % pp=n ^ D % pp:=by
 subst hD
 rw [h4,Nat.mul_mod,h2,h3,Nat.pow_mod,h1,←Nat.pow_mod,←Nat.mul_mod,←Nat.pow_mul,←Nat.pow_add]
theorem m6 (n:Nat):n % pp=n ^ 1 % pp:=by rw [Nat.pow_one]
set_option maxRecDepth 100000 in
set_option maxHeartbeats 4000000 in
theorem uF (n:Nat) (hn:n<RN) (w:World) :
  Calls Tryz.prog 127 #[nv n] w fun e w' => ∃ s,s<RN∧e = .returned (nv s)∧s % pp=n ^ (pp - 2) % pp∧Below w.heap.size w w':=by
 have ml : ∀ a b:Nat,a<RN→b<RN → ∀ w,Calls Tryz.prog 129 #[.agg (nl a).toArray,.agg (nl b).toArray] w fun e w' => ∃ s:Nat,s<RN∧e = .returned (.agg (nl s).toArray)∧s % pp=(a*b) % pp∧Below w.heap.size w w':=mf
 have on : ∀ n:Nat,n<RN → ∀ w,Calls Tryz.prog 142 #[.agg (nl n).toArray] w fun e w' => ∃ s:Nat,s<RN∧e = .returned (.agg (nl s).toArray)∧s % pp=n ^ rn 250 % pp∧Below w.heap.size w w':=tj
 have sq1 : ∀ n:Nat,n<RN → ∀ w,Calls Tryz.prog 141 #[.agg (nl n).toArray,.int .i64 1] w fun e w' => ∃ s:Nat,s<RN∧e = .returned (.agg (nl s).toArray)∧s % pp=n ^ tw 1 % pp∧Below w.heap.size w w':=fun n hn w=>eQ n 1 hn (by decide) w
 have sq3 : ∀ n:Nat,n<RN → ∀ w,Calls Tryz.prog 141 #[.agg (nl n).toArray,.int .i64 3] w fun e w' => ∃ s:Nat,s<RN∧e = .returned (.agg (nl s).toArray)∧s % pp=n ^ tw 3 % pp∧Below w.heap.size w w':=fun n hn w=>eQ n 3 hn (by decide) w
 have sq5 : ∀ n:Nat,n<RN → ∀ w,Calls Tryz.prog 141 #[.agg (nl n).toArray,.int .i64 5] w fun e w' => ∃ s:Nat,s<RN∧e = .returned (.agg (nl s).toArray)∧s % pp=n ^ tw 5 % pp∧Below w.heap.size w w':=fun n hn w=>eQ n 5 hn (by decide) w
 have HS0:Hid (SS w _ _ _ _):=SS.num w n
 unfold nv
 go_enter Tryz.func127,Tryz.ntmps127
 go_wp2_with fail
 refine (sq1 n hn _).mono ?_
 rintro e w1 ⟨y,hy,rfl,ey,hb1⟩
 have S1:=HS0.out.call hb1
 have HY:Hid (y % pp=n ^ tw 1 % pp):=ey
 have lr:=S1.rlt
 have S2:Hid (SS w [(w.heap.size,nl n,137),(w1.heap.size,nl y,137)] (w.heap.size+1) 4 (w1.alloc (.cells (nl y).toArray 137))):=(S1.alloc _).add (nl y) _ (ai _ _ _ rfl)
 clear hb1 S1 HS0 ey
 go_wp2_with fail
 obtain ⟨x1,hx1⟩ : ∃ x,x=w1.alloc (.cells (nl y).toArray 137):=⟨_,rfl⟩
 have HS1:Hid (SS w [(w.heap.size,nl n,137),(w1.heap.size,nl y,137)] (w.heap.size+1) 4 x1):=by rw [hx1];exact S2.out
 rw [←hx1]
 clear hx1 S2
 go_cut [4] from 7 to 13 (fun sz wx => ∃ q s:Nat,sz = .pointer (some ⟨q,0,none⟩)∧s<RN∧s % pp=n ^ 11 % pp∧w.heap.size+1<q∧SS w [(w.heap.size,nl n,137),(w1.heap.size,nl y,137),(q,nl s,137)] (w.heap.size+1) 4 wx)
 case first =>
  refine wp_region_held_drew (S:=(fun w'=>SS w [(w.heap.size,nl n,137),(w1.heap.size,nl y,137)] (w.heap.size+1) 4 w')) (by kernel_rfl) ?_ (fun hHeld => ?_)
  ·exact HS1.out.drew
  refine aq (i:=0) (v:=_) 7 rfl rfl (by kernel_rfl) (by kernel_rfl) (by kernel_rfl) (fun _ _ _ h=>h) (yieldsIf_load_mid (by rfl) _ _ rfl _ _ rfl _ _ (fun w h=>h.range (i:=0) rfl) Tryz.underlying137 rfl (i4 n)) hHeld ?_
  simp only [Act.put,qA,qC,qB]
  refine aq (i:=2) (v:=_) 9 rfl rfl (by kernel_rfl) (by kernel_rfl) (by kernel_rfl) (fun _ _ _ h=>h) (yieldsIf_load_mid (by rfl) _ _ rfl _ _ rfl _ _ (fun w h=>h.range (i:=1) rfl) Tryz.underlying137 rfl (i4 y)) hHeld ?_
  simp only [Act.put,qA,qC,qB]
  refine aq (i:=4) (v:=_) 11 rfl rfl (by kernel_rfl) (by kernel_rfl) (by kernel_rfl) (fun _ _ _ h=>h) (yieldsIf_load_mid (by rfl) _ _ rfl _ _ rfl _ _ (fun w h=>h.range (i:=0) rfl) Tryz.underlying137 rfl (i4 n)) hHeld ?_
  simp only [Act.put,qA,qC,qB]
  refine wpAnyH_ready (rs:=[1,6]) (by kernel_rfl) (by simp) ?_
  refine AllReadyH.cons rfl (fun K hK => ?_) (AllReadyH.cons rfl (fun K hK => ?_) (AllReadyH.nil))
  ·go_simp
   go_at_call 141
   refine (sq3 n hn _).mono ?_
   rintro e wA ⟨y1,hy1,rfl,ey1,hbA⟩
   refine hK.out _ _ ?_ (fun hHeld => ?_)
   ·exact hHeld.call hbA
   clear hK K
   try simp only [Act.put,qA,qC,qB]
   refine wpAnyH_ready (rs:=[3,6]) (by kernel_rfl) (by simp) ?_
   refine AllReadyH.cons rfl (fun K hK => ?_) (AllReadyH.cons rfl (fun K hK => ?_) (AllReadyH.nil))
   ·go_simp
    go_at_call 129
    refine (ml y1 y hy1 hy _).mono ?_
    rintro e wB ⟨z,hz,rfl,ez,hbB⟩
    refine hK.out _ _ ?_ (fun hHeld => ?_)
    ·exact hHeld.call hbB
    clear hK K
    try simp only [Act.put,qA,qC,qB]
    refine wpAnyH_ready (rs:=[5,6]) (by kernel_rfl) (by simp) ?_
    refine AllReadyH.cons rfl (fun K hK => ?_) (AllReadyH.cons rfl (fun K hK => ?_) (AllReadyH.nil))
    ·go_simp
     go_at_call 129
     refine (ml z n hz hn _).mono ?_
     rintro e wC ⟨s,hs,rfl,es,hbC⟩
     refine hK.out _ _ ?_ (fun hHeld => ?_)
     ·exact hHeld.call hbC
     clear hK K
     try simp only [Act.put,qA,qC,qB]
     refine wpAnyH_ready (rs:=[6]) (by kernel_rfl) (by simp) ?_
     refine AllReadyH.cons rfl (fun K hK => ?_) (AllReadyH.nil)
     have hlt:=hHeld.lt
     have hrq:=hHeld.rlt
     have hq:((wC).alloc (.cells #[.int .u64 0,.int .u64 0,.int .u64 0,.int .u64 0] 137)).heap[(wC).heap.size]? = some (.cells #[.int .u64 0,.int .u64 0,.int .u64 0,.int .u64 0] 137 (0,0)):=ai _ _ _ rfl
     have hqs:=hHeld.below.size
     go_simp
     refine hK.out _ _ ?_ (fun hHeld => ?_)
     ·exact hHeld.alloc _
     clear hK K
     try simp only [Act.put,qA,qC,qB]
     refine wpAnyH_ready (rs:=[7]) (by kernel_rfl) (by simp) ?_
     refine AllReadyH.cons rfl (fun K hK => ?_) (AllReadyH.nil)
     rw [if_pos (by rfl)]
     refine wp_store_mid _ _ _ rfl _ _ (nl s).toArray rfl rfl (an hq 0 4 (by simp)) (i4 s) (aU s) ?_
     refine hK.out _ _ ?_ (fun hHeld => ?_)
     ·exact hHeld.put hqs hlt _
     clear hK K
     try simp only [Act.put,qA,qC,qB]
     refine wpAnyH_done (by kernel_rfl) ?_ _
     go_wp2_with fail
     go_meet
     exact ⟨_,s,rfl,hs,pow_mul n 10 1 11 z n s rfl (pow_mul n (tw 3) (tw 1) 10 y1 y z rfl ey1 HY.out ez) (m6 n) es,hrq,hHeld.add (nl s) _ (cj hq)⟩
    ·have hlt:=hHeld.lt
     have hrq:=hHeld.rlt
     have hq:((wB).alloc (.cells #[.int .u64 0,.int .u64 0,.int .u64 0,.int .u64 0] 137)).heap[(wB).heap.size]? = some (.cells #[.int .u64 0,.int .u64 0,.int .u64 0,.int .u64 0] 137 (0,0)):=ai _ _ _ rfl
     have hqs:=hHeld.below.size
     go_simp
     refine hK.out _ _ ?_ (fun hHeld => ?_)
     ·exact hHeld.alloc _
     clear hK K
     try simp only [Act.put,qA,qC,qB]
     refine wpAnyH_ready (rs:=[5]) (by kernel_rfl) (by simp) ?_
     refine AllReadyH.cons rfl (fun K hK => ?_) (AllReadyH.nil)
     go_simp
     go_at_call 129
     refine (ml z n hz hn _).mono ?_
     rintro e wC ⟨s,hs,rfl,es,hbC⟩
     refine hK.out _ _ ?_ (fun hHeld => ?_)
     ·exact hHeld.call hbC
     clear hK K
     try simp only [Act.put,qA,qC,qB]
     have hq:=bJ hbC hq
     refine wpAnyH_ready (rs:=[7]) (by kernel_rfl) (by simp) ?_
     refine AllReadyH.cons rfl (fun K hK => ?_) (AllReadyH.nil)
     rw [if_pos (by rfl)]
     refine wp_store_mid _ _ _ rfl _ _ (nl s).toArray rfl rfl (an hq 0 4 (by simp)) (i4 s) (aU s) ?_
     refine hK.out _ _ ?_ (fun hHeld => ?_)
     ·exact hHeld.put hqs hlt _
     clear hK K
     try simp only [Act.put,qA,qC,qB]
     refine wpAnyH_done (by kernel_rfl) ?_ _
     go_wp2_with fail
     go_meet
     exact ⟨_,s,rfl,hs,pow_mul n 10 1 11 z n s rfl (pow_mul n (tw 3) (tw 1) 10 y1 y z rfl ey1 HY.out ez) (m6 n) es,hrq,hHeld.add (nl s) _ (cj hq)⟩
   ·have hlt:=hHeld.lt
    have hrq:=hHeld.rlt
    have hq:((wA).alloc (.cells #[.int .u64 0,.int .u64 0,.int .u64 0,.int .u64 0] 137)).heap[(wA).heap.size]? = some (.cells #[.int .u64 0,.int .u64 0,.int .u64 0,.int .u64 0] 137 (0,0)):=ai _ _ _ rfl
    have hqs:=hHeld.below.size
    go_simp
    refine hK.out _ _ ?_ (fun hHeld => ?_)
    ·exact hHeld.alloc _
    clear hK K
    try simp only [Act.put,qA,qC,qB]
    refine wpAnyH_ready (rs:=[3]) (by kernel_rfl) (by simp) ?_
    refine AllReadyH.cons rfl (fun K hK => ?_) (AllReadyH.nil)
    go_simp
    go_at_call 129
    refine (ml y1 y hy1 hy _).mono ?_
    rintro e wB ⟨z,hz,rfl,ez,hbB⟩
    refine hK.out _ _ ?_ (fun hHeld => ?_)
    ·exact hHeld.call hbB
    clear hK K
    try simp only [Act.put,qA,qC,qB]
    have hq:=bJ hbB hq
    refine wpAnyH_ready (rs:=[5]) (by kernel_rfl) (by simp) ?_
    refine AllReadyH.cons rfl (fun K hK => ?_) (AllReadyH.nil)
    go_simp
    go_at_call 129
    refine (ml z n hz hn _).mono ?_
    rintro e wC ⟨s,hs,rfl,es,hbC⟩
    refine hK.out _ _ ?_ (fun hHeld => ?_)
    ·exact hHeld.call hbC
    clear hK K
    try simp only [Act.put,qA,qC,qB]
    have hq:=bJ hbC hq
    refine wpAnyH_ready (rs:=[7]) (by kernel_rfl) (by simp) ?_
    refine AllReadyH.cons rfl (fun K hK => ?_) (AllReadyH.nil)
    rw [if_pos (by rfl)]
    refine wp_store_mid _ _ _ rfl _ _ (nl s).toArray rfl rfl (an hq 0 4 (by simp)) (i4 s) (aU s) ?_
    refine hK.out _ _ ?_ (fun hHeld => ?_)
    ·exact hHeld.put hqs hlt _
    clear hK K
    try simp only [Act.put,qA,qC,qB]
    refine wpAnyH_done (by kernel_rfl) ?_ _
    go_wp2_with fail
    go_meet
    exact ⟨_,s,rfl,hs,pow_mul n 10 1 11 z n s rfl (pow_mul n (tw 3) (tw 1) 10 y1 y z rfl ey1 HY.out ez) (m6 n) es,hrq,hHeld.add (nl s) _ (cj hq)⟩
  ·have hlt:=hHeld.lt
   have hrq:=hHeld.rlt
   have hq:((x1.drew).alloc (.cells #[.int .u64 0,.int .u64 0,.int .u64 0,.int .u64 0] 137)).heap[(x1.drew).heap.size]? = some (.cells #[.int .u64 0,.int .u64 0,.int .u64 0,.int .u64 0] 137 (0,0)):=ai _ _ _ rfl
   have hqs:=hHeld.below.size
   go_simp
   refine hK.out _ _ ?_ (fun hHeld => ?_)
   ·exact hHeld.alloc _
   clear hK K
   try simp only [Act.put,qA,qC,qB]
   refine wpAnyH_ready (rs:=[1]) (by kernel_rfl) (by simp) ?_
   refine AllReadyH.cons rfl (fun K hK => ?_) (AllReadyH.nil)
   go_simp
   go_at_call 141
   refine (sq3 n hn _).mono ?_
   rintro e wA ⟨y1,hy1,rfl,ey1,hbA⟩
   refine hK.out _ _ ?_ (fun hHeld => ?_)
   ·exact hHeld.call hbA
   clear hK K
   try simp only [Act.put,qA,qC,qB]
   have hq:=bJ hbA hq
   refine wpAnyH_ready (rs:=[3]) (by kernel_rfl) (by simp) ?_
   refine AllReadyH.cons rfl (fun K hK => ?_) (AllReadyH.nil)
   go_simp
   go_at_call 129
   refine (ml y1 y hy1 hy _).mono ?_
   rintro e wB ⟨z,hz,rfl,ez,hbB⟩
   refine hK.out _ _ ?_ (fun hHeld => ?_)
   ·exact hHeld.call hbB
   clear hK K
   try simp only [Act.put,qA,qC,qB]
   have hq:=bJ hbB hq
   refine wpAnyH_ready (rs:=[5]) (by kernel_rfl) (by simp) ?_
   refine AllReadyH.cons rfl (fun K hK => ?_) (AllReadyH.nil)
   go_simp
   go_at_call 129
   refine (ml z n hz hn _).mono ?_
   rintro e wC ⟨s,hs,rfl,es,hbC⟩
   refine hK.out _ _ ?_ (fun hHeld => ?_)
   ·exact hHeld.call hbC
   clear hK K
   try simp only [Act.put,qA,qC,qB]
   have hq:=bJ hbC hq
   refine wpAnyH_ready (rs:=[7]) (by kernel_rfl) (by simp) ?_
   refine AllReadyH.cons rfl (fun K hK => ?_) (AllReadyH.nil)
   rw [if_pos (by rfl)]
   refine wp_store_mid _ _ _ rfl _ _ (nl s).toArray rfl rfl (an hq 0 4 (by simp)) (i4 s) (aU s) ?_
   refine hK.out _ _ ?_ (fun hHeld => ?_)
   ·exact hHeld.put hqs hlt _
   clear hK K
   try simp only [Act.put,qA,qC,qB]
   refine wpAnyH_done (by kernel_rfl) ?_ _
   go_wp2_with fail
   go_meet
   exact ⟨_,s,rfl,hs,pow_mul n 10 1 11 z n s rfl (pow_mul n (tw 3) (tw 1) 10 y1 y z rfl ey1 HY.out ez) (m6 n) es,hrq,hHeld.add (nl s) _ (cj hq)⟩
 case rest =>
  obtain ⟨q,t,rfl,ht,et,lq,hss⟩:=hcut
  have HT:Hid (t % pp=n ^ 11 % pp):=et
  obtain ⟨x2,hx2⟩ : ∃ x,x=wc:=⟨_,rfl⟩
  rw [←hx2] at hss ⊢
  have HS2:Hid (SS w [(w.heap.size,nl n,137),(q,nl t,137)] (w.heap.size+1) 4 x2):=hss.pick2 0 2 rfl rfl
  clear et hss hx2
  go_wp2_with fail
  refine wp_region_held_drew (S:=(fun w'=>SS w [(w.heap.size,nl n,137),(q,nl t,137)] (w.heap.size+1) 4 w')) (by kernel_rfl) ?_ (fun hHeld => ?_)
  ·exact HS2.out.drew
  refine aq (i:=0) (v:=_) 13 rfl rfl (by kernel_rfl) (by kernel_rfl) (by kernel_rfl) (fun _ _ _ h=>h) (yieldsIf_load_mid (by rfl) _ _ rfl _ _ rfl _ _ (fun w h=>h.range (i:=0) rfl) Tryz.underlying137 rfl (i4 n)) hHeld ?_
  simp only [Act.put,qA,qC,qB]
  refine aq (i:=3) (v:=_) 16 rfl rfl (by kernel_rfl) (by kernel_rfl) (by kernel_rfl) (fun _ _ _ h=>h) (yieldsIf_load_mid (by rfl) _ _ rfl _ _ rfl _ _ (fun w h=>h.range (i:=1) rfl) Tryz.underlying137 rfl (i4 t)) hHeld ?_
  simp only [Act.put,qA,qC,qB]
  refine wpAnyH_ready (rs:=[1]) (by kernel_rfl) (by simp) ?_
  refine AllReadyH.cons rfl (fun K hK => ?_) (AllReadyH.nil)
  go_simp
  go_at_call 142
  refine (on n hn _).mono ?_
  rintro e wA ⟨o,ho,rfl,eo,hbA⟩
  refine hK.out _ _ ?_ (fun hHeld => ?_)
  ·exact hHeld.call hbA
  clear hK K
  try simp only [Act.put,qA,qC,qB]
  refine wpAnyH_ready (rs:=[2]) (by kernel_rfl) (by simp) ?_
  refine AllReadyH.cons rfl (fun K hK => ?_) (AllReadyH.nil)
  go_simp
  go_at_call 141
  refine (sq5 o ho _).mono ?_
  rintro e wB ⟨u,hu,rfl,eu,hbB⟩
  refine hK.out _ _ ?_ (fun hHeld => ?_)
  ·exact hHeld.call hbB
  clear hK K
  try simp only [Act.put,qA,qC,qB]
  refine wpAnyH_ready (rs:=[4]) (by kernel_rfl) (by simp) ?_
  refine AllReadyH.cons rfl (fun K hK => ?_) (AllReadyH.nil)
  go_simp
  go_at_call 129
  refine (ml u t hu ht _).mono ?_
  rintro e wC ⟨s,hs,rfl,es,hbC⟩
  have hT:=((HS2.out.drew.call hbA).call hbB |>.call hbC).there
  refine hK.out _ _ ?_ (fun hHeld => ?_)
  ·exact hHeld.call hbC
  clear hK K
  try simp only [Act.put,qA,qC,qB]
  refine wpAnyH_ready (rs:=[5]) (by kernel_rfl) (by simp) ?_
  refine AllReadyH.cons rfl (fun K hK => ?_) (AllReadyH.nil)
  rw [if_pos (by rfl)]
  refine wp_store_mid _ _ _ rfl _ _ (nl s).toArray rfl rfl hT (i4 s) (aU s) ?_
  refine hK.out _ _ ?_ (fun hHeld => ?_)
  ·exact hHeld.store (by omega) (ne2 (by omega) (by omega)) _
  clear hK K
  try simp only [Act.put,qA,qC,qB]
  refine wpAnyH_done (by kernel_rfl) ?_ _
  go_wp2
  refine bodyPost_ret (v := .agg (nl s).toArray) (aH Tryz.results127 _ _ (w.heap.size+1) 0 (nl s) _ rfl (World.rangeAt_setCells_same _ _ _ _ hT) Tryz.underlying137 rfl (i4 s)) rfl ⟨s,hs,rfl,fW n (rn 250) (tw 5) 11 (pp - 2) o u t s (by decide) eo eu HT.out es,hHeld.below⟩
theorem SS.one32 (w:World) (a:Nat):SS w [(w.heap.size,bl a,22)] (w.heap.size+1) 32 ((w.alloc (.cells (bl a).toArray 22)).alloc (.cells (bl 0).toArray 22)):=by
 refine ⟨((Below.refl _ _).alloc (Nat.le_refl _) _).alloc (by simp) _,?_,an (ai _ _ _ (by simp)) 0 32 (by have:=aM 0;simp only [br] at this;omega)⟩
 intro i g L t hm
 match i,hm with
 | 0,hm =>
  cases hm
  exact (ak _ _ _ (by simp)).trans (ai _ _ _ rfl)
set_option maxRecDepth 100000 in
set_option maxHeartbeats 1000000 in
theorem G7 (a:Nat) (ha:a<RN) (w:World) :
  Calls Tryz.prog 94 #[bv a] w fun e w'=>e = .returned (bv (a ^ (pp - 2) % pp))∧Below w.heap.size w w':=by
 have hz:=bV
 have ld : ∀ n w,Calls Tryz.prog 128 #[Value.agg (bl n).toArray] w fun e w'=>e = .returned (nv n)∧Below w.heap.size w w':=gw
 have st : ∀ n,n<RN → ∀ w,Calls Tryz.prog 126 #[nv n] w fun e w'=>e = .returned (.agg (bl (n % pp)).toArray)∧Below w.heap.size w w':=eP
 have HS:Hid (SS w _ _ _ _):=SS.one32 w a
 have HC:Hid (World.rangeAt _ w.heap.size 0 (bl a)):=HS.out.range (i:=0) rfl
 have hza:(bl a).toArray.size=32:=aM a
 have hz0:(bl 0).toArray.size=32:=aM 0
 simp only [bv,br] at hz ⊢
 go_enter Tryz.func94,Tryz.ntmps94
 go_wp2_with (refine wpList_load_mid rfl 22 _ rfl w.heap.size 0 rfl (bl a) _ HC.out Tryz.underlying22 rfl (i32 a) ?_)
 refine (ld a _).mono ?_
 rintro e w1 ⟨rfl,hb1⟩
 have S1:Hid (SS w _ _ _ w1):=HS.out.call hb1
 clear HC HS hb1
 go_wp2_with fail
 refine (uF a ha _).mono ?_
 rintro e w2 ⟨s,hs,rfl,es,hb2⟩
 have S2:Hid (SS w _ _ _ w2):=S1.out.call hb2
 have HES:Hid (s % pp=a ^ (pp - 2) % pp):=es
 clear S1 hb2 es
 go_wp2_with fail
 refine (st s hs _).mono ?_
 rintro e w3 ⟨rfl,hb3⟩
 have S3:Hid (SS w _ _ _ w3):=S2.out.call hb3
 have HT:Hid (w3.there (w.heap.size+1) 0 (br (s % pp)).size):=by rw [aM];exact S3.out.there
 clear S2 hb3
 go_wp2_with (refine wpList_store_mid rfl 22 _ _ rfl (w.heap.size+1) 0 (br (s % pp)) rfl rfl HT.out (by rw [aM];exact fp) (iN _) ?_)
 refine bodyPost_ret (v := .agg (bl (s % pp)).toArray) (aH Tryz.results94 _ _ (w.heap.size+1) 0 (bl (s % pp)) _ rfl (World.rangeAt_setCells_same _ _ _ _ HT.out) Tryz.underlying22 rfl (i32 _)) rfl ⟨by rw [HES.out],af _ (by omega) _ _ _ S3.out.below⟩
end Go.Proofs.YtajehiidpecknaaGreatDoor
