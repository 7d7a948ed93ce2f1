/- Package field: rootOfMinusOne, rootOrNone, evenOf, Sqrt. -/
import Derived.Test.YtajehiidpecknaaGreatDoorFieQ
set_option linter.all false
namespace Go.Proofs.YtajehiidpecknaaGreatDoor
open Go Go.RowKit Go.Lib
def IN:Nat:=19681161376707505956807079304988542015446066515923890162744021073123829784752
theorem zt:IN<RN:=by decide
theorem Kp:(#[.int .u64 14190309331451158704,.int .u64 3405592160176694392,.int .u64 3120150775007532967,.int .u64 3135389899092516619]:Array Value)=(nl IN).toArray:=by kernel_rfl
theorem xI (w:World):Calls Tryz.prog 151 #[] w fun e w'=>e = .returned (.agg (nl IN).toArray)∧Below w.heap.size w w':=by
 rw [←Kp]
 go_enter Tryz.func151,Tryz.ntmps151
 go_wp2
 simp [bodyPost,results,Tryz.results151,go_sem]
 exact (Below.refl _ _).alloc (Nat.le_refl _) _
def rx (n:Nat):Nat:=n ^ ((pp+3)/8) % pp
def rt (n:Nat):Nat:=if rx n*rx n % pp=n % pp then rx n else rx n*IN % pp
def ev (m:Nat):Nat:=if m % 2=1 then pp - m else m
theorem Jp (n:Nat):rx n<pp:=by unfold rx;exact Nat.mod_lt _ (by decide)
theorem vW (n:Nat):rt n<pp:=by unfold rt;split;exact Jp n;exact Nat.mod_lt _ (by decide)
theorem nV {s x:Nat} (h:s % pp=x):s*s % pp=x*x % pp:=by rw [Nat.mul_mod,h]
set_option maxRecDepth 100000 in
set_option maxHeartbeats 4000000 in
theorem Bt (n:Nat) (hn:n<RN) (w:World) :
  Calls Tryz.prog 135 #[nv n] w fun e w' => ∃ s,s<RN∧e = .returned (nv s)∧s % pp=rt n∧Below w.heap.size w w':=by
 have ml : ∀ a b:Nat,a<RN→b<RN → ∀ w,Calls Tryz.prog 129 #[.agg (nl a).toArray,.agg (nl b).toArray] w fun e w' => ∃ s:Nat,s<RN∧e = .returned (.agg (nl s).toArray)∧s % pp=(a*b) % pp∧Below w.heap.size w w':=lv
 have on : ∀ n:Nat,n<RN → ∀ w,Calls Tryz.prog 142 #[.agg (nl n).toArray] w fun e w' => ∃ s:Nat,s<RN∧e = .returned (.agg (nl s).toArray)∧s % pp=n ^ rn 250 % pp∧Below w.heap.size w w':=rv
 have sq1 : ∀ n:Nat,n<RN → ∀ w,Calls Tryz.prog 141 #[.agg (nl n).toArray,.int .i64 1] w fun e w' => ∃ s:Nat,s<RN∧e = .returned (.agg (nl s).toArray)∧s % pp=n ^ tw 1 % pp∧Below w.heap.size w w':=fun n hn w=>eD n 1 hn (by decide) w
 have sq2 : ∀ n:Nat,n<RN → ∀ w,Calls Tryz.prog 141 #[.agg (nl n).toArray,.int .i64 2] w fun e w' => ∃ s:Nat,s<RN∧e = .returned (.agg (nl s).toArray)∧s % pp=n ^ tw 2 % pp∧Below w.heap.size w w':=fun n hn w=>eD n 2 hn (by decide) w
 have HSa:=SS.num w n
 unfold nv
 go_enter Tryz.func135,Tryz.ntmps135
 go_wp2_with fail
 obtain ⟨x0,hx0⟩ : ∃ x,x=(w.alloc (.cells (nl n).toArray 137)).alloc (.cells #[.int .u64 0,.int .u64 0,.int .u64 0,.int .u64 0] 137):=⟨_,rfl⟩
 have HS0:Hid (SS w [(w.heap.size,nl n,137)] (w.heap.size+1) 4 x0):=by rw [hx0];exact HSa
 rw [←hx0]
 clear hx0 HSa
 go_cut [3] from 4 to 10 (fun sz wx => ∃ q s:Nat,sz = .pointer (some ⟨q,0,none⟩)∧s<RN∧s % pp=n ^ ((pp+3)/8) % pp∧w.heap.size+1<q∧SS w [(w.heap.size,nl n,137),(q,nl s,137)] (w.heap.size+1) 4 wx)
 case first =>
  refine wp_region_held_drew (S:=(fun w'=>SS w [(w.heap.size,nl n,137)] (w.heap.size+1) 4 w')) (by kernel_rfl) ?_ (fun hHeld => ?_)
  ·exact HS0.out.drew
  refine aq (i:=0) (v:=_) 4 rfl rfl (by kernel_rfl) (by kernel_rfl) (by kernel_rfl) (fun _ _ _ h=>h) (yieldsIf_load_mid (by rfl) _ _ rfl _ _ rfl _ _ (fun w h=>h.range (i:=0) rfl) Tryz.underlying137 rfl (i4 n)) hHeld ?_
  simp only [Act.put,qA,qC,qB]
  refine aq (i:=3) (v:=_) 7 rfl rfl (by kernel_rfl) (by kernel_rfl) (by kernel_rfl) (fun _ _ _ h=>h) (yieldsIf_load_mid (by rfl) _ _ rfl _ _ rfl _ _ (fun w h=>h.range (i:=0) rfl) Tryz.underlying137 rfl (i4 n)) hHeld ?_
  simp only [Act.put,qA,qC,qB]
  refine wpAnyH_ready (rs:=[1,6]) (by kernel_rfl) (by simp) ?_
  refine AllReadyH.cons rfl (fun K hK => ?_) (AllReadyH.cons rfl (fun K hK => ?_) (AllReadyH.nil))
  ·go_simp
   go_at_call 142
   refine (on n hn _).mono ?_
   rintro e wA ⟨o,ho,rfl,eo,hbA⟩
   refine hK.out _ _ ?_ (fun hHeld => ?_)
   ·exact hHeld.call hbA
   clear hK K
   try simp only [Act.put,qA,qC,qB]
   refine wpAnyH_ready (rs:=[2,6]) (by kernel_rfl) (by simp) ?_
   refine AllReadyH.cons rfl (fun K hK => ?_) (AllReadyH.cons rfl (fun K hK => ?_) (AllReadyH.nil))
   ·go_simp
    go_at_call 141
    refine (sq2 o ho _).mono ?_
    rintro e wB ⟨u,hu,rfl,eu,hbB⟩
    refine hK.out _ _ ?_ (fun hHeld => ?_)
    ·exact hHeld.call hbB
    clear hK K
    try simp only [Act.put,qA,qC,qB]
    refine wpAnyH_ready (rs:=[4,6]) (by kernel_rfl) (by simp) ?_
    refine AllReadyH.cons rfl (fun K hK => ?_) (AllReadyH.cons rfl (fun K hK => ?_) (AllReadyH.nil))
    ·go_simp
     go_at_call 141
     refine (sq1 n hn _).mono ?_
     rintro e wC ⟨v,hv,rfl,ev,hbC⟩
     refine hK.out _ _ ?_ (fun hHeld => ?_)
     ·exact hHeld.call hbC
     clear hK K
     try simp only [Act.put,qA,qC,qB]
     refine wpAnyH_ready (rs:=[5,6]) (by kernel_rfl) (by simp) ?_
     refine AllReadyH.cons rfl (fun K hK => ?_) (AllReadyH.cons rfl (fun K hK => ?_) (AllReadyH.nil))
     ·go_simp
      go_at_call 129
      refine (ml u v hu hv _).mono ?_
      rintro e wD ⟨s,hs,rfl,es,hbD⟩
      refine hK.out _ _ ?_ (fun hHeld => ?_)
      ·exact hHeld.call hbD
      clear hK K
      try simp only [Act.put,qA,qC,qB]
      refine wpAnyH_ready (rs:=[6]) (by kernel_rfl) (by simp) ?_
      refine AllReadyH.cons rfl (fun K hK => ?_) (AllReadyH.nil)
      have hlt:=hHeld.lt
      have hrq:=hHeld.rlt
      have hq:((wD).alloc (.cells #[.int .u64 0,.int .u64 0,.int .u64 0,.int .u64 0] 137)).heap[(wD).heap.size]? = some (.cells #[.int .u64 0,.int .u64 0,.int .u64 0,.int .u64 0] 137 (0,0)):=ah _ _ _ rfl
      have hqs:=hHeld.below.size
      go_simp
      refine hK.out _ _ ?_ (fun hHeld => ?_)
      ·exact hHeld.alloc _
      clear hK K
      try simp only [Act.put,qA,qC,qB]
      refine wpAnyH_ready (rs:=[7]) (by kernel_rfl) (by simp) ?_
      refine AllReadyH.cons rfl (fun K hK => ?_) (AllReadyH.nil)
      rw [if_pos (by rfl)]
      refine wp_store_mid _ _ _ rfl _ _ (nl s).toArray rfl rfl (ao hq 0 4 (by simp)) (i4 s) (aQ s) ?_
      refine hK.out _ _ ?_ (fun hHeld => ?_)
      ·exact hHeld.put hqs hlt _
      clear hK K
      try simp only [Act.put,qA,qC,qB]
      refine wpAnyH_done (by kernel_rfl) ?_ _
      go_wp2_with fail
      go_meet
      exact ⟨_,s,rfl,hs,gf n (rn 250) (tw 2) (tw 1) ((pp+3)/8) o u v s (by decide) eo eu ev es,hrq,hHeld.add (nl s) _ (bT hq)⟩
     ·have hlt:=hHeld.lt
      have hrq:=hHeld.rlt
      have hq:((wC).alloc (.cells #[.int .u64 0,.int .u64 0,.int .u64 0,.int .u64 0] 137)).heap[(wC).heap.size]? = some (.cells #[.int .u64 0,.int .u64 0,.int .u64 0,.int .u64 0] 137 (0,0)):=ah _ _ _ rfl
      have hqs:=hHeld.below.size
      go_simp
      refine hK.out _ _ ?_ (fun hHeld => ?_)
      ·exact hHeld.alloc _
      clear hK K
      try simp only [Act.put,qA,qC,qB]
      refine wpAnyH_ready (rs:=[5]) (by kernel_rfl) (by simp) ?_
      refine AllReadyH.cons rfl (fun K hK => ?_) (AllReadyH.nil)
      go_simp
      go_at_call 129
      refine (ml u v hu hv _).mono ?_
      rintro e wD ⟨s,hs,rfl,es,hbD⟩
      refine hK.out _ _ ?_ (fun hHeld => ?_)
      ·exact hHeld.call hbD
      clear hK K
      try simp only [Act.put,qA,qC,qB]
      have hq:=bA hbD hq
      refine wpAnyH_ready (rs:=[7]) (by kernel_rfl) (by simp) ?_
      refine AllReadyH.cons rfl (fun K hK => ?_) (AllReadyH.nil)
      rw [if_pos (by rfl)]
      refine wp_store_mid _ _ _ rfl _ _ (nl s).toArray rfl rfl (ao hq 0 4 (by simp)) (i4 s) (aQ s) ?_
      refine hK.out _ _ ?_ (fun hHeld => ?_)
      ·exact hHeld.put hqs hlt _
      clear hK K
      try simp only [Act.put,qA,qC,qB]
      refine wpAnyH_done (by kernel_rfl) ?_ _
      go_wp2_with fail
      go_meet
      exact ⟨_,s,rfl,hs,gf n (rn 250) (tw 2) (tw 1) ((pp+3)/8) o u v s (by decide) eo eu ev es,hrq,hHeld.add (nl s) _ (bT hq)⟩
    ·have hlt:=hHeld.lt
     have hrq:=hHeld.rlt
     have hq:((wB).alloc (.cells #[.int .u64 0,.int .u64 0,.int .u64 0,.int .u64 0] 137)).heap[(wB).heap.size]? = some (.cells #[.int .u64 0,.int .u64 0,.int .u64 0,.int .u64 0] 137 (0,0)):=ah _ _ _ rfl
     have hqs:=hHeld.below.size
     go_simp
     refine hK.out _ _ ?_ (fun hHeld => ?_)
     ·exact hHeld.alloc _
     clear hK K
     try simp only [Act.put,qA,qC,qB]
     refine wpAnyH_ready (rs:=[4]) (by kernel_rfl) (by simp) ?_
     refine AllReadyH.cons rfl (fun K hK => ?_) (AllReadyH.nil)
     go_simp
     go_at_call 141
     refine (sq1 n hn _).mono ?_
     rintro e wC ⟨v,hv,rfl,ev,hbC⟩
     refine hK.out _ _ ?_ (fun hHeld => ?_)
     ·exact hHeld.call hbC
     clear hK K
     try simp only [Act.put,qA,qC,qB]
     have hq:=bA hbC hq
     refine wpAnyH_ready (rs:=[5]) (by kernel_rfl) (by simp) ?_
     refine AllReadyH.cons rfl (fun K hK => ?_) (AllReadyH.nil)
     go_simp
     go_at_call 129
     refine (ml u v hu hv _).mono ?_
     rintro e wD ⟨s,hs,rfl,es,hbD⟩
     refine hK.out _ _ ?_ (fun hHeld => ?_)
     ·exact hHeld.call hbD
     clear hK K
     try simp only [Act.put,qA,qC,qB]
     have hq:=bA hbD hq
     refine wpAnyH_ready (rs:=[7]) (by kernel_rfl) (by simp) ?_
     refine AllReadyH.cons rfl (fun K hK => ?_) (AllReadyH.nil)
     rw [if_pos (by rfl)]
     refine wp_store_mid _ _ _ rfl _ _ (nl s).toArray rfl rfl (ao hq 0 4 (by simp)) (i4 s) (aQ s) ?_
     refine hK.out _ _ ?_ (fun hHeld => ?_)
     ·exact hHeld.put hqs hlt _
     clear hK K
     try simp only [Act.put,qA,qC,qB]
     refine wpAnyH_done (by kernel_rfl) ?_ _
     go_wp2_with fail
     go_meet
     exact ⟨_,s,rfl,hs,gf n (rn 250) (tw 2) (tw 1) ((pp+3)/8) o u v s (by decide) eo eu ev es,hrq,hHeld.add (nl s) _ (bT hq)⟩
   ·have hlt:=hHeld.lt
    have hrq:=hHeld.rlt
    have hq:((wA).alloc (.cells #[.int .u64 0,.int .u64 0,.int .u64 0,.int .u64 0] 137)).heap[(wA).heap.size]? = some (.cells #[.int .u64 0,.int .u64 0,.int .u64 0,.int .u64 0] 137 (0,0)):=ah _ _ _ rfl
    have hqs:=hHeld.below.size
    go_simp
    refine hK.out _ _ ?_ (fun hHeld => ?_)
    ·exact hHeld.alloc _
    clear hK K
    try simp only [Act.put,qA,qC,qB]
    refine wpAnyH_ready (rs:=[2]) (by kernel_rfl) (by simp) ?_
    refine AllReadyH.cons rfl (fun K hK => ?_) (AllReadyH.nil)
    go_simp
    go_at_call 141
    refine (sq2 o ho _).mono ?_
    rintro e wB ⟨u,hu,rfl,eu,hbB⟩
    refine hK.out _ _ ?_ (fun hHeld => ?_)
    ·exact hHeld.call hbB
    clear hK K
    try simp only [Act.put,qA,qC,qB]
    have hq:=bA hbB hq
    refine wpAnyH_ready (rs:=[4]) (by kernel_rfl) (by simp) ?_
    refine AllReadyH.cons rfl (fun K hK => ?_) (AllReadyH.nil)
    go_simp
    go_at_call 141
    refine (sq1 n hn _).mono ?_
    rintro e wC ⟨v,hv,rfl,ev,hbC⟩
    refine hK.out _ _ ?_ (fun hHeld => ?_)
    ·exact hHeld.call hbC
    clear hK K
    try simp only [Act.put,qA,qC,qB]
    have hq:=bA hbC hq
    refine wpAnyH_ready (rs:=[5]) (by kernel_rfl) (by simp) ?_
    refine AllReadyH.cons rfl (fun K hK => ?_) (AllReadyH.nil)
    go_simp
    go_at_call 129
    refine (ml u v hu hv _).mono ?_
    rintro e wD ⟨s,hs,rfl,es,hbD⟩
    refine hK.out _ _ ?_ (fun hHeld => ?_)
    ·exact hHeld.call hbD
    clear hK K
    try simp only [Act.put,qA,qC,qB]
    have hq:=bA hbD hq
    refine wpAnyH_ready (rs:=[7]) (by kernel_rfl) (by simp) ?_
    refine AllReadyH.cons rfl (fun K hK => ?_) (AllReadyH.nil)
    rw [if_pos (by rfl)]
    refine wp_store_mid _ _ _ rfl _ _ (nl s).toArray rfl rfl (ao hq 0 4 (by simp)) (i4 s) (aQ s) ?_
    refine hK.out _ _ ?_ (fun hHeld => ?_)
    ·exact hHeld.put hqs hlt _
    clear hK K
    try simp only [Act.put,qA,qC,qB]
    refine wpAnyH_done (by kernel_rfl) ?_ _
    go_wp2_with fail
    go_meet
    exact ⟨_,s,rfl,hs,gf n (rn 250) (tw 2) (tw 1) ((pp+3)/8) o u v s (by decide) eo eu ev es,hrq,hHeld.add (nl s) _ (bT hq)⟩
  ·have hlt:=hHeld.lt
   have hrq:=hHeld.rlt
   have hq:((x0.drew).alloc (.cells #[.int .u64 0,.int .u64 0,.int .u64 0,.int .u64 0] 137)).heap[(x0.drew).heap.size]? = some (.cells #[.int .u64 0,.int .u64 0,.int .u64 0,.int .u64 0] 137 (0,0)):=ah _ _ _ rfl
   have hqs:=hHeld.below.size
   go_simp
   refine hK.out _ _ ?_ (fun hHeld => ?_)
   ·exact hHeld.alloc _
   clear hK K
   try simp only [Act.put,qA,qC,qB]
   refine wpAnyH_ready (rs:=[1]) (by kernel_rfl) (by simp) ?_
   refine AllReadyH.cons rfl (fun K hK => ?_) (AllReadyH.nil)
   go_simp
   go_at_call 142
   refine (on n hn _).mono ?_
   rintro e wA ⟨o,ho,rfl,eo,hbA⟩
   refine hK.out _ _ ?_ (fun hHeld => ?_)
   ·exact hHeld.call hbA
   clear hK K
   try simp only [Act.put,qA,qC,qB]
   have hq:=bA hbA hq
   refine wpAnyH_ready (rs:=[2]) (by kernel_rfl) (by simp) ?_
   refine AllReadyH.cons rfl (fun K hK => ?_) (AllReadyH.nil)
   go_simp
   go_at_call 141
   refine (sq2 o ho _).mono ?_
   rintro e wB ⟨u,hu,rfl,eu,hbB⟩
   refine hK.out _ _ ?_ (fun hHeld => ?_)
   ·exact hHeld.call hbB
   clear hK K
   try simp only [Act.put,qA,qC,qB]
   have hq:=bA hbB hq
   refine wpAnyH_ready (rs:=[4]) (by kernel_rfl) (by simp) ?_
   refine AllReadyH.cons rfl (fun K hK => ?_) (AllReadyH.nil)
   go_simp
   go_at_call 141
   refine (sq1 n hn _).mono ?_
   rintro e wC ⟨v,hv,rfl,ev,hbC⟩
   refine hK.out _ _ ?_ (fun hHeld => ?_)
   ·exact hHeld.call hbC
   clear hK K
   try simp only [Act.put,qA,qC,qB]
   have hq:=bA hbC hq
   refine wpAnyH_ready (rs:=[5]) (by kernel_rfl) (by simp) ?_
   refine AllReadyH.cons rfl (fun K hK => ?_) (AllReadyH.nil)
   go_simp
   go_at_call 129
   refine (ml u v hu hv _).mono ?_
   rintro e wD ⟨s,hs,rfl,es,hbD⟩
   refine hK.out _ _ ?_ (fun hHeld => ?_)
   ·exact hHeld.call hbD
   clear hK K
   try simp only [Act.put,qA,qC,qB]
   have hq:=bA hbD hq
   refine wpAnyH_ready (rs:=[7]) (by kernel_rfl) (by simp) ?_
   refine AllReadyH.cons rfl (fun K hK => ?_) (AllReadyH.nil)
   rw [if_pos (by rfl)]
   refine wp_store_mid _ _ _ rfl _ _ (nl s).toArray rfl rfl (ao hq 0 4 (by simp)) (i4 s) (aQ s) ?_
   refine hK.out _ _ ?_ (fun hHeld => ?_)
   ·exact hHeld.put hqs hlt _
   clear hK K
   try simp only [Act.put,qA,qC,qB]
   refine wpAnyH_done (by kernel_rfl) ?_ _
   go_wp2_with fail
   go_meet
   exact ⟨_,s,rfl,hs,gf n (rn 250) (tw 2) (tw 1) ((pp+3)/8) o u v s (by decide) eo eu ev es,hrq,hHeld.add (nl s) _ (bT hq)⟩
 case rest =>
  obtain ⟨q,s,rfl,hs,es,lq,hss⟩:=hcut
  have HX:Hid (s % pp=rx n):=by show s % pp=rx n;unfold rx;exact es
  obtain ⟨x1,hx1⟩ : ∃ x,x=wc:=⟨_,rfl⟩
  rw [←hx1] at hss ⊢
  have HS1:Hid (SS w [(w.heap.size,nl n,137),(q,nl s,137)] (w.heap.size+1) 4 x1):=hss
  clear es hss hx1
  obtain ⟨c,hc⟩ : ∃ c,c=s*s % pp:=⟨_,rfl⟩
  obtain ⟨d,hd⟩ : ∃ d,d=n % pp:=⟨_,rfl⟩
  have hcl:c<RN:=by rw [hc];exact cG _
  have hdl:d<RN:=by rw [hd];exact cG _
  have sec : ∀ m,m<RN→m % pp=s*s % pp → ∀ w,Calls Tryz.prog 136 #[.agg (nl m).toArray] w fun e w'=>e = .returned (.agg (nl c).toArray)∧Below w.heap.size w w':=fun m hm e w=>by
   have:=dw m hm w
   rw [e,←hc] at this
   exact this
  have sed : ∀ w,Calls Tryz.prog 136 #[.agg (nl n).toArray] w fun e w'=>e = .returned (.agg (nl d).toArray)∧Below w.heap.size w w':=fun w=>by
   have:=dw n hn w
   rw [←hd] at this
   exact this
  have heq : ∀ w,(Op.equalIn 10000 137 (.agg (nl c).toArray) (.agg (nl d).toArray)).run Tryz.prog w = .ok (decide (c=d)) w:=Cg c d hcl hdl
  have HCC:Hid (c=rx n*rx n % pp):=hc.trans (nV HX.out)
  have HDD:Hid (d=n % pp):=hd
  clear hc hd
  by_cases hcd:c=d
  ·rw [decide_eq_true hcd] at heq
   have HD:Hid (rx n*rx n % pp=n % pp):=by show _=_;rw [←HCC.out,hcd,HDD.out]
   go_wp2_with fail
   refine wp_region_held_drew (S:=(fun w'=>SS w [(w.heap.size,nl n,137),(q,nl s,137)] (w.heap.size+1) 4 w')) (by kernel_rfl) ?_ (fun hHeld => ?_)
   ·exact HS1.out.drew
   refine aq (i:=0) (v:=_) 10 rfl rfl (by kernel_rfl) (by kernel_rfl) (by kernel_rfl) (fun _ _ _ h=>h) (yieldsIf_load_mid (by rfl) _ _ rfl _ _ rfl _ _ (fun w h=>h.range (i:=1) rfl) Tryz.underlying137 rfl (i4 s)) hHeld ?_
   simp only [Act.put,qA,qC,qB]
   refine aq (i:=1) (v:=_) 11 rfl rfl (by kernel_rfl) (by kernel_rfl) (by kernel_rfl) (fun _ _ _ h=>h) (yieldsIf_load_mid (by rfl) _ _ rfl _ _ rfl _ _ (fun w h=>h.range (i:=1) rfl) Tryz.underlying137 rfl (i4 s)) hHeld ?_
   simp only [Act.put,qA,qC,qB]
   refine aq (i:=4) (v:=_) 14 rfl rfl (by kernel_rfl) (by kernel_rfl) (by kernel_rfl) (fun _ _ _ h=>h) (yieldsIf_load_mid (by rfl) _ _ rfl _ _ rfl _ _ (fun w h=>h.range (i:=0) rfl) Tryz.underlying137 rfl (i4 n)) hHeld ?_
   simp only [Act.put,qA,qC,qB]
   refine wpAnyH_ready (rs:=[2]) (by kernel_rfl) (by simp) ?_
   refine AllReadyH.cons rfl (fun K hK => ?_) AllReadyH.nil
   go_simp
   go_at_call 129
   refine (ml s s hs hs _).mono ?_
   rintro e wA ⟨m,hm,rfl,em,hbA⟩
   refine hK.out _ _ ?_ (fun hHeld => ?_)
   ·exact hHeld.call hbA
   clear hK K
   try simp only [Act.put,qA,qC,qB]
   refine wpAnyH_ready (rs:=[3]) (by kernel_rfl) (by simp) ?_
   refine AllReadyH.cons rfl (fun K hK => ?_) AllReadyH.nil
   go_simp
   go_at_call 136
   refine (sec m hm em _).mono ?_
   rintro e wB ⟨rfl,hbB⟩
   refine hK.out _ _ ?_ (fun hHeld => ?_)
   ·exact hHeld.call hbB
   clear hK K
   try simp only [Act.put,qA,qC,qB]
   refine wpAnyH_ready (rs:=[5]) (by kernel_rfl) (by simp) ?_
   refine AllReadyH.cons rfl (fun K hK => ?_) AllReadyH.nil
   go_simp
   go_at_call 136
   refine (sed _).mono ?_
   rintro e wC ⟨rfl,hbC⟩
   refine hK.out _ _ ?_ (fun hHeld => ?_)
   ·exact hHeld.call hbC
   clear hK K
   try simp only [Act.put,qA,qC,qB]
   refine aq (i:=6) (v := ?_) 16 rfl rfl (by kernel_rfl) (by kernel_rfl) (by kernel_rfl) (fun _ _ _ h=>h) (Or.inl ⟨by rfl,?_⟩) hHeld ?_
   rotate_left 1
   ·intro w hSw;go_simp <;> with_reducible rfl
   simp only [Act.put,qA,qC,qB]
   refine wpAnyH_done (by kernel_rfl) ?_ _
   have HS2:Hid (SS w [(w.heap.size,nl n,137),(q,nl s,137)] (w.heap.size+1) 4 _):=hHeld
   have HC:Hid (World.rangeAt _ q 0 (nl s)):=hHeld.range (i:=1) rfl
   have HT:Hid (World.there _ (w.heap.size+1) 0 4):=hHeld.there
   clear hHeld
   go_wp2_with (first | (refine wpList_load_mid rfl 137 _ rfl q 0 rfl (nl s) _ HC.out Tryz.underlying137 rfl (i4 s) ?_) | (refine wpList_store_mid rfl 137 _ _ rfl (w.heap.size+1) 0 (nl s).toArray rfl rfl HT.out (i4 s) (aQ s) ?_))
   refine bodyPost_ret (v := .agg (nl s).toArray) (aC Tryz.results135 _ _ (w.heap.size+1) 0 (nl s) _ rfl (World.rangeAt_setCells_same _ _ _ _ HT.out) Tryz.underlying137 rfl (i4 s)) rfl ⟨s,hs,rfl,by rw [rt,if_pos HD.out];exact HX.out,af _ (by omega) _ _ _ HS2.out.below⟩
  ·rw [decide_eq_false hcd] at heq
   have HD:Hid (¬ rx n*rx n % pp=n % pp):=by show ¬ _=_;rw [←HCC.out,←HDD.out];exact hcd
   go_wp2_with fail
   refine wp_region_held_drew (S:=(fun w'=>SS w [(w.heap.size,nl n,137),(q,nl s,137)] (w.heap.size+1) 4 w')) (by kernel_rfl) ?_ (fun hHeld => ?_)
   ·exact HS1.out.drew
   refine aq (i:=0) (v:=_) 10 rfl rfl (by kernel_rfl) (by kernel_rfl) (by kernel_rfl) (fun _ _ _ h=>h) (yieldsIf_load_mid (by rfl) _ _ rfl _ _ rfl _ _ (fun w h=>h.range (i:=1) rfl) Tryz.underlying137 rfl (i4 s)) hHeld ?_
   simp only [Act.put,qA,qC,qB]
   refine aq (i:=1) (v:=_) 11 rfl rfl (by kernel_rfl) (by kernel_rfl) (by kernel_rfl) (fun _ _ _ h=>h) (yieldsIf_load_mid (by rfl) _ _ rfl _ _ rfl _ _ (fun w h=>h.range (i:=1) rfl) Tryz.underlying137 rfl (i4 s)) hHeld ?_
   simp only [Act.put,qA,qC,qB]
   refine aq (i:=4) (v:=_) 14 rfl rfl (by kernel_rfl) (by kernel_rfl) (by kernel_rfl) (fun _ _ _ h=>h) (yieldsIf_load_mid (by rfl) _ _ rfl _ _ rfl _ _ (fun w h=>h.range (i:=0) rfl) Tryz.underlying137 rfl (i4 n)) hHeld ?_
   simp only [Act.put,qA,qC,qB]
   refine wpAnyH_ready (rs:=[2]) (by kernel_rfl) (by simp) ?_
   refine AllReadyH.cons rfl (fun K hK => ?_) AllReadyH.nil
   go_simp
   go_at_call 129
   refine (ml s s hs hs _).mono ?_
   rintro e wA ⟨m,hm,rfl,em,hbA⟩
   refine hK.out _ _ ?_ (fun hHeld => ?_)
   ·exact hHeld.call hbA
   clear hK K
   try simp only [Act.put,qA,qC,qB]
   refine wpAnyH_ready (rs:=[3]) (by kernel_rfl) (by simp) ?_
   refine AllReadyH.cons rfl (fun K hK => ?_) AllReadyH.nil
   go_simp
   go_at_call 136
   refine (sec m hm em _).mono ?_
   rintro e wB ⟨rfl,hbB⟩
   refine hK.out _ _ ?_ (fun hHeld => ?_)
   ·exact hHeld.call hbB
   clear hK K
   try simp only [Act.put,qA,qC,qB]
   refine wpAnyH_ready (rs:=[5]) (by kernel_rfl) (by simp) ?_
   refine AllReadyH.cons rfl (fun K hK => ?_) AllReadyH.nil
   go_simp
   go_at_call 136
   refine (sed _).mono ?_
   rintro e wC ⟨rfl,hbC⟩
   refine hK.out _ _ ?_ (fun hHeld => ?_)
   ·exact hHeld.call hbC
   clear hK K
   try simp only [Act.put,qA,qC,qB]
   refine aq (i:=6) (v := ?_) 16 rfl rfl (by kernel_rfl) (by kernel_rfl) (by kernel_rfl) (fun _ _ _ h=>h) (Or.inl ⟨by rfl,?_⟩) hHeld ?_
   rotate_left 1
   ·intro w hSw;go_simp <;> with_reducible rfl
   simp only [Act.put,qA,qC,qB]
   refine wpAnyH_done (by kernel_rfl) ?_ _
   go_wp2_with fail
   obtain ⟨x2,hx2⟩ : ∃ x,x=wC:=⟨_,rfl⟩
   rw [←hx2] at hHeld ⊢
   have HS2:Hid (SS w [(w.heap.size,nl n,137),(q,nl s,137)] (w.heap.size+1) 4 x2):=hHeld
   clear hHeld hx2
   refine wp_region_held_drew (S:=(fun w'=>SS w [(w.heap.size,nl n,137),(q,nl s,137)] (w.heap.size+1) 4 w')) (by kernel_rfl) ?_ (fun hHeld => ?_)
   ·exact HS2.out.drew
   refine aq (i:=0) (v:=_) 18 rfl rfl (by kernel_rfl) (by kernel_rfl) (by kernel_rfl) (fun _ _ _ h=>h) (yieldsIf_load_mid (by rfl) _ _ rfl _ _ rfl _ _ (fun w h=>h.range (i:=1) rfl) Tryz.underlying137 rfl (i4 s)) hHeld ?_
   simp only [Act.put,qA,qC,qB]
   refine wpAnyH_ready (rs:=[1]) (by kernel_rfl) (by simp) ?_
   refine AllReadyH.cons rfl (fun K hK => ?_) (AllReadyH.nil)
   go_simp
   go_at_call 151
   refine (xI _).mono ?_
   rintro e wD ⟨rfl,hbD⟩
   refine hK.out _ _ ?_ (fun hHeld => ?_)
   ·exact hHeld.call hbD
   clear hK K
   try simp only [Act.put,qA,qC,qB]
   refine wpAnyH_ready (rs:=[2]) (by kernel_rfl) (by simp) ?_
   refine AllReadyH.cons rfl (fun K hK => ?_) (AllReadyH.nil)
   go_simp
   go_at_call 129
   refine (ml s IN hs zt _).mono ?_
   rintro e wE ⟨z,hz,rfl,ez,hbE⟩
   have hT:=((HS2.out.drew.call hbD).call hbE).there
   refine hK.out _ _ ?_ (fun hHeld => ?_)
   ·exact hHeld.call hbE
   clear hK K
   try simp only [Act.put,qA,qC,qB]
   refine wpAnyH_ready (rs:=[3]) (by kernel_rfl) (by simp) ?_
   refine AllReadyH.cons rfl (fun K hK => ?_) (AllReadyH.nil)
   rw [if_pos (by rfl)]
   refine wp_store_mid _ _ _ rfl _ _ (nl z).toArray rfl rfl hT (i4 z) (aQ z) ?_
   refine hK.out _ _ ?_ (fun hHeld => ?_)
   ·exact hHeld.store (by omega) (ne2 (by omega) (by omega)) _
   clear hK K
   try simp only [Act.put,qA,qC,qB]
   refine wpAnyH_done (by kernel_rfl) ?_ _
   go_wp2
   refine bodyPost_ret (v := .agg (nl z).toArray) (aC Tryz.results135 _ _ (w.heap.size+1) 0 (nl z) _ rfl (World.rangeAt_setCells_same _ _ _ _ hT) Tryz.underlying137 rfl (i4 z)) rfl ⟨z,hz,rfl,?_,hHeld.below⟩
   rw [rt,if_neg HD.out,ez,Nat.mul_mod,HX.out,Nat.mul_mod_mod]
theorem LH (m:Nat):bits .and .u64 (lw m 0) 1=((m % 2:Nat):Int):=by
 have h:=bits_and_u64_nat (m/18446744073709551616 ^ 0 % 18446744073709551616) 1 (Nat.mod_lt _ (by decide)) (by decide)
 rw [Nat.and_one_is_mod,Nat.pow_zero,Nat.div_one] at h
 rw [lw,Nat.pow_zero,Nat.div_one]
 refine Eq.trans h ?_
 omega
set_option maxHeartbeats 1000000 in
theorem Cv (n:Nat) (hn:n<RN) (w:World) :
  Calls Tryz.prog 137 #[nv n] w fun e w' => ∃ s,s<RN∧e = .returned (nv s)∧s % pp=ev (n % pp)∧Below w.heap.size w w':=by
 obtain ⟨m,hm⟩ : ∃ m,m=n % pp:=⟨_,rfl⟩
 have hml:m<pp:=by rw [hm];exact Nat.mod_lt _ (by decide)
 have hmr:m<RN:=Nat.lt_trans hml jz
 have se:=dw n hn
 rw [←hm] at se ⊢
 clear hm
 have sb:=vB 0 m (by decide) hmr
 have ha:=LH m
 have l0:lw 0 0=0:=by decide
 have l1:lw 0 1=0:=by decide
 have l2:lw 0 2=0:=by decide
 have l3:lw 0 3=0:=by decide
 simp only [nv,l0,l1,l2,l3] at *
 clear l0 l1 l2 l3
 go_enter Tryz.func137,Tryz.ntmps137
 go_wp2_with fail
 refine (se _).mono ?_
 rintro e w1 ⟨rfl,hb⟩
 simp only [Num.v]
 have HB1:Hid (Below w.heap.size w w1):=chain (w:=((w.alloc (.cells #[.int .u64 (lw n 0),.int .u64 (lw n 1),.int .u64 (lw n 2),.int .u64 (lw n 3)] 137)).alloc (.cells #[.int .u64 0,.int .u64 0,.int .u64 0,.int .u64 0] 137))) (Below.alloc (Below.alloc (Below.refl w.heap.size w) ((Below.refl w.heap.size w)).size _) ((Below.alloc (Below.refl w.heap.size w) ((Below.refl w.heap.size w)).size _)).size _) hb
 have z1:w.heap.size+2≤w1.heap.size:=by have:=(show Below (((w.alloc (.cells #[.int .u64 (lw n 0),.int .u64 (lw n 1),.int .u64 (lw n 2),.int .u64 (lw n 3)] 137)).alloc (.cells #[.int .u64 0,.int .u64 0,.int .u64 0,.int .u64 0] 137))).heap.size ((w.alloc (.cells #[.int .u64 (lw n 0),.int .u64 (lw n 1),.int .u64 (lw n 2),.int .u64 (lw n 3)] 137)).alloc (.cells #[.int .u64 0,.int .u64 0,.int .u64 0,.int .u64 0] 137)) w1 from hb).size;(try simp only [dh,World.size_alloc] at this);omega
 have B_n_1:w1.heap[w.heap.size]? = some (.cells #[.int .u64 (lw n 0),.int .u64 (lw n 1),.int .u64 (lw n 2),.int .u64 (lw n 3)] 137):=bA (w:=((w.alloc (.cells #[.int .u64 (lw n 0),.int .u64 (lw n 1),.int .u64 (lw n 2),.int .u64 (lw n 3)] 137)).alloc (.cells #[.int .u64 0,.int .u64 0,.int .u64 0,.int .u64 0] 137))) hb ((ak _ _ _ (lt_of_heap (ah _ _ _ (by simp)))).trans (ah _ _ _ (by simp)))
 have B_r_1:w1.heap[w.heap.size+1]? = some (.cells #[.int .u64 0,.int .u64 0,.int .u64 0,.int .u64 0] 137):=bA (w:=((w.alloc (.cells #[.int .u64 (lw n 0),.int .u64 (lw n 1),.int .u64 (lw n 2),.int .u64 (lw n 3)] 137)).alloc (.cells #[.int .u64 0,.int .u64 0,.int .u64 0,.int .u64 0] 137))) hb (ah _ _ _ (by simp))
 clear hb
 have l_n_1:w.heap.size<w1.heap.size:=lt_of_heap B_n_1
 have l_r_1:w.heap.size+1<w1.heap.size:=lt_of_heap B_r_1
 obtain ⟨c_n_1_0,c_n_1_1,c_n_1_2,c_n_1_3,f_n_1_0,f_n_1_1,f_n_1_2,f_n_1_3⟩:=four B_n_1
 obtain ⟨c_r_1_0,c_r_1_1,c_r_1_2,c_r_1_3,f_r_1_0,f_r_1_1,f_r_1_2,f_r_1_3⟩:=four B_r_1
 by_cases hodd:m % 2=1
 ·rw [hodd] at ha
  go_wp2_with fail
  refine (sb _).mono ?_
  rintro e w2 ⟨s,hs,rfl,es,hb⟩
  simp only [Num.v]
  have HB2:Hid (Below w.heap.size w w2):=chain (w:=(fm w1 (w.heap.size) (.int .u64 (lw m 0)) (.int .u64 (lw m 1)) (.int .u64 (lw m 2)) (.int .u64 (lw m 3)))) (cY HB1.out (by omega) _ _ _ _) hb
  have z2:w1.heap.size+0≤w2.heap.size:=by have:=(show Below ((fm w1 (w.heap.size) (.int .u64 (lw m 0)) (.int .u64 (lw m 1)) (.int .u64 (lw m 2)) (.int .u64 (lw m 3)))).heap.size (fm w1 (w.heap.size) (.int .u64 (lw m 0)) (.int .u64 (lw m 1)) (.int .u64 (lw m 2)) (.int .u64 (lw m 3))) w2 from hb).size;(try simp only [dh,World.size_alloc] at this);omega
  have B_n_2:w2.heap[w.heap.size]? = some (.cells #[.int .u64 (lw m 0),.int .u64 (lw m 1),.int .u64 (lw m 2),.int .u64 (lw m 3)] 137):=bA (w:=(fm w1 (w.heap.size) (.int .u64 (lw m 0)) (.int .u64 (lw m 1)) (.int .u64 (lw m 2)) (.int .u64 (lw m 3)))) hb (cH _ _ _ _ B_n_1)
  have B_r_2:w2.heap[w.heap.size+1]? = some (.cells #[.int .u64 0,.int .u64 0,.int .u64 0,.int .u64 0] 137):=bA (w:=(fm w1 (w.heap.size) (.int .u64 (lw m 0)) (.int .u64 (lw m 1)) (.int .u64 (lw m 2)) (.int .u64 (lw m 3)))) hb ((fQ _ _ _ _ _ _ _ (by omega)).trans B_r_1)
  clear hb
  have l_n_2:w.heap.size<w2.heap.size:=lt_of_heap B_n_2
  have l_r_2:w.heap.size+1<w2.heap.size:=lt_of_heap B_r_2
  obtain ⟨c_n_2_0,c_n_2_1,c_n_2_2,c_n_2_3,f_n_2_0,f_n_2_1,f_n_2_2,f_n_2_3⟩:=four B_n_2
  obtain ⟨c_r_2_0,c_r_2_1,c_r_2_2,c_r_2_3,f_r_2_0,f_r_2_1,f_r_2_2,f_r_2_3⟩:=four B_r_2
  go_wp2
  refine bodyPost_ret (v := .agg #[.int .u64 (lw s 0),.int .u64 (lw s 1),.int .u64 (lw s 2),.int .u64 (lw s 3)]) (aC Tryz.results137 _ _ (w.heap.size+1) 0 [.int .u64 (lw s 0),.int .u64 (lw s 1),.int .u64 (lw s 2),.int .u64 (lw s 3)] _ rfl (va (w:=(fm w2 (w.heap.size+1) (.int .u64 (lw s 0)) (.int .u64 (lw s 1)) (.int .u64 (lw s 2)) (.int .u64 (lw s 3)))) (t:=137) (cH _ _ _ _ B_r_2)) Tryz.underlying137 rfl (by kernel_rfl)) rfl ⟨s,hs,rfl,?_,(cY HB2.out (by omega) _ _ _ _)⟩
  have hm0:m % pp=m:=Nat.mod_eq_of_lt hml
  rw [es,ev,if_pos hodd,hm0,Nat.zero_add]
  exact Nat.mod_eq_of_lt (by omega)
 ·have h0:m % 2=0:=by omega
  rw [h0] at ha
  go_wp2
  refine bodyPost_ret (v := .agg #[.int .u64 (lw m 0),.int .u64 (lw m 1),.int .u64 (lw m 2),.int .u64 (lw m 3)]) (aC Tryz.results137 _ _ (w.heap.size+1) 0 [.int .u64 (lw m 0),.int .u64 (lw m 1),.int .u64 (lw m 2),.int .u64 (lw m 3)] _ rfl (va (w:=(fm (fm w1 (w.heap.size) (.int .u64 (lw m 0)) (.int .u64 (lw m 1)) (.int .u64 (lw m 2)) (.int .u64 (lw m 3))) (w.heap.size+1) (.int .u64 (lw m 0)) (.int .u64 (lw m 1)) (.int .u64 (lw m 2)) (.int .u64 (lw m 3)))) (t:=137) (cH _ _ _ _ ((fQ _ _ _ _ _ _ _ (by omega)).trans B_r_1))) Tryz.underlying137 rfl (by kernel_rfl)) rfl ⟨m,hmr,rfl,?_,(cY (cY HB1.out (by omega) _ _ _ _) (by omega) _ _ _ _)⟩
  rw [ev,if_neg hodd]
  exact Nat.mod_eq_of_lt hml
end Go.Proofs.YtajehiidpecknaaGreatDoor
