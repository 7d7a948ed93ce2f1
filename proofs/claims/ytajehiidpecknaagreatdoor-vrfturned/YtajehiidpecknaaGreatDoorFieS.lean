import Derived.Test.YtajehiidpecknaaGreatDoorFieI
import Derived.Test.YtajehiidpecknaaGreatDoorFeG
import Derived.Test.YtajehiidpecknaaGreatDoorFieA
set_option linter.all false
namespace Go.Proofs.YtajehiidpecknaaGreatDoor
open Go Go.RowKit Go.Lib
def IN:Nat:=19681161376707505956807079304988542015446066515923890162744021073123829784752
theorem CJ:IN<RN:=by decide
theorem Oi:(#[.int .u64 14190309331451158704,.int .u64 3405592160176694392,.int .u64 3120150775007532967,.int .u64 3135389899092516619]:Array Value)=(nl IN).toArray:=by kernel_rfl
theorem AK (w:World):Calls Tryz.prog 151 #[] w fun e w'=>e = .returned (.agg (nl IN).toArray)∧Below w.heap.size w w':=by
 rw [←Oi]
 go_enter Tryz.func151,Tryz.ntmps151
 go_wp2
 simp [bodyPost,results,Tryz.results151,go_sem]
 exact (Below.refl _ _).alloc (Nat.le_refl _) _
def rx (n:Nat):Nat:=n ^ ((pp+3)/8) % pp
def rt (n:Nat):Nat:=if rx n*rx n % pp=n % pp then rx n else rx n*IN % pp
def ev (m:Nat):Nat:=if m % 2=1 then pp - m else m
theorem Mr (n:Nat):rx n<pp:=by unfold rx;exact Nat.mod_lt _ (by decide)
theorem yw (n:Nat):rt n<pp:=by unfold rt;split;exact Mr n;exact Nat.mod_lt _ (by decide)
theorem qU {s x:Nat} (h:s % pp=x):s*s % pp=x*x % pp:=by rw [Nat.mul_mod,h]
set_option maxRecDepth 100000 in
set_option maxHeartbeats 4000000 in
theorem Ec (n:Nat) (hn:n<RN) (w:World) :
  Calls Tryz.prog 135 #[nv n] w fun e w' => ∃ s,s<RN∧e = .returned (nv s)∧s % pp=rt n∧Below w.heap.size w w':=by
 have ml : ∀ a b:Nat,a<RN→b<RN → ∀ w,Calls Tryz.prog 129 #[.agg (nl a).toArray,.agg (nl b).toArray] w fun e w' => ∃ s:Nat,s<RN∧e = .returned (.agg (nl s).toArray)∧s % pp=(a*b) % pp∧Below w.heap.size w w':=rR
 have on : ∀ n:Nat,n<RN → ∀ w,Calls Tryz.prog 142 #[.agg (nl n).toArray] w fun e w' => ∃ s:Nat,s<RN∧e = .returned (.agg (nl s).toArray)∧s % pp=n ^ rn 250 % pp∧Below w.heap.size w w':=Cw
 have sq1 : ∀ n:Nat,n<RN → ∀ w,Calls Tryz.prog 141 #[.agg (nl n).toArray,.int .i64 1] w fun e w' => ∃ s:Nat,s<RN∧e = .returned (.agg (nl s).toArray)∧s % pp=n ^ tw 1 % pp∧Below w.heap.size w w':=fun n hn w=>pe n 1 hn (by decide) w
 have sq2 : ∀ n:Nat,n<RN → ∀ w,Calls Tryz.prog 141 #[.agg (nl n).toArray,.int .i64 2] w fun e w' => ∃ s:Nat,s<RN∧e = .returned (.agg (nl s).toArray)∧s % pp=n ^ tw 2 % pp∧Below w.heap.size w w':=fun n hn w=>pe n 2 hn (by decide) w
 have HSa:=SS.num w n
 unfold nv
 go_enter Tryz.func135,Tryz.ntmps135
 go_wp2_with fail
 obtain ⟨x0,hx0⟩ : ∃ x,x=(w.alloc (.cells (nl n).toArray 137)).alloc (.cells #[.int .u64 0,.int .u64 0,.int .u64 0,.int .u64 0] 137):=⟨_,rfl⟩
 have HS0:Hid (SS w [(w.heap.size,nl n,137)] (w.heap.size+1) 4 x0):=by rw [hx0];exact HSa
 rw [←hx0]
 clear hx0 HSa
 go_cut [3] from 4 to 10 (fun sz wx => ∃ q s:Nat,sz = .pointer (some ⟨q,0,none⟩)∧s<RN∧s % pp=n ^ ((pp+3)/8) % pp∧w.heap.size+1<q∧SS w [(w.heap.size,nl n,137),(q,nl s,137)] (w.heap.size+1) 4 wx)
 case first =>
  refine wp_region_held_drew (S:=(fun w'=>SS w [(w.heap.size,nl n,137)] (w.heap.size+1) 4 w')) (by kernel_rfl) ?_ (fun hHeld => ?_)
  ·exact HS0.out.drew
  refine aL (i:=0) (v:=_) 4 rfl rfl (by kernel_rfl) (by kernel_rfl) (by kernel_rfl) (fun _ _ _ h=>h) (yieldsIf_load_mid (by rfl) _ _ rfl _ _ rfl _ _ (fun w h=>h.range (i:=0) rfl) Tryz.underlying137 rfl (i4 n)) hHeld ?_
  simp only [Act.put,qA,qC,qB]
  refine aL (i:=3) (v:=_) 7 rfl rfl (by kernel_rfl) (by kernel_rfl) (by kernel_rfl) (fun _ _ _ h=>h) (yieldsIf_load_mid (by rfl) _ _ rfl _ _ rfl _ _ (fun w h=>h.range (i:=0) rfl) Tryz.underlying137 rfl (i4 n)) hHeld ?_
  simp only [Act.put,qA,qC,qB]
  refine wpAnyH_ready (rs:=[1,6]) (by kernel_rfl) (by simp) ?_
  refine AllReadyH.cons rfl (fun K hK => ?_) (AllReadyH.cons rfl (fun K hK => ?_) (AllReadyH.nil))
  ·go_simp
   go_at_call 142
   refine (on n hn _).mono ?_
   rintro e wA ⟨o,ho,rfl,eo,hbA⟩
   refine hK.out _ _ ?_ (fun hHeld => ?_)
   ·exact hHeld.call hbA
   clear hK K
   try simp only [Act.put,qA,qC,qB]
   refine wpAnyH_ready (rs:=[2,6]) (by kernel_rfl) (by simp) ?_
   refine AllReadyH.cons rfl (fun K hK => ?_) (AllReadyH.cons rfl (fun K hK => ?_) (AllReadyH.nil))
   ·go_simp
    go_at_call 141
    refine (sq2 o ho _).mono ?_
    rintro e wB ⟨u,hu,rfl,eu,hbB⟩
    refine hK.out _ _ ?_ (fun hHeld => ?_)
    ·exact hHeld.call hbB
    clear hK K
    try simp only [Act.put,qA,qC,qB]
    refine wpAnyH_ready (rs:=[4,6]) (by kernel_rfl) (by simp) ?_
    refine AllReadyH.cons rfl (fun K hK => ?_) (AllReadyH.cons rfl (fun K hK => ?_) (AllReadyH.nil))
    ·go_simp
     go_at_call 141
     refine (sq1 n hn _).mono ?_
     rintro e wC ⟨v,hv,rfl,ev,hbC⟩
     refine hK.out _ _ ?_ (fun hHeld => ?_)
     ·exact hHeld.call hbC
     clear hK K
     try simp only [Act.put,qA,qC,qB]
     refine wpAnyH_ready (rs:=[5,6]) (by kernel_rfl) (by simp) ?_
     refine AllReadyH.cons rfl (fun K hK => ?_) (AllReadyH.cons rfl (fun K hK => ?_) (AllReadyH.nil))
     ·go_simp
      go_at_call 129
      refine (ml u v hu hv _).mono ?_
      rintro e wD ⟨s,hs,rfl,es,hbD⟩
      refine hK.out _ _ ?_ (fun hHeld => ?_)
      ·exact hHeld.call hbD
      clear hK K
      try simp only [Act.put,qA,qC,qB]
      refine wpAnyH_ready (rs:=[6]) (by kernel_rfl) (by simp) ?_
      refine AllReadyH.cons rfl (fun K hK => ?_) (AllReadyH.nil)
      have hlt:=hHeld.lt
      have hrq:=hHeld.rlt
      have hq:((wD).alloc (.cells #[.int .u64 0,.int .u64 0,.int .u64 0,.int .u64 0] 137)).heap[(wD).heap.size]? = some (.cells #[.int .u64 0,.int .u64 0,.int .u64 0,.int .u64 0] 137 (0,0)):=aj _ _ _ rfl
      have hqs:=hHeld.below.size
      go_simp
      refine hK.out _ _ ?_ (fun hHeld => ?_)
      ·exact hHeld.alloc _
      clear hK K
      try simp only [Act.put,qA,qC,qB]
      refine wpAnyH_ready (rs:=[7]) (by kernel_rfl) (by simp) ?_
      refine AllReadyH.cons rfl (fun K hK => ?_) (AllReadyH.nil)
      rw [if_pos (by rfl)]
      refine wp_store_mid _ _ _ rfl _ _ (nl s).toArray rfl rfl (aw hq 0 4 (by simp)) (i4 s) (bu s) ?_
      refine hK.out _ _ ?_ (fun hHeld => ?_)
      ·exact hHeld.put hqs hlt _
      clear hK K
      try simp only [Act.put,qA,qC,qB]
      refine wpAnyH_done (by kernel_rfl) ?_ _
      go_wp2_with fail
      go_meet
      exact ⟨_,s,rfl,hs,iR n (rn 250) (tw 2) (tw 1) ((pp+3)/8) o u v s (by decide) eo eu ev es,hrq,hHeld.add (nl s) _ (dI hq)⟩
     ·have hlt:=hHeld.lt
      have hrq:=hHeld.rlt
      have hq:((wC).alloc (.cells #[.int .u64 0,.int .u64 0,.int .u64 0,.int .u64 0] 137)).heap[(wC).heap.size]? = some (.cells #[.int .u64 0,.int .u64 0,.int .u64 0,.int .u64 0] 137 (0,0)):=aj _ _ _ rfl
      have hqs:=hHeld.below.size
      go_simp
      refine hK.out _ _ ?_ (fun hHeld => ?_)
      ·exact hHeld.alloc _
      clear hK K
      try simp only [Act.put,qA,qC,qB]
      refine wpAnyH_ready (rs:=[5]) (by kernel_rfl) (by simp) ?_
      refine AllReadyH.cons rfl (fun K hK => ?_) (AllReadyH.nil)
      go_simp
      go_at_call 129
      refine (ml u v hu hv _).mono ?_
      rintro e wD ⟨s,hs,rfl,es,hbD⟩
      refine hK.out _ _ ?_ (fun hHeld => ?_)
      ·exact hHeld.call hbD
      clear hK K
      try simp only [Act.put,qA,qC,qB]
      have hq:=cS hbD hq
      refine wpAnyH_ready (rs:=[7]) (by kernel_rfl) (by simp) ?_
      refine AllReadyH.cons rfl (fun K hK => ?_) (AllReadyH.nil)
      rw [if_pos (by rfl)]
      refine wp_store_mid _ _ _ rfl _ _ (nl s).toArray rfl rfl (aw hq 0 4 (by simp)) (i4 s) (bu s) ?_
      refine hK.out _ _ ?_ (fun hHeld => ?_)
      ·exact hHeld.put hqs hlt _
      clear hK K
      try simp only [Act.put,qA,qC,qB]
      refine wpAnyH_done (by kernel_rfl) ?_ _
      go_wp2_with fail
      go_meet
      exact ⟨_,s,rfl,hs,iR n (rn 250) (tw 2) (tw 1) ((pp+3)/8) o u v s (by decide) eo eu ev es,hrq,hHeld.add (nl s) _ (dI hq)⟩
    ·have hlt:=hHeld.lt
     have hrq:=hHeld.rlt
     have hq:((wB).alloc (.cells #[.int .u64 0,.int .u64 0,.int .u64 0,.int .u64 0] 137)).heap[(wB).heap.size]? = some (.cells #[.int .u64 0,.int .u64 0,.int .u64 0,.int .u64 0] 137 (0,0)):=aj _ _ _ rfl
     have hqs:=hHeld.below.size
     go_simp
     refine hK.out _ _ ?_ (fun hHeld => ?_)
     ·exact hHeld.alloc _
     clear hK K
     try simp only [Act.put,qA,qC,qB]
     refine wpAnyH_ready (rs:=[4]) (by kernel_rfl) (by simp) ?_
     refine AllReadyH.cons rfl (fun K hK => ?_) (AllReadyH.nil)
     go_simp
     go_at_call 141
     refine (sq1 n hn _).mono ?_
     rintro e wC ⟨v,hv,rfl,ev,hbC⟩
     refine hK.out _ _ ?_ (fun hHeld => ?_)
     ·exact hHeld.call hbC
     clear hK K
     try simp only [Act.put,qA,qC,qB]
     have hq:=cS hbC hq
     refine wpAnyH_ready (rs:=[5]) (by kernel_rfl) (by simp) ?_
     refine AllReadyH.cons rfl (fun K hK => ?_) (AllReadyH.nil)
     go_simp
     go_at_call 129
     refine (ml u v hu hv _).mono ?_
     rintro e wD ⟨s,hs,rfl,es,hbD⟩
     refine hK.out _ _ ?_ (fun hHeld => ?_)
     ·exact hHeld.call hbD
     clear hK K
     try simp only [Act.put,qA,qC,qB]
     have hq:=cS hbD hq
     refine wpAnyH_ready (rs:=[7]) (by kernel_rfl) (by simp) ?_
     refine AllReadyH.cons rfl (fun K hK => ?_) (AllReadyH.nil)
     rw [if_pos (by rfl)]
     refine wp_store_mid _ _ _ rfl _ _ (nl s).toArray rfl rfl (aw hq 0 4 (by simp)) (i4 s) (bu s) ?_
     refine hK.out _ _ ?_ (fun hHeld => ?_)
     ·exact hHeld.put hqs hlt _
     clear hK K
     try simp only [Act.put,qA,qC,qB]
     refine wpAnyH_done (by kernel_rfl) ?_ _
     go_wp2_with fail
     go_meet
     exact ⟨_,s,rfl,hs,iR n (rn 250) (tw 2) (tw 1) ((pp+3)/8) o u v s (by decide) eo eu ev es,hrq,hHeld.add (nl s) _ (dI hq)⟩
   ·have hlt:=hHeld.lt
    have hrq:=hHeld.rlt
    have hq:((wA).alloc (.cells #[.int .u64 0,.int .u64 0,.int .u64 0,.int .u64 0] 137)).heap[(wA).heap.size]? = some (.cells #[.int .u64 0,.int .u64 0,.int .u64 0,.int .u64 0] 137 (0,0)):=aj _ _ _ rfl
    have hqs:=hHeld.below.size
    go_simp
    refine hK.out _ _ ?_ (fun hHeld => ?_)
    ·exact hHeld.alloc _
    clear hK K
    try simp only [Act.put,qA,qC,qB]
    refine wpAnyH_ready (rs:=[2]) (by kernel_rfl) (by simp) ?_
    refine AllReadyH.cons rfl (fun K hK => ?_) (AllReadyH.nil)
    go_simp
    go_at_call 141
    refine (sq2 o ho _).mono ?_
    rintro e wB ⟨u,hu,rfl,eu,hbB⟩
    refine hK.out _ _ ?_ (fun hHeld => ?_)
    ·exact hHeld.call hbB
    clear hK K
    try simp only [Act.put,qA,qC,qB]
    have hq:=cS hbB hq
    refine wpAnyH_ready (rs:=[4]) (by kernel_rfl) (by simp) ?_
    refine AllReadyH.cons rfl (fun K hK => ?_) (AllReadyH.nil)
    go_simp
    go_at_call 141
    refine (sq1 n hn _).mono ?_
    rintro e wC ⟨v,hv,rfl,ev,hbC⟩
    refine hK.out _ _ ?_ (fun hHeld => ?_)
    ·exact hHeld.call hbC
    clear hK K
    try simp only [Act.put,qA,qC,qB]
    have hq:=cS hbC hq
    refine wpAnyH_ready (rs:=[5]) (by kernel_rfl) (by simp) ?_
    refine AllReadyH.cons rfl (fun K hK => ?_) (AllReadyH.nil)
    go_simp
    go_at_call 129
    refine (ml u v hu hv _).mono ?_
    rintro e wD ⟨s,hs,rfl,es,hbD⟩
    refine hK.out _ _ ?_ (fun hHeld => ?_)
    ·exact hHeld.call hbD
    clear hK K
    try simp only [Act.put,qA,qC,qB]
    have hq:=cS hbD hq
    refine wpAnyH_ready (rs:=[7]) (by kernel_rfl) (by simp) ?_
    refine AllReadyH.cons rfl (fun K hK => ?_) (AllReadyH.nil)
    rw [if_pos (by rfl)]
    refine wp_store_mid _ _ _ rfl _ _ (nl s).toArray rfl rfl (aw hq 0 4 (by simp)) (i4 s) (bu s) ?_
    refine hK.out _ _ ?_ (fun hHeld => ?_)
    ·exact hHeld.put hqs hlt _
    clear hK K
    try simp only [Act.put,qA,qC,qB]
    refine wpAnyH_done (by kernel_rfl) ?_ _
    go_wp2_with fail
    go_meet
    exact ⟨_,s,rfl,hs,iR n (rn 250) (tw 2) (tw 1) ((pp+3)/8) o u v s (by decide) eo eu ev es,hrq,hHeld.add (nl s) _ (dI hq)⟩
  ·have hlt:=hHeld.lt
   have hrq:=hHeld.rlt
   have hq:((x0.drew).alloc (.cells #[.int .u64 0,.int .u64 0,.int .u64 0,.int .u64 0] 137)).heap[(x0.drew).heap.size]? = some (.cells #[.int .u64 0,.int .u64 0,.int .u64 0,.int .u64 0] 137 (0,0)):=aj _ _ _ rfl
   have hqs:=hHeld.below.size
   go_simp
   refine hK.out _ _ ?_ (fun hHeld => ?_)
   ·exact hHeld.alloc _
   clear hK K
   try simp only [Act.put,qA,qC,qB]
   refine wpAnyH_ready (rs:=[1]) (by kernel_rfl) (by simp) ?_
   refine AllReadyH.cons rfl (fun K hK => ?_) (AllReadyH.nil)
   go_simp
   go_at_call 142
   refine (on n hn _).mono ?_
   rintro e wA ⟨o,ho,rfl,eo,hbA⟩
   refine hK.out _ _ ?_ (fun hHeld => ?_)
   ·exact hHeld.call hbA
   clear hK K
   try simp only [Act.put,qA,qC,qB]
   have hq:=cS hbA hq
   refine wpAnyH_ready (rs:=[2]) (by kernel_rfl) (by simp) ?_
   refine AllReadyH.cons rfl (fun K hK => ?_) (AllReadyH.nil)
   go_simp
   go_at_call 141
   refine (sq2 o ho _).mono ?_
   rintro e wB ⟨u,hu,rfl,eu,hbB⟩
   refine hK.out _ _ ?_ (fun hHeld => ?_)
   ·exact hHeld.call hbB
   clear hK K
   try simp only [Act.put,qA,qC,qB]
   have hq:=cS hbB hq
   refine wpAnyH_ready (rs:=[4]) (by kernel_rfl) (by simp) ?_
   refine AllReadyH.cons rfl (fun K hK => ?_) (AllReadyH.nil)
   go_simp
   go_at_call 141
   refine (sq1 n hn _).mono ?_
   rintro e wC ⟨v,hv,rfl,ev,hbC⟩
   refine hK.out _ _ ?_ (fun hHeld => ?_)
   ·exact hHeld.call hbC
   clear hK K
   try simp only [Act.put,qA,qC,qB]
   have hq:=cS hbC hq
   refine wpAnyH_ready (rs:=[5]) (by kernel_rfl) (by simp) ?_
   refine AllReadyH.cons rfl (fun K hK => ?_) (AllReadyH.nil)
   go_simp
   go_at_call 129
   refine (ml u v hu hv _).mono ?_
   rintro e wD ⟨s,hs,rfl,es,hbD⟩
   refine hK.out _ _ ?_ (fun hHeld => ?_)
   ·exact hHeld.call hbD
   clear hK K
   try simp only [Act.put,qA,qC,qB]
   have hq:=cS hbD hq
   refine wpAnyH_ready (rs:=[7]) (by kernel_rfl) (by simp) ?_
   refine AllReadyH.cons rfl (fun K hK => ?_) (AllReadyH.nil)
   rw [if_pos (by rfl)]
   refine wp_store_mid _ _ _ rfl _ _ (nl s).toArray rfl rfl (aw hq 0 4 (by simp)) (i4 s) (bu s) ?_
   refine hK.out _ _ ?_ (fun hHeld => ?_)
   ·exact hHeld.put hqs hlt _
   clear hK K
   try simp only [Act.put,qA,qC,qB]
   refine wpAnyH_done (by kernel_rfl) ?_ _
   go_wp2_with fail
   go_meet
   exact ⟨_,s,rfl,hs,iR n (rn 250) (tw 2) (tw 1) ((pp+3)/8) o u v s (by decide) eo eu ev es,hrq,hHeld.add (nl s) _ (dI hq)⟩
 case rest =>
  obtain ⟨q,s,rfl,hs,es,lq,hss⟩:=hcut
  have HX:Hid (s % pp=rx n):=by show s % pp=rx n;unfold rx;exact es
  obtain ⟨x1,hx1⟩ : ∃ x,x=wc:=⟨_,rfl⟩
  rw [←hx1] at hss ⊢
  have HS1:Hid (SS w [(w.heap.size,nl n,137),(q,nl s,137)] (w.heap.size+1) 4 x1):=hss
  clear es hss hx1
  obtain ⟨c,hc⟩ : ∃ c,c=s*s % pp:=⟨_,rfl⟩
  obtain ⟨d,hd⟩ : ∃ d,d=n % pp:=⟨_,rfl⟩
  have hcl:c<RN:=by rw [hc];exact cY _
  have hdl:d<RN:=by rw [hd];exact cY _
  have sec : ∀ m,m<RN→m % pp=s*s % pp → ∀ w,Calls Tryz.prog 136 #[.agg (nl m).toArray] w fun e w'=>e = .returned (.agg (nl c).toArray)∧Below w.heap.size w w':=fun m hm e w=>by
   have:=fc m hm w
   rw [e,←hc] at this
   exact this
  have sed : ∀ w,Calls Tryz.prog 136 #[.agg (nl n).toArray] w fun e w'=>e = .returned (.agg (nl d).toArray)∧Below w.heap.size w w':=fun w=>by
   have:=fc n hn w
   rw [←hd] at this
   exact this
  have heq : ∀ w,(Op.equalIn 10000 137 (.agg (nl c).toArray) (.agg (nl d).toArray)).run Tryz.prog w = .ok (decide (c=d)) w:=DH c d hcl hdl
  have HCC:Hid (c=rx n*rx n % pp):=hc.trans (qU HX.out)
  have HDD:Hid (d=n % pp):=hd
  clear hc hd
  by_cases hcd:c=d
  ·rw [decide_eq_true hcd] at heq
   have HD:Hid (rx n*rx n % pp=n % pp):=by show _=_;rw [←HCC.out,hcd,HDD.out]
   go_wp2_with fail
   refine wp_region_held_drew (S:=(fun w'=>SS w [(w.heap.size,nl n,137),(q,nl s,137)] (w.heap.size+1) 4 w')) (by kernel_rfl) ?_ (fun hHeld => ?_)
   ·exact HS1.out.drew
   refine aL (i:=0) (v:=_) 10 rfl rfl (by kernel_rfl) (by kernel_rfl) (by kernel_rfl) (fun _ _ _ h=>h) (yieldsIf_load_mid (by rfl) _ _ rfl _ _ rfl _ _ (fun w h=>h.range (i:=1) rfl) Tryz.underlying137 rfl (i4 s)) hHeld ?_
   simp only [Act.put,qA,qC,qB]
   refine aL (i:=1) (v:=_) 11 rfl rfl (by kernel_rfl) (by kernel_rfl) (by kernel_rfl) (fun _ _ _ h=>h) (yieldsIf_load_mid (by rfl) _ _ rfl _ _ rfl _ _ (fun w h=>h.range (i:=1) rfl) Tryz.underlying137 rfl (i4 s)) hHeld ?_
   simp only [Act.put,qA,qC,qB]
   refine aL (i:=4) (v:=_) 14 rfl rfl (by kernel_rfl) (by kernel_rfl) (by kernel_rfl) (fun _ _ _ h=>h) (yieldsIf_load_mid (by rfl) _ _ rfl _ _ rfl _ _ (fun w h=>h.range (i:=0) rfl) Tryz.underlying137 rfl (i4 n)) hHeld ?_
   simp only [Act.put,qA,qC,qB]
   refine wpAnyH_ready (rs:=[2]) (by kernel_rfl) (by simp) ?_
   refine AllReadyH.cons rfl (fun K hK => ?_) AllReadyH.nil
   go_simp
   go_at_call 129
   refine (ml s s hs hs _).mono ?_
   rintro e wA ⟨m,hm,rfl,em,hbA⟩
   refine hK.out _ _ ?_ (fun hHeld => ?_)
   ·exact hHeld.call hbA
   clear hK K
   try simp only [Act.put,qA,qC,qB]
   refine wpAnyH_ready (rs:=[3]) (by kernel_rfl) (by simp) ?_
   refine AllReadyH.cons rfl (fun K hK => ?_) AllReadyH.nil
   go_simp
   go_at_call 136
   refine (sec m hm em _).mono ?_
   rintro e wB ⟨rfl,hbB⟩
   refine hK.out _ _ ?_ (fun hHeld => ?_)
   ·exact hHeld.call hbB
   clear hK K
   try simp only [Act.put,qA,qC,qB]
   refine wpAnyH_ready (rs:=[5]) (by kernel_rfl) (by simp) ?_
   refine AllReadyH.cons rfl (fun K hK => ?_) AllReadyH.nil
   go_simp
   go_at_call 136
   refine (sed _).mono ?_
   rintro e wC ⟨rfl,hbC⟩
   refine hK.out _ _ ?_ (fun hHeld => ?_)
   ·exact hHeld.call hbC
   clear hK K
   try simp only [Act.put,qA,qC,qB]
   refine aL (i:=6) (v := ?_) 16 rfl rfl (by kernel_rfl) (by kernel_rfl) (by kernel_rfl) (fun _ _ _ h=>h) (Or.inl ⟨by rfl,?_⟩) hHeld ?_
   rotate_left 1
   ·intro w hSw;go_simp <;> with_reducible rfl
   simp only [Act.put,qA,qC,qB]
   refine wpAnyH_done (by kernel_rfl) ?_ _
   have HS2:Hid (SS w [(w.heap.size,nl n,137),(q,nl s,137)] (w.heap.size+1) 4 _):=hHeld
   have HC:Hid (World.rangeAt _ q 0 (nl s)):=hHeld.range (i:=1) rfl
   have HT:Hid (World.there _ (w.heap.size+1) 0 4):=hHeld.there
   clear hHeld
   go_wp2_with (first | (refine wpList_load_mid rfl 137 _ rfl q 0 rfl (nl s) _ HC.out Tryz.underlying137 rfl (i4 s) ?_) | (refine wpList_store_mid rfl 137 _ _ rfl (w.heap.size+1) 0 (nl s).toArray rfl rfl HT.out (i4 s) (bu s) ?_))
   refine bodyPost_ret (v := .agg (nl s).toArray) (aN Tryz.results135 _ _ (w.heap.size+1) 0 (nl s) _ rfl (World.rangeAt_setCells_same _ _ _ _ HT.out) Tryz.underlying137 rfl (i4 s)) rfl ⟨s,hs,rfl,by rw [rt,if_pos HD.out];exact HX.out,af _ (by omega) _ _ _ HS2.out.below⟩
  ·rw [decide_eq_false hcd] at heq
   have HD:Hid (¬ rx n*rx n % pp=n % pp):=by show ¬ _=_;rw [←HCC.out,←HDD.out];exact hcd
   go_wp2_with fail
   refine wp_region_held_drew (S:=(fun w'=>SS w [(w.heap.size,nl n,137),(q,nl s,137)] (w.heap.size+1) 4 w')) (by kernel_rfl) ?_ (fun hHeld => ?_)
   ·exact HS1.out.drew
   refine aL (i:=0) (v:=_) 10 rfl rfl (by kernel_rfl) (by kernel_rfl) (by kernel_rfl) (fun _ _ _ h=>h) (yieldsIf_load_mid (by rfl) _ _ rfl _ _ rfl _ _ (fun w h=>h.range (i:=1) rfl) Tryz.underlying137 rfl (i4 s)) hHeld ?_
   simp only [Act.put,qA,qC,qB]
   refine aL (i:=1) (v:=_) 11 rfl rfl (by kernel_rfl) (by kernel_rfl) (by kernel_rfl) (fun _ _ _ h=>h) (yieldsIf_load_mid (by rfl) _ _ rfl _ _ rfl _ _ (fun w h=>h.range (i:=1) rfl) Tryz.underlying137 rfl (i4 s)) hHeld ?_
   simp only [Act.put,qA,qC,qB]
   refine aL (i:=4) (v:=_) 14 rfl rfl (by kernel_rfl) (by kernel_rfl) (by kernel_rfl) (fun _ _ _ h=>h) (yieldsIf_load_mid (by rfl) _ _ rfl _ _ rfl _ _ (fun w h=>h.range (i:=0) rfl) Tryz.underlying137 rfl (i4 n)) hHeld ?_
   simp only [Act.put,qA,qC,qB]
   refine wpAnyH_ready (rs:=[2]) (by kernel_rfl) (by simp) ?_
   refine AllReadyH.cons rfl (fun K hK => ?_) AllReadyH.nil
   go_simp
   go_at_call 129
   refine (ml s s hs hs _).mono ?_
   rintro e wA ⟨m,hm,rfl,em,hbA⟩
   refine hK.out _ _ ?_ (fun hHeld => ?_)
   ·exact hHeld.call hbA
   clear hK K
   try simp only [Act.put,qA,qC,qB]
   refine wpAnyH_ready (rs:=[3]) (by kernel_rfl) (by simp) ?_
   refine AllReadyH.cons rfl (fun K hK => ?_) AllReadyH.nil
   go_simp
   go_at_call 136
   refine (sec m hm em _).mono ?_
   rintro e wB ⟨rfl,hbB⟩
   refine hK.out _ _ ?_ (fun hHeld => ?_)
   ·exact hHeld.call hbB
   clear hK K
   try simp only [Act.put,qA,qC,qB]
   refine wpAnyH_ready (rs:=[5]) (by kernel_rfl) (by simp) ?_
   refine AllReadyH.cons rfl (fun K hK => ?_) AllReadyH.nil
   go_simp
   go_at_call 136
   refine (sed _).mono ?_
   rintro e wC ⟨rfl,hbC⟩
   refine hK.out _ _ ?_ (fun hHeld => ?_)
   ·exact hHeld.call hbC
   clear hK K
   try simp only [Act.put,qA,qC,qB]
   refine aL (i:=6) (v := ?_) 16 rfl rfl (by kernel_rfl) (by kernel_rfl) (by kernel_rfl) (fun _ _ _ h=>h) (Or.inl ⟨by rfl,?_⟩) hHeld ?_
   rotate_left 1
   ·intro w hSw;go_simp <;> with_reducible rfl
   simp only [Act.put,qA,qC,qB]
   refine wpAnyH_done (by kernel_rfl) ?_ _
   go_wp2_with fail
   obtain ⟨x2,hx2⟩ : ∃ x,x=wC:=⟨_,rfl⟩
   rw [←hx2] at hHeld ⊢
   have HS2:Hid (SS w [(w.heap.size,nl n,137),(q,nl s,137)] (w.heap.size+1) 4 x2):=hHeld
   clear hHeld hx2
   refine wp_region_held_drew (S:=(fun w'=>SS w [(w.heap.size,nl n,137),(q,nl s,137)] (w.heap.size+1) 4 w')) (by kernel_rfl) ?_ (fun hHeld => ?_)
   ·exact HS2.out.drew
   refine aL (i:=0) (v:=_) 18 rfl rfl (by kernel_rfl) (by kernel_rfl) (by kernel_rfl) (fun _ _ _ h=>h) (yieldsIf_load_mid (by rfl) _ _ rfl _ _ rfl _ _ (fun w h=>h.range (i:=1) rfl) Tryz.underlying137 rfl (i4 s)) hHeld ?_
   simp only [Act.put,qA,qC,qB]
   refine wpAnyH_ready (rs:=[1]) (by kernel_rfl) (by simp) ?_
   refine AllReadyH.cons rfl (fun K hK => ?_) (AllReadyH.nil)
   go_simp
   go_at_call 151
   refine (AK _).mono ?_
   rintro e wD ⟨rfl,hbD⟩
   refine hK.out _ _ ?_ (fun hHeld => ?_)
   ·exact hHeld.call hbD
   clear hK K
   try simp only [Act.put,qA,qC,qB]
   refine wpAnyH_ready (rs:=[2]) (by kernel_rfl) (by simp) ?_
   refine AllReadyH.cons rfl (fun K hK => ?_) (AllReadyH.nil)
   go_simp
   go_at_call 129
   refine (ml s IN hs CJ _).mono ?_
   rintro e wE ⟨z,hz,rfl,ez,hbE⟩
   have hT:=((HS2.out.drew.call hbD).call hbE).there
   refine hK.out _ _ ?_ (fun hHeld => ?_)
   ·exact hHeld.call hbE
   clear hK K
   try simp only [Act.put,qA,qC,qB]
   refine wpAnyH_ready (rs:=[3]) (by kernel_rfl) (by simp) ?_
   refine AllReadyH.cons rfl (fun K hK => ?_) (AllReadyH.nil)
   rw [if_pos (by rfl)]
   refine wp_store_mid _ _ _ rfl _ _ (nl z).toArray rfl rfl hT (i4 z) (bu z) ?_
   refine hK.out _ _ ?_ (fun hHeld => ?_)
   ·exact hHeld.store (by omega) (ne2 (by omega) (by omega)) _
   clear hK K
   try simp only [Act.put,qA,qC,qB]
   refine wpAnyH_done (by kernel_rfl) ?_ _
   go_wp2
   refine bodyPost_ret (v := .agg (nl z).toArray) (aN Tryz.results135 _ _ (w.heap.size+1) 0 (nl z) _ rfl (World.rangeAt_setCells_same _ _ _ _ hT) Tryz.underlying137 rfl (i4 z)) rfl ⟨z,hz,rfl,?_,hHeld.below⟩
   rw [rt,if_neg HD.out,ez,Nat.mul_mod,HX.out,Nat.mul_mod_mod]
theorem CO (n:Nat) (hn:n<RN) (w:World) :
  Calls Tryz.prog 137 #[nv n] w fun e w' => ∃ s,s<RN∧e = .returned (nv s)∧s % pp=ev (n % pp)∧Below w.heap.size w w':=by
 refine Calls.mono (Fe.Cs n hn w) ?_
 rintro e w' ⟨s,h1,h2,h3,h4⟩
 refine ⟨s,h1,h2,?_,h4⟩
 have hm:=Nat.mod_lt n (show 0<pp by decide)
 have h5:s % pp=(if n % pp % 2=1 then pp - n % pp else n % pp) % pp:=h3
 rw [h5]
 unfold ev
 generalize n % pp=m at hm ⊢
 split
 ·exact YK (by omega)
 ·exact YK hm
end Go.Proofs.YtajehiidpecknaaGreatDoor
namespace Go.Proofs.YtajehiidpecknaaGreatDoor
open Go Go.RowKit Go.Lib
def sqv (a:Nat):Nat:=if rt a*rt a % pp=a % pp then ev (rt a) else 0
def sqe (a:Nat):Int:=if rt a*rt a % pp=a % pp then 0 else 4
set_option maxRecDepth 100000 in
set_option maxHeartbeats 4000000 in
theorem DT (a:Nat) (ha:a<RN) (w:World) :
  Calls Tryz.prog 111 #[bv a] w fun e w'=>e = .returned (.tuple #[bv (sqv a),.int .i64 (sqe a)])∧Below w.heap.size w w':=by
 have hz:=bG
 have ml : ∀ a b:Nat,a<RN→b<RN → ∀ w,Calls Tryz.prog 129 #[.agg (nl a).toArray,.agg (nl b).toArray] w fun e w' => ∃ s:Nat,s<RN∧e = .returned (.agg (nl s).toArray)∧s % pp=(a*b) % pp∧Below w.heap.size w w':=rR
 have ld : ∀ n w,Calls Tryz.prog 128 #[Value.agg (bl n).toArray] w fun e w'=>e = .returned (.agg (nl n).toArray)∧Below w.heap.size w w':=gL
 have st : ∀ n,n<RN → ∀ w,Calls Tryz.prog 126 #[.agg (nl n).toArray] w fun e w'=>e = .returned (.agg (bl (n % pp)).toArray)∧Below w.heap.size w w':=eS
 have ro : ∀ n,n<RN → ∀ w,Calls Tryz.prog 135 #[.agg (nl n).toArray] w fun e w' => ∃ s,s<RN∧e = .returned (.agg (nl s).toArray)∧s % pp=rt n∧Below w.heap.size w w':=Ec
 have eo : ∀ n,n<RN → ∀ w,Calls Tryz.prog 137 #[.agg (nl n).toArray] w fun e w' => ∃ s,s<RN∧e = .returned (.agg (nl s).toArray)∧s % pp=ev (n % pp)∧Below w.heap.size w w':=CO
 have HS:Hid (SS w _ _ _ _):=SS.one32 w a
 have HC:Hid (World.rangeAt _ w.heap.size 0 (bl a)):=HS.out.range (i:=0) rfl
 have hza:(bl a).toArray.size=32:=aM a
 have hz0:(bl 0).toArray.size=32:=aM 0
 simp only [bv,br] at hz ⊢
 go_enter Tryz.func111,Tryz.ntmps111
 go_wp2_with (refine wpList_load_mid rfl 22 _ rfl w.heap.size 0 rfl (bl a) _ HC.out Tryz.underlying22 rfl (i32 a) ?_)
 refine (ld a _).mono ?_
 rintro e w1 ⟨rfl,hb1⟩
 have S1:=HS.out.call hb1
 have lr1:=S1.rlt
 have HS1a:Hid (SS w [(w.heap.size,bl a,22),(w1.heap.size,nl a,137)] (w.heap.size+1) 32 (w1.alloc (.cells (nl a).toArray 137))):=(S1.alloc _).add (nl a) _ (aj _ _ _ rfl)
 clear HC HS hb1 S1
 go_wp2_with fail
 refine (ro a ha _).mono ?_
 rintro e w2 ⟨s,hs,rfl,es,hb2⟩
 have S2:=HS1a.out.call hb2
 have lr2:=S2.rlt
 have HX:Hid (s % pp=rt a):=es
 have HS2a:Hid (SS w [(w.heap.size,bl a,22),(w1.heap.size,nl a,137),(w2.heap.size,nl s,137)] (w.heap.size+1) 32 (w2.alloc (.cells (nl s).toArray 137))):=(S2.alloc _).add (nl s) _ (aj _ _ _ rfl)
 have l12:w1.heap.size<w2.heap.size:=S2.lt _ (List.mem_of_getElem? (i:=1) rfl)
 clear hb2 S2 HS1a es
 obtain ⟨c,hc⟩ : ∃ c,c=s*s % pp:=⟨_,rfl⟩
 obtain ⟨d,hd⟩ : ∃ d,d=a % pp:=⟨_,rfl⟩
 have hcl:c<RN:=by rw [hc];exact cY _
 have hdl:d<RN:=by rw [hd];exact cY _
 have sec : ∀ m,m<RN→m % pp=s*s % pp → ∀ w,Calls Tryz.prog 136 #[.agg (nl m).toArray] w fun e w'=>e = .returned (.agg (nl c).toArray)∧Below w.heap.size w w':=fun m hm e w=>by
  have:=fc m hm w
  rw [e,←hc] at this
  exact this
 have sed : ∀ w,Calls Tryz.prog 136 #[.agg (nl a).toArray] w fun e w'=>e = .returned (.agg (nl d).toArray)∧Below w.heap.size w w':=fun w=>by
  have:=fc a ha w
  rw [←hd] at this
  exact this
 have heq : ∀ w,(Op.equalIn 10000 137 (.agg (nl c).toArray) (.agg (nl d).toArray)).run Tryz.prog w = .ok (decide (c=d)) w:=DH c d hcl hdl
 have HCC:Hid (c=rt a*rt a % pp):=hc.trans (qU HX.out)
 have HDD:Hid (d=a % pp):=hd
 clear hc hd
 by_cases hcd:c=d
 ·rw [decide_eq_true hcd] at heq
  have HD:Hid (rt a*rt a % pp=a % pp):=by show _=_;rw [←HCC.out,hcd,HDD.out]
  go_wp2_with fail
  obtain ⟨x1,hx1⟩ : ∃ x,x=w2.alloc (.cells (nl s).toArray 137):=⟨_,rfl⟩
  have HS1:Hid (SS w [(w.heap.size,bl a,22),(w1.heap.size,nl a,137),(w2.heap.size,nl s,137)] (w.heap.size+1) 32 x1):=by rw [hx1];exact HS2a.out
  rw [←hx1]
  clear hx1 HS2a
  refine wp_region_held_drew (S:=(fun w'=>SS w [(w.heap.size,bl a,22),(w1.heap.size,nl a,137),(w2.heap.size,nl s,137)] (w.heap.size+1) 32 w')) (by kernel_rfl) ?_ (fun hHeld => ?_)
  ·exact HS1.out.drew
  refine aL (i:=0) (v:=_) 10 rfl rfl (by kernel_rfl) (by kernel_rfl) (by kernel_rfl) (fun _ _ _ h=>h) (yieldsIf_load_mid (by rfl) _ _ rfl _ _ rfl _ _ (fun w h=>h.range (i:=2) rfl) Tryz.underlying137 rfl (i4 s)) hHeld ?_
  simp only [Act.put,qA,qC,qB]
  refine aL (i:=1) (v:=_) 11 rfl rfl (by kernel_rfl) (by kernel_rfl) (by kernel_rfl) (fun _ _ _ h=>h) (yieldsIf_load_mid (by rfl) _ _ rfl _ _ rfl _ _ (fun w h=>h.range (i:=2) rfl) Tryz.underlying137 rfl (i4 s)) hHeld ?_
  simp only [Act.put,qA,qC,qB]
  refine aL (i:=4) (v:=_) 14 rfl rfl (by kernel_rfl) (by kernel_rfl) (by kernel_rfl) (fun _ _ _ h=>h) (yieldsIf_load_mid (by rfl) _ _ rfl _ _ rfl _ _ (fun w h=>h.range (i:=1) rfl) Tryz.underlying137 rfl (i4 a)) hHeld ?_
  simp only [Act.put,qA,qC,qB]
  refine wpAnyH_ready (rs:=[2]) (by kernel_rfl) (by simp) ?_
  refine AllReadyH.cons rfl (fun K hK => ?_) AllReadyH.nil
  go_simp
  go_at_call 129
  refine (ml s s hs hs _).mono ?_
  rintro e wA ⟨m,hm,rfl,em,hbA⟩
  refine hK.out _ _ ?_ (fun hHeld => ?_)
  ·exact hHeld.call hbA
  clear hK K
  try simp only [Act.put,qA,qC,qB]
  refine wpAnyH_ready (rs:=[3]) (by kernel_rfl) (by simp) ?_
  refine AllReadyH.cons rfl (fun K hK => ?_) AllReadyH.nil
  go_simp
  go_at_call 136
  refine (sec m hm em _).mono ?_
  rintro e wB ⟨rfl,hbB⟩
  refine hK.out _ _ ?_ (fun hHeld => ?_)
  ·exact hHeld.call hbB
  clear hK K
  try simp only [Act.put,qA,qC,qB]
  refine wpAnyH_ready (rs:=[5]) (by kernel_rfl) (by simp) ?_
  refine AllReadyH.cons rfl (fun K hK => ?_) AllReadyH.nil
  go_simp
  go_at_call 136
  refine (sed _).mono ?_
  rintro e wC ⟨rfl,hbC⟩
  refine hK.out _ _ ?_ (fun hHeld => ?_)
  ·exact hHeld.call hbC
  clear hK K
  try simp only [Act.put,qA,qC,qB]
  refine aL (i:=6) (v := ?_) 16 rfl rfl (by kernel_rfl) (by kernel_rfl) (by kernel_rfl) (fun _ _ _ h=>h) (Or.inl ⟨by rfl,?_⟩) hHeld ?_
  rotate_left 1
  ·intro w hSw;go_simp <;> with_reducible rfl
  simp only [Act.put,qA,qC,qB]
  refine wpAnyH_done (by kernel_rfl) ?_ _
  have HS3:Hid (SS w [(w.heap.size,bl a,22),(w1.heap.size,nl a,137),(w2.heap.size,nl s,137)] (w.heap.size+1) 32 wC):=hHeld
  have HC:Hid (World.rangeAt _ w2.heap.size 0 (nl s)):=hHeld.range (i:=2) rfl
  clear hHeld HS1
  go_wp2_with (refine wpList_load_mid rfl 137 _ rfl w2.heap.size 0 rfl (nl s) _ HC.out Tryz.underlying137 rfl (i4 s) ?_)
  refine (eo s hs _).mono ?_
  rintro e wD ⟨z,hzl,rfl,ez,hbD⟩
  have HS4:Hid (SS w [(w.heap.size,bl a,22),(w1.heap.size,nl a,137),(w2.heap.size,nl s,137)] (w.heap.size+1) 32 wD):=HS3.out.call hbD
  have HZ:Hid (z % pp=ev (rt a)):=ez.trans (by rw [HX.out])
  clear HS3 HC hbD ez
  go_wp2_with fail
  refine (st z hzl _).mono ?_
  rintro e wE ⟨rfl,hbE⟩
  have HS5:Hid (SS w [(w.heap.size,bl a,22),(w1.heap.size,nl a,137),(w2.heap.size,nl s,137)] (w.heap.size+1) 32 wE):=HS4.out.call hbE
  have HT:Hid (wE.there (w.heap.size+1) 0 (br (z % pp)).size):=by rw [aM];exact HS5.out.there
  clear HS4 hbE
  go_wp2_with (refine wpList_store_mid rfl 22 _ _ rfl (w.heap.size+1) 0 (br (z % pp)) rfl rfl HT.out (by rw [aM];exact fK) (iN _) ?_)
  refine bodyPost_ret (v := .tuple #[.agg (bl (z % pp)).toArray,.int .i64 0]) (au Tryz.results111 _ _ (w.heap.size+1) 0 (bl (z % pp)) _ _ rfl rfl (World.rangeAt_setCells_same _ _ _ _ HT.out) Tryz.underlying22 rfl (i32 _)) rfl ⟨?_,af _ (by omega) _ _ _ HS5.out.below⟩
  rw [HZ.out,sqv,sqe,if_pos HD.out,if_pos HD.out]
 ·rw [decide_eq_false hcd] at heq
  have HD:Hid (¬ rt a*rt a % pp=a % pp):=by show ¬ _=_;rw [←HCC.out,←HDD.out];exact hcd
  go_wp2_with fail
  obtain ⟨x1,hx1⟩ : ∃ x,x=w2.alloc (.cells (nl s).toArray 137):=⟨_,rfl⟩
  have HS1:Hid (SS w [(w.heap.size,bl a,22),(w1.heap.size,nl a,137),(w2.heap.size,nl s,137)] (w.heap.size+1) 32 x1):=by rw [hx1];exact HS2a.out
  rw [←hx1]
  clear hx1 HS2a
  refine wp_region_held_drew (S:=(fun w'=>SS w [(w.heap.size,bl a,22),(w1.heap.size,nl a,137),(w2.heap.size,nl s,137)] (w.heap.size+1) 32 w')) (by kernel_rfl) ?_ (fun hHeld => ?_)
  ·exact HS1.out.drew
  refine aL (i:=0) (v:=_) 10 rfl rfl (by kernel_rfl) (by kernel_rfl) (by kernel_rfl) (fun _ _ _ h=>h) (yieldsIf_load_mid (by rfl) _ _ rfl _ _ rfl _ _ (fun w h=>h.range (i:=2) rfl) Tryz.underlying137 rfl (i4 s)) hHeld ?_
  simp only [Act.put,qA,qC,qB]
  refine aL (i:=1) (v:=_) 11 rfl rfl (by kernel_rfl) (by kernel_rfl) (by kernel_rfl) (fun _ _ _ h=>h) (yieldsIf_load_mid (by rfl) _ _ rfl _ _ rfl _ _ (fun w h=>h.range (i:=2) rfl) Tryz.underlying137 rfl (i4 s)) hHeld ?_
  simp only [Act.put,qA,qC,qB]
  refine aL (i:=4) (v:=_) 14 rfl rfl (by kernel_rfl) (by kernel_rfl) (by kernel_rfl) (fun _ _ _ h=>h) (yieldsIf_load_mid (by rfl) _ _ rfl _ _ rfl _ _ (fun w h=>h.range (i:=1) rfl) Tryz.underlying137 rfl (i4 a)) hHeld ?_
  simp only [Act.put,qA,qC,qB]
  refine wpAnyH_ready (rs:=[2]) (by kernel_rfl) (by simp) ?_
  refine AllReadyH.cons rfl (fun K hK => ?_) AllReadyH.nil
  go_simp
  go_at_call 129
  refine (ml s s hs hs _).mono ?_
  rintro e wA ⟨m,hm,rfl,em,hbA⟩
  refine hK.out _ _ ?_ (fun hHeld => ?_)
  ·exact hHeld.call hbA
  clear hK K
  try simp only [Act.put,qA,qC,qB]
  refine wpAnyH_ready (rs:=[3]) (by kernel_rfl) (by simp) ?_
  refine AllReadyH.cons rfl (fun K hK => ?_) AllReadyH.nil
  go_simp
  go_at_call 136
  refine (sec m hm em _).mono ?_
  rintro e wB ⟨rfl,hbB⟩
  refine hK.out _ _ ?_ (fun hHeld => ?_)
  ·exact hHeld.call hbB
  clear hK K
  try simp only [Act.put,qA,qC,qB]
  refine wpAnyH_ready (rs:=[5]) (by kernel_rfl) (by simp) ?_
  refine AllReadyH.cons rfl (fun K hK => ?_) AllReadyH.nil
  go_simp
  go_at_call 136
  refine (sed _).mono ?_
  rintro e wC ⟨rfl,hbC⟩
  refine hK.out _ _ ?_ (fun hHeld => ?_)
  ·exact hHeld.call hbC
  clear hK K
  try simp only [Act.put,qA,qC,qB]
  refine aL (i:=6) (v := ?_) 16 rfl rfl (by kernel_rfl) (by kernel_rfl) (by kernel_rfl) (fun _ _ _ h=>h) (Or.inl ⟨by rfl,?_⟩) hHeld ?_
  rotate_left 1
  ·intro w hSw;go_simp <;> with_reducible rfl
  simp only [Act.put,qA,qC,qB]
  refine wpAnyH_done (by kernel_rfl) ?_ _
  have HS5:Hid (SS w [(w.heap.size,bl a,22),(w1.heap.size,nl a,137),(w2.heap.size,nl s,137)] (w.heap.size+1) 32 wC):=hHeld
  have HT:Hid (wC.there (w.heap.size+1) 0 (br 0).size):=by rw [aM];exact hHeld.there
  clear hHeld HS1
  go_wp2_with (refine wpList_store_mid rfl 22 _ _ rfl (w.heap.size+1) 0 (br 0) rfl (by exact congrArg Value.agg PQ) HT.out (by rw [aM];exact fK) (iN _) ?_)
  refine bodyPost_ret (v := .tuple #[.agg (bl 0).toArray,.int .i64 4]) (au Tryz.results111 _ _ (w.heap.size+1) 0 (bl 0) _ _ rfl rfl (World.rangeAt_setCells_same _ _ _ _ HT.out) Tryz.underlying22 rfl (i32 _)) rfl ⟨?_,af _ (by omega) _ _ _ HS5.out.below⟩
  rw [sqv,sqe,if_neg HD.out,if_neg HD.out]
end Go.Proofs.YtajehiidpecknaaGreatDoor
namespace Go.Proofs.YtajehiidpecknaaGreatDoor
open Go
theorem Cz:0<pp:=by decide
theorem inv_one (a:Nat) (h : ¬ a % pp=0):a*(a ^ (pp - 2) % pp) % pp=1:=by
 have hd : ¬ pp ∣ a:=fun d=>h (Nat.mod_eq_zero_of_dvd d)
 have f:=prm.fermat hd
 rw [Nat.mul_mod_mod,Nat.mul_comm,←Nat.pow_succ,show (pp - 2).succ=pp - 1 by decide]
 exact f
end Go.Proofs.YtajehiidpecknaaGreatDoor
namespace Go.Proofs.YtajehiidpecknaaGreatDoor
open Go
theorem Nh:IN*IN % pp=pp - 1:=by decide
theorem E7 (a k:Nat):(a % pp) ^ k % pp=a ^ k % pp:=(Nat.pow_mod a k pp).symm
theorem BM (a:Nat) (h : ¬ a % pp=0):a ^ ((pp - 1)/2) % pp=1∨a ^ ((pp - 1)/2) % pp=pp - 1:=by
 have hd : ¬ pp ∣ a:=fun d=>h (Nat.mod_eq_zero_of_dvd d)
 have f:=prm.fermat hd
 obtain ⟨x,hx⟩ : ∃ x,x=a ^ ((pp - 1)/2) % pp:=⟨_,rfl⟩
 have hlt:x<pp:=by rw [hx];exact Nat.mod_lt _ Cz
 have e:x*x % pp=1:=by
  rw [hx,←Nat.mul_mod,←Nat.pow_add,show (pp - 1)/2+(pp - 1)/2=pp - 1 by decide]
  exact f
 rw [←hx]
 have h0:x≠0:=by
  intro h0
  rw [h0,Nat.zero_mul,Nat.zero_mod] at e
  exact absurd e (by decide)
 have d:pp ∣ (x - 1)*(x+1):=by
  have e2:(x - 1)*(x+1)=x*x - 1:=by
   obtain ⟨y,rfl⟩ : ∃ y,x=y+1:=⟨x - 1,by omega⟩
   rw [Nat.add_sub_cancel,Nat.add_mul,Nat.mul_add,Nat.mul_add];omega
  rw [e2]
  apply Nat.dvd_of_mod_eq_zero
  have hpos:1≤x*x:=Nat.mul_pos (by omega) (by omega)
  exact Nat.sub_mod_eq_zero_of_mod_eq (by rw [e];decide)
 rcases prm.euclid d with d | d
 ·left
  have:=Nat.eq_zero_of_dvd_of_lt d (by omega)
  omega
 ·right
  have h2:=Nat.le_of_dvd (by omega) d
  omega
theorem Ix (q:Nat) (h:q % pp=0):rx q=0:=by
 obtain ⟨k,hk⟩ : ∃ k,(pp+3)/8=k+1:=⟨(pp+3)/8 - 1,by decide⟩
 unfold rx
 rw [hk,Nat.pow_succ,Nat.mul_mod,h,Nat.mul_zero,Nat.zero_mod]
theorem Hr (a q:Nat) (hq:q=a*a % pp):rt q*rt q % pp=q % pp:=by
 have hql:q<pp:=by rw [hq];exact Nat.mod_lt _ Cz
 have hqm:q % pp=q:=YK hql
 unfold rt
 split
 ·assumption
 ·rename_i hne
  by_cases h0:a % pp=0
  ·exfalso
   refine hne ?_
   have q0:q % pp=0:=by rw [hqm,hq,Nat.mul_mod,h0,Nat.mul_zero,Nat.zero_mod]
   rw [Ix q q0,q0,Nat.zero_mul,Nat.zero_mod]
  ·-- the first try's square
   have ex:rx q*rx q % pp=(a*a)*(a ^ ((pp - 1)/2) % pp) % pp:=by
    unfold rx
    rw [←Nat.mul_mod,←Nat.pow_add,hq,E7,←Nat.pow_two,←Nat.pow_mul,Nat.mul_mod_mod,←Nat.pow_add]
    rw [show 2*((pp+3)/8+(pp+3)/8)=2+(pp - 1)/2 by decide]
   rcases BM a h0 with e | e
   ·exfalso
    refine hne ?_
    rw [ex,e,Nat.mul_one,hqm,hq]
   ·rw [←Nat.mul_mod,show rx q*IN*(rx q*IN)=(rx q*rx q)*(IN*IN) by rw [Nat.mul_mul_mul_comm],Nat.mul_mod,ex,Nh,e,Nat.mod_mul_mod,Nat.mul_assoc,Nat.mul_mod (a*a),show (pp - 1)*(pp - 1) % pp=1 by decide,Nat.mul_one,Nat.mod_mod,hqm,hq]
theorem Mv (m:Nat) (h:m<pp):ev m<pp:=by
 unfold ev;split <;> omega
theorem Ho (m:Nat) (h:m<pp):ev m % 2=0:=by
 have:pp % 2=1:=by decide
 unfold ev;split <;> omega
theorem Kj (m:Nat) (h:m≤pp):(pp - m)*(pp - m) % pp=m*m % pp:=by
 obtain ⟨k,hk⟩ : ∃ k,k+m=pp:=⟨pp - m,by omega⟩
 have e1:pp - m=k:=by omega
 rw [e1]
 have e2:k*k+pp*m=m*m+pp*k:=by
  rw [←hk,Nat.add_mul,Nat.add_mul,Nat.mul_comm m k];omega
 have:=congrArg (· % pp) e2
 simp only [Nat.add_mul_mod_self_left] at this
 exact this
theorem Jf (m:Nat) (h:m<pp):ev m*ev m % pp=m*m % pp:=by
 unfold ev;split
 ·exact Kj m (by omega)
 ·rfl
end Go.Proofs.YtajehiidpecknaaGreatDoor
