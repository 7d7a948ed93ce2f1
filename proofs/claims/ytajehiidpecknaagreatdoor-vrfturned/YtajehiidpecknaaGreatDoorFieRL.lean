import Derived.Test.YtajehiidpecknaaGreatDoorFieRI
import Derived.Test.YtajehiidpecknaaGreatDoorFieS
set_option linter.all false
namespace Go.Proofs.YtajehiidpecknaaGreatDoor
open Go Go.RowKit Go.Lib
set_option maxRecDepth 100000
theorem Qd:(#[.int .u64 18446744073709551614,.int .u64 18446744073709551615,.int .u64 18446744073709551615,.int .u64 1152921504606846975]:Array Value)=(nl ((pp+3)/8)).toArray:=by kernel_rfl
theorem lt1 {a r:Nat} {x:List Value × TypeId} (h:a<r) : ∀ b ∈ [(a,x)],b.1<r:=by
 intro b hb
 simp only [List.mem_cons,List.not_mem_nil,or_false] at hb
 rcases hb with rfl
 exact h
set_option maxRecDepth 100000 in
set_option maxHeartbeats 4000000 in
theorem zW (a:Nat) (ha:a<RN) (w:World) :
  Calls Tryz.prog 85 #[.agg (nl a).toArray] w fun e w'=>e = .returned (.tuple #[.agg (nl (rt a)).toArray,.bool (decide (rt a*rt a % pp=a % pp))])∧Below w.heap.size w w':=by
 have HS0:Hid (SS w [(w.heap.size,nl a,68)] (w.heap.size+1) 4 _):=SS.num1 w a
 have tm:=vZ
 have pw : ∀ w,Calls Tryz.prog 122 #[.agg (nl a).toArray,.agg #[.int .u64 18446744073709551614,.int .u64 18446744073709551615,.int .u64 18446744073709551615,.int .u64 1152921504606846975]] w fun e w' => ∃ s,s<RN∧e = .returned (.agg (nl s).toArray)∧s % pp=a ^ ((pp+3)/8) % pp∧Below w.heap.size w w':=fun w=>by
  rw [Qd];exact w8 a ((pp+3)/8) ha (by decide) w
 go_enter Tryz.func85,Tryz.ntmps85
 go_wp2_with fail
 refine (pw _).mono ?_
 rintro e w1 ⟨s,hs,rfl,es,hb1⟩
 have S1:=HS0.out.call hb1
 have lr:=S1.rlt
 have HX:Hid (s % pp=rx a):=by show s % pp=rx a;unfold rx;exact es
 have S2:Hid (SS w [(w.heap.size,nl a,68),(w1.heap.size,nl s,68)] (w.heap.size+1) 4 (w1.alloc (.cells (nl s).toArray 68))):=(S1.alloc _).add (nl s) _ (aj _ _ _ rfl)
 clear hb1 S1 HS0 es
 have sm0 : ∀ m,m<RN→m % pp=s*s % pp → ∀ w,Calls Tryz.prog 123 #[.agg (nl m).toArray,.agg (nl a).toArray] w fun e w'=>e = .returned (.bool (decide (rx a*rx a % pp=a % pp)))∧Below w.heap.size w w':=fun m hm em w=>by
  have:=kI m a hm ha w
  rw [em,qU HX.out] at this
  exact this
 by_cases hd:rx a*rx a % pp=a % pp
 ·have HD:Hid (rx a*rx a % pp=a % pp):=hd
  have sm : ∀ m,m<RN→m % pp=s*s % pp → ∀ w,Calls Tryz.prog 123 #[.agg (nl m).toArray,.agg (nl a).toArray] w fun e w'=>e = .returned (.bool true)∧Below w.heap.size w w':=fun m hm em w=>by
   have:=sm0 m hm em w;rw [decide_eq_true hd] at this;exact this
  have HRX:Hid (s % pp=rt a):=by show s % pp=_;rw [rt,if_pos hd];exact HX.out
  clear hd sm0
  go_wp2_with fail
  obtain ⟨x1,hx1⟩ : ∃ x,x=w1.alloc (.cells (nl s).toArray 68):=⟨_,rfl⟩
  have HS1:Hid (SS w [(w.heap.size,nl a,68),(w1.heap.size,nl s,68)] (w.heap.size+1) 4 x1):=by rw [hx1];exact S2.out
  rw [←hx1]
  clear hx1 S2
  refine wp_region_held_drew (S:=(fun w'=>SS w [(w.heap.size,nl a,68),(w1.heap.size,nl s,68)] (w.heap.size+1) 4 w')) (by kernel_rfl) ?_ (fun hHeld => ?_)
  ·exact HS1.out.drew
  refine aL (i:=0) (v:=_) 8 rfl rfl (by kernel_rfl) (by kernel_rfl) (by kernel_rfl) (fun _ _ _ h=>h) (yieldsIf_load_mid (by rfl) _ _ rfl _ _ rfl _ _ (fun w h=>h.range (i:=1) rfl) Tryz.underlying68 rfl (r4 s)) hHeld ?_
  simp only [Act.put,qA,qC,qB]
  refine aL (i:=1) (v:=_) 9 rfl rfl (by kernel_rfl) (by kernel_rfl) (by kernel_rfl) (fun _ _ _ h=>h) (yieldsIf_load_mid (by rfl) _ _ rfl _ _ rfl _ _ (fun w h=>h.range (i:=1) rfl) Tryz.underlying68 rfl (r4 s)) hHeld ?_
  simp only [Act.put,qA,qC,qB]
  refine aL (i:=3) (v:=_) 11 rfl rfl (by kernel_rfl) (by kernel_rfl) (by kernel_rfl) (fun _ _ _ h=>h) (yieldsIf_load_mid (by rfl) _ _ rfl _ _ rfl _ _ (fun w h=>h.range (i:=0) rfl) Tryz.underlying68 rfl (r4 a)) hHeld ?_
  simp only [Act.put,qA,qC,qB]
  refine wpAnyH_ready (rs:=[2]) (by kernel_rfl) (by simp) ?_
  refine AllReadyH.cons rfl (fun K hK => ?_) AllReadyH.nil
  go_simp
  go_at_call 84
  refine (tm s s hs hs _).mono ?_
  rintro e wA ⟨m,hm,rfl,em,hbA⟩
  refine hK.out _ _ ?_ (fun hHeld => ?_)
  ·exact hHeld.call hbA
  clear hK K
  try simp only [Act.put,qA,qC,qB]
  refine wpAnyH_ready (rs:=[4]) (by kernel_rfl) (by simp) ?_
  refine AllReadyH.cons rfl (fun K hK => ?_) AllReadyH.nil
  go_simp
  go_at_call 123
  refine (sm m hm em _).mono ?_
  rintro e wB ⟨rfl,hbB⟩
  refine hK.out _ _ ?_ (fun hHeld => ?_)
  ·exact hHeld.call hbB
  clear hK K
  try simp only [Act.put,qA,qC,qB]
  refine aL (i:=5) (v := ?_) 13 rfl rfl (by kernel_rfl) (by kernel_rfl) (by kernel_rfl) (fun _ _ _ h=>h) (Or.inl ⟨by rfl,?_⟩) hHeld ?_
  rotate_left 1
  ·intro w hSw;go_simp <;> with_reducible rfl
  simp only [Act.put,qA,qC,qB]
  refine wpAnyH_done (by kernel_rfl) ?_ _
  have HS3:Hid (SS w [(w.heap.size,nl a,68),(w1.heap.size,nl s,68)] (w.heap.size+1) 4 _):=hHeld
  clear hHeld
  go_wp2_with fail
  have lx : ∀ w,Calls Tryz.prog 91 #[.agg (nl s).toArray] w fun e w'=>e = .returned (.agg (nl (rt a)).toArray)∧Below w.heap.size w w':=fun w=>by
   have:=dv s hs w
   rw [HRX.out] at this
   exact this
  have sx : ∀ m,m<RN→m % pp=s*s % pp → ∀ w,Calls Tryz.prog 123 #[.agg (nl m).toArray,.agg (nl a).toArray] w fun e w'=>e = .returned (.bool (decide (rt a*rt a % pp=a % pp)))∧Below w.heap.size w w':=fun m hm em w=>by
   have:=kI m a hm ha w
   rw [em,qU HRX.out] at this
   exact this
  refine wp_region_held_drew (S:=(fun w'=>SS w [(w.heap.size,nl a,68),(w1.heap.size,nl s,68)] (w.heap.size+1) 4 w')) (by kernel_rfl) ?_ (fun hHeld => ?_)
  ·exact HS3.out.drew
  refine aL (i:=0) (v:=_) 17 rfl rfl (by kernel_rfl) (by kernel_rfl) (by kernel_rfl) (fun _ _ _ h=>h) (yieldsIf_load_mid (by rfl) _ _ rfl _ _ rfl _ _ (fun w h=>h.range (i:=1) rfl) Tryz.underlying68 rfl (r4 s)) hHeld ?_
  simp only [Act.put,qA,qC,qB]
  refine aL (i:=2) (v:=_) 19 rfl rfl (by kernel_rfl) (by kernel_rfl) (by kernel_rfl) (fun _ _ _ h=>h) (yieldsIf_load_mid (by rfl) _ _ rfl _ _ rfl _ _ (fun w h=>h.range (i:=1) rfl) Tryz.underlying68 rfl (r4 s)) hHeld ?_
  simp only [Act.put,qA,qC,qB]
  refine aL (i:=3) (v:=_) 20 rfl rfl (by kernel_rfl) (by kernel_rfl) (by kernel_rfl) (fun _ _ _ h=>h) (yieldsIf_load_mid (by rfl) _ _ rfl _ _ rfl _ _ (fun w h=>h.range (i:=1) rfl) Tryz.underlying68 rfl (r4 s)) hHeld ?_
  simp only [Act.put,qA,qC,qB]
  refine aL (i:=5) (v:=_) 22 rfl rfl (by kernel_rfl) (by kernel_rfl) (by kernel_rfl) (fun _ _ _ h=>h) (yieldsIf_load_mid (by rfl) _ _ rfl _ _ rfl _ _ (fun w h=>h.range (i:=0) rfl) Tryz.underlying68 rfl (r4 a)) hHeld ?_
  simp only [Act.put,qA,qC,qB]
  refine wpAnyH_ready (rs:=[1]) (by kernel_rfl) (by simp) ?_
  refine AllReadyH.cons rfl (fun K hK => ?_) AllReadyH.nil
  go_simp
  go_at_call 91
  refine (lx _).mono ?_
  rintro e wE ⟨rfl,hbE⟩
  refine hK.out _ _ ?_ (fun hHeld => ?_)
  ·exact hHeld.call hbE
  clear hK K
  try simp only [Act.put,qA,qC,qB]
  refine wpAnyH_ready (rs:=[4]) (by kernel_rfl) (by simp) ?_
  refine AllReadyH.cons rfl (fun K hK => ?_) AllReadyH.nil
  go_simp
  go_at_call 84
  refine (tm s s hs hs _).mono ?_
  rintro e wF ⟨m2,hm2,rfl,em2,hbF⟩
  refine hK.out _ _ ?_ (fun hHeld => ?_)
  ·exact hHeld.call hbF
  clear hK K
  try simp only [Act.put,qA,qC,qB]
  refine wpAnyH_ready (rs:=[6]) (by kernel_rfl) (by simp) ?_
  refine AllReadyH.cons rfl (fun K hK => ?_) AllReadyH.nil
  go_simp
  go_at_call 123
  refine (sx m2 hm2 em2 _).mono ?_
  rintro e wG ⟨rfl,hbG⟩
  have hTG:=(hHeld.call hbG).there
  refine hK.out _ _ ?_ (fun hHeld => ?_)
  ·exact hHeld.call hbG
  clear hK K
  try simp only [Act.put,qA,qC,qB]
  refine wpAnyH_ready (rs:=[7]) (by kernel_rfl) (by simp) ?_
  refine AllReadyH.cons rfl (fun K hK => ?_) AllReadyH.nil
  rw [if_pos (by rfl)]
  refine wp_store_mid _ _ _ rfl _ _ (nl (rt a)).toArray rfl rfl hTG (r4 _) (bu _) ?_
  refine hK.out _ _ ?_ (fun hHeld => ?_)
  ·exact hHeld.store (by omega) (ne2 (by omega) (by omega)) _
  clear hK K
  try simp only [Act.put,qA,qC,qB]
  refine aL (i:=8) (v := ?_) 3 rfl rfl (by kernel_rfl) (by kernel_rfl) (by kernel_rfl) (fun _ _ _ h=>h) (Or.inl ⟨by rfl,?_⟩) hHeld ?_
  rotate_left 1
  ·intro w hSw;go_simp <;> with_reducible rfl
  simp only [Act.put,qA,qC,qB]
  refine wpAnyH_done (by kernel_rfl) ?_ _
  go_wp2
  refine bodyPost_ret (v := .tuple #[.agg (nl (rt a)).toArray,.bool (decide (rt a*rt a % pp=a % pp))]) (au Tryz.results85 _ _ (w.heap.size+1) 0 (nl (rt a)) _ _ rfl rfl (World.rangeAt_setCells_same _ _ _ _ hTG) Tryz.underlying68 rfl (r4 _)) rfl ⟨rfl,hHeld.below⟩
 ·have HD:Hid (¬ rx a*rx a % pp=a % pp):=hd
  have sm : ∀ m,m<RN→m % pp=s*s % pp → ∀ w,Calls Tryz.prog 123 #[.agg (nl m).toArray,.agg (nl a).toArray] w fun e w'=>e = .returned (.bool false)∧Below w.heap.size w w':=fun m hm em w=>by
   have:=sm0 m hm em w;rw [decide_eq_false hd] at this;exact this
  clear hd sm0
  go_wp2_with fail
  obtain ⟨x1,hx1⟩ : ∃ x,x=w1.alloc (.cells (nl s).toArray 68):=⟨_,rfl⟩
  have HS1:Hid (SS w [(w.heap.size,nl a,68),(w1.heap.size,nl s,68)] (w.heap.size+1) 4 x1):=by rw [hx1];exact S2.out
  rw [←hx1]
  clear hx1 S2
  refine wp_region_held_drew (S:=(fun w'=>SS w [(w.heap.size,nl a,68),(w1.heap.size,nl s,68)] (w.heap.size+1) 4 w')) (by kernel_rfl) ?_ (fun hHeld => ?_)
  ·exact HS1.out.drew
  refine aL (i:=0) (v:=_) 8 rfl rfl (by kernel_rfl) (by kernel_rfl) (by kernel_rfl) (fun _ _ _ h=>h) (yieldsIf_load_mid (by rfl) _ _ rfl _ _ rfl _ _ (fun w h=>h.range (i:=1) rfl) Tryz.underlying68 rfl (r4 s)) hHeld ?_
  simp only [Act.put,qA,qC,qB]
  refine aL (i:=1) (v:=_) 9 rfl rfl (by kernel_rfl) (by kernel_rfl) (by kernel_rfl) (fun _ _ _ h=>h) (yieldsIf_load_mid (by rfl) _ _ rfl _ _ rfl _ _ (fun w h=>h.range (i:=1) rfl) Tryz.underlying68 rfl (r4 s)) hHeld ?_
  simp only [Act.put,qA,qC,qB]
  refine aL (i:=3) (v:=_) 11 rfl rfl (by kernel_rfl) (by kernel_rfl) (by kernel_rfl) (fun _ _ _ h=>h) (yieldsIf_load_mid (by rfl) _ _ rfl _ _ rfl _ _ (fun w h=>h.range (i:=0) rfl) Tryz.underlying68 rfl (r4 a)) hHeld ?_
  simp only [Act.put,qA,qC,qB]
  refine wpAnyH_ready (rs:=[2]) (by kernel_rfl) (by simp) ?_
  refine AllReadyH.cons rfl (fun K hK => ?_) AllReadyH.nil
  go_simp
  go_at_call 84
  refine (tm s s hs hs _).mono ?_
  rintro e wA ⟨m,hm,rfl,em,hbA⟩
  refine hK.out _ _ ?_ (fun hHeld => ?_)
  ·exact hHeld.call hbA
  clear hK K
  try simp only [Act.put,qA,qC,qB]
  refine wpAnyH_ready (rs:=[4]) (by kernel_rfl) (by simp) ?_
  refine AllReadyH.cons rfl (fun K hK => ?_) AllReadyH.nil
  go_simp
  go_at_call 123
  refine (sm m hm em _).mono ?_
  rintro e wB ⟨rfl,hbB⟩
  refine hK.out _ _ ?_ (fun hHeld => ?_)
  ·exact hHeld.call hbB
  clear hK K
  try simp only [Act.put,qA,qC,qB]
  refine aL (i:=5) (v := ?_) 13 rfl rfl (by kernel_rfl) (by kernel_rfl) (by kernel_rfl) (fun _ _ _ h=>h) (Or.inl ⟨by rfl,?_⟩) hHeld ?_
  rotate_left 1
  ·intro w hSw;go_simp <;> with_reducible rfl
  simp only [Act.put,qA,qC,qB]
  refine wpAnyH_done (by kernel_rfl) ?_ _
  have HN2:Hid (wB.heap[w1.heap.size]? = some (.cells (nl s).toArray 68 (0,0))):=hHeld.holds 1 _ _ _ rfl
  have HS2:Hid (SS w [(w.heap.size,nl a,68)] (w.heap.size+1) 4 wB):=(SS.nothing hHeld).only (nl a) _ (hHeld.holds 0 _ _ _ rfl)
  clear hHeld
  go_wp2_with fail
  refine wp_region_held_drew (S:=(fun w'=>SS w [(w.heap.size,nl a,68)] (w.heap.size+1) 4 w')) (by kernel_rfl) ?_ (fun hHeld => ?_)
  ·exact HS2.out.drew
  refine wpAnyH_ready (rs:=[0,1]) (by kernel_rfl) (by simp) ?_
  refine AllReadyH.cons rfl (fun K hK => ?_) (AllReadyH.cons rfl (fun K hK => ?_) AllReadyH.nil)
  ·rw [if_pos (by rfl)]
   refine wp_load_mid _ _ rfl _ _ rfl (nl s) _ (bP (cs:=(nl s).toArray) (w:=wB.drew) HN2.out) Tryz.underlying68 rfl (r4 s) ?_
   refine hK.out _ _ hHeld (fun hHeld => ?_)
   clear hK K
   try simp only [Act.put,qA,qC,qB]
   refine wpAnyH_ready (rs:=[1]) (by kernel_rfl) (by simp) ?_
   refine AllReadyH.cons rfl (fun K hK => ?_) AllReadyH.nil
   go_simp
   go_at_call 124
   refine (ER _).mono ?_
   rintro e wP ⟨rfl,hbP⟩
   refine hK.out _ _ (hHeld.call hbP) (fun hHeld => ?_)
   clear hK K
   try simp only [Act.put,qA,qC,qB]
   have hnP:=cS (w:=wB.drew) hbP HN2.out
   refine wpAnyH_ready (rs:=[2]) (by kernel_rfl) (by simp) ?_
   refine AllReadyH.cons rfl (fun K hK => ?_) AllReadyH.nil
   go_simp
   go_at_call 84
   refine (tm s IN hs CJ _).mono ?_
   rintro e wQ ⟨z,hz,rfl,ez,hbQ⟩
   refine hK.out _ _ (hHeld.call hbQ) (fun hHeld => ?_)
   clear hK K
   try simp only [Act.put,qA,qC,qB]
   have hnQ:=cS hbQ hnP
   refine wpAnyH_ready (rs:=[3]) (by kernel_rfl) (by simp) ?_
   refine AllReadyH.cons rfl (fun K hK => ?_) AllReadyH.nil
   rw [if_pos (by rfl)]
   refine wp_store_mid _ _ _ rfl _ _ (nl z).toArray rfl rfl (aw hnQ 0 4 (by simp)) (r4 z) (bu z) ?_
   refine hK.out _ _ (hHeld.put (by omega) (lt1 (by omega)) _) (fun hHeld => ?_)
   clear hK K
   try simp only [Act.put,qA,qC,qB]
   refine wpAnyH_done (by kernel_rfl) ?_ _
   have hnZ:=dI (y0 := .int .u64 (lw z 0)) (y1 := .int .u64 (lw z 1)) (y2 := .int .u64 (lw z 2)) (y3 := .int .u64 (lw z 3)) hnQ
   have HS3:Hid (SS w [(w.heap.size,nl a,68),(w1.heap.size,nl z,68)] (w.heap.size+1) 4 _):=hHeld.add (nl z) _ hnZ
   clear hHeld
   have HRX:Hid (z % pp=rt a):=by show z % pp=_;rw [rt,if_neg HD.out,ez,Nat.mul_mod,HX.out,Nat.mul_mod_mod]
   go_wp2_with fail
   have lx : ∀ w,Calls Tryz.prog 91 #[.agg (nl z).toArray] w fun e w'=>e = .returned (.agg (nl (rt a)).toArray)∧Below w.heap.size w w':=fun w=>by
    have:=dv z hz w
    rw [HRX.out] at this
    exact this
   have sx : ∀ m,m<RN→m % pp=z*z % pp → ∀ w,Calls Tryz.prog 123 #[.agg (nl m).toArray,.agg (nl a).toArray] w fun e w'=>e = .returned (.bool (decide (rt a*rt a % pp=a % pp)))∧Below w.heap.size w w':=fun m hm em w=>by
    have:=kI m a hm ha w
    rw [em,qU HRX.out] at this
    exact this
   refine wp_region_held_drew (S:=(fun w'=>SS w [(w.heap.size,nl a,68),(w1.heap.size,nl z,68)] (w.heap.size+1) 4 w')) (by kernel_rfl) ?_ (fun hHeld => ?_)
   ·exact HS3.out.drew
   refine aL (i:=0) (v:=_) 17 rfl rfl (by kernel_rfl) (by kernel_rfl) (by kernel_rfl) (fun _ _ _ h=>h) (yieldsIf_load_mid (by rfl) _ _ rfl _ _ rfl _ _ (fun w h=>h.range (i:=1) rfl) Tryz.underlying68 rfl (r4 z)) hHeld ?_
   simp only [Act.put,qA,qC,qB]
   refine aL (i:=2) (v:=_) 19 rfl rfl (by kernel_rfl) (by kernel_rfl) (by kernel_rfl) (fun _ _ _ h=>h) (yieldsIf_load_mid (by rfl) _ _ rfl _ _ rfl _ _ (fun w h=>h.range (i:=1) rfl) Tryz.underlying68 rfl (r4 z)) hHeld ?_
   simp only [Act.put,qA,qC,qB]
   refine aL (i:=3) (v:=_) 20 rfl rfl (by kernel_rfl) (by kernel_rfl) (by kernel_rfl) (fun _ _ _ h=>h) (yieldsIf_load_mid (by rfl) _ _ rfl _ _ rfl _ _ (fun w h=>h.range (i:=1) rfl) Tryz.underlying68 rfl (r4 z)) hHeld ?_
   simp only [Act.put,qA,qC,qB]
   refine aL (i:=5) (v:=_) 22 rfl rfl (by kernel_rfl) (by kernel_rfl) (by kernel_rfl) (fun _ _ _ h=>h) (yieldsIf_load_mid (by rfl) _ _ rfl _ _ rfl _ _ (fun w h=>h.range (i:=0) rfl) Tryz.underlying68 rfl (r4 a)) hHeld ?_
   simp only [Act.put,qA,qC,qB]
   refine wpAnyH_ready (rs:=[1]) (by kernel_rfl) (by simp) ?_
   refine AllReadyH.cons rfl (fun K hK => ?_) AllReadyH.nil
   go_simp
   go_at_call 91
   refine (lx _).mono ?_
   rintro e wE ⟨rfl,hbE⟩
   refine hK.out _ _ ?_ (fun hHeld => ?_)
   ·exact hHeld.call hbE
   clear hK K
   try simp only [Act.put,qA,qC,qB]
   refine wpAnyH_ready (rs:=[4]) (by kernel_rfl) (by simp) ?_
   refine AllReadyH.cons rfl (fun K hK => ?_) AllReadyH.nil
   go_simp
   go_at_call 84
   refine (tm z z hz hz _).mono ?_
   rintro e wF ⟨m2,hm2,rfl,em2,hbF⟩
   refine hK.out _ _ ?_ (fun hHeld => ?_)
   ·exact hHeld.call hbF
   clear hK K
   try simp only [Act.put,qA,qC,qB]
   refine wpAnyH_ready (rs:=[6]) (by kernel_rfl) (by simp) ?_
   refine AllReadyH.cons rfl (fun K hK => ?_) AllReadyH.nil
   go_simp
   go_at_call 123
   refine (sx m2 hm2 em2 _).mono ?_
   rintro e wG ⟨rfl,hbG⟩
   have hTG:=(hHeld.call hbG).there
   refine hK.out _ _ ?_ (fun hHeld => ?_)
   ·exact hHeld.call hbG
   clear hK K
   try simp only [Act.put,qA,qC,qB]
   refine wpAnyH_ready (rs:=[7]) (by kernel_rfl) (by simp) ?_
   refine AllReadyH.cons rfl (fun K hK => ?_) AllReadyH.nil
   rw [if_pos (by rfl)]
   refine wp_store_mid _ _ _ rfl _ _ (nl (rt a)).toArray rfl rfl hTG (r4 _) (bu _) ?_
   refine hK.out _ _ ?_ (fun hHeld => ?_)
   ·exact hHeld.store (by omega) (ne2 (by omega) (by omega)) _
   clear hK K
   try simp only [Act.put,qA,qC,qB]
   refine aL (i:=8) (v := ?_) 3 rfl rfl (by kernel_rfl) (by kernel_rfl) (by kernel_rfl) (fun _ _ _ h=>h) (Or.inl ⟨by rfl,?_⟩) hHeld ?_
   rotate_left 1
   ·intro w hSw;go_simp <;> with_reducible rfl
   simp only [Act.put,qA,qC,qB]
   refine wpAnyH_done (by kernel_rfl) ?_ _
   go_wp2
   refine bodyPost_ret (v := .tuple #[.agg (nl (rt a)).toArray,.bool (decide (rt a*rt a % pp=a % pp))]) (au Tryz.results85 _ _ (w.heap.size+1) 0 (nl (rt a)) _ _ rfl rfl (World.rangeAt_setCells_same _ _ _ _ hTG) Tryz.underlying68 rfl (r4 _)) rfl ⟨rfl,hHeld.below⟩
  ·go_simp
   go_at_call 124
   refine (ER _).mono ?_
   rintro e wP ⟨rfl,hbP⟩
   refine hK.out _ _ (hHeld.call hbP) (fun hHeld => ?_)
   clear hK K
   try simp only [Act.put,qA,qC,qB]
   have hnP:=cS (w:=wB.drew) hbP HN2.out
   refine wpAnyH_ready (rs:=[0]) (by kernel_rfl) (by simp) ?_
   refine AllReadyH.cons rfl (fun K hK => ?_) AllReadyH.nil
   rw [if_pos (by rfl)]
   refine wp_load_mid _ _ rfl _ _ rfl (nl s) _ (bP (cs:=(nl s).toArray) (w:=wP) hnP) Tryz.underlying68 rfl (r4 s) ?_
   refine hK.out _ _ hHeld (fun hHeld => ?_)
   clear hK K
   try simp only [Act.put,qA,qC,qB]
   refine wpAnyH_ready (rs:=[2]) (by kernel_rfl) (by simp) ?_
   refine AllReadyH.cons rfl (fun K hK => ?_) AllReadyH.nil
   go_simp
   go_at_call 84
   refine (tm s IN hs CJ _).mono ?_
   rintro e wQ ⟨z,hz,rfl,ez,hbQ⟩
   refine hK.out _ _ (hHeld.call hbQ) (fun hHeld => ?_)
   clear hK K
   try simp only [Act.put,qA,qC,qB]
   have hnQ:=cS hbQ hnP
   refine wpAnyH_ready (rs:=[3]) (by kernel_rfl) (by simp) ?_
   refine AllReadyH.cons rfl (fun K hK => ?_) AllReadyH.nil
   rw [if_pos (by rfl)]
   refine wp_store_mid _ _ _ rfl _ _ (nl z).toArray rfl rfl (aw hnQ 0 4 (by simp)) (r4 z) (bu z) ?_
   refine hK.out _ _ (hHeld.put (by omega) (lt1 (by omega)) _) (fun hHeld => ?_)
   clear hK K
   try simp only [Act.put,qA,qC,qB]
   refine wpAnyH_done (by kernel_rfl) ?_ _
   have hnZ:=dI (y0 := .int .u64 (lw z 0)) (y1 := .int .u64 (lw z 1)) (y2 := .int .u64 (lw z 2)) (y3 := .int .u64 (lw z 3)) hnQ
   have HS3:Hid (SS w [(w.heap.size,nl a,68),(w1.heap.size,nl z,68)] (w.heap.size+1) 4 _):=hHeld.add (nl z) _ hnZ
   clear hHeld
   have HRX:Hid (z % pp=rt a):=by show z % pp=_;rw [rt,if_neg HD.out,ez,Nat.mul_mod,HX.out,Nat.mul_mod_mod]
   go_wp2_with fail
   have lx : ∀ w,Calls Tryz.prog 91 #[.agg (nl z).toArray] w fun e w'=>e = .returned (.agg (nl (rt a)).toArray)∧Below w.heap.size w w':=fun w=>by
    have:=dv z hz w
    rw [HRX.out] at this
    exact this
   have sx : ∀ m,m<RN→m % pp=z*z % pp → ∀ w,Calls Tryz.prog 123 #[.agg (nl m).toArray,.agg (nl a).toArray] w fun e w'=>e = .returned (.bool (decide (rt a*rt a % pp=a % pp)))∧Below w.heap.size w w':=fun m hm em w=>by
    have:=kI m a hm ha w
    rw [em,qU HRX.out] at this
    exact this
   refine wp_region_held_drew (S:=(fun w'=>SS w [(w.heap.size,nl a,68),(w1.heap.size,nl z,68)] (w.heap.size+1) 4 w')) (by kernel_rfl) ?_ (fun hHeld => ?_)
   ·exact HS3.out.drew
   refine aL (i:=0) (v:=_) 17 rfl rfl (by kernel_rfl) (by kernel_rfl) (by kernel_rfl) (fun _ _ _ h=>h) (yieldsIf_load_mid (by rfl) _ _ rfl _ _ rfl _ _ (fun w h=>h.range (i:=1) rfl) Tryz.underlying68 rfl (r4 z)) hHeld ?_
   simp only [Act.put,qA,qC,qB]
   refine aL (i:=2) (v:=_) 19 rfl rfl (by kernel_rfl) (by kernel_rfl) (by kernel_rfl) (fun _ _ _ h=>h) (yieldsIf_load_mid (by rfl) _ _ rfl _ _ rfl _ _ (fun w h=>h.range (i:=1) rfl) Tryz.underlying68 rfl (r4 z)) hHeld ?_
   simp only [Act.put,qA,qC,qB]
   refine aL (i:=3) (v:=_) 20 rfl rfl (by kernel_rfl) (by kernel_rfl) (by kernel_rfl) (fun _ _ _ h=>h) (yieldsIf_load_mid (by rfl) _ _ rfl _ _ rfl _ _ (fun w h=>h.range (i:=1) rfl) Tryz.underlying68 rfl (r4 z)) hHeld ?_
   simp only [Act.put,qA,qC,qB]
   refine aL (i:=5) (v:=_) 22 rfl rfl (by kernel_rfl) (by kernel_rfl) (by kernel_rfl) (fun _ _ _ h=>h) (yieldsIf_load_mid (by rfl) _ _ rfl _ _ rfl _ _ (fun w h=>h.range (i:=0) rfl) Tryz.underlying68 rfl (r4 a)) hHeld ?_
   simp only [Act.put,qA,qC,qB]
   refine wpAnyH_ready (rs:=[1]) (by kernel_rfl) (by simp) ?_
   refine AllReadyH.cons rfl (fun K hK => ?_) AllReadyH.nil
   go_simp
   go_at_call 91
   refine (lx _).mono ?_
   rintro e wE ⟨rfl,hbE⟩
   refine hK.out _ _ ?_ (fun hHeld => ?_)
   ·exact hHeld.call hbE
   clear hK K
   try simp only [Act.put,qA,qC,qB]
   refine wpAnyH_ready (rs:=[4]) (by kernel_rfl) (by simp) ?_
   refine AllReadyH.cons rfl (fun K hK => ?_) AllReadyH.nil
   go_simp
   go_at_call 84
   refine (tm z z hz hz _).mono ?_
   rintro e wF ⟨m2,hm2,rfl,em2,hbF⟩
   refine hK.out _ _ ?_ (fun hHeld => ?_)
   ·exact hHeld.call hbF
   clear hK K
   try simp only [Act.put,qA,qC,qB]
   refine wpAnyH_ready (rs:=[6]) (by kernel_rfl) (by simp) ?_
   refine AllReadyH.cons rfl (fun K hK => ?_) AllReadyH.nil
   go_simp
   go_at_call 123
   refine (sx m2 hm2 em2 _).mono ?_
   rintro e wG ⟨rfl,hbG⟩
   have hTG:=(hHeld.call hbG).there
   refine hK.out _ _ ?_ (fun hHeld => ?_)
   ·exact hHeld.call hbG
   clear hK K
   try simp only [Act.put,qA,qC,qB]
   refine wpAnyH_ready (rs:=[7]) (by kernel_rfl) (by simp) ?_
   refine AllReadyH.cons rfl (fun K hK => ?_) AllReadyH.nil
   rw [if_pos (by rfl)]
   refine wp_store_mid _ _ _ rfl _ _ (nl (rt a)).toArray rfl rfl hTG (r4 _) (bu _) ?_
   refine hK.out _ _ ?_ (fun hHeld => ?_)
   ·exact hHeld.store (by omega) (ne2 (by omega) (by omega)) _
   clear hK K
   try simp only [Act.put,qA,qC,qB]
   refine aL (i:=8) (v := ?_) 3 rfl rfl (by kernel_rfl) (by kernel_rfl) (by kernel_rfl) (fun _ _ _ h=>h) (Or.inl ⟨by rfl,?_⟩) hHeld ?_
   rotate_left 1
   ·intro w hSw;go_simp <;> with_reducible rfl
   simp only [Act.put,qA,qC,qB]
   refine wpAnyH_done (by kernel_rfl) ?_ _
   go_wp2
   refine bodyPost_ret (v := .tuple #[.agg (nl (rt a)).toArray,.bool (decide (rt a*rt a % pp=a % pp))]) (au Tryz.results85 _ _ (w.heap.size+1) 0 (nl (rt a)) _ _ rfl rfl (World.rangeAt_setCells_same _ _ _ _ hTG) Tryz.underlying68 rfl (r4 _)) rfl ⟨rfl,hHeld.below⟩
end Go.Proofs.YtajehiidpecknaaGreatDoor
