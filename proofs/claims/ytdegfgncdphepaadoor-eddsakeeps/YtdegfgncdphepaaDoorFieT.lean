/- Package field: Sqrt. -/
import Derived.Test.YtdegfgncdphepaaDoorFieS
namespace Go.Proofs.YtdegfgncdphepaaDoor
open Go Go.RowKit Go.Lib
set_option linter.unusedSimpArgs false
set_option linter.unusedVariables false
/-- What Sqrt answers: the number, and the errno. -/
def sqv (a : Nat) : Nat := if rt a * rt a % pp = a % pp then ev (rt a) else 0
def sqe (a : Nat) : Int := if rt a * rt a % pp = a % pp then 0 else 4
set_option maxRecDepth 100000 in
set_option maxHeartbeats 4000000 in
theorem Sqrt_any (a : Nat) (ha : a < RN) (w : World) :
    Calls Tryd.prog 66 #[bv a] w fun e w' => e = .returned (.tuple #[bv (sqv a), .int .i64 (sqe a)]) ∧ Below w.heap.size w w' := by
  have hz := zero_32
  have ml : ∀ a b : Nat, a < RN → b < RN → ∀ w, Calls Tryd.prog 59 #[.agg (nl a).toArray, .agg (nl b).toArray] w fun e w' => ∃ s : Nat, s < RN ∧ e = .returned (.agg (nl s).toArray) ∧ s % pp = (a * b) % pp ∧ Below w.heap.size w w' := mul_nat
  have ld : ∀ n w, Calls Tryd.prog 58 #[Value.agg (bl n).toArray] w fun e w' => e = .returned (.agg (nl n).toArray) ∧ Below w.heap.size w w' := load_any
  have st : ∀ n, n < RN → ∀ w, Calls Tryd.prog 56 #[.agg (nl n).toArray] w fun e w' => e = .returned (.agg (bl (n % pp)).toArray) ∧ Below w.heap.size w w' := store_any
  have ro : ∀ n, n < RN → ∀ w, Calls Tryd.prog 84 #[.agg (nl n).toArray] w fun e w' => ∃ s, s < RN ∧ e = .returned (.agg (nl s).toArray) ∧ s % pp = rt n ∧ Below w.heap.size w w' := root_nat
  have eo : ∀ n, n < RN → ∀ w, Calls Tryd.prog 85 #[.agg (nl n).toArray] w fun e w' => ∃ s, s < RN ∧ e = .returned (.agg (nl s).toArray) ∧ s % pp = ev (n % pp) ∧ Below w.heap.size w w' := even_nat
  have HS : Hid (SS w _ _ _ _) := SS.one32 w a
  have HC : Hid (World.rangeAt _ w.heap.size 0 (bl a)) := HS.out.range (i := 0) rfl
  have hza : (bl a).toArray.size = 32 := br_size a
  have hz0 : (bl 0).toArray.size = 32 := br_size 0
  simp only [bv, br] at hz ⊢
  go_enter Tryd.func66, Tryd.ntmps66
  go_wp2_with (refine wpList_load_mid rfl 22 _ rfl w.heap.size 0 rfl (bl a) _ HC.out Tryd.underlying22 rfl (i32 a) ?_)
  refine (ld a _).mono ?_
  rintro e w1 ⟨rfl, hb1⟩
  have S1 := HS.out.call hb1
  have lr1 := S1.rlt
  have HS1a : Hid (SS w [(w.heap.size, bl a, 22), (w1.heap.size, nl a, 88)] (w.heap.size + 1) 32 (w1.alloc (.cells (nl a).toArray 88))) := (S1.alloc _).add (nl a) _ (heap_alloc_here _ _ _ rfl)
  clear HC HS hb1 S1
  go_wp2_with fail
  refine (ro a ha _).mono ?_
  rintro e w2 ⟨s, hs, rfl, es, hb2⟩
  have S2 := HS1a.out.call hb2
  have lr2 := S2.rlt
  have HX : Hid (s % pp = rt a) := es
  have HS2a : Hid (SS w [(w.heap.size, bl a, 22), (w1.heap.size, nl a, 88), (w2.heap.size, nl s, 88)] (w.heap.size + 1) 32 (w2.alloc (.cells (nl s).toArray 88))) := (S2.alloc _).add (nl s) _ (heap_alloc_here _ _ _ rfl)
  have l12 : w1.heap.size < w2.heap.size := S2.lt _ (List.mem_of_getElem? (i := 1) rfl)
  clear hb2 S2 HS1a es
  obtain ⟨c, hc⟩ : ∃ c, c = s * s % pp := ⟨_, rfl⟩
  obtain ⟨d, hd⟩ : ∃ d, d = a % pp := ⟨_, rfl⟩
  have hcl : c < RN := by rw [hc]; exact mod_lt_RN _
  have hdl : d < RN := by rw [hd]; exact mod_lt_RN _
  have sec : ∀ m, m < RN → m % pp = s * s % pp → ∀ w, Calls Tryd.prog 72 #[.agg (nl m).toArray] w fun e w' => e = .returned (.agg (nl c).toArray) ∧ Below w.heap.size w w' := fun m hm e w => by
    have := settle_nat m hm w
    rw [e, ← hc] at this
    exact this
  have sed : ∀ w, Calls Tryd.prog 72 #[.agg (nl a).toArray] w fun e w' => e = .returned (.agg (nl d).toArray) ∧ Below w.heap.size w w' := fun w => by
    have := settle_nat a ha w
    rw [← hd] at this
    exact this
  have heq : ∀ w, (Op.equalIn 10000 88 (.agg (nl c).toArray) (.agg (nl d).toArray)).run Tryd.prog w = .ok (decide (c = d)) w := eq_num c d hcl hdl
  have HCC : Hid (c = rt a * rt a % pp) := hc.trans (sq_of HX.out)
  have HDD : Hid (d = a % pp) := hd
  clear hc hd
  by_cases hcd : c = d
  · rw [decide_eq_true hcd] at heq
    have HD : Hid (rt a * rt a % pp = a % pp) := by show _ = _; rw [← HCC.out, hcd, HDD.out]
    go_wp2_with fail
    obtain ⟨x1, hx1⟩ : ∃ x, x = w2.alloc (.cells (nl s).toArray 88) := ⟨_, rfl⟩
    have HS1 : Hid (SS w [(w.heap.size, bl a, 22), (w1.heap.size, nl a, 88), (w2.heap.size, nl s, 88)] (w.heap.size + 1) 32 x1) := by rw [hx1]; exact HS2a.out
    rw [← hx1]
    clear hx1 HS2a
    refine wp_region_held_drew (S := (fun w' => SS w [(w.heap.size, bl a, 22), (w1.heap.size, nl a, 88), (w2.heap.size, nl s, 88)] (w.heap.size + 1) 32 w')) (by kernel_rfl) ?_ (fun hHeld => ?_)
    · exact HS1.out.drew
    refine take1 (i := 0) (v := _) 10 rfl rfl (by kernel_rfl) (by kernel_rfl) (by kernel_rfl) (fun _ _ _ h => h) (yieldsIf_load_mid (by rfl) _ _ rfl _ _ rfl _ _ (fun w h => h.range (i := 2) rfl) Tryd.underlying88 rfl (i4 s)) hHeld ?_
    simp only [Act.put, List.setIfInBounds_toArray, List.set_cons_zero, List.set_cons_succ]
    refine take1 (i := 1) (v := _) 11 rfl rfl (by kernel_rfl) (by kernel_rfl) (by kernel_rfl) (fun _ _ _ h => h) (yieldsIf_load_mid (by rfl) _ _ rfl _ _ rfl _ _ (fun w h => h.range (i := 2) rfl) Tryd.underlying88 rfl (i4 s)) hHeld ?_
    simp only [Act.put, List.setIfInBounds_toArray, List.set_cons_zero, List.set_cons_succ]
    refine take1 (i := 4) (v := _) 14 rfl rfl (by kernel_rfl) (by kernel_rfl) (by kernel_rfl) (fun _ _ _ h => h) (yieldsIf_load_mid (by rfl) _ _ rfl _ _ rfl _ _ (fun w h => h.range (i := 1) rfl) Tryd.underlying88 rfl (i4 a)) hHeld ?_
    simp only [Act.put, List.setIfInBounds_toArray, List.set_cons_zero, List.set_cons_succ]
    refine wpAnyH_ready (rs := [2]) (by kernel_rfl) (by simp) ?_
    refine AllReadyH.cons rfl (fun K hK => ?_) AllReadyH.nil
    go_simp
    go_at_call 59
    refine (ml s s hs hs _).mono ?_
    rintro e wA ⟨m, hm, rfl, em, hbA⟩
    refine hK.out _ _ ?_ (fun hHeld => ?_)
    · exact hHeld.call hbA
    clear hK K
    try simp only [Act.put, List.setIfInBounds_toArray, List.set_cons_zero, List.set_cons_succ]
    refine wpAnyH_ready (rs := [3]) (by kernel_rfl) (by simp) ?_
    refine AllReadyH.cons rfl (fun K hK => ?_) AllReadyH.nil
    go_simp
    go_at_call 72
    refine (sec m hm em _).mono ?_
    rintro e wB ⟨rfl, hbB⟩
    refine hK.out _ _ ?_ (fun hHeld => ?_)
    · exact hHeld.call hbB
    clear hK K
    try simp only [Act.put, List.setIfInBounds_toArray, List.set_cons_zero, List.set_cons_succ]
    refine wpAnyH_ready (rs := [5]) (by kernel_rfl) (by simp) ?_
    refine AllReadyH.cons rfl (fun K hK => ?_) AllReadyH.nil
    go_simp
    go_at_call 72
    refine (sed _).mono ?_
    rintro e wC ⟨rfl, hbC⟩
    refine hK.out _ _ ?_ (fun hHeld => ?_)
    · exact hHeld.call hbC
    clear hK K
    try simp only [Act.put, List.setIfInBounds_toArray, List.set_cons_zero, List.set_cons_succ]
    refine take1 (i := 6) (v := ?_) 16 rfl rfl (by kernel_rfl) (by kernel_rfl) (by kernel_rfl) (fun _ _ _ h => h) (Or.inl ⟨by rfl, ?_⟩) hHeld ?_
    rotate_left 1
    · intro w hSw; go_simp <;> with_reducible rfl
    simp only [Act.put, List.setIfInBounds_toArray, List.set_cons_zero, List.set_cons_succ]
    refine wpAnyH_done (by kernel_rfl) ?_ _
    have HS3 : Hid (SS w [(w.heap.size, bl a, 22), (w1.heap.size, nl a, 88), (w2.heap.size, nl s, 88)] (w.heap.size + 1) 32 wC) := hHeld
    have HC : Hid (World.rangeAt _ w2.heap.size 0 (nl s)) := hHeld.range (i := 2) rfl
    clear hHeld HS1
    go_wp2_with (refine wpList_load_mid rfl 88 _ rfl w2.heap.size 0 rfl (nl s) _ HC.out Tryd.underlying88 rfl (i4 s) ?_)
    refine (eo s hs _).mono ?_
    rintro e wD ⟨z, hzl, rfl, ez, hbD⟩
    have HS4 : Hid (SS w [(w.heap.size, bl a, 22), (w1.heap.size, nl a, 88), (w2.heap.size, nl s, 88)] (w.heap.size + 1) 32 wD) := HS3.out.call hbD
    have HZ : Hid (z % pp = ev (rt a)) := ez.trans (by rw [HX.out])
    clear HS3 HC hbD ez
    go_wp2_with fail
    refine (st z hzl _).mono ?_
    rintro e wE ⟨rfl, hbE⟩
    have HS5 : Hid (SS w [(w.heap.size, bl a, 22), (w1.heap.size, nl a, 88), (w2.heap.size, nl s, 88)] (w.heap.size + 1) 32 wE) := HS4.out.call hbE
    have HT : Hid (wE.there (w.heap.size + 1) 0 (br (z % pp)).size) := by rw [br_size]; exact HS5.out.there
    clear HS4 hbE
    go_wp2_with (refine wpList_store_mid rfl 22 _ _ rfl (w.heap.size + 1) 0 (br (z % pp)) rfl rfl HT.out (by rw [br_size]; exact size_32) (br_one _) ?_)
    refine bodyPost_ret (v := .tuple #[.agg (bl (z % pp)).toArray, .int .i64 0]) (results_mid_tmp Tryd.results66 _ _ (w.heap.size + 1) 0 (bl (z % pp)) _ _ rfl rfl (World.rangeAt_setCells_same _ _ _ _ HT.out) Tryd.underlying22 rfl (i32 _)) rfl ⟨?_, below_setCells _ (by omega) _ _ _ HS5.out.below⟩
    rw [HZ.out, sqv, sqe, if_pos HD.out, if_pos HD.out]
  · rw [decide_eq_false hcd] at heq
    have HD : Hid (¬ rt a * rt a % pp = a % pp) := by show ¬ _ = _; rw [← HCC.out, ← HDD.out]; exact hcd
    go_wp2_with fail
    obtain ⟨x1, hx1⟩ : ∃ x, x = w2.alloc (.cells (nl s).toArray 88) := ⟨_, rfl⟩
    have HS1 : Hid (SS w [(w.heap.size, bl a, 22), (w1.heap.size, nl a, 88), (w2.heap.size, nl s, 88)] (w.heap.size + 1) 32 x1) := by rw [hx1]; exact HS2a.out
    rw [← hx1]
    clear hx1 HS2a
    refine wp_region_held_drew (S := (fun w' => SS w [(w.heap.size, bl a, 22), (w1.heap.size, nl a, 88), (w2.heap.size, nl s, 88)] (w.heap.size + 1) 32 w')) (by kernel_rfl) ?_ (fun hHeld => ?_)
    · exact HS1.out.drew
    refine take1 (i := 0) (v := _) 10 rfl rfl (by kernel_rfl) (by kernel_rfl) (by kernel_rfl) (fun _ _ _ h => h) (yieldsIf_load_mid (by rfl) _ _ rfl _ _ rfl _ _ (fun w h => h.range (i := 2) rfl) Tryd.underlying88 rfl (i4 s)) hHeld ?_
    simp only [Act.put, List.setIfInBounds_toArray, List.set_cons_zero, List.set_cons_succ]
    refine take1 (i := 1) (v := _) 11 rfl rfl (by kernel_rfl) (by kernel_rfl) (by kernel_rfl) (fun _ _ _ h => h) (yieldsIf_load_mid (by rfl) _ _ rfl _ _ rfl _ _ (fun w h => h.range (i := 2) rfl) Tryd.underlying88 rfl (i4 s)) hHeld ?_
    simp only [Act.put, List.setIfInBounds_toArray, List.set_cons_zero, List.set_cons_succ]
    refine take1 (i := 4) (v := _) 14 rfl rfl (by kernel_rfl) (by kernel_rfl) (by kernel_rfl) (fun _ _ _ h => h) (yieldsIf_load_mid (by rfl) _ _ rfl _ _ rfl _ _ (fun w h => h.range (i := 1) rfl) Tryd.underlying88 rfl (i4 a)) hHeld ?_
    simp only [Act.put, List.setIfInBounds_toArray, List.set_cons_zero, List.set_cons_succ]
    refine wpAnyH_ready (rs := [2]) (by kernel_rfl) (by simp) ?_
    refine AllReadyH.cons rfl (fun K hK => ?_) AllReadyH.nil
    go_simp
    go_at_call 59
    refine (ml s s hs hs _).mono ?_
    rintro e wA ⟨m, hm, rfl, em, hbA⟩
    refine hK.out _ _ ?_ (fun hHeld => ?_)
    · exact hHeld.call hbA
    clear hK K
    try simp only [Act.put, List.setIfInBounds_toArray, List.set_cons_zero, List.set_cons_succ]
    refine wpAnyH_ready (rs := [3]) (by kernel_rfl) (by simp) ?_
    refine AllReadyH.cons rfl (fun K hK => ?_) AllReadyH.nil
    go_simp
    go_at_call 72
    refine (sec m hm em _).mono ?_
    rintro e wB ⟨rfl, hbB⟩
    refine hK.out _ _ ?_ (fun hHeld => ?_)
    · exact hHeld.call hbB
    clear hK K
    try simp only [Act.put, List.setIfInBounds_toArray, List.set_cons_zero, List.set_cons_succ]
    refine wpAnyH_ready (rs := [5]) (by kernel_rfl) (by simp) ?_
    refine AllReadyH.cons rfl (fun K hK => ?_) AllReadyH.nil
    go_simp
    go_at_call 72
    refine (sed _).mono ?_
    rintro e wC ⟨rfl, hbC⟩
    refine hK.out _ _ ?_ (fun hHeld => ?_)
    · exact hHeld.call hbC
    clear hK K
    try simp only [Act.put, List.setIfInBounds_toArray, List.set_cons_zero, List.set_cons_succ]
    refine take1 (i := 6) (v := ?_) 16 rfl rfl (by kernel_rfl) (by kernel_rfl) (by kernel_rfl) (fun _ _ _ h => h) (Or.inl ⟨by rfl, ?_⟩) hHeld ?_
    rotate_left 1
    · intro w hSw; go_simp <;> with_reducible rfl
    simp only [Act.put, List.setIfInBounds_toArray, List.set_cons_zero, List.set_cons_succ]
    refine wpAnyH_done (by kernel_rfl) ?_ _
    have HS5 : Hid (SS w [(w.heap.size, bl a, 22), (w1.heap.size, nl a, 88), (w2.heap.size, nl s, 88)] (w.heap.size + 1) 32 wC) := hHeld
    have HT : Hid (wC.there (w.heap.size + 1) 0 (br 0).size) := by rw [br_size]; exact hHeld.there
    clear hHeld HS1
    go_wp2_with (refine wpList_store_mid rfl 22 _ _ rfl (w.heap.size + 1) 0 (br 0) rfl (by exact congrArg Value.agg lit0) HT.out (by rw [br_size]; exact size_32) (br_one _) ?_)
    refine bodyPost_ret (v := .tuple #[.agg (bl 0).toArray, .int .i64 4]) (results_mid_tmp Tryd.results66 _ _ (w.heap.size + 1) 0 (bl 0) _ _ rfl rfl (World.rangeAt_setCells_same _ _ _ _ HT.out) Tryd.underlying22 rfl (i32 _)) rfl ⟨?_, below_setCells _ (by omega) _ _ _ HS5.out.below⟩
    rw [sqv, sqe, if_neg HD.out, if_neg HD.out]
end Go.Proofs.YtdegfgncdphepaaDoor
