/- Package field: squared, ones, inverse, Inv. -/
import Derived.Test.YtdegfgncdphepaaDoorFieJ
import Derived.Deep.CutRange
namespace Go.Proofs.YtdegfgncdphepaaDoor
open Go Go.RowKit Go.Lib
set_option linter.unusedSimpArgs false
set_option linter.unusedVariables false
/-- A number's four cells. -/
abbrev nl (n : Nat) : List Value := [.int .u64 (lw n 0), .int .u64 (lw n 1), .int .u64 (lw n 2), .int .u64 (lw n 3)]
theorem SS.lt {w0 : World} {bs : List (Nat × List Value × TypeId)} {r n : Nat} {w : World} (h : SS w0 bs r n w) : ∀ b ∈ bs, b.1 < w.heap.size := fun b hb => by
  obtain ⟨i, hi⟩ := List.mem_iff_getElem?.1 hb
  exact lt_of_heap (h.holds i b.1 b.2.1 b.2.2 hi)
theorem SS.put {w0 : World} {bs : List (Nat × List Value × TypeId)} {r n q : Nat} {w : World} (h : SS w0 bs r n w) (hq : w0.heap.size ≤ q) (hne : ∀ b ∈ bs, b.1 < q) (vs : List Value) : SS w0 bs r n (w.setCells q 0 vs) :=
  ⟨below_setCells _ hq _ _ _ h.below, fun i g L t hm => (heap_setCells_past q g (by have := hne _ (List.mem_of_getElem? hm); simp only at this; omega) vs 0 w).trans (h.holds i g L t hm), World.there_setCells h.there _ _ _⟩
theorem SS.add {w0 : World} {bs : List (Nat × List Value × TypeId)} {r n q : Nat} {w : World} (h : SS w0 bs r n w) (L : List Value) (t : TypeId) (hq : w.heap[q]? = some (.cells L.toArray t (0, 0))) : SS w0 (bs ++ [(q, L, t)]) r n w := by
  refine ⟨h.below, ?_, h.there⟩
  intro i g L' t' hm
  rw [List.getElem?_append] at hm
  split at hm
  · exact h.holds i g L' t' hm
  · rename_i hi
    rcases Nat.lt_or_ge (i - bs.length) 1 with hl | hl
    · rw [show i - bs.length = 0 by omega] at hm
      simp only [List.getElem?_cons_zero, Option.some.injEq, Prod.mk.injEq] at hm
      obtain ⟨rfl, rfl, rfl⟩ := hm
      exact hq
    · rw [List.getElem?_eq_none (by simp; omega)] at hm
      cases hm
/-- Four cells stored whole. -/
theorem set_row4 {w : World} {q : Nat} {x0 x1 x2 x3 y0 y1 y2 y3 : Value} {t : TypeId} (h : w.heap[q]? = some (.cells #[x0, x1, x2, x3] t (0, 0))) : (w.setCells q 0 [y0, y1, y2, y3]).heap[q]? = some (.cells #[y0, y1, y2, y3] t (0, 0)) := set4_here y0 y1 y2 y3 h
theorem four_one (n : Nat) : (nl n).toArray.all (·.oneCell') = true := all_oneCell_toArray (fun v hv => by
  simp only [List.mem_cons, List.not_mem_nil, or_false] at hv
  rcases hv with rfl | rfl | rfl | rfl <;> rfl)
theorem i4 (n : Nat) : (Tryd.prog.info? 88).map (·.size) = some (nl n).length := by kernel_rfl
theorem SS.num (w : World) (n : Nat) : SS w [(w.heap.size, nl n, 88)] (w.heap.size + 1) 4 ((w.alloc (.cells (nl n).toArray 88)).alloc (.cells #[.int .u64 0, .int .u64 0, .int .u64 0, .int .u64 0] 88)) := by
  refine ⟨((Below.refl _ _).alloc (Nat.le_refl _) _).alloc (by simp) _, ?_, there_of_row (heap_alloc_here _ _ _ (by simp)) 0 4 (by simp)⟩
  intro i g L t hm
  match i, hm with
  | 0, hm =>
    cases hm
    exact (heap_alloc_past _ _ _ (by simp)).trans (heap_alloc_here _ _ _ rfl)
set_option maxHeartbeats 400000 in
theorem squared_nat (n t : Nat) (hn : n < RN) (ht : t < 1000) (w : World) :
    Calls Tryd.prog 74 #[nv n, .int .i64 t] w fun e w' => ∃ s, s < RN ∧ e = .returned (nv s) ∧ s % pp = n ^ 2 ^ t % pp ∧ Below w.heap.size w w' := by
  have ml := mul_nat
  have HS : Hid (SS w [] (w.heap.size + 1) 4 ((w.alloc (.cells (nl n).toArray 88)).alloc (.cells #[.int .u64 0, .int .u64 0, .int .u64 0, .int .u64 0] 88))) := ⟨(SS.num w n).below, fun i g L t hm => by simp at hm, (SS.num w n).there⟩
  have HN : Hid (((w.alloc (.cells (nl n).toArray 88)).alloc (.cells #[.int .u64 0, .int .u64 0, .int .u64 0, .int .u64 0] 88)).heap[w.heap.size]? = some (.cells (nl n).toArray 88 (0, 0))) := (SS.num w n).holds 0 _ _ _ rfl
  unfold nv at *
  go_enter Tryd.func74, Tryd.ntmps74
  go_wp2
  go_loopw [6] (fun i wr => ∃ k x : Nat, k ≤ t ∧ i = .int .i64 k ∧ x < RN ∧ x % pp = n ^ 2 ^ k % pp ∧ wr.heap[w.heap.size]? = some (.cells (nl x).toArray 88 (0, 0)) ∧ SS w [] (w.heap.size + 1) 4 wr) (fun i _ => t - (intOf i).toNat)
  case atStart => exact ⟨0, n, by omega, rfl, hn, by rw [Nat.pow_zero, Nat.pow_one], HN.out, HS.out⟩
  case round =>
    obtain ⟨k, x, hk, rfl, hx, ex, hnum, hss⟩ := hrel
    have HX : Hid (x % pp = n ^ 2 ^ k % pp) := ex
    have HSS : Hid (SS w [] (w.heap.size + 1) 4 wr) := hss
    have HNUM : Hid (wr.heap[w.heap.size]? = some (.cells (nl x).toArray 88 (0, 0))) := hnum
    obtain ⟨c0, c1, c2, c3, f0, f1, f2, f3⟩ := four hnum
    clear ex hss hnum
    by_cases hlt : k < t
    · have hlt' : (k : Int) < (t : Int) := by omega
      go_wp2_with fail
      refine (ml x x hx hx _).mono ?_
      rintro e w1 ⟨s, hs, rfl, es, hb⟩
      have N1 := keep' hb HNUM.out
      have S1 : Hid (SS w [] (w.heap.size + 1) 4 w1) := HSS.out.call hb
      have HN1 : Hid (w1.heap[w.heap.size]? = some (.cells (nl x).toArray 88 (0, 0))) := N1
      have HES : Hid (s % pp = x * x % pp) := es
      clear es hb c0 c1 c2 c3 f0 f1 f2 f3
      obtain ⟨c0, c1, c2, c3, f0, f1, f2, f3⟩ := four N1
      clear N1
      go_wp2
      go_roundw
      case rel =>
        refine ⟨k + 1, s, by omega, by go_num, hs, ?_, set_row4 HN1.out, S1.out.put (by omega) (fun b hb => by simp at hb) (nl s)⟩
        rw [HES.out, Nat.mul_mod, HX.out, ← Nat.mul_mod, ← Nat.pow_two, ← Nat.pow_mul, ← Nat.pow_succ]
      case measure => simp [intOf]; omega
    · obtain rfl : k = t := by omega
      have HT : Hid (wr.there (w.heap.size + 1) 0 4) := HSS.out.there
      go_wp2_with (first | (refine wpList_store_mid rfl 88 _ _ rfl (w.heap.size + 1) 0 (nl x).toArray rfl rfl HT.out (i4 x) (four_one x) ?_))
      refine bodyPost_ret (v := .agg (nl x).toArray) (results_mid Tryd.results74 _ _ (w.heap.size + 1) 0 (nl x) _ rfl (World.rangeAt_setCells_same _ _ _ _ HT.out) Tryd.underlying88 rfl (i4 x)) rfl ⟨x, hx, rfl, HX.out, ?_⟩
      exact below_setCells _ (by omega) _ _ _ HSS.out.below
/-- 2^k, and a row of k ones. -/
def tw (k : Nat) : Nat := 2 ^ k
def rn (k : Nat) : Nat := 2 ^ k - 1
theorem squared_tw (n t : Nat) (hn : n < RN) (ht : t < 1000) (w : World) :
    Calls Tryd.prog 74 #[nv n, .int .i64 t] w fun e w' => ∃ s, s < RN ∧ e = .returned (nv s) ∧ s % pp = n ^ tw t % pp ∧ Below w.heap.size w w' := squared_nat n t hn ht w
theorem SS.rlt {w0 : World} {bs : List (Nat × List Value × TypeId)} {r n : Nat} {w : World} (h : SS w0 bs r (n + 1) w) : r < w.heap.size := lt_of_cell (h.there 0 (by omega)).1
theorem SS.pick2 {w0 : World} {bs : List (Nat × List Value × TypeId)} {r n : Nat} {w : World} (h : SS w0 bs r n w) (i j : Nat) {x y : Nat × List Value × TypeId} (hi : bs[i]? = some x) (hj : bs[j]? = some y) : SS w0 [x, y] r n w := by
  refine ⟨h.below, fun k g L t hm => ?_, h.there⟩
  match k, hm with
  | 0, hm => cases hm; exact h.holds i g L t hi
  | 1, hm => cases hm; exact h.holds j g L t hj
/-- A row of a + b ones out of rows of a and b. -/
theorem rows_mul (n a b c x q y s : Nat) (hc : a + b = c) (hs : s % pp = q * y % pp) (hq : q % pp = x ^ tw b % pp) (hx : x % pp = n ^ rn a % pp) (hy : y % pp = n ^ rn b % pp) : s % pp = n ^ rn c % pp := by
  subst hc
  unfold tw at hq
  unfold rn at hx hy ⊢
  have ha := Nat.pow_pos (n := a) (show 0 < 2 by decide)
  have hb := Nat.pow_pos (n := b) (show 0 < 2 by decide)
  have e : 2 ^ (a + b) - 1 = (2 ^ a - 1) * 2 ^ b + (2 ^ b - 1) := by
    rw [Nat.pow_add, Nat.sub_mul, Nat.one_mul]
    have : 2 ^ b ≤ 2 ^ a * 2 ^ b := Nat.le_mul_of_pos_left _ ha
    omega
  rw [hs, Nat.mul_mod, hq, hy, Nat.pow_mod, hx, ← Nat.pow_mod, ← Nat.mul_mod, ← Nat.pow_mul, ← Nat.pow_add, ← e]
set_option maxRecDepth 100000 in
set_option maxHeartbeats 4000000 in
theorem ones_nat (n : Nat) (hn : n < RN) (w : World) :
    Calls Tryd.prog 75 #[nv n] w fun e w' => ∃ s, s < RN ∧ e = .returned (nv s) ∧ s % pp = n ^ rn 250 % pp ∧ Below w.heap.size w w' := by
  have ml : ∀ a b : Nat, a < RN → b < RN → ∀ w, Calls Tryd.prog 59 #[.agg (nl a).toArray, .agg (nl b).toArray] w fun e w' => ∃ s : Nat, s < RN ∧ e = .returned (.agg (nl s).toArray) ∧ s % pp = (a * b) % pp ∧ Below w.heap.size w w' := mul_nat
  have sq1 : ∀ n : Nat, n < RN → ∀ w, Calls Tryd.prog 74 #[.agg (nl n).toArray, .int .i64 1] w fun e w' => ∃ s : Nat, s < RN ∧ e = .returned (.agg (nl s).toArray) ∧ s % pp = n ^ tw 1 % pp ∧ Below w.heap.size w w' := fun n hn w => squared_tw n 1 hn (by decide) w
  have sq2 : ∀ n : Nat, n < RN → ∀ w, Calls Tryd.prog 74 #[.agg (nl n).toArray, .int .i64 2] w fun e w' => ∃ s : Nat, s < RN ∧ e = .returned (.agg (nl s).toArray) ∧ s % pp = n ^ tw 2 % pp ∧ Below w.heap.size w w' := fun n hn w => squared_tw n 2 hn (by decide) w
  have sq5 : ∀ n : Nat, n < RN → ∀ w, Calls Tryd.prog 74 #[.agg (nl n).toArray, .int .i64 5] w fun e w' => ∃ s : Nat, s < RN ∧ e = .returned (.agg (nl s).toArray) ∧ s % pp = n ^ tw 5 % pp ∧ Below w.heap.size w w' := fun n hn w => squared_tw n 5 hn (by decide) w
  have sq10 : ∀ n : Nat, n < RN → ∀ w, Calls Tryd.prog 74 #[.agg (nl n).toArray, .int .i64 10] w fun e w' => ∃ s : Nat, s < RN ∧ e = .returned (.agg (nl s).toArray) ∧ s % pp = n ^ tw 10 % pp ∧ Below w.heap.size w w' := fun n hn w => squared_tw n 10 hn (by decide) w
  have sq20 : ∀ n : Nat, n < RN → ∀ w, Calls Tryd.prog 74 #[.agg (nl n).toArray, .int .i64 20] w fun e w' => ∃ s : Nat, s < RN ∧ e = .returned (.agg (nl s).toArray) ∧ s % pp = n ^ tw 20 % pp ∧ Below w.heap.size w w' := fun n hn w => squared_tw n 20 hn (by decide) w
  have sq50 : ∀ n : Nat, n < RN → ∀ w, Calls Tryd.prog 74 #[.agg (nl n).toArray, .int .i64 50] w fun e w' => ∃ s : Nat, s < RN ∧ e = .returned (.agg (nl s).toArray) ∧ s % pp = n ^ tw 50 % pp ∧ Below w.heap.size w w' := fun n hn w => squared_tw n 50 hn (by decide) w
  have sq100 : ∀ n : Nat, n < RN → ∀ w, Calls Tryd.prog 74 #[.agg (nl n).toArray, .int .i64 100] w fun e w' => ∃ s : Nat, s < RN ∧ e = .returned (.agg (nl s).toArray) ∧ s % pp = n ^ tw 100 % pp ∧ Below w.heap.size w w' := fun n hn w => squared_tw n 100 hn (by decide) w
  have hn1 : n % pp = n ^ rn 1 % pp := by rw [show rn 1 = 1 from rfl, Nat.pow_one]
  have HS0 := SS.num w n
  unfold nv
  go_enter Tryd.func75, Tryd.ntmps75
  go_wp2_with fail
  obtain ⟨x0, hx0⟩ : ∃ x, x = (w.alloc (.cells (nl n).toArray 88)).alloc (.cells #[.int .u64 0, .int .u64 0, .int .u64 0, .int .u64 0] 88) := ⟨_, rfl⟩
  have HS : Hid (SS w [(w.heap.size, nl n, 88)] (w.heap.size + 1) 4 x0) := by rw [hx0]; exact HS0
  rw [← hx0]
  clear hx0 HS0
  go_cut [3] from 12 to 16 (fun sz wx => ∃ q s : Nat, sz = .pointer (some ⟨q, 0, none⟩) ∧ s < RN ∧ s % pp = n ^ rn 2 % pp ∧ w.heap.size + 1 < q ∧ SS w [(w.heap.size, nl n, 88), (q, nl s, 88)] (w.heap.size + 1) 4 wx)
  case first =>
    refine wp_region_held_drew (S := (fun w' => SS w [(w.heap.size, nl n, 88)] (w.heap.size + 1) 4 w')) (by kernel_rfl) ?_ (fun hHeld => ?_)
    · exact HS.out.drew
    refine take1 (i := 0) (v := _) 12 rfl rfl (by kernel_rfl) (by kernel_rfl) (by kernel_rfl) (fun _ _ _ h => h) (yieldsIf_load_mid (by rfl) _ _ rfl _ _ rfl _ _ (fun w h => h.range (i := 0) rfl) Tryd.underlying88 rfl (i4 n)) hHeld ?_
    simp only [Act.put, List.setIfInBounds_toArray, List.set_cons_zero, List.set_cons_succ]
    refine take1 (i := 2) (v := _) 14 rfl rfl (by kernel_rfl) (by kernel_rfl) (by kernel_rfl) (fun _ _ _ h => h) (yieldsIf_load_mid (by rfl) _ _ rfl _ _ rfl _ _ (fun w h => h.range (i := 0) rfl) Tryd.underlying88 rfl (i4 n)) hHeld ?_
    simp only [Act.put, List.setIfInBounds_toArray, List.set_cons_zero, List.set_cons_succ]
    refine wpAnyH_ready (rs := [1, 4]) (by kernel_rfl) (by simp) ?_
    refine AllReadyH.cons rfl (fun K hK => ?_) (AllReadyH.cons rfl (fun K hK => ?_) (AllReadyH.nil))
    · go_simp
      go_at_call 74
      refine (sq1 n hn _).mono ?_
      rintro e wA ⟨y, hy, rfl, ey, hbA⟩
      refine hK.out _ _ ?_ (fun hHeld => ?_)
      · exact hHeld.call hbA
      clear hK K
      try simp only [Act.put, List.setIfInBounds_toArray, List.set_cons_zero, List.set_cons_succ]
      refine wpAnyH_ready (rs := [3, 4]) (by kernel_rfl) (by simp) ?_
      refine AllReadyH.cons rfl (fun K hK => ?_) (AllReadyH.cons rfl (fun K hK => ?_) (AllReadyH.nil))
      · go_simp
        go_at_call 59
        refine (ml y n hy hn _).mono ?_
        rintro e wB ⟨s, hs, rfl, es, hbB⟩
        refine hK.out _ _ ?_ (fun hHeld => ?_)
        · exact hHeld.call hbB
        clear hK K
        try simp only [Act.put, List.setIfInBounds_toArray, List.set_cons_zero, List.set_cons_succ]
        refine wpAnyH_ready (rs := [4]) (by kernel_rfl) (by simp) ?_
        refine AllReadyH.cons rfl (fun K hK => ?_) (AllReadyH.nil)
        have hlt := hHeld.lt
        have hrq := hHeld.rlt
        have hq : ((wB).alloc (.cells #[.int .u64 0, .int .u64 0, .int .u64 0, .int .u64 0] 88)).heap[(wB).heap.size]? = some (.cells #[.int .u64 0, .int .u64 0, .int .u64 0, .int .u64 0] 88 (0, 0)) := heap_alloc_here _ _ _ rfl
        have hqs := hHeld.below.size
        go_simp
        refine hK.out _ _ ?_ (fun hHeld => ?_)
        · exact hHeld.alloc _
        clear hK K
        try simp only [Act.put, List.setIfInBounds_toArray, List.set_cons_zero, List.set_cons_succ]
        refine wpAnyH_ready (rs := [5]) (by kernel_rfl) (by simp) ?_
        refine AllReadyH.cons rfl (fun K hK => ?_) (AllReadyH.nil)
        rw [if_pos (by rfl)]
        refine wp_store_mid _ _ _ rfl _ _ (nl s).toArray rfl rfl (there_of_row hq 0 4 (by simp)) (i4 s) (four_one s) ?_
        refine hK.out _ _ ?_ (fun hHeld => ?_)
        · exact hHeld.put hqs hlt _
        clear hK K
        try simp only [Act.put, List.setIfInBounds_toArray, List.set_cons_zero, List.set_cons_succ]
        refine wpAnyH_done (by kernel_rfl) ?_ _
        go_wp2_with fail
        go_meet
        exact ⟨_, s, rfl, hs, rows_mul n 1 1 2 n y n s rfl es ey hn1 hn1, hrq, hHeld.add (nl s) _ (set_row4 hq)⟩
      · have hlt := hHeld.lt
        have hrq := hHeld.rlt
        have hq : ((wA).alloc (.cells #[.int .u64 0, .int .u64 0, .int .u64 0, .int .u64 0] 88)).heap[(wA).heap.size]? = some (.cells #[.int .u64 0, .int .u64 0, .int .u64 0, .int .u64 0] 88 (0, 0)) := heap_alloc_here _ _ _ rfl
        have hqs := hHeld.below.size
        go_simp
        refine hK.out _ _ ?_ (fun hHeld => ?_)
        · exact hHeld.alloc _
        clear hK K
        try simp only [Act.put, List.setIfInBounds_toArray, List.set_cons_zero, List.set_cons_succ]
        refine wpAnyH_ready (rs := [3]) (by kernel_rfl) (by simp) ?_
        refine AllReadyH.cons rfl (fun K hK => ?_) (AllReadyH.nil)
        go_simp
        go_at_call 59
        refine (ml y n hy hn _).mono ?_
        rintro e wB ⟨s, hs, rfl, es, hbB⟩
        refine hK.out _ _ ?_ (fun hHeld => ?_)
        · exact hHeld.call hbB
        clear hK K
        try simp only [Act.put, List.setIfInBounds_toArray, List.set_cons_zero, List.set_cons_succ]
        have hq := keep' hbB hq
        refine wpAnyH_ready (rs := [5]) (by kernel_rfl) (by simp) ?_
        refine AllReadyH.cons rfl (fun K hK => ?_) (AllReadyH.nil)
        rw [if_pos (by rfl)]
        refine wp_store_mid _ _ _ rfl _ _ (nl s).toArray rfl rfl (there_of_row hq 0 4 (by simp)) (i4 s) (four_one s) ?_
        refine hK.out _ _ ?_ (fun hHeld => ?_)
        · exact hHeld.put hqs hlt _
        clear hK K
        try simp only [Act.put, List.setIfInBounds_toArray, List.set_cons_zero, List.set_cons_succ]
        refine wpAnyH_done (by kernel_rfl) ?_ _
        go_wp2_with fail
        go_meet
        exact ⟨_, s, rfl, hs, rows_mul n 1 1 2 n y n s rfl es ey hn1 hn1, hrq, hHeld.add (nl s) _ (set_row4 hq)⟩
    · have hlt := hHeld.lt
      have hrq := hHeld.rlt
      have hq : ((x0.drew).alloc (.cells #[.int .u64 0, .int .u64 0, .int .u64 0, .int .u64 0] 88)).heap[(x0.drew).heap.size]? = some (.cells #[.int .u64 0, .int .u64 0, .int .u64 0, .int .u64 0] 88 (0, 0)) := heap_alloc_here _ _ _ rfl
      have hqs := hHeld.below.size
      go_simp
      refine hK.out _ _ ?_ (fun hHeld => ?_)
      · exact hHeld.alloc _
      clear hK K
      try simp only [Act.put, List.setIfInBounds_toArray, List.set_cons_zero, List.set_cons_succ]
      refine wpAnyH_ready (rs := [1]) (by kernel_rfl) (by simp) ?_
      refine AllReadyH.cons rfl (fun K hK => ?_) (AllReadyH.nil)
      go_simp
      go_at_call 74
      refine (sq1 n hn _).mono ?_
      rintro e wA ⟨y, hy, rfl, ey, hbA⟩
      refine hK.out _ _ ?_ (fun hHeld => ?_)
      · exact hHeld.call hbA
      clear hK K
      try simp only [Act.put, List.setIfInBounds_toArray, List.set_cons_zero, List.set_cons_succ]
      have hq := keep' hbA hq
      refine wpAnyH_ready (rs := [3]) (by kernel_rfl) (by simp) ?_
      refine AllReadyH.cons rfl (fun K hK => ?_) (AllReadyH.nil)
      go_simp
      go_at_call 59
      refine (ml y n hy hn _).mono ?_
      rintro e wB ⟨s, hs, rfl, es, hbB⟩
      refine hK.out _ _ ?_ (fun hHeld => ?_)
      · exact hHeld.call hbB
      clear hK K
      try simp only [Act.put, List.setIfInBounds_toArray, List.set_cons_zero, List.set_cons_succ]
      have hq := keep' hbB hq
      refine wpAnyH_ready (rs := [5]) (by kernel_rfl) (by simp) ?_
      refine AllReadyH.cons rfl (fun K hK => ?_) (AllReadyH.nil)
      rw [if_pos (by rfl)]
      refine wp_store_mid _ _ _ rfl _ _ (nl s).toArray rfl rfl (there_of_row hq 0 4 (by simp)) (i4 s) (four_one s) ?_
      refine hK.out _ _ ?_ (fun hHeld => ?_)
      · exact hHeld.put hqs hlt _
      clear hK K
      try simp only [Act.put, List.setIfInBounds_toArray, List.set_cons_zero, List.set_cons_succ]
      refine wpAnyH_done (by kernel_rfl) ?_ _
      go_wp2_with fail
      go_meet
      exact ⟨_, s, rfl, hs, rows_mul n 1 1 2 n y n s rfl es ey hn1 hn1, hrq, hHeld.add (nl s) _ (set_row4 hq)⟩
  case rest =>
    obtain ⟨q1, s1, rfl, hs1, ee, lq1, hss⟩ := hcut
    have es1 : Hid (s1 % pp = n ^ rn 2 % pp) := ee
    obtain ⟨x1, hxw⟩ : ∃ x, x = wc := ⟨_, rfl⟩
    rw [← hxw] at hss ⊢
    have HS1 : Hid (SS w [(w.heap.size, nl n, 88), (q1, nl s1, 88)] (w.heap.size + 1) 4 x1) := hss
    clear ee hss hxw
    go_wp2_with fail
    go_cut [4] from 16 to 20 (fun sz wx => ∃ q s : Nat, sz = .pointer (some ⟨q, 0, none⟩) ∧ s < RN ∧ s % pp = n ^ rn 4 % pp ∧ w.heap.size + 1 < q ∧ SS w [(w.heap.size, nl n, 88), (q1, nl s1, 88), (q, nl s, 88)] (w.heap.size + 1) 4 wx)
    case first =>
      refine wp_region_held_drew (S := (fun w' => SS w [(w.heap.size, nl n, 88), (q1, nl s1, 88)] (w.heap.size + 1) 4 w')) (by kernel_rfl) ?_ (fun hHeld => ?_)
      · exact HS1.out.drew
      refine take1 (i := 0) (v := _) 16 rfl rfl (by kernel_rfl) (by kernel_rfl) (by kernel_rfl) (fun _ _ _ h => h) (yieldsIf_load_mid (by rfl) _ _ rfl _ _ rfl _ _ (fun w h => h.range (i := 1) rfl) Tryd.underlying88 rfl (i4 s1)) hHeld ?_
      simp only [Act.put, List.setIfInBounds_toArray, List.set_cons_zero, List.set_cons_succ]
      refine take1 (i := 2) (v := _) 18 rfl rfl (by kernel_rfl) (by kernel_rfl) (by kernel_rfl) (fun _ _ _ h => h) (yieldsIf_load_mid (by rfl) _ _ rfl _ _ rfl _ _ (fun w h => h.range (i := 1) rfl) Tryd.underlying88 rfl (i4 s1)) hHeld ?_
      simp only [Act.put, List.setIfInBounds_toArray, List.set_cons_zero, List.set_cons_succ]
      refine wpAnyH_ready (rs := [1, 4]) (by kernel_rfl) (by simp) ?_
      refine AllReadyH.cons rfl (fun K hK => ?_) (AllReadyH.cons rfl (fun K hK => ?_) (AllReadyH.nil))
      · go_simp
        go_at_call 74
        refine (sq2 s1 hs1 _).mono ?_
        rintro e wA ⟨y, hy, rfl, ey, hbA⟩
        refine hK.out _ _ ?_ (fun hHeld => ?_)
        · exact hHeld.call hbA
        clear hK K
        try simp only [Act.put, List.setIfInBounds_toArray, List.set_cons_zero, List.set_cons_succ]
        refine wpAnyH_ready (rs := [3, 4]) (by kernel_rfl) (by simp) ?_
        refine AllReadyH.cons rfl (fun K hK => ?_) (AllReadyH.cons rfl (fun K hK => ?_) (AllReadyH.nil))
        · go_simp
          go_at_call 59
          refine (ml y s1 hy hs1 _).mono ?_
          rintro e wB ⟨s, hs, rfl, es, hbB⟩
          refine hK.out _ _ ?_ (fun hHeld => ?_)
          · exact hHeld.call hbB
          clear hK K
          try simp only [Act.put, List.setIfInBounds_toArray, List.set_cons_zero, List.set_cons_succ]
          refine wpAnyH_ready (rs := [4]) (by kernel_rfl) (by simp) ?_
          refine AllReadyH.cons rfl (fun K hK => ?_) (AllReadyH.nil)
          have hlt := hHeld.lt
          have hrq := hHeld.rlt
          have hq : ((wB).alloc (.cells #[.int .u64 0, .int .u64 0, .int .u64 0, .int .u64 0] 88)).heap[(wB).heap.size]? = some (.cells #[.int .u64 0, .int .u64 0, .int .u64 0, .int .u64 0] 88 (0, 0)) := heap_alloc_here _ _ _ rfl
          have hqs := hHeld.below.size
          go_simp
          refine hK.out _ _ ?_ (fun hHeld => ?_)
          · exact hHeld.alloc _
          clear hK K
          try simp only [Act.put, List.setIfInBounds_toArray, List.set_cons_zero, List.set_cons_succ]
          refine wpAnyH_ready (rs := [5]) (by kernel_rfl) (by simp) ?_
          refine AllReadyH.cons rfl (fun K hK => ?_) (AllReadyH.nil)
          rw [if_pos (by rfl)]
          refine wp_store_mid _ _ _ rfl _ _ (nl s).toArray rfl rfl (there_of_row hq 0 4 (by simp)) (i4 s) (four_one s) ?_
          refine hK.out _ _ ?_ (fun hHeld => ?_)
          · exact hHeld.put hqs hlt _
          clear hK K
          try simp only [Act.put, List.setIfInBounds_toArray, List.set_cons_zero, List.set_cons_succ]
          refine wpAnyH_done (by kernel_rfl) ?_ _
          go_wp2_with fail
          go_meet
          exact ⟨_, s, rfl, hs, rows_mul n 2 2 4 s1 y s1 s rfl es ey es1.out es1.out, hrq, hHeld.add (nl s) _ (set_row4 hq)⟩
        · have hlt := hHeld.lt
          have hrq := hHeld.rlt
          have hq : ((wA).alloc (.cells #[.int .u64 0, .int .u64 0, .int .u64 0, .int .u64 0] 88)).heap[(wA).heap.size]? = some (.cells #[.int .u64 0, .int .u64 0, .int .u64 0, .int .u64 0] 88 (0, 0)) := heap_alloc_here _ _ _ rfl
          have hqs := hHeld.below.size
          go_simp
          refine hK.out _ _ ?_ (fun hHeld => ?_)
          · exact hHeld.alloc _
          clear hK K
          try simp only [Act.put, List.setIfInBounds_toArray, List.set_cons_zero, List.set_cons_succ]
          refine wpAnyH_ready (rs := [3]) (by kernel_rfl) (by simp) ?_
          refine AllReadyH.cons rfl (fun K hK => ?_) (AllReadyH.nil)
          go_simp
          go_at_call 59
          refine (ml y s1 hy hs1 _).mono ?_
          rintro e wB ⟨s, hs, rfl, es, hbB⟩
          refine hK.out _ _ ?_ (fun hHeld => ?_)
          · exact hHeld.call hbB
          clear hK K
          try simp only [Act.put, List.setIfInBounds_toArray, List.set_cons_zero, List.set_cons_succ]
          have hq := keep' hbB hq
          refine wpAnyH_ready (rs := [5]) (by kernel_rfl) (by simp) ?_
          refine AllReadyH.cons rfl (fun K hK => ?_) (AllReadyH.nil)
          rw [if_pos (by rfl)]
          refine wp_store_mid _ _ _ rfl _ _ (nl s).toArray rfl rfl (there_of_row hq 0 4 (by simp)) (i4 s) (four_one s) ?_
          refine hK.out _ _ ?_ (fun hHeld => ?_)
          · exact hHeld.put hqs hlt _
          clear hK K
          try simp only [Act.put, List.setIfInBounds_toArray, List.set_cons_zero, List.set_cons_succ]
          refine wpAnyH_done (by kernel_rfl) ?_ _
          go_wp2_with fail
          go_meet
          exact ⟨_, s, rfl, hs, rows_mul n 2 2 4 s1 y s1 s rfl es ey es1.out es1.out, hrq, hHeld.add (nl s) _ (set_row4 hq)⟩
      · have hlt := hHeld.lt
        have hrq := hHeld.rlt
        have hq : ((x1.drew).alloc (.cells #[.int .u64 0, .int .u64 0, .int .u64 0, .int .u64 0] 88)).heap[(x1.drew).heap.size]? = some (.cells #[.int .u64 0, .int .u64 0, .int .u64 0, .int .u64 0] 88 (0, 0)) := heap_alloc_here _ _ _ rfl
        have hqs := hHeld.below.size
        go_simp
        refine hK.out _ _ ?_ (fun hHeld => ?_)
        · exact hHeld.alloc _
        clear hK K
        try simp only [Act.put, List.setIfInBounds_toArray, List.set_cons_zero, List.set_cons_succ]
        refine wpAnyH_ready (rs := [1]) (by kernel_rfl) (by simp) ?_
        refine AllReadyH.cons rfl (fun K hK => ?_) (AllReadyH.nil)
        go_simp
        go_at_call 74
        refine (sq2 s1 hs1 _).mono ?_
        rintro e wA ⟨y, hy, rfl, ey, hbA⟩
        refine hK.out _ _ ?_ (fun hHeld => ?_)
        · exact hHeld.call hbA
        clear hK K
        try simp only [Act.put, List.setIfInBounds_toArray, List.set_cons_zero, List.set_cons_succ]
        have hq := keep' hbA hq
        refine wpAnyH_ready (rs := [3]) (by kernel_rfl) (by simp) ?_
        refine AllReadyH.cons rfl (fun K hK => ?_) (AllReadyH.nil)
        go_simp
        go_at_call 59
        refine (ml y s1 hy hs1 _).mono ?_
        rintro e wB ⟨s, hs, rfl, es, hbB⟩
        refine hK.out _ _ ?_ (fun hHeld => ?_)
        · exact hHeld.call hbB
        clear hK K
        try simp only [Act.put, List.setIfInBounds_toArray, List.set_cons_zero, List.set_cons_succ]
        have hq := keep' hbB hq
        refine wpAnyH_ready (rs := [5]) (by kernel_rfl) (by simp) ?_
        refine AllReadyH.cons rfl (fun K hK => ?_) (AllReadyH.nil)
        rw [if_pos (by rfl)]
        refine wp_store_mid _ _ _ rfl _ _ (nl s).toArray rfl rfl (there_of_row hq 0 4 (by simp)) (i4 s) (four_one s) ?_
        refine hK.out _ _ ?_ (fun hHeld => ?_)
        · exact hHeld.put hqs hlt _
        clear hK K
        try simp only [Act.put, List.setIfInBounds_toArray, List.set_cons_zero, List.set_cons_succ]
        refine wpAnyH_done (by kernel_rfl) ?_ _
        go_wp2_with fail
        go_meet
        exact ⟨_, s, rfl, hs, rows_mul n 2 2 4 s1 y s1 s rfl es ey es1.out es1.out, hrq, hHeld.add (nl s) _ (set_row4 hq)⟩
    case rest =>
      obtain ⟨q2, s2, rfl, hs2, ee, lq2, hss⟩ := hcut
      have es2 : Hid (s2 % pp = n ^ rn 4 % pp) := ee
      obtain ⟨x2, hxw⟩ : ∃ x, x = wc := ⟨_, rfl⟩
      rw [← hxw] at hss ⊢
      have HS2 : Hid (SS w [(w.heap.size, nl n, 88), (q1, nl s1, 88), (q2, nl s2, 88)] (w.heap.size + 1) 4 x2) := hss
      clear ee hss hxw
      go_wp2_with fail
      go_cut [5] from 20 to 24 (fun sz wx => ∃ q s : Nat, sz = .pointer (some ⟨q, 0, none⟩) ∧ s < RN ∧ s % pp = n ^ rn 5 % pp ∧ w.heap.size + 1 < q ∧ SS w [(w.heap.size, nl n, 88), (q1, nl s1, 88), (q2, nl s2, 88), (q, nl s, 88)] (w.heap.size + 1) 4 wx)
      case first =>
        refine wp_region_held_drew (S := (fun w' => SS w [(w.heap.size, nl n, 88), (q1, nl s1, 88), (q2, nl s2, 88)] (w.heap.size + 1) 4 w')) (by kernel_rfl) ?_ (fun hHeld => ?_)
        · exact HS2.out.drew
        refine take1 (i := 0) (v := _) 20 rfl rfl (by kernel_rfl) (by kernel_rfl) (by kernel_rfl) (fun _ _ _ h => h) (yieldsIf_load_mid (by rfl) _ _ rfl _ _ rfl _ _ (fun w h => h.range (i := 2) rfl) Tryd.underlying88 rfl (i4 s2)) hHeld ?_
        simp only [Act.put, List.setIfInBounds_toArray, List.set_cons_zero, List.set_cons_succ]
        refine take1 (i := 2) (v := _) 22 rfl rfl (by kernel_rfl) (by kernel_rfl) (by kernel_rfl) (fun _ _ _ h => h) (yieldsIf_load_mid (by rfl) _ _ rfl _ _ rfl _ _ (fun w h => h.range (i := 0) rfl) Tryd.underlying88 rfl (i4 n)) hHeld ?_
        simp only [Act.put, List.setIfInBounds_toArray, List.set_cons_zero, List.set_cons_succ]
        refine wpAnyH_ready (rs := [1, 4]) (by kernel_rfl) (by simp) ?_
        refine AllReadyH.cons rfl (fun K hK => ?_) (AllReadyH.cons rfl (fun K hK => ?_) (AllReadyH.nil))
        · go_simp
          go_at_call 74
          refine (sq1 s2 hs2 _).mono ?_
          rintro e wA ⟨y, hy, rfl, ey, hbA⟩
          refine hK.out _ _ ?_ (fun hHeld => ?_)
          · exact hHeld.call hbA
          clear hK K
          try simp only [Act.put, List.setIfInBounds_toArray, List.set_cons_zero, List.set_cons_succ]
          refine wpAnyH_ready (rs := [3, 4]) (by kernel_rfl) (by simp) ?_
          refine AllReadyH.cons rfl (fun K hK => ?_) (AllReadyH.cons rfl (fun K hK => ?_) (AllReadyH.nil))
          · go_simp
            go_at_call 59
            refine (ml y n hy hn _).mono ?_
            rintro e wB ⟨s, hs, rfl, es, hbB⟩
            refine hK.out _ _ ?_ (fun hHeld => ?_)
            · exact hHeld.call hbB
            clear hK K
            try simp only [Act.put, List.setIfInBounds_toArray, List.set_cons_zero, List.set_cons_succ]
            refine wpAnyH_ready (rs := [4]) (by kernel_rfl) (by simp) ?_
            refine AllReadyH.cons rfl (fun K hK => ?_) (AllReadyH.nil)
            have hlt := hHeld.lt
            have hrq := hHeld.rlt
            have hq : ((wB).alloc (.cells #[.int .u64 0, .int .u64 0, .int .u64 0, .int .u64 0] 88)).heap[(wB).heap.size]? = some (.cells #[.int .u64 0, .int .u64 0, .int .u64 0, .int .u64 0] 88 (0, 0)) := heap_alloc_here _ _ _ rfl
            have hqs := hHeld.below.size
            go_simp
            refine hK.out _ _ ?_ (fun hHeld => ?_)
            · exact hHeld.alloc _
            clear hK K
            try simp only [Act.put, List.setIfInBounds_toArray, List.set_cons_zero, List.set_cons_succ]
            refine wpAnyH_ready (rs := [5]) (by kernel_rfl) (by simp) ?_
            refine AllReadyH.cons rfl (fun K hK => ?_) (AllReadyH.nil)
            rw [if_pos (by rfl)]
            refine wp_store_mid _ _ _ rfl _ _ (nl s).toArray rfl rfl (there_of_row hq 0 4 (by simp)) (i4 s) (four_one s) ?_
            refine hK.out _ _ ?_ (fun hHeld => ?_)
            · exact hHeld.put hqs hlt _
            clear hK K
            try simp only [Act.put, List.setIfInBounds_toArray, List.set_cons_zero, List.set_cons_succ]
            refine wpAnyH_done (by kernel_rfl) ?_ _
            go_wp2_with fail
            go_meet
            exact ⟨_, s, rfl, hs, rows_mul n 4 1 5 s2 y n s rfl es ey es2.out hn1, hrq, hHeld.add (nl s) _ (set_row4 hq)⟩
          · have hlt := hHeld.lt
            have hrq := hHeld.rlt
            have hq : ((wA).alloc (.cells #[.int .u64 0, .int .u64 0, .int .u64 0, .int .u64 0] 88)).heap[(wA).heap.size]? = some (.cells #[.int .u64 0, .int .u64 0, .int .u64 0, .int .u64 0] 88 (0, 0)) := heap_alloc_here _ _ _ rfl
            have hqs := hHeld.below.size
            go_simp
            refine hK.out _ _ ?_ (fun hHeld => ?_)
            · exact hHeld.alloc _
            clear hK K
            try simp only [Act.put, List.setIfInBounds_toArray, List.set_cons_zero, List.set_cons_succ]
            refine wpAnyH_ready (rs := [3]) (by kernel_rfl) (by simp) ?_
            refine AllReadyH.cons rfl (fun K hK => ?_) (AllReadyH.nil)
            go_simp
            go_at_call 59
            refine (ml y n hy hn _).mono ?_
            rintro e wB ⟨s, hs, rfl, es, hbB⟩
            refine hK.out _ _ ?_ (fun hHeld => ?_)
            · exact hHeld.call hbB
            clear hK K
            try simp only [Act.put, List.setIfInBounds_toArray, List.set_cons_zero, List.set_cons_succ]
            have hq := keep' hbB hq
            refine wpAnyH_ready (rs := [5]) (by kernel_rfl) (by simp) ?_
            refine AllReadyH.cons rfl (fun K hK => ?_) (AllReadyH.nil)
            rw [if_pos (by rfl)]
            refine wp_store_mid _ _ _ rfl _ _ (nl s).toArray rfl rfl (there_of_row hq 0 4 (by simp)) (i4 s) (four_one s) ?_
            refine hK.out _ _ ?_ (fun hHeld => ?_)
            · exact hHeld.put hqs hlt _
            clear hK K
            try simp only [Act.put, List.setIfInBounds_toArray, List.set_cons_zero, List.set_cons_succ]
            refine wpAnyH_done (by kernel_rfl) ?_ _
            go_wp2_with fail
            go_meet
            exact ⟨_, s, rfl, hs, rows_mul n 4 1 5 s2 y n s rfl es ey es2.out hn1, hrq, hHeld.add (nl s) _ (set_row4 hq)⟩
        · have hlt := hHeld.lt
          have hrq := hHeld.rlt
          have hq : ((x2.drew).alloc (.cells #[.int .u64 0, .int .u64 0, .int .u64 0, .int .u64 0] 88)).heap[(x2.drew).heap.size]? = some (.cells #[.int .u64 0, .int .u64 0, .int .u64 0, .int .u64 0] 88 (0, 0)) := heap_alloc_here _ _ _ rfl
          have hqs := hHeld.below.size
          go_simp
          refine hK.out _ _ ?_ (fun hHeld => ?_)
          · exact hHeld.alloc _
          clear hK K
          try simp only [Act.put, List.setIfInBounds_toArray, List.set_cons_zero, List.set_cons_succ]
          refine wpAnyH_ready (rs := [1]) (by kernel_rfl) (by simp) ?_
          refine AllReadyH.cons rfl (fun K hK => ?_) (AllReadyH.nil)
          go_simp
          go_at_call 74
          refine (sq1 s2 hs2 _).mono ?_
          rintro e wA ⟨y, hy, rfl, ey, hbA⟩
          refine hK.out _ _ ?_ (fun hHeld => ?_)
          · exact hHeld.call hbA
          clear hK K
          try simp only [Act.put, List.setIfInBounds_toArray, List.set_cons_zero, List.set_cons_succ]
          have hq := keep' hbA hq
          refine wpAnyH_ready (rs := [3]) (by kernel_rfl) (by simp) ?_
          refine AllReadyH.cons rfl (fun K hK => ?_) (AllReadyH.nil)
          go_simp
          go_at_call 59
          refine (ml y n hy hn _).mono ?_
          rintro e wB ⟨s, hs, rfl, es, hbB⟩
          refine hK.out _ _ ?_ (fun hHeld => ?_)
          · exact hHeld.call hbB
          clear hK K
          try simp only [Act.put, List.setIfInBounds_toArray, List.set_cons_zero, List.set_cons_succ]
          have hq := keep' hbB hq
          refine wpAnyH_ready (rs := [5]) (by kernel_rfl) (by simp) ?_
          refine AllReadyH.cons rfl (fun K hK => ?_) (AllReadyH.nil)
          rw [if_pos (by rfl)]
          refine wp_store_mid _ _ _ rfl _ _ (nl s).toArray rfl rfl (there_of_row hq 0 4 (by simp)) (i4 s) (four_one s) ?_
          refine hK.out _ _ ?_ (fun hHeld => ?_)
          · exact hHeld.put hqs hlt _
          clear hK K
          try simp only [Act.put, List.setIfInBounds_toArray, List.set_cons_zero, List.set_cons_succ]
          refine wpAnyH_done (by kernel_rfl) ?_ _
          go_wp2_with fail
          go_meet
          exact ⟨_, s, rfl, hs, rows_mul n 4 1 5 s2 y n s rfl es ey es2.out hn1, hrq, hHeld.add (nl s) _ (set_row4 hq)⟩
      case rest =>
        obtain ⟨q3, s3, rfl, hs3, ee, lq3, hss⟩ := hcut
        have es3 : Hid (s3 % pp = n ^ rn 5 % pp) := ee
        obtain ⟨x3, hxw⟩ : ∃ x, x = wc := ⟨_, rfl⟩
        rw [← hxw] at hss ⊢
        have HS3 : Hid (SS w [(w.heap.size, nl n, 88), (q1, nl s1, 88), (q2, nl s2, 88), (q3, nl s3, 88)] (w.heap.size + 1) 4 x3) := hss
        clear ee hss hxw
        go_wp2_with fail
        go_cut [6] from 24 to 28 (fun sz wx => ∃ q s : Nat, sz = .pointer (some ⟨q, 0, none⟩) ∧ s < RN ∧ s % pp = n ^ rn 10 % pp ∧ w.heap.size + 1 < q ∧ SS w [(w.heap.size, nl n, 88), (q1, nl s1, 88), (q2, nl s2, 88), (q3, nl s3, 88), (q, nl s, 88)] (w.heap.size + 1) 4 wx)
        case first =>
          refine wp_region_held_drew (S := (fun w' => SS w [(w.heap.size, nl n, 88), (q1, nl s1, 88), (q2, nl s2, 88), (q3, nl s3, 88)] (w.heap.size + 1) 4 w')) (by kernel_rfl) ?_ (fun hHeld => ?_)
          · exact HS3.out.drew
          refine take1 (i := 0) (v := _) 24 rfl rfl (by kernel_rfl) (by kernel_rfl) (by kernel_rfl) (fun _ _ _ h => h) (yieldsIf_load_mid (by rfl) _ _ rfl _ _ rfl _ _ (fun w h => h.range (i := 3) rfl) Tryd.underlying88 rfl (i4 s3)) hHeld ?_
          simp only [Act.put, List.setIfInBounds_toArray, List.set_cons_zero, List.set_cons_succ]
          refine take1 (i := 2) (v := _) 26 rfl rfl (by kernel_rfl) (by kernel_rfl) (by kernel_rfl) (fun _ _ _ h => h) (yieldsIf_load_mid (by rfl) _ _ rfl _ _ rfl _ _ (fun w h => h.range (i := 3) rfl) Tryd.underlying88 rfl (i4 s3)) hHeld ?_
          simp only [Act.put, List.setIfInBounds_toArray, List.set_cons_zero, List.set_cons_succ]
          refine wpAnyH_ready (rs := [1, 4]) (by kernel_rfl) (by simp) ?_
          refine AllReadyH.cons rfl (fun K hK => ?_) (AllReadyH.cons rfl (fun K hK => ?_) (AllReadyH.nil))
          · go_simp
            go_at_call 74
            refine (sq5 s3 hs3 _).mono ?_
            rintro e wA ⟨y, hy, rfl, ey, hbA⟩
            refine hK.out _ _ ?_ (fun hHeld => ?_)
            · exact hHeld.call hbA
            clear hK K
            try simp only [Act.put, List.setIfInBounds_toArray, List.set_cons_zero, List.set_cons_succ]
            refine wpAnyH_ready (rs := [3, 4]) (by kernel_rfl) (by simp) ?_
            refine AllReadyH.cons rfl (fun K hK => ?_) (AllReadyH.cons rfl (fun K hK => ?_) (AllReadyH.nil))
            · go_simp
              go_at_call 59
              refine (ml y s3 hy hs3 _).mono ?_
              rintro e wB ⟨s, hs, rfl, es, hbB⟩
              refine hK.out _ _ ?_ (fun hHeld => ?_)
              · exact hHeld.call hbB
              clear hK K
              try simp only [Act.put, List.setIfInBounds_toArray, List.set_cons_zero, List.set_cons_succ]
              refine wpAnyH_ready (rs := [4]) (by kernel_rfl) (by simp) ?_
              refine AllReadyH.cons rfl (fun K hK => ?_) (AllReadyH.nil)
              have hlt := hHeld.lt
              have hrq := hHeld.rlt
              have hq : ((wB).alloc (.cells #[.int .u64 0, .int .u64 0, .int .u64 0, .int .u64 0] 88)).heap[(wB).heap.size]? = some (.cells #[.int .u64 0, .int .u64 0, .int .u64 0, .int .u64 0] 88 (0, 0)) := heap_alloc_here _ _ _ rfl
              have hqs := hHeld.below.size
              go_simp
              refine hK.out _ _ ?_ (fun hHeld => ?_)
              · exact hHeld.alloc _
              clear hK K
              try simp only [Act.put, List.setIfInBounds_toArray, List.set_cons_zero, List.set_cons_succ]
              refine wpAnyH_ready (rs := [5]) (by kernel_rfl) (by simp) ?_
              refine AllReadyH.cons rfl (fun K hK => ?_) (AllReadyH.nil)
              rw [if_pos (by rfl)]
              refine wp_store_mid _ _ _ rfl _ _ (nl s).toArray rfl rfl (there_of_row hq 0 4 (by simp)) (i4 s) (four_one s) ?_
              refine hK.out _ _ ?_ (fun hHeld => ?_)
              · exact hHeld.put hqs hlt _
              clear hK K
              try simp only [Act.put, List.setIfInBounds_toArray, List.set_cons_zero, List.set_cons_succ]
              refine wpAnyH_done (by kernel_rfl) ?_ _
              go_wp2_with fail
              go_meet
              exact ⟨_, s, rfl, hs, rows_mul n 5 5 10 s3 y s3 s rfl es ey es3.out es3.out, hrq, hHeld.add (nl s) _ (set_row4 hq)⟩
            · have hlt := hHeld.lt
              have hrq := hHeld.rlt
              have hq : ((wA).alloc (.cells #[.int .u64 0, .int .u64 0, .int .u64 0, .int .u64 0] 88)).heap[(wA).heap.size]? = some (.cells #[.int .u64 0, .int .u64 0, .int .u64 0, .int .u64 0] 88 (0, 0)) := heap_alloc_here _ _ _ rfl
              have hqs := hHeld.below.size
              go_simp
              refine hK.out _ _ ?_ (fun hHeld => ?_)
              · exact hHeld.alloc _
              clear hK K
              try simp only [Act.put, List.setIfInBounds_toArray, List.set_cons_zero, List.set_cons_succ]
              refine wpAnyH_ready (rs := [3]) (by kernel_rfl) (by simp) ?_
              refine AllReadyH.cons rfl (fun K hK => ?_) (AllReadyH.nil)
              go_simp
              go_at_call 59
              refine (ml y s3 hy hs3 _).mono ?_
              rintro e wB ⟨s, hs, rfl, es, hbB⟩
              refine hK.out _ _ ?_ (fun hHeld => ?_)
              · exact hHeld.call hbB
              clear hK K
              try simp only [Act.put, List.setIfInBounds_toArray, List.set_cons_zero, List.set_cons_succ]
              have hq := keep' hbB hq
              refine wpAnyH_ready (rs := [5]) (by kernel_rfl) (by simp) ?_
              refine AllReadyH.cons rfl (fun K hK => ?_) (AllReadyH.nil)
              rw [if_pos (by rfl)]
              refine wp_store_mid _ _ _ rfl _ _ (nl s).toArray rfl rfl (there_of_row hq 0 4 (by simp)) (i4 s) (four_one s) ?_
              refine hK.out _ _ ?_ (fun hHeld => ?_)
              · exact hHeld.put hqs hlt _
              clear hK K
              try simp only [Act.put, List.setIfInBounds_toArray, List.set_cons_zero, List.set_cons_succ]
              refine wpAnyH_done (by kernel_rfl) ?_ _
              go_wp2_with fail
              go_meet
              exact ⟨_, s, rfl, hs, rows_mul n 5 5 10 s3 y s3 s rfl es ey es3.out es3.out, hrq, hHeld.add (nl s) _ (set_row4 hq)⟩
          · have hlt := hHeld.lt
            have hrq := hHeld.rlt
            have hq : ((x3.drew).alloc (.cells #[.int .u64 0, .int .u64 0, .int .u64 0, .int .u64 0] 88)).heap[(x3.drew).heap.size]? = some (.cells #[.int .u64 0, .int .u64 0, .int .u64 0, .int .u64 0] 88 (0, 0)) := heap_alloc_here _ _ _ rfl
            have hqs := hHeld.below.size
            go_simp
            refine hK.out _ _ ?_ (fun hHeld => ?_)
            · exact hHeld.alloc _
            clear hK K
            try simp only [Act.put, List.setIfInBounds_toArray, List.set_cons_zero, List.set_cons_succ]
            refine wpAnyH_ready (rs := [1]) (by kernel_rfl) (by simp) ?_
            refine AllReadyH.cons rfl (fun K hK => ?_) (AllReadyH.nil)
            go_simp
            go_at_call 74
            refine (sq5 s3 hs3 _).mono ?_
            rintro e wA ⟨y, hy, rfl, ey, hbA⟩
            refine hK.out _ _ ?_ (fun hHeld => ?_)
            · exact hHeld.call hbA
            clear hK K
            try simp only [Act.put, List.setIfInBounds_toArray, List.set_cons_zero, List.set_cons_succ]
            have hq := keep' hbA hq
            refine wpAnyH_ready (rs := [3]) (by kernel_rfl) (by simp) ?_
            refine AllReadyH.cons rfl (fun K hK => ?_) (AllReadyH.nil)
            go_simp
            go_at_call 59
            refine (ml y s3 hy hs3 _).mono ?_
            rintro e wB ⟨s, hs, rfl, es, hbB⟩
            refine hK.out _ _ ?_ (fun hHeld => ?_)
            · exact hHeld.call hbB
            clear hK K
            try simp only [Act.put, List.setIfInBounds_toArray, List.set_cons_zero, List.set_cons_succ]
            have hq := keep' hbB hq
            refine wpAnyH_ready (rs := [5]) (by kernel_rfl) (by simp) ?_
            refine AllReadyH.cons rfl (fun K hK => ?_) (AllReadyH.nil)
            rw [if_pos (by rfl)]
            refine wp_store_mid _ _ _ rfl _ _ (nl s).toArray rfl rfl (there_of_row hq 0 4 (by simp)) (i4 s) (four_one s) ?_
            refine hK.out _ _ ?_ (fun hHeld => ?_)
            · exact hHeld.put hqs hlt _
            clear hK K
            try simp only [Act.put, List.setIfInBounds_toArray, List.set_cons_zero, List.set_cons_succ]
            refine wpAnyH_done (by kernel_rfl) ?_ _
            go_wp2_with fail
            go_meet
            exact ⟨_, s, rfl, hs, rows_mul n 5 5 10 s3 y s3 s rfl es ey es3.out es3.out, hrq, hHeld.add (nl s) _ (set_row4 hq)⟩
        case rest =>
          obtain ⟨q4, s4, rfl, hs4, ee, lq4, hss⟩ := hcut
          have es4 : Hid (s4 % pp = n ^ rn 10 % pp) := ee
          obtain ⟨x4, hxw⟩ : ∃ x, x = wc := ⟨_, rfl⟩
          rw [← hxw] at hss ⊢
          have HS4 : Hid (SS w [(w.heap.size, nl n, 88), (q1, nl s1, 88), (q2, nl s2, 88), (q3, nl s3, 88), (q4, nl s4, 88)] (w.heap.size + 1) 4 x4) := hss
          clear ee hss hxw
          go_wp2_with fail
          go_cut [7] from 28 to 32 (fun sz wx => ∃ q s : Nat, sz = .pointer (some ⟨q, 0, none⟩) ∧ s < RN ∧ s % pp = n ^ rn 20 % pp ∧ w.heap.size + 1 < q ∧ SS w [(w.heap.size, nl n, 88), (q1, nl s1, 88), (q2, nl s2, 88), (q3, nl s3, 88), (q4, nl s4, 88), (q, nl s, 88)] (w.heap.size + 1) 4 wx)
          case first =>
            refine wp_region_held_drew (S := (fun w' => SS w [(w.heap.size, nl n, 88), (q1, nl s1, 88), (q2, nl s2, 88), (q3, nl s3, 88), (q4, nl s4, 88)] (w.heap.size + 1) 4 w')) (by kernel_rfl) ?_ (fun hHeld => ?_)
            · exact HS4.out.drew
            refine take1 (i := 0) (v := _) 28 rfl rfl (by kernel_rfl) (by kernel_rfl) (by kernel_rfl) (fun _ _ _ h => h) (yieldsIf_load_mid (by rfl) _ _ rfl _ _ rfl _ _ (fun w h => h.range (i := 4) rfl) Tryd.underlying88 rfl (i4 s4)) hHeld ?_
            simp only [Act.put, List.setIfInBounds_toArray, List.set_cons_zero, List.set_cons_succ]
            refine take1 (i := 2) (v := _) 30 rfl rfl (by kernel_rfl) (by kernel_rfl) (by kernel_rfl) (fun _ _ _ h => h) (yieldsIf_load_mid (by rfl) _ _ rfl _ _ rfl _ _ (fun w h => h.range (i := 4) rfl) Tryd.underlying88 rfl (i4 s4)) hHeld ?_
            simp only [Act.put, List.setIfInBounds_toArray, List.set_cons_zero, List.set_cons_succ]
            refine wpAnyH_ready (rs := [1, 4]) (by kernel_rfl) (by simp) ?_
            refine AllReadyH.cons rfl (fun K hK => ?_) (AllReadyH.cons rfl (fun K hK => ?_) (AllReadyH.nil))
            · go_simp
              go_at_call 74
              refine (sq10 s4 hs4 _).mono ?_
              rintro e wA ⟨y, hy, rfl, ey, hbA⟩
              refine hK.out _ _ ?_ (fun hHeld => ?_)
              · exact hHeld.call hbA
              clear hK K
              try simp only [Act.put, List.setIfInBounds_toArray, List.set_cons_zero, List.set_cons_succ]
              refine wpAnyH_ready (rs := [3, 4]) (by kernel_rfl) (by simp) ?_
              refine AllReadyH.cons rfl (fun K hK => ?_) (AllReadyH.cons rfl (fun K hK => ?_) (AllReadyH.nil))
              · go_simp
                go_at_call 59
                refine (ml y s4 hy hs4 _).mono ?_
                rintro e wB ⟨s, hs, rfl, es, hbB⟩
                refine hK.out _ _ ?_ (fun hHeld => ?_)
                · exact hHeld.call hbB
                clear hK K
                try simp only [Act.put, List.setIfInBounds_toArray, List.set_cons_zero, List.set_cons_succ]
                refine wpAnyH_ready (rs := [4]) (by kernel_rfl) (by simp) ?_
                refine AllReadyH.cons rfl (fun K hK => ?_) (AllReadyH.nil)
                have hlt := hHeld.lt
                have hrq := hHeld.rlt
                have hq : ((wB).alloc (.cells #[.int .u64 0, .int .u64 0, .int .u64 0, .int .u64 0] 88)).heap[(wB).heap.size]? = some (.cells #[.int .u64 0, .int .u64 0, .int .u64 0, .int .u64 0] 88 (0, 0)) := heap_alloc_here _ _ _ rfl
                have hqs := hHeld.below.size
                go_simp
                refine hK.out _ _ ?_ (fun hHeld => ?_)
                · exact hHeld.alloc _
                clear hK K
                try simp only [Act.put, List.setIfInBounds_toArray, List.set_cons_zero, List.set_cons_succ]
                refine wpAnyH_ready (rs := [5]) (by kernel_rfl) (by simp) ?_
                refine AllReadyH.cons rfl (fun K hK => ?_) (AllReadyH.nil)
                rw [if_pos (by rfl)]
                refine wp_store_mid _ _ _ rfl _ _ (nl s).toArray rfl rfl (there_of_row hq 0 4 (by simp)) (i4 s) (four_one s) ?_
                refine hK.out _ _ ?_ (fun hHeld => ?_)
                · exact hHeld.put hqs hlt _
                clear hK K
                try simp only [Act.put, List.setIfInBounds_toArray, List.set_cons_zero, List.set_cons_succ]
                refine wpAnyH_done (by kernel_rfl) ?_ _
                go_wp2_with fail
                go_meet
                exact ⟨_, s, rfl, hs, rows_mul n 10 10 20 s4 y s4 s rfl es ey es4.out es4.out, hrq, hHeld.add (nl s) _ (set_row4 hq)⟩
              · have hlt := hHeld.lt
                have hrq := hHeld.rlt
                have hq : ((wA).alloc (.cells #[.int .u64 0, .int .u64 0, .int .u64 0, .int .u64 0] 88)).heap[(wA).heap.size]? = some (.cells #[.int .u64 0, .int .u64 0, .int .u64 0, .int .u64 0] 88 (0, 0)) := heap_alloc_here _ _ _ rfl
                have hqs := hHeld.below.size
                go_simp
                refine hK.out _ _ ?_ (fun hHeld => ?_)
                · exact hHeld.alloc _
                clear hK K
                try simp only [Act.put, List.setIfInBounds_toArray, List.set_cons_zero, List.set_cons_succ]
                refine wpAnyH_ready (rs := [3]) (by kernel_rfl) (by simp) ?_
                refine AllReadyH.cons rfl (fun K hK => ?_) (AllReadyH.nil)
                go_simp
                go_at_call 59
                refine (ml y s4 hy hs4 _).mono ?_
                rintro e wB ⟨s, hs, rfl, es, hbB⟩
                refine hK.out _ _ ?_ (fun hHeld => ?_)
                · exact hHeld.call hbB
                clear hK K
                try simp only [Act.put, List.setIfInBounds_toArray, List.set_cons_zero, List.set_cons_succ]
                have hq := keep' hbB hq
                refine wpAnyH_ready (rs := [5]) (by kernel_rfl) (by simp) ?_
                refine AllReadyH.cons rfl (fun K hK => ?_) (AllReadyH.nil)
                rw [if_pos (by rfl)]
                refine wp_store_mid _ _ _ rfl _ _ (nl s).toArray rfl rfl (there_of_row hq 0 4 (by simp)) (i4 s) (four_one s) ?_
                refine hK.out _ _ ?_ (fun hHeld => ?_)
                · exact hHeld.put hqs hlt _
                clear hK K
                try simp only [Act.put, List.setIfInBounds_toArray, List.set_cons_zero, List.set_cons_succ]
                refine wpAnyH_done (by kernel_rfl) ?_ _
                go_wp2_with fail
                go_meet
                exact ⟨_, s, rfl, hs, rows_mul n 10 10 20 s4 y s4 s rfl es ey es4.out es4.out, hrq, hHeld.add (nl s) _ (set_row4 hq)⟩
            · have hlt := hHeld.lt
              have hrq := hHeld.rlt
              have hq : ((x4.drew).alloc (.cells #[.int .u64 0, .int .u64 0, .int .u64 0, .int .u64 0] 88)).heap[(x4.drew).heap.size]? = some (.cells #[.int .u64 0, .int .u64 0, .int .u64 0, .int .u64 0] 88 (0, 0)) := heap_alloc_here _ _ _ rfl
              have hqs := hHeld.below.size
              go_simp
              refine hK.out _ _ ?_ (fun hHeld => ?_)
              · exact hHeld.alloc _
              clear hK K
              try simp only [Act.put, List.setIfInBounds_toArray, List.set_cons_zero, List.set_cons_succ]
              refine wpAnyH_ready (rs := [1]) (by kernel_rfl) (by simp) ?_
              refine AllReadyH.cons rfl (fun K hK => ?_) (AllReadyH.nil)
              go_simp
              go_at_call 74
              refine (sq10 s4 hs4 _).mono ?_
              rintro e wA ⟨y, hy, rfl, ey, hbA⟩
              refine hK.out _ _ ?_ (fun hHeld => ?_)
              · exact hHeld.call hbA
              clear hK K
              try simp only [Act.put, List.setIfInBounds_toArray, List.set_cons_zero, List.set_cons_succ]
              have hq := keep' hbA hq
              refine wpAnyH_ready (rs := [3]) (by kernel_rfl) (by simp) ?_
              refine AllReadyH.cons rfl (fun K hK => ?_) (AllReadyH.nil)
              go_simp
              go_at_call 59
              refine (ml y s4 hy hs4 _).mono ?_
              rintro e wB ⟨s, hs, rfl, es, hbB⟩
              refine hK.out _ _ ?_ (fun hHeld => ?_)
              · exact hHeld.call hbB
              clear hK K
              try simp only [Act.put, List.setIfInBounds_toArray, List.set_cons_zero, List.set_cons_succ]
              have hq := keep' hbB hq
              refine wpAnyH_ready (rs := [5]) (by kernel_rfl) (by simp) ?_
              refine AllReadyH.cons rfl (fun K hK => ?_) (AllReadyH.nil)
              rw [if_pos (by rfl)]
              refine wp_store_mid _ _ _ rfl _ _ (nl s).toArray rfl rfl (there_of_row hq 0 4 (by simp)) (i4 s) (four_one s) ?_
              refine hK.out _ _ ?_ (fun hHeld => ?_)
              · exact hHeld.put hqs hlt _
              clear hK K
              try simp only [Act.put, List.setIfInBounds_toArray, List.set_cons_zero, List.set_cons_succ]
              refine wpAnyH_done (by kernel_rfl) ?_ _
              go_wp2_with fail
              go_meet
              exact ⟨_, s, rfl, hs, rows_mul n 10 10 20 s4 y s4 s rfl es ey es4.out es4.out, hrq, hHeld.add (nl s) _ (set_row4 hq)⟩
          case rest =>
            obtain ⟨q5, s5, rfl, hs5, ee, lq5, hss⟩ := hcut
            have es5 : Hid (s5 % pp = n ^ rn 20 % pp) := ee
            obtain ⟨x5, hxw⟩ : ∃ x, x = wc := ⟨_, rfl⟩
            rw [← hxw] at hss ⊢
            have HS5 : Hid (SS w [(w.heap.size, nl n, 88), (q1, nl s1, 88), (q2, nl s2, 88), (q3, nl s3, 88), (q4, nl s4, 88), (q5, nl s5, 88)] (w.heap.size + 1) 4 x5) := hss
            clear ee hss hxw
            go_wp2_with fail
            go_cut [8] from 32 to 36 (fun sz wx => ∃ q s : Nat, sz = .pointer (some ⟨q, 0, none⟩) ∧ s < RN ∧ s % pp = n ^ rn 40 % pp ∧ w.heap.size + 1 < q ∧ SS w [(w.heap.size, nl n, 88), (q1, nl s1, 88), (q2, nl s2, 88), (q3, nl s3, 88), (q4, nl s4, 88), (q5, nl s5, 88), (q, nl s, 88)] (w.heap.size + 1) 4 wx)
            case first =>
              refine wp_region_held_drew (S := (fun w' => SS w [(w.heap.size, nl n, 88), (q1, nl s1, 88), (q2, nl s2, 88), (q3, nl s3, 88), (q4, nl s4, 88), (q5, nl s5, 88)] (w.heap.size + 1) 4 w')) (by kernel_rfl) ?_ (fun hHeld => ?_)
              · exact HS5.out.drew
              refine take1 (i := 0) (v := _) 32 rfl rfl (by kernel_rfl) (by kernel_rfl) (by kernel_rfl) (fun _ _ _ h => h) (yieldsIf_load_mid (by rfl) _ _ rfl _ _ rfl _ _ (fun w h => h.range (i := 5) rfl) Tryd.underlying88 rfl (i4 s5)) hHeld ?_
              simp only [Act.put, List.setIfInBounds_toArray, List.set_cons_zero, List.set_cons_succ]
              refine take1 (i := 2) (v := _) 34 rfl rfl (by kernel_rfl) (by kernel_rfl) (by kernel_rfl) (fun _ _ _ h => h) (yieldsIf_load_mid (by rfl) _ _ rfl _ _ rfl _ _ (fun w h => h.range (i := 5) rfl) Tryd.underlying88 rfl (i4 s5)) hHeld ?_
              simp only [Act.put, List.setIfInBounds_toArray, List.set_cons_zero, List.set_cons_succ]
              refine wpAnyH_ready (rs := [1, 4]) (by kernel_rfl) (by simp) ?_
              refine AllReadyH.cons rfl (fun K hK => ?_) (AllReadyH.cons rfl (fun K hK => ?_) (AllReadyH.nil))
              · go_simp
                go_at_call 74
                refine (sq20 s5 hs5 _).mono ?_
                rintro e wA ⟨y, hy, rfl, ey, hbA⟩
                refine hK.out _ _ ?_ (fun hHeld => ?_)
                · exact hHeld.call hbA
                clear hK K
                try simp only [Act.put, List.setIfInBounds_toArray, List.set_cons_zero, List.set_cons_succ]
                refine wpAnyH_ready (rs := [3, 4]) (by kernel_rfl) (by simp) ?_
                refine AllReadyH.cons rfl (fun K hK => ?_) (AllReadyH.cons rfl (fun K hK => ?_) (AllReadyH.nil))
                · go_simp
                  go_at_call 59
                  refine (ml y s5 hy hs5 _).mono ?_
                  rintro e wB ⟨s, hs, rfl, es, hbB⟩
                  refine hK.out _ _ ?_ (fun hHeld => ?_)
                  · exact hHeld.call hbB
                  clear hK K
                  try simp only [Act.put, List.setIfInBounds_toArray, List.set_cons_zero, List.set_cons_succ]
                  refine wpAnyH_ready (rs := [4]) (by kernel_rfl) (by simp) ?_
                  refine AllReadyH.cons rfl (fun K hK => ?_) (AllReadyH.nil)
                  have hlt := hHeld.lt
                  have hrq := hHeld.rlt
                  have hq : ((wB).alloc (.cells #[.int .u64 0, .int .u64 0, .int .u64 0, .int .u64 0] 88)).heap[(wB).heap.size]? = some (.cells #[.int .u64 0, .int .u64 0, .int .u64 0, .int .u64 0] 88 (0, 0)) := heap_alloc_here _ _ _ rfl
                  have hqs := hHeld.below.size
                  go_simp
                  refine hK.out _ _ ?_ (fun hHeld => ?_)
                  · exact hHeld.alloc _
                  clear hK K
                  try simp only [Act.put, List.setIfInBounds_toArray, List.set_cons_zero, List.set_cons_succ]
                  refine wpAnyH_ready (rs := [5]) (by kernel_rfl) (by simp) ?_
                  refine AllReadyH.cons rfl (fun K hK => ?_) (AllReadyH.nil)
                  rw [if_pos (by rfl)]
                  refine wp_store_mid _ _ _ rfl _ _ (nl s).toArray rfl rfl (there_of_row hq 0 4 (by simp)) (i4 s) (four_one s) ?_
                  refine hK.out _ _ ?_ (fun hHeld => ?_)
                  · exact hHeld.put hqs hlt _
                  clear hK K
                  try simp only [Act.put, List.setIfInBounds_toArray, List.set_cons_zero, List.set_cons_succ]
                  refine wpAnyH_done (by kernel_rfl) ?_ _
                  go_wp2_with fail
                  go_meet
                  exact ⟨_, s, rfl, hs, rows_mul n 20 20 40 s5 y s5 s rfl es ey es5.out es5.out, hrq, hHeld.add (nl s) _ (set_row4 hq)⟩
                · have hlt := hHeld.lt
                  have hrq := hHeld.rlt
                  have hq : ((wA).alloc (.cells #[.int .u64 0, .int .u64 0, .int .u64 0, .int .u64 0] 88)).heap[(wA).heap.size]? = some (.cells #[.int .u64 0, .int .u64 0, .int .u64 0, .int .u64 0] 88 (0, 0)) := heap_alloc_here _ _ _ rfl
                  have hqs := hHeld.below.size
                  go_simp
                  refine hK.out _ _ ?_ (fun hHeld => ?_)
                  · exact hHeld.alloc _
                  clear hK K
                  try simp only [Act.put, List.setIfInBounds_toArray, List.set_cons_zero, List.set_cons_succ]
                  refine wpAnyH_ready (rs := [3]) (by kernel_rfl) (by simp) ?_
                  refine AllReadyH.cons rfl (fun K hK => ?_) (AllReadyH.nil)
                  go_simp
                  go_at_call 59
                  refine (ml y s5 hy hs5 _).mono ?_
                  rintro e wB ⟨s, hs, rfl, es, hbB⟩
                  refine hK.out _ _ ?_ (fun hHeld => ?_)
                  · exact hHeld.call hbB
                  clear hK K
                  try simp only [Act.put, List.setIfInBounds_toArray, List.set_cons_zero, List.set_cons_succ]
                  have hq := keep' hbB hq
                  refine wpAnyH_ready (rs := [5]) (by kernel_rfl) (by simp) ?_
                  refine AllReadyH.cons rfl (fun K hK => ?_) (AllReadyH.nil)
                  rw [if_pos (by rfl)]
                  refine wp_store_mid _ _ _ rfl _ _ (nl s).toArray rfl rfl (there_of_row hq 0 4 (by simp)) (i4 s) (four_one s) ?_
                  refine hK.out _ _ ?_ (fun hHeld => ?_)
                  · exact hHeld.put hqs hlt _
                  clear hK K
                  try simp only [Act.put, List.setIfInBounds_toArray, List.set_cons_zero, List.set_cons_succ]
                  refine wpAnyH_done (by kernel_rfl) ?_ _
                  go_wp2_with fail
                  go_meet
                  exact ⟨_, s, rfl, hs, rows_mul n 20 20 40 s5 y s5 s rfl es ey es5.out es5.out, hrq, hHeld.add (nl s) _ (set_row4 hq)⟩
              · have hlt := hHeld.lt
                have hrq := hHeld.rlt
                have hq : ((x5.drew).alloc (.cells #[.int .u64 0, .int .u64 0, .int .u64 0, .int .u64 0] 88)).heap[(x5.drew).heap.size]? = some (.cells #[.int .u64 0, .int .u64 0, .int .u64 0, .int .u64 0] 88 (0, 0)) := heap_alloc_here _ _ _ rfl
                have hqs := hHeld.below.size
                go_simp
                refine hK.out _ _ ?_ (fun hHeld => ?_)
                · exact hHeld.alloc _
                clear hK K
                try simp only [Act.put, List.setIfInBounds_toArray, List.set_cons_zero, List.set_cons_succ]
                refine wpAnyH_ready (rs := [1]) (by kernel_rfl) (by simp) ?_
                refine AllReadyH.cons rfl (fun K hK => ?_) (AllReadyH.nil)
                go_simp
                go_at_call 74
                refine (sq20 s5 hs5 _).mono ?_
                rintro e wA ⟨y, hy, rfl, ey, hbA⟩
                refine hK.out _ _ ?_ (fun hHeld => ?_)
                · exact hHeld.call hbA
                clear hK K
                try simp only [Act.put, List.setIfInBounds_toArray, List.set_cons_zero, List.set_cons_succ]
                have hq := keep' hbA hq
                refine wpAnyH_ready (rs := [3]) (by kernel_rfl) (by simp) ?_
                refine AllReadyH.cons rfl (fun K hK => ?_) (AllReadyH.nil)
                go_simp
                go_at_call 59
                refine (ml y s5 hy hs5 _).mono ?_
                rintro e wB ⟨s, hs, rfl, es, hbB⟩
                refine hK.out _ _ ?_ (fun hHeld => ?_)
                · exact hHeld.call hbB
                clear hK K
                try simp only [Act.put, List.setIfInBounds_toArray, List.set_cons_zero, List.set_cons_succ]
                have hq := keep' hbB hq
                refine wpAnyH_ready (rs := [5]) (by kernel_rfl) (by simp) ?_
                refine AllReadyH.cons rfl (fun K hK => ?_) (AllReadyH.nil)
                rw [if_pos (by rfl)]
                refine wp_store_mid _ _ _ rfl _ _ (nl s).toArray rfl rfl (there_of_row hq 0 4 (by simp)) (i4 s) (four_one s) ?_
                refine hK.out _ _ ?_ (fun hHeld => ?_)
                · exact hHeld.put hqs hlt _
                clear hK K
                try simp only [Act.put, List.setIfInBounds_toArray, List.set_cons_zero, List.set_cons_succ]
                refine wpAnyH_done (by kernel_rfl) ?_ _
                go_wp2_with fail
                go_meet
                exact ⟨_, s, rfl, hs, rows_mul n 20 20 40 s5 y s5 s rfl es ey es5.out es5.out, hrq, hHeld.add (nl s) _ (set_row4 hq)⟩
            case rest =>
              obtain ⟨q6, s6, rfl, hs6, ee, lq6, hss⟩ := hcut
              have es6 : Hid (s6 % pp = n ^ rn 40 % pp) := ee
              obtain ⟨x6, hxw⟩ : ∃ x, x = wc := ⟨_, rfl⟩
              rw [← hxw] at hss ⊢
              have HS6 : Hid (SS w [(w.heap.size, nl n, 88), (q1, nl s1, 88), (q2, nl s2, 88), (q3, nl s3, 88), (q4, nl s4, 88), (q5, nl s5, 88), (q6, nl s6, 88)] (w.heap.size + 1) 4 x6) := hss
              clear ee hss hxw
              go_wp2_with fail
              go_cut [9] from 36 to 40 (fun sz wx => ∃ q s : Nat, sz = .pointer (some ⟨q, 0, none⟩) ∧ s < RN ∧ s % pp = n ^ rn 50 % pp ∧ w.heap.size + 1 < q ∧ SS w [(w.heap.size, nl n, 88), (q1, nl s1, 88), (q2, nl s2, 88), (q3, nl s3, 88), (q4, nl s4, 88), (q5, nl s5, 88), (q6, nl s6, 88), (q, nl s, 88)] (w.heap.size + 1) 4 wx)
              case first =>
                refine wp_region_held_drew (S := (fun w' => SS w [(w.heap.size, nl n, 88), (q1, nl s1, 88), (q2, nl s2, 88), (q3, nl s3, 88), (q4, nl s4, 88), (q5, nl s5, 88), (q6, nl s6, 88)] (w.heap.size + 1) 4 w')) (by kernel_rfl) ?_ (fun hHeld => ?_)
                · exact HS6.out.drew
                refine take1 (i := 0) (v := _) 36 rfl rfl (by kernel_rfl) (by kernel_rfl) (by kernel_rfl) (fun _ _ _ h => h) (yieldsIf_load_mid (by rfl) _ _ rfl _ _ rfl _ _ (fun w h => h.range (i := 6) rfl) Tryd.underlying88 rfl (i4 s6)) hHeld ?_
                simp only [Act.put, List.setIfInBounds_toArray, List.set_cons_zero, List.set_cons_succ]
                refine take1 (i := 2) (v := _) 38 rfl rfl (by kernel_rfl) (by kernel_rfl) (by kernel_rfl) (fun _ _ _ h => h) (yieldsIf_load_mid (by rfl) _ _ rfl _ _ rfl _ _ (fun w h => h.range (i := 4) rfl) Tryd.underlying88 rfl (i4 s4)) hHeld ?_
                simp only [Act.put, List.setIfInBounds_toArray, List.set_cons_zero, List.set_cons_succ]
                refine wpAnyH_ready (rs := [1, 4]) (by kernel_rfl) (by simp) ?_
                refine AllReadyH.cons rfl (fun K hK => ?_) (AllReadyH.cons rfl (fun K hK => ?_) (AllReadyH.nil))
                · go_simp
                  go_at_call 74
                  refine (sq10 s6 hs6 _).mono ?_
                  rintro e wA ⟨y, hy, rfl, ey, hbA⟩
                  refine hK.out _ _ ?_ (fun hHeld => ?_)
                  · exact hHeld.call hbA
                  clear hK K
                  try simp only [Act.put, List.setIfInBounds_toArray, List.set_cons_zero, List.set_cons_succ]
                  refine wpAnyH_ready (rs := [3, 4]) (by kernel_rfl) (by simp) ?_
                  refine AllReadyH.cons rfl (fun K hK => ?_) (AllReadyH.cons rfl (fun K hK => ?_) (AllReadyH.nil))
                  · go_simp
                    go_at_call 59
                    refine (ml y s4 hy hs4 _).mono ?_
                    rintro e wB ⟨s, hs, rfl, es, hbB⟩
                    refine hK.out _ _ ?_ (fun hHeld => ?_)
                    · exact hHeld.call hbB
                    clear hK K
                    try simp only [Act.put, List.setIfInBounds_toArray, List.set_cons_zero, List.set_cons_succ]
                    refine wpAnyH_ready (rs := [4]) (by kernel_rfl) (by simp) ?_
                    refine AllReadyH.cons rfl (fun K hK => ?_) (AllReadyH.nil)
                    have hlt := hHeld.lt
                    have hrq := hHeld.rlt
                    have hq : ((wB).alloc (.cells #[.int .u64 0, .int .u64 0, .int .u64 0, .int .u64 0] 88)).heap[(wB).heap.size]? = some (.cells #[.int .u64 0, .int .u64 0, .int .u64 0, .int .u64 0] 88 (0, 0)) := heap_alloc_here _ _ _ rfl
                    have hqs := hHeld.below.size
                    go_simp
                    refine hK.out _ _ ?_ (fun hHeld => ?_)
                    · exact hHeld.alloc _
                    clear hK K
                    try simp only [Act.put, List.setIfInBounds_toArray, List.set_cons_zero, List.set_cons_succ]
                    refine wpAnyH_ready (rs := [5]) (by kernel_rfl) (by simp) ?_
                    refine AllReadyH.cons rfl (fun K hK => ?_) (AllReadyH.nil)
                    rw [if_pos (by rfl)]
                    refine wp_store_mid _ _ _ rfl _ _ (nl s).toArray rfl rfl (there_of_row hq 0 4 (by simp)) (i4 s) (four_one s) ?_
                    refine hK.out _ _ ?_ (fun hHeld => ?_)
                    · exact hHeld.put hqs hlt _
                    clear hK K
                    try simp only [Act.put, List.setIfInBounds_toArray, List.set_cons_zero, List.set_cons_succ]
                    refine wpAnyH_done (by kernel_rfl) ?_ _
                    go_wp2_with fail
                    go_meet
                    exact ⟨_, s, rfl, hs, rows_mul n 40 10 50 s6 y s4 s rfl es ey es6.out es4.out, hrq, hHeld.add (nl s) _ (set_row4 hq)⟩
                  · have hlt := hHeld.lt
                    have hrq := hHeld.rlt
                    have hq : ((wA).alloc (.cells #[.int .u64 0, .int .u64 0, .int .u64 0, .int .u64 0] 88)).heap[(wA).heap.size]? = some (.cells #[.int .u64 0, .int .u64 0, .int .u64 0, .int .u64 0] 88 (0, 0)) := heap_alloc_here _ _ _ rfl
                    have hqs := hHeld.below.size
                    go_simp
                    refine hK.out _ _ ?_ (fun hHeld => ?_)
                    · exact hHeld.alloc _
                    clear hK K
                    try simp only [Act.put, List.setIfInBounds_toArray, List.set_cons_zero, List.set_cons_succ]
                    refine wpAnyH_ready (rs := [3]) (by kernel_rfl) (by simp) ?_
                    refine AllReadyH.cons rfl (fun K hK => ?_) (AllReadyH.nil)
                    go_simp
                    go_at_call 59
                    refine (ml y s4 hy hs4 _).mono ?_
                    rintro e wB ⟨s, hs, rfl, es, hbB⟩
                    refine hK.out _ _ ?_ (fun hHeld => ?_)
                    · exact hHeld.call hbB
                    clear hK K
                    try simp only [Act.put, List.setIfInBounds_toArray, List.set_cons_zero, List.set_cons_succ]
                    have hq := keep' hbB hq
                    refine wpAnyH_ready (rs := [5]) (by kernel_rfl) (by simp) ?_
                    refine AllReadyH.cons rfl (fun K hK => ?_) (AllReadyH.nil)
                    rw [if_pos (by rfl)]
                    refine wp_store_mid _ _ _ rfl _ _ (nl s).toArray rfl rfl (there_of_row hq 0 4 (by simp)) (i4 s) (four_one s) ?_
                    refine hK.out _ _ ?_ (fun hHeld => ?_)
                    · exact hHeld.put hqs hlt _
                    clear hK K
                    try simp only [Act.put, List.setIfInBounds_toArray, List.set_cons_zero, List.set_cons_succ]
                    refine wpAnyH_done (by kernel_rfl) ?_ _
                    go_wp2_with fail
                    go_meet
                    exact ⟨_, s, rfl, hs, rows_mul n 40 10 50 s6 y s4 s rfl es ey es6.out es4.out, hrq, hHeld.add (nl s) _ (set_row4 hq)⟩
                · have hlt := hHeld.lt
                  have hrq := hHeld.rlt
                  have hq : ((x6.drew).alloc (.cells #[.int .u64 0, .int .u64 0, .int .u64 0, .int .u64 0] 88)).heap[(x6.drew).heap.size]? = some (.cells #[.int .u64 0, .int .u64 0, .int .u64 0, .int .u64 0] 88 (0, 0)) := heap_alloc_here _ _ _ rfl
                  have hqs := hHeld.below.size
                  go_simp
                  refine hK.out _ _ ?_ (fun hHeld => ?_)
                  · exact hHeld.alloc _
                  clear hK K
                  try simp only [Act.put, List.setIfInBounds_toArray, List.set_cons_zero, List.set_cons_succ]
                  refine wpAnyH_ready (rs := [1]) (by kernel_rfl) (by simp) ?_
                  refine AllReadyH.cons rfl (fun K hK => ?_) (AllReadyH.nil)
                  go_simp
                  go_at_call 74
                  refine (sq10 s6 hs6 _).mono ?_
                  rintro e wA ⟨y, hy, rfl, ey, hbA⟩
                  refine hK.out _ _ ?_ (fun hHeld => ?_)
                  · exact hHeld.call hbA
                  clear hK K
                  try simp only [Act.put, List.setIfInBounds_toArray, List.set_cons_zero, List.set_cons_succ]
                  have hq := keep' hbA hq
                  refine wpAnyH_ready (rs := [3]) (by kernel_rfl) (by simp) ?_
                  refine AllReadyH.cons rfl (fun K hK => ?_) (AllReadyH.nil)
                  go_simp
                  go_at_call 59
                  refine (ml y s4 hy hs4 _).mono ?_
                  rintro e wB ⟨s, hs, rfl, es, hbB⟩
                  refine hK.out _ _ ?_ (fun hHeld => ?_)
                  · exact hHeld.call hbB
                  clear hK K
                  try simp only [Act.put, List.setIfInBounds_toArray, List.set_cons_zero, List.set_cons_succ]
                  have hq := keep' hbB hq
                  refine wpAnyH_ready (rs := [5]) (by kernel_rfl) (by simp) ?_
                  refine AllReadyH.cons rfl (fun K hK => ?_) (AllReadyH.nil)
                  rw [if_pos (by rfl)]
                  refine wp_store_mid _ _ _ rfl _ _ (nl s).toArray rfl rfl (there_of_row hq 0 4 (by simp)) (i4 s) (four_one s) ?_
                  refine hK.out _ _ ?_ (fun hHeld => ?_)
                  · exact hHeld.put hqs hlt _
                  clear hK K
                  try simp only [Act.put, List.setIfInBounds_toArray, List.set_cons_zero, List.set_cons_succ]
                  refine wpAnyH_done (by kernel_rfl) ?_ _
                  go_wp2_with fail
                  go_meet
                  exact ⟨_, s, rfl, hs, rows_mul n 40 10 50 s6 y s4 s rfl es ey es6.out es4.out, hrq, hHeld.add (nl s) _ (set_row4 hq)⟩
              case rest =>
                obtain ⟨q7, s7, rfl, hs7, ee, lq7, hss⟩ := hcut
                have es7 : Hid (s7 % pp = n ^ rn 50 % pp) := ee
                obtain ⟨x7, hxw⟩ : ∃ x, x = wc := ⟨_, rfl⟩
                rw [← hxw] at hss ⊢
                have HS7 : Hid (SS w [(w.heap.size, nl n, 88), (q1, nl s1, 88), (q2, nl s2, 88), (q3, nl s3, 88), (q4, nl s4, 88), (q5, nl s5, 88), (q6, nl s6, 88), (q7, nl s7, 88)] (w.heap.size + 1) 4 x7) := hss
                clear ee hss hxw
                go_wp2_with fail
                go_cut [10] from 40 to 44 (fun sz wx => ∃ q s : Nat, sz = .pointer (some ⟨q, 0, none⟩) ∧ s < RN ∧ s % pp = n ^ rn 100 % pp ∧ w.heap.size + 1 < q ∧ SS w [(w.heap.size, nl n, 88), (q1, nl s1, 88), (q2, nl s2, 88), (q3, nl s3, 88), (q4, nl s4, 88), (q5, nl s5, 88), (q6, nl s6, 88), (q7, nl s7, 88), (q, nl s, 88)] (w.heap.size + 1) 4 wx)
                case first =>
                  refine wp_region_held_drew (S := (fun w' => SS w [(w.heap.size, nl n, 88), (q1, nl s1, 88), (q2, nl s2, 88), (q3, nl s3, 88), (q4, nl s4, 88), (q5, nl s5, 88), (q6, nl s6, 88), (q7, nl s7, 88)] (w.heap.size + 1) 4 w')) (by kernel_rfl) ?_ (fun hHeld => ?_)
                  · exact HS7.out.drew
                  refine take1 (i := 0) (v := _) 40 rfl rfl (by kernel_rfl) (by kernel_rfl) (by kernel_rfl) (fun _ _ _ h => h) (yieldsIf_load_mid (by rfl) _ _ rfl _ _ rfl _ _ (fun w h => h.range (i := 7) rfl) Tryd.underlying88 rfl (i4 s7)) hHeld ?_
                  simp only [Act.put, List.setIfInBounds_toArray, List.set_cons_zero, List.set_cons_succ]
                  refine take1 (i := 2) (v := _) 42 rfl rfl (by kernel_rfl) (by kernel_rfl) (by kernel_rfl) (fun _ _ _ h => h) (yieldsIf_load_mid (by rfl) _ _ rfl _ _ rfl _ _ (fun w h => h.range (i := 7) rfl) Tryd.underlying88 rfl (i4 s7)) hHeld ?_
                  simp only [Act.put, List.setIfInBounds_toArray, List.set_cons_zero, List.set_cons_succ]
                  refine wpAnyH_ready (rs := [1, 4]) (by kernel_rfl) (by simp) ?_
                  refine AllReadyH.cons rfl (fun K hK => ?_) (AllReadyH.cons rfl (fun K hK => ?_) (AllReadyH.nil))
                  · go_simp
                    go_at_call 74
                    refine (sq50 s7 hs7 _).mono ?_
                    rintro e wA ⟨y, hy, rfl, ey, hbA⟩
                    refine hK.out _ _ ?_ (fun hHeld => ?_)
                    · exact hHeld.call hbA
                    clear hK K
                    try simp only [Act.put, List.setIfInBounds_toArray, List.set_cons_zero, List.set_cons_succ]
                    refine wpAnyH_ready (rs := [3, 4]) (by kernel_rfl) (by simp) ?_
                    refine AllReadyH.cons rfl (fun K hK => ?_) (AllReadyH.cons rfl (fun K hK => ?_) (AllReadyH.nil))
                    · go_simp
                      go_at_call 59
                      refine (ml y s7 hy hs7 _).mono ?_
                      rintro e wB ⟨s, hs, rfl, es, hbB⟩
                      refine hK.out _ _ ?_ (fun hHeld => ?_)
                      · exact hHeld.call hbB
                      clear hK K
                      try simp only [Act.put, List.setIfInBounds_toArray, List.set_cons_zero, List.set_cons_succ]
                      refine wpAnyH_ready (rs := [4]) (by kernel_rfl) (by simp) ?_
                      refine AllReadyH.cons rfl (fun K hK => ?_) (AllReadyH.nil)
                      have hlt := hHeld.lt
                      have hrq := hHeld.rlt
                      have hq : ((wB).alloc (.cells #[.int .u64 0, .int .u64 0, .int .u64 0, .int .u64 0] 88)).heap[(wB).heap.size]? = some (.cells #[.int .u64 0, .int .u64 0, .int .u64 0, .int .u64 0] 88 (0, 0)) := heap_alloc_here _ _ _ rfl
                      have hqs := hHeld.below.size
                      go_simp
                      refine hK.out _ _ ?_ (fun hHeld => ?_)
                      · exact hHeld.alloc _
                      clear hK K
                      try simp only [Act.put, List.setIfInBounds_toArray, List.set_cons_zero, List.set_cons_succ]
                      refine wpAnyH_ready (rs := [5]) (by kernel_rfl) (by simp) ?_
                      refine AllReadyH.cons rfl (fun K hK => ?_) (AllReadyH.nil)
                      rw [if_pos (by rfl)]
                      refine wp_store_mid _ _ _ rfl _ _ (nl s).toArray rfl rfl (there_of_row hq 0 4 (by simp)) (i4 s) (four_one s) ?_
                      refine hK.out _ _ ?_ (fun hHeld => ?_)
                      · exact hHeld.put hqs hlt _
                      clear hK K
                      try simp only [Act.put, List.setIfInBounds_toArray, List.set_cons_zero, List.set_cons_succ]
                      refine wpAnyH_done (by kernel_rfl) ?_ _
                      go_wp2_with fail
                      go_meet
                      exact ⟨_, s, rfl, hs, rows_mul n 50 50 100 s7 y s7 s rfl es ey es7.out es7.out, hrq, hHeld.add (nl s) _ (set_row4 hq)⟩
                    · have hlt := hHeld.lt
                      have hrq := hHeld.rlt
                      have hq : ((wA).alloc (.cells #[.int .u64 0, .int .u64 0, .int .u64 0, .int .u64 0] 88)).heap[(wA).heap.size]? = some (.cells #[.int .u64 0, .int .u64 0, .int .u64 0, .int .u64 0] 88 (0, 0)) := heap_alloc_here _ _ _ rfl
                      have hqs := hHeld.below.size
                      go_simp
                      refine hK.out _ _ ?_ (fun hHeld => ?_)
                      · exact hHeld.alloc _
                      clear hK K
                      try simp only [Act.put, List.setIfInBounds_toArray, List.set_cons_zero, List.set_cons_succ]
                      refine wpAnyH_ready (rs := [3]) (by kernel_rfl) (by simp) ?_
                      refine AllReadyH.cons rfl (fun K hK => ?_) (AllReadyH.nil)
                      go_simp
                      go_at_call 59
                      refine (ml y s7 hy hs7 _).mono ?_
                      rintro e wB ⟨s, hs, rfl, es, hbB⟩
                      refine hK.out _ _ ?_ (fun hHeld => ?_)
                      · exact hHeld.call hbB
                      clear hK K
                      try simp only [Act.put, List.setIfInBounds_toArray, List.set_cons_zero, List.set_cons_succ]
                      have hq := keep' hbB hq
                      refine wpAnyH_ready (rs := [5]) (by kernel_rfl) (by simp) ?_
                      refine AllReadyH.cons rfl (fun K hK => ?_) (AllReadyH.nil)
                      rw [if_pos (by rfl)]
                      refine wp_store_mid _ _ _ rfl _ _ (nl s).toArray rfl rfl (there_of_row hq 0 4 (by simp)) (i4 s) (four_one s) ?_
                      refine hK.out _ _ ?_ (fun hHeld => ?_)
                      · exact hHeld.put hqs hlt _
                      clear hK K
                      try simp only [Act.put, List.setIfInBounds_toArray, List.set_cons_zero, List.set_cons_succ]
                      refine wpAnyH_done (by kernel_rfl) ?_ _
                      go_wp2_with fail
                      go_meet
                      exact ⟨_, s, rfl, hs, rows_mul n 50 50 100 s7 y s7 s rfl es ey es7.out es7.out, hrq, hHeld.add (nl s) _ (set_row4 hq)⟩
                  · have hlt := hHeld.lt
                    have hrq := hHeld.rlt
                    have hq : ((x7.drew).alloc (.cells #[.int .u64 0, .int .u64 0, .int .u64 0, .int .u64 0] 88)).heap[(x7.drew).heap.size]? = some (.cells #[.int .u64 0, .int .u64 0, .int .u64 0, .int .u64 0] 88 (0, 0)) := heap_alloc_here _ _ _ rfl
                    have hqs := hHeld.below.size
                    go_simp
                    refine hK.out _ _ ?_ (fun hHeld => ?_)
                    · exact hHeld.alloc _
                    clear hK K
                    try simp only [Act.put, List.setIfInBounds_toArray, List.set_cons_zero, List.set_cons_succ]
                    refine wpAnyH_ready (rs := [1]) (by kernel_rfl) (by simp) ?_
                    refine AllReadyH.cons rfl (fun K hK => ?_) (AllReadyH.nil)
                    go_simp
                    go_at_call 74
                    refine (sq50 s7 hs7 _).mono ?_
                    rintro e wA ⟨y, hy, rfl, ey, hbA⟩
                    refine hK.out _ _ ?_ (fun hHeld => ?_)
                    · exact hHeld.call hbA
                    clear hK K
                    try simp only [Act.put, List.setIfInBounds_toArray, List.set_cons_zero, List.set_cons_succ]
                    have hq := keep' hbA hq
                    refine wpAnyH_ready (rs := [3]) (by kernel_rfl) (by simp) ?_
                    refine AllReadyH.cons rfl (fun K hK => ?_) (AllReadyH.nil)
                    go_simp
                    go_at_call 59
                    refine (ml y s7 hy hs7 _).mono ?_
                    rintro e wB ⟨s, hs, rfl, es, hbB⟩
                    refine hK.out _ _ ?_ (fun hHeld => ?_)
                    · exact hHeld.call hbB
                    clear hK K
                    try simp only [Act.put, List.setIfInBounds_toArray, List.set_cons_zero, List.set_cons_succ]
                    have hq := keep' hbB hq
                    refine wpAnyH_ready (rs := [5]) (by kernel_rfl) (by simp) ?_
                    refine AllReadyH.cons rfl (fun K hK => ?_) (AllReadyH.nil)
                    rw [if_pos (by rfl)]
                    refine wp_store_mid _ _ _ rfl _ _ (nl s).toArray rfl rfl (there_of_row hq 0 4 (by simp)) (i4 s) (four_one s) ?_
                    refine hK.out _ _ ?_ (fun hHeld => ?_)
                    · exact hHeld.put hqs hlt _
                    clear hK K
                    try simp only [Act.put, List.setIfInBounds_toArray, List.set_cons_zero, List.set_cons_succ]
                    refine wpAnyH_done (by kernel_rfl) ?_ _
                    go_wp2_with fail
                    go_meet
                    exact ⟨_, s, rfl, hs, rows_mul n 50 50 100 s7 y s7 s rfl es ey es7.out es7.out, hrq, hHeld.add (nl s) _ (set_row4 hq)⟩
                case rest =>
                  obtain ⟨q8, s8, rfl, hs8, ee, lq8, hss⟩ := hcut
                  have es8 : Hid (s8 % pp = n ^ rn 100 % pp) := ee
                  obtain ⟨x8, hxw⟩ : ∃ x, x = wc := ⟨_, rfl⟩
                  rw [← hxw] at hss ⊢
                  have HS8 : Hid (SS w [(w.heap.size, nl n, 88), (q1, nl s1, 88), (q2, nl s2, 88), (q3, nl s3, 88), (q4, nl s4, 88), (q5, nl s5, 88), (q6, nl s6, 88), (q7, nl s7, 88), (q8, nl s8, 88)] (w.heap.size + 1) 4 x8) := hss
                  clear ee hss hxw
                  go_wp2_with fail
                  go_cut [11] from 44 to 48 (fun sz wx => ∃ q s : Nat, sz = .pointer (some ⟨q, 0, none⟩) ∧ s < RN ∧ s % pp = n ^ rn 200 % pp ∧ w.heap.size + 1 < q ∧ SS w [(w.heap.size, nl n, 88), (q1, nl s1, 88), (q2, nl s2, 88), (q3, nl s3, 88), (q4, nl s4, 88), (q5, nl s5, 88), (q6, nl s6, 88), (q7, nl s7, 88), (q8, nl s8, 88), (q, nl s, 88)] (w.heap.size + 1) 4 wx)
                  case first =>
                    refine wp_region_held_drew (S := (fun w' => SS w [(w.heap.size, nl n, 88), (q1, nl s1, 88), (q2, nl s2, 88), (q3, nl s3, 88), (q4, nl s4, 88), (q5, nl s5, 88), (q6, nl s6, 88), (q7, nl s7, 88), (q8, nl s8, 88)] (w.heap.size + 1) 4 w')) (by kernel_rfl) ?_ (fun hHeld => ?_)
                    · exact HS8.out.drew
                    refine take1 (i := 0) (v := _) 44 rfl rfl (by kernel_rfl) (by kernel_rfl) (by kernel_rfl) (fun _ _ _ h => h) (yieldsIf_load_mid (by rfl) _ _ rfl _ _ rfl _ _ (fun w h => h.range (i := 8) rfl) Tryd.underlying88 rfl (i4 s8)) hHeld ?_
                    simp only [Act.put, List.setIfInBounds_toArray, List.set_cons_zero, List.set_cons_succ]
                    refine take1 (i := 2) (v := _) 46 rfl rfl (by kernel_rfl) (by kernel_rfl) (by kernel_rfl) (fun _ _ _ h => h) (yieldsIf_load_mid (by rfl) _ _ rfl _ _ rfl _ _ (fun w h => h.range (i := 8) rfl) Tryd.underlying88 rfl (i4 s8)) hHeld ?_
                    simp only [Act.put, List.setIfInBounds_toArray, List.set_cons_zero, List.set_cons_succ]
                    refine wpAnyH_ready (rs := [1, 4]) (by kernel_rfl) (by simp) ?_
                    refine AllReadyH.cons rfl (fun K hK => ?_) (AllReadyH.cons rfl (fun K hK => ?_) (AllReadyH.nil))
                    · go_simp
                      go_at_call 74
                      refine (sq100 s8 hs8 _).mono ?_
                      rintro e wA ⟨y, hy, rfl, ey, hbA⟩
                      refine hK.out _ _ ?_ (fun hHeld => ?_)
                      · exact hHeld.call hbA
                      clear hK K
                      try simp only [Act.put, List.setIfInBounds_toArray, List.set_cons_zero, List.set_cons_succ]
                      refine wpAnyH_ready (rs := [3, 4]) (by kernel_rfl) (by simp) ?_
                      refine AllReadyH.cons rfl (fun K hK => ?_) (AllReadyH.cons rfl (fun K hK => ?_) (AllReadyH.nil))
                      · go_simp
                        go_at_call 59
                        refine (ml y s8 hy hs8 _).mono ?_
                        rintro e wB ⟨s, hs, rfl, es, hbB⟩
                        refine hK.out _ _ ?_ (fun hHeld => ?_)
                        · exact hHeld.call hbB
                        clear hK K
                        try simp only [Act.put, List.setIfInBounds_toArray, List.set_cons_zero, List.set_cons_succ]
                        refine wpAnyH_ready (rs := [4]) (by kernel_rfl) (by simp) ?_
                        refine AllReadyH.cons rfl (fun K hK => ?_) (AllReadyH.nil)
                        have hlt := hHeld.lt
                        have hrq := hHeld.rlt
                        have hq : ((wB).alloc (.cells #[.int .u64 0, .int .u64 0, .int .u64 0, .int .u64 0] 88)).heap[(wB).heap.size]? = some (.cells #[.int .u64 0, .int .u64 0, .int .u64 0, .int .u64 0] 88 (0, 0)) := heap_alloc_here _ _ _ rfl
                        have hqs := hHeld.below.size
                        go_simp
                        refine hK.out _ _ ?_ (fun hHeld => ?_)
                        · exact hHeld.alloc _
                        clear hK K
                        try simp only [Act.put, List.setIfInBounds_toArray, List.set_cons_zero, List.set_cons_succ]
                        refine wpAnyH_ready (rs := [5]) (by kernel_rfl) (by simp) ?_
                        refine AllReadyH.cons rfl (fun K hK => ?_) (AllReadyH.nil)
                        rw [if_pos (by rfl)]
                        refine wp_store_mid _ _ _ rfl _ _ (nl s).toArray rfl rfl (there_of_row hq 0 4 (by simp)) (i4 s) (four_one s) ?_
                        refine hK.out _ _ ?_ (fun hHeld => ?_)
                        · exact hHeld.put hqs hlt _
                        clear hK K
                        try simp only [Act.put, List.setIfInBounds_toArray, List.set_cons_zero, List.set_cons_succ]
                        refine wpAnyH_done (by kernel_rfl) ?_ _
                        go_wp2_with fail
                        go_meet
                        exact ⟨_, s, rfl, hs, rows_mul n 100 100 200 s8 y s8 s rfl es ey es8.out es8.out, hrq, hHeld.add (nl s) _ (set_row4 hq)⟩
                      · have hlt := hHeld.lt
                        have hrq := hHeld.rlt
                        have hq : ((wA).alloc (.cells #[.int .u64 0, .int .u64 0, .int .u64 0, .int .u64 0] 88)).heap[(wA).heap.size]? = some (.cells #[.int .u64 0, .int .u64 0, .int .u64 0, .int .u64 0] 88 (0, 0)) := heap_alloc_here _ _ _ rfl
                        have hqs := hHeld.below.size
                        go_simp
                        refine hK.out _ _ ?_ (fun hHeld => ?_)
                        · exact hHeld.alloc _
                        clear hK K
                        try simp only [Act.put, List.setIfInBounds_toArray, List.set_cons_zero, List.set_cons_succ]
                        refine wpAnyH_ready (rs := [3]) (by kernel_rfl) (by simp) ?_
                        refine AllReadyH.cons rfl (fun K hK => ?_) (AllReadyH.nil)
                        go_simp
                        go_at_call 59
                        refine (ml y s8 hy hs8 _).mono ?_
                        rintro e wB ⟨s, hs, rfl, es, hbB⟩
                        refine hK.out _ _ ?_ (fun hHeld => ?_)
                        · exact hHeld.call hbB
                        clear hK K
                        try simp only [Act.put, List.setIfInBounds_toArray, List.set_cons_zero, List.set_cons_succ]
                        have hq := keep' hbB hq
                        refine wpAnyH_ready (rs := [5]) (by kernel_rfl) (by simp) ?_
                        refine AllReadyH.cons rfl (fun K hK => ?_) (AllReadyH.nil)
                        rw [if_pos (by rfl)]
                        refine wp_store_mid _ _ _ rfl _ _ (nl s).toArray rfl rfl (there_of_row hq 0 4 (by simp)) (i4 s) (four_one s) ?_
                        refine hK.out _ _ ?_ (fun hHeld => ?_)
                        · exact hHeld.put hqs hlt _
                        clear hK K
                        try simp only [Act.put, List.setIfInBounds_toArray, List.set_cons_zero, List.set_cons_succ]
                        refine wpAnyH_done (by kernel_rfl) ?_ _
                        go_wp2_with fail
                        go_meet
                        exact ⟨_, s, rfl, hs, rows_mul n 100 100 200 s8 y s8 s rfl es ey es8.out es8.out, hrq, hHeld.add (nl s) _ (set_row4 hq)⟩
                    · have hlt := hHeld.lt
                      have hrq := hHeld.rlt
                      have hq : ((x8.drew).alloc (.cells #[.int .u64 0, .int .u64 0, .int .u64 0, .int .u64 0] 88)).heap[(x8.drew).heap.size]? = some (.cells #[.int .u64 0, .int .u64 0, .int .u64 0, .int .u64 0] 88 (0, 0)) := heap_alloc_here _ _ _ rfl
                      have hqs := hHeld.below.size
                      go_simp
                      refine hK.out _ _ ?_ (fun hHeld => ?_)
                      · exact hHeld.alloc _
                      clear hK K
                      try simp only [Act.put, List.setIfInBounds_toArray, List.set_cons_zero, List.set_cons_succ]
                      refine wpAnyH_ready (rs := [1]) (by kernel_rfl) (by simp) ?_
                      refine AllReadyH.cons rfl (fun K hK => ?_) (AllReadyH.nil)
                      go_simp
                      go_at_call 74
                      refine (sq100 s8 hs8 _).mono ?_
                      rintro e wA ⟨y, hy, rfl, ey, hbA⟩
                      refine hK.out _ _ ?_ (fun hHeld => ?_)
                      · exact hHeld.call hbA
                      clear hK K
                      try simp only [Act.put, List.setIfInBounds_toArray, List.set_cons_zero, List.set_cons_succ]
                      have hq := keep' hbA hq
                      refine wpAnyH_ready (rs := [3]) (by kernel_rfl) (by simp) ?_
                      refine AllReadyH.cons rfl (fun K hK => ?_) (AllReadyH.nil)
                      go_simp
                      go_at_call 59
                      refine (ml y s8 hy hs8 _).mono ?_
                      rintro e wB ⟨s, hs, rfl, es, hbB⟩
                      refine hK.out _ _ ?_ (fun hHeld => ?_)
                      · exact hHeld.call hbB
                      clear hK K
                      try simp only [Act.put, List.setIfInBounds_toArray, List.set_cons_zero, List.set_cons_succ]
                      have hq := keep' hbB hq
                      refine wpAnyH_ready (rs := [5]) (by kernel_rfl) (by simp) ?_
                      refine AllReadyH.cons rfl (fun K hK => ?_) (AllReadyH.nil)
                      rw [if_pos (by rfl)]
                      refine wp_store_mid _ _ _ rfl _ _ (nl s).toArray rfl rfl (there_of_row hq 0 4 (by simp)) (i4 s) (four_one s) ?_
                      refine hK.out _ _ ?_ (fun hHeld => ?_)
                      · exact hHeld.put hqs hlt _
                      clear hK K
                      try simp only [Act.put, List.setIfInBounds_toArray, List.set_cons_zero, List.set_cons_succ]
                      refine wpAnyH_done (by kernel_rfl) ?_ _
                      go_wp2_with fail
                      go_meet
                      exact ⟨_, s, rfl, hs, rows_mul n 100 100 200 s8 y s8 s rfl es ey es8.out es8.out, hrq, hHeld.add (nl s) _ (set_row4 hq)⟩
                  case rest =>
                    obtain ⟨q9, s9, rfl, hs9, ee, lq9, hss⟩ := hcut
                    have es9 : Hid (s9 % pp = n ^ rn 200 % pp) := ee
                    obtain ⟨x9, hxw⟩ : ∃ x, x = wc := ⟨_, rfl⟩
                    rw [← hxw] at hss ⊢
                    have HS9 : Hid (SS w [(w.heap.size, nl n, 88), (q1, nl s1, 88), (q2, nl s2, 88), (q3, nl s3, 88), (q4, nl s4, 88), (q5, nl s5, 88), (q6, nl s6, 88), (q7, nl s7, 88), (q8, nl s8, 88), (q9, nl s9, 88)] (w.heap.size + 1) 4 x9) := hss
                    clear ee hss hxw
                    go_wp2_with fail
                    have HL : Hid (SS w [(q9, nl s9, 88), (q7, nl s7, 88)] (w.heap.size + 1) 4 x9) := HS9.out.pick2 9 7 rfl rfl
                    refine wp_region_held_drew (S := (fun w' => SS w [(q9, nl s9, 88), (q7, nl s7, 88)] (w.heap.size + 1) 4 w')) (by kernel_rfl) ?_ (fun hHeld => ?_)
                    · exact HL.out.drew
                    refine take1 (i := 0) (v := _) 48 rfl rfl (by kernel_rfl) (by kernel_rfl) (by kernel_rfl) (fun _ _ _ h => h) (yieldsIf_load_mid (by rfl) _ _ rfl _ _ rfl _ _ (fun w h => h.range (i := 0) rfl) Tryd.underlying88 rfl (i4 s9)) hHeld ?_
                    simp only [Act.put, List.setIfInBounds_toArray, List.set_cons_zero, List.set_cons_succ]
                    refine take1 (i := 2) (v := _) 50 rfl rfl (by kernel_rfl) (by kernel_rfl) (by kernel_rfl) (fun _ _ _ h => h) (yieldsIf_load_mid (by rfl) _ _ rfl _ _ rfl _ _ (fun w h => h.range (i := 1) rfl) Tryd.underlying88 rfl (i4 s7)) hHeld ?_
                    simp only [Act.put, List.setIfInBounds_toArray, List.set_cons_zero, List.set_cons_succ]
                    refine wpAnyH_ready (rs := [1]) (by kernel_rfl) (by simp) ?_
                    refine AllReadyH.cons rfl (fun K hK => ?_) (AllReadyH.nil)
                    go_simp
                    go_at_call 74
                    refine (sq50 s9 hs9 _).mono ?_
                    rintro e wA ⟨y, hy, rfl, ey, hbA⟩
                    refine hK.out _ _ ?_ (fun hHeld => ?_)
                    · exact hHeld.call hbA
                    clear hK K
                    try simp only [Act.put, List.setIfInBounds_toArray, List.set_cons_zero, List.set_cons_succ]
                    refine wpAnyH_ready (rs := [3]) (by kernel_rfl) (by simp) ?_
                    refine AllReadyH.cons rfl (fun K hK => ?_) (AllReadyH.nil)
                    go_simp
                    go_at_call 59
                    refine (ml y s7 hy hs7 _).mono ?_
                    rintro e wB ⟨s, hs, rfl, es, hbB⟩
                    have hT := (HL.out.drew.call hbA |>.call hbB).there
                    refine hK.out _ _ ?_ (fun hHeld => ?_)
                    · exact hHeld.call hbB
                    clear hK K
                    try simp only [Act.put, List.setIfInBounds_toArray, List.set_cons_zero, List.set_cons_succ]
                    refine wpAnyH_ready (rs := [4]) (by kernel_rfl) (by simp) ?_
                    refine AllReadyH.cons rfl (fun K hK => ?_) (AllReadyH.nil)
                    rw [if_pos (by rfl)]
                    refine wp_store_mid _ _ _ rfl _ _ (nl s).toArray rfl rfl hT (i4 s) (four_one s) ?_
                    refine hK.out _ _ ?_ (fun hHeld => ?_)
                    · exact hHeld.store (by omega) (ne2 (by omega) (by omega)) _
                    clear hK K
                    try simp only [Act.put, List.setIfInBounds_toArray, List.set_cons_zero, List.set_cons_succ]
                    refine wpAnyH_done (by kernel_rfl) ?_ _
                    go_wp2
                    refine bodyPost_ret (v := .agg (nl s).toArray) (results_mid Tryd.results75 _ _ (w.heap.size + 1) 0 (nl s) _ rfl (World.rangeAt_setCells_same _ _ _ _ hT) Tryd.underlying88 rfl (i4 s)) rfl ⟨s, hs, rfl, rows_mul n 200 50 250 s9 y s7 s rfl es ey es9.out es7.out, hHeld.below⟩
end Go.Proofs.YtdegfgncdphepaaDoor
