/- The reference's Inverse, Canonical, Add, Sub, Mul, Inv. -/
import Derived.Test.YtnmgpkpdjpjbgaaDoorFieRJ
namespace Go.Proofs.YtnmgpkpdjpjbgaaDoor
open Go Go.RowKit Go.Lib
set_option linter.unusedSimpArgs false
set_option linter.unusedVariables false
theorem litQ : (#[.int .u64 18446744073709551595, .int .u64 18446744073709551615, .int .u64 18446744073709551615, .int .u64 9223372036854775807] : Array Value) = (nl (pp - 2)).toArray := by kernel_rfl
theorem SS.num1 (w : World) (a : Nat) : SS w [(w.heap.size, nl a, 48)] (w.heap.size + 1) 4 ((w.alloc (.cells (nl a).toArray 48)).alloc (.cells #[.int .u64 0, .int .u64 0, .int .u64 0, .int .u64 0] 48)) := by
  refine ⟨((Below.refl _ _).alloc (Nat.le_refl _) _).alloc (by simp) _, ?_, there_of_row (heap_alloc_here _ _ _ (by simp)) 0 4 (by simp)⟩
  intro i g L t hm
  match i, hm with
  | 0, hm =>
    cases hm
    exact (heap_alloc_past _ _ _ (by simp)).trans (heap_alloc_here _ _ _ rfl)
set_option maxRecDepth 100000 in
set_option maxHeartbeats 2000000 in
theorem rinverseX_nat (a : Nat) (ha : a < RN) (w : World) :
    Calls Tryd.prog 63 #[.agg (nl a).toArray] w fun e w' => ∃ s, s < RN ∧ e = .returned (.agg (nl s).toArray) ∧ (s % pp = a ^ (pp - 2) % pp ∧ s = pX a (pp - 2) 256) ∧ Below w.heap.size w w' := by
  have HS0 : Hid (SS w [(w.heap.size, nl a, 48)] (w.heap.size + 1) 4 _) := SS.num1 w a
  have rp := rp_any
  rw [← litP] at rp
  have pw : ∀ w, Calls Tryd.prog 86 #[.agg (nl a).toArray, .agg #[.int .u64 18446744073709551595, .int .u64 18446744073709551615, .int .u64 18446744073709551615, .int .u64 9223372036854775807]] w fun e w' => ∃ s, s < RN ∧ e = .returned (.agg (nl s).toArray) ∧ (s % pp = a ^ (pp - 2) % pp ∧ s = pX a (pp - 2) 256) ∧ Below w.heap.size w w' := fun w => by
    rw [litQ]; exact rpowerX_nat a (pp - 2) ha (by decide) w
  go_enter Tryd.func63, Tryd.ntmps63
  go_wp2_with fail
  refine (rp _).mono ?_
  rintro e w1 ⟨rfl, hb1⟩
  have S1 := HS0.out.call hb1
  have lr := S1.rlt
  have N1 := S1.holds 0 _ _ _ rfl
  have la := lt_of_heap N1
  obtain ⟨c0, c1, c2, c3, f0, f1, f2, f3⟩ := four N1
  have HS1 : Hid (SS w [(w.heap.size, nl a, 48)] (w.heap.size + 1) 4 (w1.alloc (.cells #[.int .u64 18446744073709551595, .int .u64 18446744073709551615, .int .u64 18446744073709551615, .int .u64 9223372036854775807] 48))) := S1.alloc _
  clear hb1 S1 N1 HS0
  go_wp2_with fail
  refine (pw _).mono ?_
  rintro e w2 ⟨s, hs, rfl, es, hb2⟩
  have S2 := HS1.out.call hb2
  have HT : Hid (w2.there (w.heap.size + 1) 0 4) := S2.there
  have HB : Hid (Below w.heap.size w w2) := S2.below
  have HE : Hid (s % pp = a ^ (pp - 2) % pp ∧ s = pX a (pp - 2) 256) := es
  clear S2 hb2 es
  go_wp2_with (refine wpList_store_mid rfl 48 _ _ rfl (w.heap.size + 1) 0 (nl s).toArray rfl rfl HT.out (r4 _) (four_one _) ?_)
  refine bodyPost_ret (v := .agg (nl s).toArray) (results_mid Tryd.results63 _ _ (w.heap.size + 1) 0 (nl s) _ rfl (World.rangeAt_setCells_same _ _ _ _ HT.out) Tryd.underlying48 rfl (r4 _)) rfl ⟨s, hs, rfl, HE.out, below_setCells _ (by omega) _ _ _ HB.out⟩
theorem rinverse_nat (a : Nat) (ha : a < RN) (w : World) :
    Calls Tryd.prog 63 #[.agg (nl a).toArray] w fun e w' => ∃ s, s < RN ∧ e = .returned (.agg (nl s).toArray) ∧ s % pp = a ^ (pp - 2) % pp ∧ Below w.heap.size w w' :=
  (rinverseX_nat a ha w).mono fun e w' ⟨s, h1, h2, h3, h4⟩ => ⟨s, h1, h2, h3.1, h4⟩
set_option maxRecDepth 100000 in
set_option maxHeartbeats 1000000 in
theorem rCanonical_any (a : Nat) (ha : a < RN) (w : World) :
    Calls Tryd.prog 57 #[.agg (bl a).toArray] w fun e w' => e = .returned (.bool (decide (a < pp))) ∧ Below w.heap.size w w' := by
  have HS : Hid (HH w [(w.heap.size, bl a, 22)] (w.alloc (.cells (bl a).toArray 22))) := HH.one w _ _
  have HC : Hid (World.rangeAt _ w.heap.size 0 (bl a)) := HS.out.range (i := 0) rfl
  have hza : (bl a).toArray.size = 32 := br_size a
  go_enter Tryd.func57, Tryd.ntmps57
  go_wp2_with (refine wpList_load_mid rfl 22 _ rfl w.heap.size 0 rfl (bl a) _ HC.out Tryd.underlying22 rfl (i32 a) ?_)
  refine (rfrom_nat a ha _).mono ?_
  rintro e w1 ⟨rfl, hb1⟩
  have S1 : Hid (Below w.heap.size w w1) := chain HS.out.below hb1
  clear HC HS hb1
  go_wp2_with fail
  refine (rp_any _).mono ?_
  rintro e w2 ⟨rfl, hb2⟩
  have S2 : Hid (Below w.heap.size w w2) := chain S1.out hb2
  clear hb2
  go_wp2_with fail
  refine (below_nat a pp ha pp_lt _).mono ?_
  rintro e w3 ⟨rfl, hb3⟩
  have S3 : Hid (Below w.heap.size w w3) := chain S2.out hb3
  clear hb3
  go_wp2
  go_ret
  exact ⟨rfl, S3.out⟩
end Go.Proofs.YtnmgpkpdjpjbgaaDoor
