/- Package field: store, and the calls that the package gives: Add, Sub, Mul, Canonical. -/
import Derived.Test.YtaebjponihocaabDoorFieF
namespace Go.Proofs.YtaebjponihocaabDoor
open Go Go.RowKit Go.Lib
set_option linter.unusedSimpArgs false
set_option linter.unusedVariables false

/-- What 'store' holds while it writes: the number, the result's room, the bytes so far. -/
structure SR (w wr : World) (q m k : Nat) : Prop where
  below : Below w.heap.size w wr
  hq : w.heap.size + 2 ≤ q
  num : wr.heap[w.heap.size]? = some (.cells #[.int .u64 (lw m 0), .int .u64 (lw m 1), .int .u64 (lw m 2), .int .u64 (lw m 3)] 89 (0, 0))
  res : wr.heap[w.heap.size + 1]? = some (.cells (br 0) 22 (0, 0))
  byt : wr.heap[q]? = some (.cells (br (m % 18446744073709551616 ^ k)) 22 (0, 0))
theorem SR.put {w wr : World} {q m k : Nat} (h : SR w wr q m k) (hk : k < 4) (o : Nat) (ho : o = 8 * k) (x : Int) (hx : x = lw m k) : SR w (wr.setCells q o (b8 x)) q m (k + 1) := by
  subst ho; subst hx
  have := h.hq
  exact ⟨below_setCells _ (by omega) _ _ _ h.below, h.hq, (heap_setCells_past _ _ (by omega) _ _ _).trans h.num, (heap_setCells_past _ _ (by omega) _ _ _).trans h.res, put_row hk h.byt⟩
theorem SR.drew {w wr : World} {q m k : Nat} (h : SR w wr q m k) : SR w wr.drew q m k := ⟨h.below.drew, h.hq, h.num, h.res, h.byt⟩
theorem SR.there {w wr : World} {q m k : Nat} (h : SR w wr q m k) (hk : k < 4) (o : Nat) (ho : o = 8 * k) : wr.there q o 8 := there_of_row h.byt _ _ (by rw [br_size]; omega)

set_option maxRecDepth 100000 in
set_option maxHeartbeats 1000000 in
theorem store_any (a : Nat) (ha : a < RN) (w : World) :
    Calls Tryd.prog 64 #[nv a] w fun e w' => e = .returned (bv (a % pp)) ∧ Below w.heap.size w w' := by
  unfold bv
  have hz := zero_32
  have hb0s := br_size 0
  obtain ⟨m, hm⟩ : ∃ m, m = a % pp := ⟨_, rfl⟩
  have hmlt : m < RN := by rw [hm]; exact Nat.lt_of_le_of_lt (Nat.mod_le _ _) ha
  rw [← hm]
  have hset := settle_nat a ha
  rw [← hm] at hset
  clear hm
  unfold nv at *
  go_enter Tryd.func64, Tryd.ntmps64
  go_wp2_with fail
  refine (hset _).mono ?_
  rintro e w1 ⟨rfl, hb⟩
  have HB1 : Hid (Below w.heap.size w w1) := chain (w := (w.alloc (.cells #[.int .u64 (lw a 0), .int .u64 (lw a 1), .int .u64 (lw a 2), .int .u64 (lw a 3)] 89)).alloc (.cells (br 0) 22)) (((Below.refl _ _).alloc (Nat.le_refl _) _).alloc (by simp) _) hb
  have N1 : w1.heap[w.heap.size]? = some (.cells #[.int .u64 (lw a 0), .int .u64 (lw a 1), .int .u64 (lw a 2), .int .u64 (lw a 3)] 89) := keep' hb ((heap_alloc_past _ _ _ (by simp)).trans (heap_alloc_here _ _ _ rfl))
  have R1 : w1.heap[w.heap.size + 1]? = some (.cells (br 0) 22) := keep' hb (heap_alloc_here _ _ _ (by simp))
  have z1 : w.heap.size + 2 ≤ w1.heap.size := by have := hb.size; simpa using this
  clear hb
  obtain ⟨c0, c1, c2, c3, f0, f1, f2, f3⟩ := four N1
  have l1 : w.heap.size < w1.heap.size := by omega
  have HS0 : Hid (SR w ((set4 w1 w.heap.size (.int .u64 (lw m 0)) (.int .u64 (lw m 1)) (.int .u64 (lw m 2)) (.int .u64 (lw m 3))).alloc (.cells (br 0) 22)) w1.heap.size m 0) := by
    refine ⟨(below_set4 HB1.out (Nat.le_refl _) _ _ _ _).alloc (by rw [set4_size]; omega) _, z1, ?_, ?_, ?_⟩
    · exact (heap_alloc_past _ _ _ (by rw [set4_size]; omega)).trans (set4_here _ _ _ _ N1)
    · exact (heap_alloc_past _ _ _ (by rw [set4_size]; omega)).trans ((set4_past _ _ _ _ _ _ _ (by omega)).trans R1)
    · rw [Nat.pow_zero, Nat.mod_one]; exact heap_alloc_here _ _ _ (by rw [set4_size])
  go_wp2_with fail
  rw [set4_eq]
  obtain ⟨x0, hx0⟩ : ∃ x, x = (set4 w1 w.heap.size (.int .u64 (lw m 0)) (.int .u64 (lw m 1)) (.int .u64 (lw m 2)) (.int .u64 (lw m 3))).alloc (.cells (br 0) 22) := ⟨_, rfl⟩
  have S0 : Hid (SR w x0 w1.heap.size m 0) := by rw [hx0]; exact HS0.out
  rw [← hx0]
  clear hx0 HS0 c0 c1 c2 c3 f0 f1 f2 f3
  have c0 : x0.drew.cell? ⟨w.heap.size, 0, none⟩ = some (.int .u64 (lw m 0)) := (four S0.out.num).1
  have T0 : Hid (x0.drew.there w1.heap.size 0 8) := S0.out.drew.there (by omega) 0 (by decide)
  have P0 : Hid (SR w (x0.drew.setCells w1.heap.size 0 (b8 (lw m 0))) w1.heap.size m 1) := S0.out.drew.put (by omega) 0 (by decide) _ rfl
  have sl0 : ∀ wz : World, (Instr.sliceAt 22 (.pointer (some ⟨w1.heap.size, 0, none⟩)) (some (.int .i64 0)) (some (.int .i64 8)) none).run Tryd.prog wz = .ok (.slice (some ⟨w1.heap.size, 0, none⟩) 8 32) wz := fun wz => slice8 wz w1.heap.size 0 0 8 (by decide) (by decide) (by omega)
  go_region_held3 (fun w' => w'.cell? ⟨w.heap.size, 0, none⟩ = some (.int .u64 (lw m 0))) (first | with_reducible exact c0 | with_reducible exact (four P0.out.num).1)
    ((go_at_call 79; refine (putWord_any w1.heap.size 0 32 (lw m 0) _ T0.out).mono ?_; rintro e w' ⟨rfl, rfl⟩))
  obtain ⟨x1, hx1⟩ : ∃ x, x = x0.drew.setCells w1.heap.size 0 (b8 (lw m 0)) := ⟨_, rfl⟩
  have S1 : Hid (SR w x1 w1.heap.size m 1) := by rw [hx1]; exact P0.out
  rw [← hx1]
  clear hx1 c0
  go_wp2_with fail
  have c1 : x1.drew.cell? ⟨w.heap.size, 1, none⟩ = some (.int .u64 (lw m 1)) := (four S1.out.num).2.1
  have T1 : Hid (x1.drew.there w1.heap.size 8 8) := S1.out.drew.there (by omega) 8 (by decide)
  have P1 : Hid (SR w (x1.drew.setCells w1.heap.size 8 (b8 (lw m 1))) w1.heap.size m 2) := S1.out.drew.put (by omega) 8 (by decide) _ rfl
  have sl1 : ∀ wz : World, (Instr.sliceAt 22 (.pointer (some ⟨w1.heap.size, 0, none⟩)) (some (.int .i64 8)) (some (.int .i64 16)) none).run Tryd.prog wz = .ok (.slice (some ⟨w1.heap.size, 8, none⟩) 8 24) wz := fun wz => slice8 wz w1.heap.size 1 8 16 (by decide) (by decide) (by omega)
  go_region_held3 (fun w' => w'.cell? ⟨w.heap.size, 1, none⟩ = some (.int .u64 (lw m 1))) (first | with_reducible exact c1 | with_reducible exact (four P1.out.num).2.1)
    ((go_at_call 79; refine (putWord_any w1.heap.size 8 24 (lw m 1) _ T1.out).mono ?_; rintro e w' ⟨rfl, rfl⟩))
  obtain ⟨x2, hx2⟩ : ∃ x, x = x1.drew.setCells w1.heap.size 8 (b8 (lw m 1)) := ⟨_, rfl⟩
  have S2 : Hid (SR w x2 w1.heap.size m 2) := by rw [hx2]; exact P1.out
  rw [← hx2]
  clear hx2 c1
  go_wp2_with fail
  have c2 : x2.drew.cell? ⟨w.heap.size, 2, none⟩ = some (.int .u64 (lw m 2)) := (four S2.out.num).2.2.1
  have T2 : Hid (x2.drew.there w1.heap.size 16 8) := S2.out.drew.there (by omega) 16 (by decide)
  have P2 : Hid (SR w (x2.drew.setCells w1.heap.size 16 (b8 (lw m 2))) w1.heap.size m 3) := S2.out.drew.put (by omega) 16 (by decide) _ rfl
  have sl2 : ∀ wz : World, (Instr.sliceAt 22 (.pointer (some ⟨w1.heap.size, 0, none⟩)) (some (.int .i64 16)) (some (.int .i64 24)) none).run Tryd.prog wz = .ok (.slice (some ⟨w1.heap.size, 16, none⟩) 8 16) wz := fun wz => slice8 wz w1.heap.size 2 16 24 (by decide) (by decide) (by omega)
  go_region_held3 (fun w' => w'.cell? ⟨w.heap.size, 2, none⟩ = some (.int .u64 (lw m 2))) (first | with_reducible exact c2 | with_reducible exact (four P2.out.num).2.2.1)
    ((go_at_call 79; refine (putWord_any w1.heap.size 16 16 (lw m 2) _ T2.out).mono ?_; rintro e w' ⟨rfl, rfl⟩))
  obtain ⟨x3, hx3⟩ : ∃ x, x = x2.drew.setCells w1.heap.size 16 (b8 (lw m 2)) := ⟨_, rfl⟩
  have S3 : Hid (SR w x3 w1.heap.size m 3) := by rw [hx3]; exact P2.out
  rw [← hx3]
  clear hx3 c2
  go_wp2_with fail
  have c3 : x3.drew.cell? ⟨w.heap.size, 3, none⟩ = some (.int .u64 (lw m 3)) := (four S3.out.num).2.2.2.1
  have T3 : Hid (x3.drew.there w1.heap.size 24 8) := S3.out.drew.there (by omega) 24 (by decide)
  have P3 : Hid (SR w (x3.drew.setCells w1.heap.size 24 (b8 (lw m 3))) w1.heap.size m 4) := S3.out.drew.put (by omega) 24 (by decide) _ rfl
  have sl3 : ∀ wz : World, (Instr.sliceAt 22 (.pointer (some ⟨w1.heap.size, 0, none⟩)) (some (.int .i64 24)) (some (.int .i64 32)) none).run Tryd.prog wz = .ok (.slice (some ⟨w1.heap.size, 24, none⟩) 8 8) wz := fun wz => slice8 wz w1.heap.size 3 24 32 (by decide) (by decide) (by omega)
  go_region_held3 (fun w' => w'.cell? ⟨w.heap.size, 3, none⟩ = some (.int .u64 (lw m 3))) (first | with_reducible exact c3 | with_reducible exact (four P3.out.num).2.2.2.1)
    ((go_at_call 79; refine (putWord_any w1.heap.size 24 8 (lw m 3) _ T3.out).mono ?_; rintro e w' ⟨rfl, rfl⟩))
  obtain ⟨x4, hx4⟩ : ∃ x, x = x3.drew.setCells w1.heap.size 24 (b8 (lw m 3)) := ⟨_, rfl⟩
  have S4 : Hid (SR w x4 w1.heap.size m 4) := by rw [hx4]; exact P3.out
  rw [← hx4]
  clear hx4 c3
  have hmm : m % 18446744073709551616 ^ (3 + 1) = m := Nat.mod_eq_of_lt (by simp only [RN] at hmlt; exact hmlt)
  have HC : Hid (x4.rangeAt w1.heap.size 0 (br m).toList) := by have := S4.out.byt; rw [hmm] at this; exact range_of_row this
  have HT : Hid (x4.there (w.heap.size + 1) 0 (br m).size) := by rw [br_size]; exact there_of_row S4.out.res 0 32 (by rw [br_size]; omega)
  have HQ : Hid (w.heap.size + 2 ≤ w1.heap.size) := S4.out.hq
  have HB : Hid (Below w.heap.size w x4) := S4.out.below
  go_wp2_with (first | (refine wpList_load_mid rfl 22 _ rfl w1.heap.size 0 rfl (br m).toList _ HC.out Tryd.underlying22 rfl (by rw [Array.length_toList, br_size]; kernel_rfl) ?_) | (refine wpList_store_mid rfl 22 _ _ rfl (w.heap.size + 1) 0 (br m) rfl rfl HT.out (by rw [br_size]; kernel_rfl) (by exact br_one _) ?_))
  refine bodyPost_ret (v := .agg (br m)) ?_ rfl ⟨rfl, ?_⟩
  · exact results_mid Tryd.results64 _ _ (w.heap.size + 1) 0 (br m).toList _ rfl (World.rangeAt_setCells_same _ _ _ _ HT.out) Tryd.underlying22 rfl (by rw [Array.length_toList, br_size]; kernel_rfl)
  · exact below_setCells _ (by omega) _ _ _ HB.out
end Go.Proofs.YtaebjponihocaabDoor
