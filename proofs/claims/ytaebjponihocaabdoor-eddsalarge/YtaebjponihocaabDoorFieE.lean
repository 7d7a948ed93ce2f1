/- Package field: load, store. -/
import Derived.Test.YtaebjponihocaabDoorFieD
namespace Go.Proofs.YtaebjponihocaabDoor
open Go Go.RowKit Go.Lib
set_option linter.unusedSimpArgs false
set_option linter.unusedVariables false
theorem word_at8 (b o cap n : Nat) (w : World) (hc : ∀ i, i < 32 → w.cell? ⟨b, i, none⟩ = some (.int .u8 (by8 n i))) (h8 : o % 8 = 0) (h32 : o < 32) :
    Calls Tryd.prog 82 #[.slice (some ⟨b, o, none⟩) 8 cap] w fun e w' => e = .returned (.int .u64 (lw n (o / 8))) ∧ ∃ m, w' = w.drewN m :=
  word_at b o cap n (o / 8) w hc (by omega) (by omega)
theorem slice8 (w1 : World) (g k : Nat) (lo hi : Int) (hl : lo = ((8 * k : Nat) : Int)) (hh : hi = ((8 * k + 8 : Nat) : Int)) (hk : k < 4) :
    (Instr.sliceAt 22 (.pointer (some ⟨g, 0, none⟩)) (some (.int .i64 lo)) (some (.int .i64 hi)) none).run Tryd.prog w1 = .ok (.slice (some ⟨g, 8 * k, none⟩) 8 (32 - 8 * k)) w1 := by
  have := sliceAt_lh w1 22 5 32 g 0 lo hi (8 * k) (8 * k + 8) hl hh Tryd.underlying22 size_u8 (by omega) (by omega) (by omega)
  rw [show 8 * k + 8 - 8 * k = 8 by omega, Nat.zero_add] at this
  exact this
theorem heap_drewN {w : World} {b m : Nat} {o : Obj} (h : w.heap[b]? = some o) : (w.drewN m).heap[b]? = some o := by
  induction m with
  | zero => exact h
  | succ n ih => exact ih
theorem cell_set4 (w : World) (b : Nat) (y0 y1 y2 y3 : Value) (a : Addr) (h : a.block ≠ b) : (set4 w b y0 y1 y2 y3).cell? a = w.cell? a := by
  simp only [World.cell?, set4_past w b a.block y0 y1 y2 y3 h]
set_option maxHeartbeats 1000000 in
theorem load_any (n : Nat) (w : World) :
    Calls Tryd.prog 66 #[bv n] w fun e w' => e = .returned (nv n) ∧ Below w.heap.size w w' := by
  unfold bv nv
  have hsz := br_size n
  have HC : Hid (∀ i, i < 32 → ((w.alloc (.cells (br n) 22)).alloc (.cells #[.int .u64 0, .int .u64 0, .int .u64 0, .int .u64 0] 89)).cell? ⟨w.heap.size, i, none⟩ = some (.int .u8 (by8 n i))) := fun i hi => by
    rw [World.cell?_alloc_past _ _ _ (by simp), World.cell?_alloc_at _ _ _ _ rfl]; exact br_get n i hi
  have sl0 : ∀ w1 : World, (Instr.sliceAt 22 (.pointer (some ⟨w.heap.size, 0, none⟩)) (some (.int .i64 0)) (some (.int .i64 8)) none).run Tryd.prog w1 = .ok (.slice (some ⟨w.heap.size, 0, none⟩) 8 32) w1 := fun w1 => slice8 w1 w.heap.size 0 0 8 (by decide) (by decide) (by omega)
  have sl1 : ∀ w1 : World, (Instr.sliceAt 22 (.pointer (some ⟨w.heap.size, 0, none⟩)) (some (.int .i64 8)) (some (.int .i64 16)) none).run Tryd.prog w1 = .ok (.slice (some ⟨w.heap.size, 8, none⟩) 8 24) w1 := fun w1 => slice8 w1 w.heap.size 1 8 16 (by decide) (by decide) (by omega)
  have sl2 : ∀ w1 : World, (Instr.sliceAt 22 (.pointer (some ⟨w.heap.size, 0, none⟩)) (some (.int .i64 16)) (some (.int .i64 24)) none).run Tryd.prog w1 = .ok (.slice (some ⟨w.heap.size, 16, none⟩) 8 16) w1 := fun w1 => slice8 w1 w.heap.size 2 16 24 (by decide) (by decide) (by omega)
  have sl3 : ∀ w1 : World, (Instr.sliceAt 22 (.pointer (some ⟨w.heap.size, 0, none⟩)) (some (.int .i64 24)) (some (.int .i64 32)) none).run Tryd.prog w1 = .ok (.slice (some ⟨w.heap.size, 24, none⟩) 8 8) w1 := fun w1 => slice8 w1 w.heap.size 3 24 32 (by decide) (by decide) (by omega)
  go_enter Tryd.func66, Tryd.ntmps66
  go_wp2
  obtain ⟨w0, hw0⟩ : ∃ x, x = (w.alloc (.cells (br n) 22)).alloc (.cells #[.int .u64 0, .int .u64 0, .int .u64 0, .int .u64 0] 89) := ⟨_, rfl⟩
  have HB0 : Hid (Below w.heap.size w w0) := by rw [hw0]; exact ((Below.refl _ _).alloc (Nat.le_refl _) _).alloc (by simp) _
  have R0 : w0.heap[w.heap.size + 1]? = some (.cells #[.int .u64 0, .int .u64 0, .int .u64 0, .int .u64 0] 89) := by rw [hw0]; exact heap_alloc_here _ _ _ (by simp)
  have C0 : ∀ i, i < 32 → w0.cell? ⟨w.heap.size, i, none⟩ = some (.int .u8 (by8 n i)) := by rw [hw0]; exact HC.out
  rw [← hw0]
  clear hw0 HC
  obtain ⟨r0, r1, r2, r3, f0, f1, f2, f3⟩ := four R0
  go_region_held3 (fun w' => ∀ i, i < 32 → w'.cell? ⟨w.heap.size, i, none⟩ = some (.int .u8 (by8 n i))) (first | exact C0 | (intro i hi; rw [cell_drewN]; revert i hi; assumption) | (intro i hi; refine (cell_set4 _ (w.heap.size + 1) _ _ _ _ ⟨w.heap.size, i, none⟩ (by simp)).trans ?_; rw [cell_drewN]; exact C0 i hi))
    ((go_at_call 82; refine (word_at8 _ _ _ n _ (by assumption) (by decide) (by decide)).mono ?_; rintro e w' ⟨rfl, m, rfl⟩))
  go_wp2
  refine bodyPost_ret (v := .agg #[.int .u64 (lw n 0), .int .u64 (lw n 1), .int .u64 (lw n 2), .int .u64 (lw n 3)]) (results_mid Tryd.results66 _ _ (w.heap.size + 1) 0 [.int .u64 (lw n 0), .int .u64 (lw n 1), .int .u64 (lw n 2), .int .u64 (lw n 3)] _ rfl (range4 (t := 89) (set4_here _ _ _ _ (heap_drewN R0))) Tryd.underlying89 rfl (by kernel_rfl)) rfl ⟨rfl, below_set4 (below_drewN HB0.out _) (by omega) _ _ _ _⟩
end Go.Proofs.YtaebjponihocaabDoor
