/- A disk beside rows of 64 bytes of the call's own. -/
import Derived.Test.YtmlialabdijcoaaDskM
namespace Go.Proofs.Ytmlialabdijcoaa
open Go Go.RowKit
set_option linter.unusedSimpArgs false
set_option linter.unusedVariables false
set_option maxRecDepth 100000

/-- A row of 64 bytes at b. -/
structure Rw (W : World) (b : Nat) (x : List Int) : Prop where
  len : x.length = 64
  there : W.there b 0 64
  range : W.rangeAt b 0 (bv x)
theorem Rw.keep {W W' : World} {b : Nat} {x : List Int} (h : Rw W b x) (k : W'.heap[b]? = W.heap[b]?) : Rw W' b x :=
  ⟨h.len, fun j hj => by
    obtain ⟨h1, h2⟩ := h.there j hj
    constructor
    · unfold World.cell? at h1 ⊢; rw [k]; exact h1
    · unfold World.frozen? at h2 ⊢; rw [k]; exact h2, fun j q hq => (World.cell?_of_block (w := W) (w' := W') (a := ⟨b, 0 + j, none⟩) k).trans (h.range j q hq)⟩
theorem Rw.cell {W : World} {b : Nat} {x : List Int} (h : Rw W b x) {k : Nat} (hk : k < 64) : W.cell? ⟨b, k, none⟩ = some (.int .u8 (gi x k)) := by
  have := h.range k _ (bv_get x (by rw [h.len]; exact hk))
  rwa [Nat.zero_add] at this
/-- The disk at g, beside these rows; all that lies ahead of w is as it was. -/
def Fx (w W : World) (g : Nat) (s : Dk) (R : List (Nat × List Int)) : Prop := ∃ F, PD F W g s ∧ (∀ b, b < w.heap.size → ¬ F b) ∧ Below w.heap.size w W ∧ ∀ p ∈ R, ¬ F p.1 ∧ w.heap.size ≤ p.1 ∧ p.1 < W.heap.size ∧ Rw W p.1 p.2
variable {w W W' : World} {g : Nat} {s s' : Dk} {R : List (Nat × List Int)}
theorem Fx.ax (h : Fx w W g s R) : Ax (fun b => b < w.heap.size) w W g s := by
  obtain ⟨F, h1, h2, h3, h4⟩ := h
  exact ⟨F, h1, fun b hb => ⟨h2 b hb, Nat.lt_of_lt_of_le hb h3.size⟩, ⟨h3.os, h3.tape, h3.output, h3.size, fun b hb => h3.block b hb⟩⟩
theorem Ax.fx (h : Ax (fun b => b < w.heap.size) w W g s) : Fx w W g s [] := by
  obtain ⟨F, h1, h2, h3⟩ := h
  exact ⟨F, h1, fun b hb => (h2 b hb).1, ⟨h3.os, h3.tape, h3.output, h3.size, fun b hb => h3.same b hb⟩, fun p hp => by cases hp⟩
theorem Fx.below (h : Fx w W g s R) (hb : Below W.heap.size W W') : Fx w W' g s R := by
  obtain ⟨F, h1, h2, h3, h4⟩ := h
  exact ⟨F, h1.below hb, h2, h3.trans (hb.mono h3.size), fun p hp => ⟨(h4 p hp).1, (h4 p hp).2.1, Nat.lt_of_lt_of_le (h4 p hp).2.2.1 hb.size, (h4 p hp).2.2.2.keep (hb.block _ (h4 p hp).2.2.1)⟩⟩
theorem Fx.drop {p : Nat × List Int} (h : Fx w W g s (p :: R)) : Fx w W g s R := by
  obtain ⟨F, h1, h2, h3, h4⟩ := h
  exact ⟨F, h1, h2, h3, fun q hq => h4 q (by simp [hq])⟩
theorem Fx.get {b : Nat} {x : List Int} (h : Fx w W g s R) (hp : (b, x) ∈ R) : Rw W b x := by
  obtain ⟨F, h1, h2, h3, h4⟩ := h
  exact (h4 _ hp).2.2.2
theorem Fx.bel (h : Fx w W g s R) : Below w.heap.size w W := by
  obtain ⟨F, h1, h2, h3, h4⟩ := h
  exact h3
theorem Fx.read (h : Fx w W g s R) (i : Int) :
    Calls Try.prog 17 #[.pointer (some ⟨g, 0, none⟩), .int .i64 i] W fun e W' => e = .returned (.tuple #[.agg (bv (rdV s i)).toArray, .int .i64 (rdE s i)]) ∧ Fx w W' g s R := by
  obtain ⟨F, h1, h2, h3, h4⟩ := id h
  exact (read_any h1 i).mono fun e w' ⟨he, hb⟩ => ⟨he, h.below hb⟩
/-- A row more. -/
theorem Fx.row {x : List Int} (h : Fx w W g s R) (hx : x.length = 64) (eW : (W.alloc (.cells (bv z64).toArray 35)).setCells W.heap.size 0 (bv x) = W') : Fx w W' g s ((W.heap.size, x) :: R) := by
  have L := (laid hx eW).out
  have S0 := (sec_start (w := W) rfl).out
  have ht : W'.there W.heap.size 0 64 := by rw [← eW]; exact World.there_setCells S0.1 _ _ _
  obtain ⟨F, ⟨gs, wv, fd, fz, h1⟩, h2, h3, h4⟩ := h
  refine ⟨F, ⟨gs, wv, fd, fz, h1.keep L.1.size (fun b hb' => L.1.block b (h1.Flt b hb'))⟩, h2, h3.trans (L.1.mono h3.size), fun p hp => ?_⟩
  rcases List.mem_cons.1 hp with rfl | hp
  · exact ⟨fun hf => by have := h1.Flt _ hf; simp at this, h3.size, by rw [L.2.2]; exact Nat.lt_succ_self _, ⟨hx, ht, L.2.1⟩⟩
  · exact ⟨(h4 p hp).1, (h4 p hp).2.1, Nat.lt_of_lt_of_le (h4 p hp).2.2.1 L.1.size, (h4 p hp).2.2.2.keep (L.1.block _ (h4 p hp).2.2.1)⟩
/-- The first row written over. -/
theorem Fx.put {b : Nat} {x y : List Int} (h : Fx w W g s ((b, y) :: R)) (hx : x.length = 64) (hd : ∀ p ∈ R, p.1 ≠ b) (eW : W.setCells b 0 (bv x) = W') : Fx w W' g s ((b, x) :: R) := by
  obtain ⟨F, h1, h2, h3, h4⟩ := h
  have hb := h4 (b, y) (by simp)
  subst eW
  have hne : ∀ c, c ≠ b → (W.setCells b 0 (bv x)).heap[c]? = W.heap[c]? := fun c hc => heap_past b c hc _ _ _
  refine ⟨F, h1.keep (by rw [size_setCells]; exact Nat.le_refl _) (fun c hc => hne c (fun e => hb.1 (by rw [← e]; exact hc))), h2, below_setCells b hb.2.1 _ _ _ h3, fun p hp => ?_⟩
  rcases List.mem_cons.1 hp with rfl | hp
  · exact ⟨hb.1, hb.2.1, by rw [size_setCells]; exact hb.2.2.1, ⟨hx, World.there_setCells hb.2.2.2.there _ _ _, World.rangeAt_setCells_same _ _ _ _ (by rw [bv_length, hx]; exact hb.2.2.2.there)⟩⟩
  · have hq := h4 p (by simp [hp])
    exact ⟨hq.1, hq.2.1, by rw [size_setCells]; exact hq.2.2.1, hq.2.2.2.keep (hne p.1 (hd p hp))⟩
theorem Rw.ths {W : World} {b : Nat} {x y : List Int} (h : Rw W b x) (hy : y.length = 64) : W.there b 0 (bv y).toArray.size := there_sec hy h.there
end Go.Proofs.Ytmlialabdijcoaa
