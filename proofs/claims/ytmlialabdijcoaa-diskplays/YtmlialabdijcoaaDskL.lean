/- A disk beside blocks that are not its own. -/
import Derived.Test.YtmlialabdijcoaaDskK
namespace Go.Proofs.Ytmlialabdijcoaa
open Go Go.RowKit
set_option linter.unusedSimpArgs false
set_option linter.unusedVariables false
set_option maxRecDepth 100000

/-- The blocks of X are as they were. -/
structure Kept (X : Nat → Prop) (w w' : World) : Prop where
  os : w'.os = w.os
  tape : w'.tape = w.tape
  output : w'.output = w.output
  size : w.heap.size ≤ w'.heap.size
  same : ∀ b, X b → w'.heap[b]? = w.heap[b]?
theorem Kept.refl (X : Nat → Prop) (w : World) : Kept X w w := ⟨rfl, rfl, rfl, Nat.le_refl _, fun _ _ => rfl⟩
theorem Kept.trans {X : Nat → Prop} {x y z : World} (h : Kept X x y) (k : Kept X y z) : Kept X x z :=
  ⟨k.os.trans h.os, k.tape.trans h.tape, k.output.trans h.output, Nat.le_trans h.size k.size, fun b hb => (k.same b hb).trans (h.same b hb)⟩
theorem Kept.below {X : Nat → Prop} {x y : World} {B : Nat} (h : Kept X x y) (hX : ∀ b, b < B → X b) : Below B x y := ⟨h.os, h.tape, h.output, h.size, fun b hb => h.same b (hX b hb)⟩
theorem Kept.range {X : Nat → Prop} {x y : World} (h : Kept X x y) {b o : Nat} {cs : List Value} (hb : X b) (hr : x.rangeAt b o cs) : y.rangeAt b o cs := fun j q hq => (World.cell?_of_block (w := x) (w' := y) (a := ⟨b, o + j, none⟩) (h.same b hb)).trans (hr j q hq)
/-- The disk at g, none of whose blocks is one of X; these are as in w0. -/
def Ax (X : Nat → Prop) (w0 w : World) (g : Nat) (s : Dk) : Prop := ∃ F, PD F w g s ∧ (∀ b, X b → ¬ F b ∧ b < w.heap.size) ∧ Kept X w0 w
variable {X : Nat → Prop} {w0 w w' : World} {g : Nat} {s s' : Dk}
theorem Aft.ax {F : Nat → Prop} (h : Aft F w w' g s') (hX : ∀ b, X b → ¬ F b ∧ b < w.heap.size) (hk : Kept X w0 w) : Ax X w0 w' g s' := by
  obtain ⟨F', h1, h2, h3⟩ := h
  refine ⟨F', h1, fun b hb => ⟨fun hf => ?_, Nat.lt_of_lt_of_le (hX b hb).2 h2.size⟩, hk.trans ⟨h2.os, h2.tape, h2.output, h2.size, fun b hb => h2.other b (hX b hb).2 (hX b hb).1⟩⟩
  rcases h3 b hf with h | h
  · exact (hX b hb).1 h
  · have := (hX b hb).2; omega
theorem Ax.kept (h : Ax X w0 w g s) : Kept X w0 w := by obtain ⟨F, h1, h2, h3⟩ := h; exact h3
theorem Ax.below (h : Ax X w0 w g s) (hb : Below w.heap.size w w') : Ax X w0 w' g s := by
  obtain ⟨F, h1, h2, h3⟩ := h
  exact ⟨F, h1.below hb, fun b hx => ⟨(h2 b hx).1, Nat.lt_of_lt_of_le (h2 b hx).2 hb.size⟩, h3.trans ⟨hb.os, hb.tape, hb.output, hb.size, fun b hx => hb.block b (h2 b hx).2⟩⟩
/-- New blocks are none of the disk's. -/
theorem Ax.more (h : Ax X w0 w g s) (hb : Below w.heap.size w w') : Ax (fun b => X b ∨ (w.heap.size ≤ b ∧ b < w'.heap.size)) w' w' g s := by
  obtain ⟨F, ⟨gs, wv, fd, fz, h1⟩, h2, h3⟩ := h
  refine ⟨F, ⟨gs, wv, fd, fz, h1.keep hb.size (fun b hb' => hb.block b (h1.Flt b hb'))⟩, fun b hx => ?_, Kept.refl _ _⟩
  rcases hx with hx | hx
  · exact ⟨(h2 b hx).1, Nat.lt_of_lt_of_le (h2 b hx).2 hb.size⟩
  · exact ⟨fun hf => by have := h1.Flt b hf; omega, hx.2⟩
theorem NewP.ax {n : Nat} (h : NewP w w' g n) (hk : Kept X w0 w) (hX : ∀ b, X b → b < w.heap.size) : Ax X w0 w' g (dk0 n) := by
  obtain ⟨F, h1, h2, h3⟩ := h
  exact ⟨F, h1, fun b hb => ⟨fun hf => by have h4 := h3 b hf; have h5 := hX b hb; omega, Nat.lt_of_lt_of_le (hX b hb) h2.size⟩, hk.trans ⟨h2.os, h2.tape, h2.output, h2.size, fun b hb => h2.block b (hX b hb)⟩⟩
theorem Ax.write (h : Ax X w0 w g s) (i : Int) (x : List Int) (hx : x.length = 64) (hN : (s.wt.length + 1) * 72 ≤ 216000000000000) :
    Calls Try.prog 12 #[.pointer (some ⟨g, 0, none⟩), .int .i64 i, .agg (bv x).toArray] w fun e w' => e = .returned (.int .i64 (wrE s i)) ∧ Ax X w0 w' g (wrS s i x) := by
  obtain ⟨F, h1, h2, h3⟩ := h
  exact (write_any h1 i x hx hN).mono fun e w' ⟨he, ha⟩ => ⟨he, ha.ax h2 h3⟩
theorem Ax.read (h : Ax X w0 w g s) (i : Int) :
    Calls Try.prog 17 #[.pointer (some ⟨g, 0, none⟩), .int .i64 i] w fun e w' => e = .returned (.tuple #[.agg (bv (rdV s i)).toArray, .int .i64 (rdE s i)]) ∧ Ax X w0 w' g s := by
  obtain ⟨F, h1, h2, h3⟩ := id h
  exact (read_any h1 i).mono fun e w' ⟨he, hb⟩ => ⟨he, h.below hb⟩
theorem Ax.sync (h : Ax X w0 w g s) : Calls Try.prog 15 #[.pointer (some ⟨g, 0, none⟩)] w fun e w' => e = .returned (.int .i64 (syE s)) ∧ Ax X w0 w' g (syS s) := by
  obtain ⟨F, h1, h2, h3⟩ := h
  exact (sync_any h1).mono fun e w' ⟨he, ha⟩ => ⟨he, ha.ax h2 h3⟩
theorem Ax.setFull (h : Ax X w0 w g s) (b : Bool) : Calls Try.prog 19 #[.pointer (some ⟨g, 0, none⟩), .bool b] w fun e w' => e = .returned (.tuple #[]) ∧ Ax X w0 w' g { s with fu := b } := by
  obtain ⟨F, h1, h2, h3⟩ := h
  exact (setFull_any h1 b).mono fun e w' ⟨he, ha⟩ => ⟨he, ha.ax h2 h3⟩
theorem Ax.setFuse (h : Ax X w0 w g s) (n : Int) (hn : n ≤ 9223372036854775807) : Calls Try.prog 21 #[.pointer (some ⟨g, 0, none⟩), .int .i64 n] w fun e w' => e = .returned (.tuple #[]) ∧ Ax X w0 w' g { s with fz := fuseOf n } := by
  obtain ⟨F, h1, h2, h3⟩ := h
  exact (setFuse_any h1 n hn).mono fun e w' ⟨he, ha⟩ => ⟨he, ha.ax h2 h3⟩
theorem Ax.restart (h : Ax X w0 w g s) (cs : List Int) (cv : Value) (hc : Sl w cv cs) (hF : ∀ b, cv.ownBlock = some b → X b) (hcl : cs.length ≤ 140737488355328) :
    Calls Try.prog 23 #[.pointer (some ⟨g, 0, none⟩), cv] w fun e w' => e = .returned (.tuple #[]) ∧ Ax X w0 w' g (rsS s cs) := by
  obtain ⟨F, h1, h2, h3⟩ := h
  exact (restart_any h1 cs cv hc (fun b hb _ => (h2 b (hF b hb)).1) hcl).mono fun e w' ⟨he, ha⟩ => ⟨he, ha.ax h2 h3⟩
theorem Ax.waiting (h : Ax X w0 w g s) : Calls Try.prog 25 #[.pointer (some ⟨g, 0, none⟩)] w fun e w' => e = .returned (.int .i64 (s.wt.length : Int)) ∧ w' = w := by
  obtain ⟨F, h1, h2, h3⟩ := h
  exact waiting_any h1
theorem Ax.down (h : Ax X w0 w g s) : Calls Try.prog 27 #[.pointer (some ⟨g, 0, none⟩)] w fun e w' => e = .returned (.bool s.dn) ∧ w' = w := by
  obtain ⟨F, h1, h2, h3⟩ := h
  exact down_any h1
theorem Ax.lt (h : Ax X w0 w g s) {b : Nat} (hb : X b) : b < w.heap.size := by
  obtain ⟨F, h1, h2, h3⟩ := h
  exact (h2 b hb).2
theorem range_below {w w' : World} {b o : Nat} {cs : List Value} (h : w.rangeAt b o cs) (hb : b < w.heap.size) (hB : Below w.heap.size w w') : w'.rangeAt b o cs := fun j q hq => (hB.cell (p := ⟨b, o + j, none⟩) hb).trans (h j q hq)
/-- A row laid beside the disk. -/
theorem Ax.row {W : World} {x : List Int} (h : Ax X w0 w g s) (hx : x.length = 64) (eW : (w.alloc (.cells (bv z64).toArray 35)).setCells w.heap.size 0 (bv x) = W) : Hid (Ax (fun b => X b ∨ (w.heap.size ≤ b ∧ b < W.heap.size)) W W g s ∧ W.rangeAt w.heap.size 0 (bv x) ∧ w.heap.size < W.heap.size ∧ Below w.heap.size w W) := by
  have L := (laid hx eW).out
  exact ⟨h.more L.1, L.2.1, by rw [L.2.2]; omega, L.1⟩
end Go.Proofs.Ytmlialabdijcoaa
