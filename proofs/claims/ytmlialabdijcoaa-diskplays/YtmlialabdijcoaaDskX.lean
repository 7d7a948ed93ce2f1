/- Within one item of a script. -/
import Derived.Test.YtmlialabdijcoaaDskU
namespace Go.Proofs.Ytmlialabdijcoaa
open Go Go.RowKit
set_option linter.unusedSimpArgs false
set_option linter.unusedVariables false
set_option maxRecDepth 100000

structure RX2 (w W : World) (X : Nat → Prop) (b10 b13 b14 : Nat) (o : Itm) (x y : List Int) : Prop where
  lo : ∀ b, b < w.heap.size → X b
  x10 : X b10
  x13 : X b13
  x14 : X b14
  ne1 : b13 ≠ b14
  ne2 : b10 ≠ b13
  ne3 : b10 ≠ b14
  h13 : w.heap.size ≤ b13
  h14 : w.heap.size ≤ b14
  bel : Below w.heap.size w W
  itm : W.rangeAt b10 0 o.cells
  r13 : Rw W b13 x
  r14 : Rw W b14 y
def RS (w W : World) (gd gw : Nat) (s t : Dk) (o : Itm) (b10 b13 b14 : Nat) (x y : List Int) : Prop := ∃ X W0, P2 X W0 W gd gw s t ∧ RX2 w W X b10 b13 b14 o x y
variable {w W W' : World} {gd gw : Nat} {s t s' t' : Dk} {o : Itm} {b10 b13 b14 : Nat} {x y : List Int}
theorem RX2.keep {X : Nat → Prop} (h : RX2 w W X b10 b13 b14 o x y) (k : Kept X W W') : RX2 w W' X b10 b13 b14 o x y :=
  ⟨h.lo, h.x10, h.x13, h.x14, h.ne1, h.ne2, h.ne3, h.h13, h.h14, h.bel.trans ⟨k.os, k.tape, k.output, k.size, fun b hb => k.same b (h.lo b hb)⟩, k.range h.x10 h.itm, h.r13.keep (k.same _ h.x13), h.r14.keep (k.same _ h.x14)⟩
theorem RS.call (h : RS w W gd gw s t o b10 b13 b14 x y) {f : FuncId} {args : Array Value} {r : Value} (C : ∀ X W0, P2 X W0 W gd gw s t → (∀ b, b < w.heap.size → X b) → Calls Try.prog f args W fun e W' => e = .returned r ∧ P2 X W0 W' gd gw s' t') :
    Calls Try.prog f args W fun e W' => e = .returned r ∧ RS w W' gd gw s' t' o b10 b13 b14 x y := by
  obtain ⟨X, W0, h1, h2⟩ := h
  have k1 := h1.kept
  have h1' : P2 X W W gd gw s t := by
    obtain ⟨F, G, a1, a2, a3, a4, a5⟩ := h1
    exact ⟨F, G, a1, a2, a3, a4, Kept.refl _ _⟩
  exact (C X W h1' h2.lo).mono fun e W' ⟨he, h3⟩ => ⟨he, X, W, h3, h2.keep h3.kept⟩
theorem RS.below (h : RS w W gd gw s t o b10 b13 b14 x y) (hb : Below W.heap.size W W') : RS w W' gd gw s t o b10 b13 b14 x y := by
  obtain ⟨X, W0, h1, h2⟩ := h
  exact ⟨X, W0, h1.below hb, h2.keep ⟨hb.os, hb.tape, hb.output, hb.size, fun b hx => hb.block b (h1.lt hx)⟩⟩
theorem RS.row13 (h : RS w W gd gw s t o b10 b13 b14 x y) : Rw W b13 x := by obtain ⟨X, W0, h1, h2⟩ := h; exact h2.r13
theorem RS.row14 (h : RS w W gd gw s t o b10 b13 b14 x y) : Rw W b14 y := by obtain ⟨X, W0, h1, h2⟩ := h; exact h2.r14
theorem RS.bel (h : RS w W gd gw s t o b10 b13 b14 x y) : Below w.heap.size w W := by obtain ⟨X, W0, h1, h2⟩ := h; exact h2.bel
theorem RS.cells (h : RS w W gd gw s t o b10 b13 b14 x y) : W.cell? ⟨b10, 0, none⟩ = some (.int .i64 o.kind) ∧ W.cell? ⟨b10, 1, none⟩ = some (.int .i64 o.n) ∧ W.cell? ⟨b10, 2, none⟩ = some (.int .u8 o.b) ∧ W.cell? ⟨b10, 3, none⟩ = some o.cv := by
  obtain ⟨X, W0, h1, h2⟩ := h
  exact ⟨h2.itm 0 _ rfl, h2.itm 1 _ rfl, h2.itm 2 _ rfl, h2.itm 3 _ rfl⟩
theorem RS.put13 (h : RS w W gd gw s t o b10 b13 b14 x y) {z : List Int} (hz : z.length = 64) : RS w (W.setCells b13 0 (bv z)) gd gw s t o b10 b13 b14 z y := by
  obtain ⟨X, W0, h1, h2⟩ := h
  have hne : ∀ c, c ≠ b13 → (W.setCells b13 0 (bv z)).heap[c]? = W.heap[c]? := fun c hc => heap_past b13 c hc _ _ _
  refine ⟨X, _, h1.poke h2.x13, ⟨h2.lo, h2.x10, h2.x13, h2.x14, h2.ne1, h2.ne2, h2.ne3, h2.h13, h2.h14, below_setCells b13 h2.h13 _ _ _ h2.bel, fun j q hq => (World.cell?_of_block (w := W) (a := ⟨b10, 0 + j, none⟩) (hne b10 h2.ne2)).trans (h2.itm j q hq), ⟨hz, World.there_setCells h2.r13.there _ _ _, World.rangeAt_setCells_same _ _ _ _ (by rw [bv_length, hz]; exact h2.r13.there)⟩, h2.r14.keep (hne b14 (Ne.symm h2.ne1))⟩⟩
theorem RS.put14 (h : RS w W gd gw s t o b10 b13 b14 x y) {z : List Int} (hz : z.length = 64) : RS w (W.setCells b14 0 (bv z)) gd gw s t o b10 b13 b14 x z := by
  obtain ⟨X, W0, h1, h2⟩ := h
  have hne : ∀ c, c ≠ b14 → (W.setCells b14 0 (bv z)).heap[c]? = W.heap[c]? := fun c hc => heap_past b14 c hc _ _ _
  refine ⟨X, _, h1.poke h2.x14, ⟨h2.lo, h2.x10, h2.x13, h2.x14, h2.ne1, h2.ne2, h2.ne3, h2.h13, h2.h14, below_setCells b14 h2.h14 _ _ _ h2.bel, fun j q hq => (World.cell?_of_block (w := W) (a := ⟨b10, 0 + j, none⟩) (hne b10 h2.ne3)).trans (h2.itm j q hq), h2.r13.keep (hne b13 h2.ne1), ⟨hz, World.there_setCells h2.r14.there _ _ _, World.rangeAt_setCells_same _ _ _ _ (by rw [bv_length, hz]; exact h2.r14.there)⟩⟩⟩
theorem RS.p2 (h : RS w W gd gw s t o b10 b13 b14 x y) : P2 (fun b => b < w.heap.size) w W gd gw s t := by
  obtain ⟨X, W0, ⟨F, G, a1, a2, a3, a4, a5⟩, h2⟩ := h
  exact ⟨F, G, a1, a2, a3, fun b hb => a4 b (h2.lo b hb), ⟨h2.bel.os, h2.bel.tape, h2.bel.output, h2.bel.size, fun b hb => h2.bel.block b hb⟩⟩
theorem RS.rdl (h : RS w W gd gw s t o b10 b13 b14 x y) (i : Int) : (rdV s i).length = 64 := h.p2.rdl i
def z4 : List Value := [.int .i64 0, .int .i64 0, .int .u8 0, .slice none 0 0]
theorem zero_itm (w : World) : (zeroValue 34).run Try.prog w = .ok (.agg z4.toArray) w := by kernel_rfl
theorem size_itm : (Try.prog.info? 34).map (·.size) = some 4 := by kernel_rfl
theorem itm_there (w : World) : (w.alloc (.cells z4.toArray 34)).there w.heap.size 0 4 := there_of_row' (cs := z4.toArray) (t := 34) (by rw [World.alloc]; simp only [Array.getElem?_push, if_true]) 0 4 (by rw [List.size_toArray]; decide)
theorem itm_one {w : World} {o : Itm} (h : o.Ok w) : o.cells.toArray.all (·.oneCell') = true := all_oneCell_toArray (fun u hu => by
  unfold Itm.cells at hu
  simp only [List.mem_cons, List.not_mem_nil, or_false] at hu
  obtain ⟨ad, cap, hv, -⟩ := h.sl
  rcases hu with rfl | rfl | rfl | rfl
  · rfl
  · rfl
  · rfl
  · rw [hv]; rfl)
abbrev zrow : Obj := .cells (bv z64).toArray 35
/-- The item is copied, and two rows are laid. -/
theorem RS.start {wr W1 : World} (h : P2 (fun b => b < w.heap.size) w wr gd gw s t) (eW : (wr.alloc (.cells z4.toArray 34)).setCells wr.heap.size 0 o.cells = W1) :
    RS w ((W1.alloc zrow).alloc zrow) gd gw s t o wr.heap.size W1.heap.size (W1.heap.size + 1) z64 z64 := by
  have hb : Below w.heap.size w wr := h.kept.below (fun _ h => h)
  have ht := itm_there wr
  have b1 : Below wr.heap.size wr W1 := by rw [← eW]; exact below_setCells _ (Nat.le_refl _) _ _ _ ((Below.refl _ _).alloc (Nat.le_refl _) _)
  have z1 : W1.heap.size = wr.heap.size + 1 := by rw [← eW, size_setCells]; simp
  have r1 : W1.rangeAt wr.heap.size 0 o.cells := by rw [← eW]; exact World.rangeAt_setCells_same _ _ _ _ ht
  obtain ⟨b2, r2, r3⟩ := (two_rows W1).out
  have z2 : ((W1.alloc zrow).alloc zrow).heap.size = W1.heap.size + 2 := by simp [zrow]
  have b3 : Below wr.heap.size wr ((W1.alloc zrow).alloc zrow) := b1.trans (b2.mono (by omega))
  refine ⟨_, _, h.more b3, ⟨fun b hb' => .inl hb', .inr ⟨by omega, by omega⟩, .inr ⟨by omega, by omega⟩, .inr ⟨by omega, by omega⟩, by omega, by omega, by omega, by have := hb.size; omega, by have := hb.size; omega, hb.trans (b3.mono hb.size), range_below r1 (by omega) b2, ⟨z64_length, r2.there z64_length, r2.range⟩, ⟨z64_length, r3.there z64_length, r3.range⟩⟩⟩
/-- The item's cells behind the two rows. -/
theorem itm_cells {wr W1 : World} {o : Itm} (eW : (wr.alloc (.cells z4.toArray 34)).setCells wr.heap.size 0 o.cells = W1) : ((W1.alloc zrow).alloc zrow).cell? ⟨wr.heap.size, 0, none⟩ = some (.int .i64 o.kind) ∧ ((W1.alloc zrow).alloc zrow).cell? ⟨wr.heap.size, 1, none⟩ = some (.int .i64 o.n) ∧ ((W1.alloc zrow).alloc zrow).cell? ⟨wr.heap.size, 2, none⟩ = some (.int .u8 o.b) ∧ ((W1.alloc zrow).alloc zrow).cell? ⟨wr.heap.size, 3, none⟩ = some o.cv := by
  have r1 : W1.rangeAt wr.heap.size 0 o.cells := by rw [← eW]; exact World.rangeAt_setCells_same _ _ _ _ (itm_there wr)
  have z1 : W1.heap.size = wr.heap.size + 1 := by rw [← eW, size_setCells]; simp
  have r := range_below r1 (by omega) (two_rows W1).out.1
  exact ⟨r 0 _ rfl, r 1 _ rfl, r 2 _ rfl, r 3 _ rfl⟩
end Go.Proofs.Ytmlialabdijcoaa
