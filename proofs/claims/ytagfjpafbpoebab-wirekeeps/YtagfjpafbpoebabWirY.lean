/- Rows of slices that are written over: what stays beside them. -/
import Derived.Test.YtagfjpafbpoebabWirM
namespace Go.Proofs.Ytagfjpafbpoebab
open Go Go.RowKit
set_option linter.unusedSimpArgs false
set_option linter.unusedVariables false

/-- The row v of slices us, whose blocks lie from Bx to By or from Bz on: all other blocks are as in wz; the members from i on are rows of bytes, each in a block of its own. -/
structure XR (Bx By Bz : Nat) (wz w : World) (v : Value) (us : List Value) (i : Nat) : Prop where
  row : w.ownsRow Bx 34 1 v us.length us
  keep : ∀ k, k < Bz → (k < Bx ∨ By ≤ k) → w.heap[k]? = wz.heap[k]?
  rest : w.os = wz.os ∧ w.tape = wz.tape ∧ w.output = wz.output
  size : Bz ≤ w.heap.size
  vblk : ∀ b, v.ownBlock = some b → Bx ≤ b ∧ b < By
  mem : ∀ (j : Nat) (u : Value), i ≤ j → us[j]? = some u → ∃ zs, Ow Bx w u zs ∧ zs.length ≤ 1048576
  inX : ∀ (j : Nat) (u : Value), i ≤ j → us[j]? = some u → ∀ b, u.ownBlock = some b → (b < By ∨ Bz ≤ b) ∧ v.ownBlock ≠ some b
  dist : ∀ (j k : Nat) (u u' : Value), i ≤ j → j < k → us[j]? = some u → us[k]? = some u' → ∀ b, u'.ownBlock = some b → u.ownBlock ≠ some b
/-- The member i, apart from the others. -/
structure XM (Bx By Bz : Nat) (w : World) (v : Value) (us : List Value) (i : Nat) (u : Value) (zs : List Int) : Prop where
  at' : us[i]? = some u
  own : Ow Bx w u zs
  inX : ∀ b, u.ownBlock = some b → (b < By ∨ Bz ≤ b) ∧ v.ownBlock ≠ some b ∧ ∀ (j : Nat) (u' : Value), i < j → us[j]? = some u' → u'.ownBlock ≠ some b
variable {Bx By Bz : Nat} {wz w : World} {v : Value} {us : List Value} {i : Nat}
theorem XR.more (h : XR Bx By Bz wz w v us i) : XR Bx By Bz wz w v us (i + 1) :=
  ⟨h.row, h.keep, h.rest, h.size, h.vblk, fun j u hj => h.mem j u (by omega), fun j u hj => h.inX j u (by omega), fun j k u u' hj => h.dist j k u u' (by omega)⟩
theorem XR.pick (h : XR Bx By Bz wz w v us i) {u : Value} (hu : us[i]? = some u) : ∃ zs, zs.length ≤ 1048576 ∧ XM Bx By Bz w v us i u zs := by
  obtain ⟨zs, h1, h2⟩ := h.mem i u (Nat.le_refl _) hu
  refine ⟨zs, h2, hu, h1, fun b hb => ⟨(h.inX i u (Nat.le_refl _) hu b hb).1, (h.inX i u (Nat.le_refl _) hu b hb).2, fun j u' hj hu' e => ?_⟩⟩
  exact h.dist i j u u' (Nat.le_refl _) hj hu hu' b e hb
/-- The member's block goes on: the others stay. -/
theorem XR.grow (h : XR Bx By Bz wz w v us (i + 1)) {u : Value} {zs : List Int} (m : XM Bx By Bz w v us i u zs) {w' : World} (hg : w.grownBy w' u.ownBlock) : XR Bx By Bz wz w' v us (i + 1) := by
  have hlt : ∀ b, v.ownBlock = some b → b < w.heap.size := by
    intro b hb
    rcases h.row.2 with ⟨rfl, _⟩ | ⟨g, cap, cur, rfl, _, hh, _⟩
    · simp [Value.ownBlock] at hb
    · simp [Value.ownBlock] at hb; subst hb; exact (Array.getElem?_eq_some_iff.1 hh).1
  have hs := hg.size
  refine ⟨?_, fun k hk hx => ?_, ⟨hg.os.trans h.rest.1, hg.tape.trans h.rest.2.1, hg.output.trans h.rest.2.2⟩, Nat.le_trans h.size hs, h.vblk, fun j y hj hy => ?_, h.inX, h.dist⟩
  · refine ⟨h.row.1, ?_⟩
    rcases h.row.2 with h1 | ⟨g, cap, cur, rfl, hb, hh, rest⟩
    · exact .inl h1
    · refine .inr ⟨g, cap, cur, rfl, hb, ?_, rest⟩
      rw [hg.block g (hlt g rfl) (fun e => (m.inX g e.symm).2.1 rfl)]; exact hh
  · rw [hg.block k (by have := h.size; omega) (fun e => ?_)]
    · exact h.keep k hk hx
    · have h1 := (m.inX k e.symm).1
      have h2 := m.own.blk k e.symm
      omega
  · obtain ⟨zs', h1, h2⟩ := h.mem j y hj hy
    exact ⟨zs', h1.keep (fun b hb => hg.block b (h1.lt b hb) (fun e => (m.inX b e.symm).2.2 j y (by omega) hy hb)), h2⟩
theorem XR.alloc (h : XR Bx By Bz wz w v us i) (o : Obj) : XR Bx By Bz wz (w.alloc o) v us i := by
  have hg := World.grownBy_alloc w o none
  have hb : Below w.heap.size w (w.alloc o) := (Below.refl _ w).alloc (Nat.le_refl _) o
  refine ⟨h.row.alloc o, fun k hk hx => ?_, h.rest, Nat.le_trans h.size hg.size, h.vblk, fun j y hj hy => ?_, h.inX, h.dist⟩
  · rw [hb.block k (by have := h.size; omega)]; exact h.keep k hk hx
  · obtain ⟨zs', h1, h2⟩ := h.mem j y hj hy
    exact ⟨zs', h1.alloc o, h2⟩
theorem XM.alloc {u : Value} {zs : List Int} (m : XM Bx By Bz w v us i u zs) (o : Obj) : XM Bx By Bz (w.alloc o) v us i u zs := ⟨m.at', m.own.alloc o, m.inX⟩
/-- The row lies in a block. -/
theorem XR.lies (h : XR Bx By Bz wz w v us i) (hn : 0 < us.length) : ∃ g cap, v = .slice (some ⟨g, 0, none⟩) us.length cap ∧ (∀ (j : Nat) (u : Value), us[j]? = some u → w.cell? ⟨g, j, none⟩ = some u ∧ w.frozen? ⟨g, j, none⟩ = false) := by
  rcases h.row.2 with ⟨_, h0⟩ | ⟨g, cap, cur, hv, _, hh, hc, _, hs, ht⟩
  · omega
  · refine ⟨g, cap, hv, fun j u hu => ?_⟩
    have hj := (List.getElem?_eq_some_iff.1 hu).1
    have e : (cur.toList.take (us.length * 1))[j]? = some u := by rw [ht]; exact hu
    rw [List.getElem?_take, if_pos (by omega), Array.getElem?_toList] at e
    exact ⟨by simp only [World.cell?, hh, Option.isSome_none, Bool.false_eq_true, if_false, e], by simp [World.frozen?, hh]⟩
/-- A new value into the row's place i. -/
theorem XR.put {g cap n : Nat} (h : XR Bx By Bz wz w (.slice (some ⟨g, 0, none⟩) n cap) us (i + 1)) {u : Value} {zs : List Int} (hi : i < us.length) (hu : Ow Bx w u zs)
    (hx : ∀ b, u.ownBlock = some b → (b < By ∨ Bz ≤ b) ∧ g ≠ b ∧ ∀ (j : Nat) (u' : Value), i < j → us[j]? = some u' → u'.ownBlock ≠ some b) :
    XR Bx By Bz wz (w.setCell ⟨g, i, none⟩ u) (.slice (some ⟨g, 0, none⟩) n cap) (us.set i u) (i + 1) ∧ XM Bx By Bz (w.setCell ⟨g, i, none⟩ u) (.slice (some ⟨g, 0, none⟩) n cap) (us.set i u) i u zs := by
  have hn : n = us.length := by
    rcases h.row.2 with ⟨h', _⟩ | ⟨g', cap', cur, h', _⟩
    · simp at h'
    · simp at h'; exact h'.2.1
  subst hn
  obtain ⟨r1, r2⟩ := World.ownsRow.stored h.row i u
  have hset : ∀ (j : Nat) (y : Value), i < j → (us.set i u)[j]? = some y → us[j]? = some y := fun j y hj hy => by rw [List.getElem?_set_ne (by omega)] at hy; exact hy
  have hvb := h.vblk g rfl
  have other : ∀ k, k < w.heap.size → k ≠ g → (w.setCell ⟨g, i, none⟩ u).heap[k]? = w.heap[k]? := fun k hk hne => r2.block k hk (fun e => hne (Option.some.inj e))
  refine ⟨⟨by rw [List.length_set]; exact r1, fun k hk hx' => ?_, ⟨r2.os.trans h.rest.1, r2.tape.trans h.rest.2.1, r2.output.trans h.rest.2.2⟩, Nat.le_trans h.size r2.size, h.vblk, fun j y hj hy => ?_, fun j y hj hy => h.inX j y hj (hset j y (by omega) hy), fun j k y y' hj hjk hy hy' => h.dist j k y y' hj hjk (hset j y (by omega) hy) (hset k y' (by omega) hy')⟩, ⟨by simp [hi], hu.keep (fun b hb => other b (hu.lt b hb) (fun e => (hx b hb).2.1 e.symm)), fun b hb => ⟨(hx b hb).1, fun e => (hx b hb).2.1 (Option.some.inj e), fun j y hj hy => (hx b hb).2.2 j y hj (hset j y hj hy)⟩⟩⟩
  · rw [other k (by have := h.size; omega) (by omega)]; exact h.keep k hk hx'
  · obtain ⟨zs', h1, h2⟩ := h.mem j y hj (hset j y (by omega) hy)
    refine ⟨zs', h1.keep (fun b hb => other b (h1.lt b hb) (fun e => ?_)), h2⟩
    subst e
    exact (h.inX j y hj (hset j y (by omega) hy) b hb).2 rfl
end Go.Proofs.Ytagfjpafbpoebab
