/- Roots: their cells, what is signed of them; a relation between worlds for regions that mark a block. -/
import Derived.Test.YtfnmdeekenjlgaaWirN
import Derived.Test.YtfnmdeekenjlgaaRgnR
import Derived.Deep.MidRow
namespace Go.Proofs.Ytfnmdeekenjlgaa
open Go Go.RowKit
set_option linter.unusedSimpArgs false
set_option linter.unusedVariables false

/-- A root. -/
structure Rt where
  ep : Int
  kd : Int
  gn : Int
  pr : List Int
  hs : List Int
  lk : List Int
  sg : List Int
structure Rt.Ok (R : Rt) : Prop where
  ep : 0 ≤ R.ep ∧ R.ep < 18446744073709551616
  kd : 0 ≤ R.kd ∧ R.kd < 18446744073709551616
  gn : 0 ≤ R.gn ∧ R.gn < 18446744073709551616
  pr : R.pr.length = 32 ∧ Byt R.pr
  hs : R.hs.length = 32 ∧ Byt R.hs
  lk : R.lk.length = 32 ∧ Byt R.lk
  sg : R.sg.length = 64 ∧ Byt R.sg
def Rt.cells (R : Rt) : List Value := [.int .u64 R.ep, .int .u64 R.kd, .int .u64 R.gn] ++ (bv R.pr ++ (bv R.hs ++ (bv R.lk ++ bv R.sg)))
def Rt.list (R : Rt) : List (List Int) := [[114, 111, 111, 116], be 8 R.ep, be 8 R.kd, be 8 R.gn, R.pr, R.hs, R.lk]
/-- Worlds in which memory has grown, and blocks from B on may have been marked. -/
structure Mk (B : Nat) (w w' : World) : Prop where
  below : Below B w w'
  size : w.heap.size ≤ w'.heap.size
  cell : ∀ b o, b < w.heap.size → w'.cell? ⟨b, o, none⟩ = w.cell? ⟨b, o, none⟩
  shape : ∀ b, b < w.heap.size → w'.shape? b = w.shape? b
theorem Mk.refl (B : Nat) (w : World) : Mk B w w := ⟨Below.refl _ _, Nat.le_refl _, fun _ _ _ => rfl, fun _ _ => rfl⟩
theorem Mk.trans {B : Nat} {a b c : World} (h : Mk B a b) (k : Mk B b c) : Mk B a c :=
  ⟨h.below.trans k.below, Nat.le_trans h.size k.size, fun x o hx => (k.cell x o (Nat.lt_of_lt_of_le hx h.size)).trans (h.cell x o hx), fun x hx => (k.shape x (Nat.lt_of_lt_of_le hx h.size)).trans (h.shape x hx)⟩
theorem Mk.of {B : Nat} {w w' : World} (h : Below w.heap.size w w') (hB : B ≤ w.heap.size) : Mk B w w' :=
  ⟨h.mono hB, h.size, fun b o hb => h.cell (p := ⟨b, o, none⟩) hb, fun b hb => by unfold World.shape?; rw [h.block b hb]⟩
theorem Mk.draw (B : Nat) (w : World) : Mk B w { w with drawn := w.drawn + 1 } := ⟨⟨rfl, rfl, rfl, Nat.le_refl _, fun _ _ => rfl⟩, Nat.le_refl _, fun _ _ _ => rfl, fun _ _ => rfl⟩
theorem Sl.mk {B : Nat} {w w' : World} {v : Value} {xs : List Int} (h : Sl w v xs) (hk : Mk B w w') : Sl w' v xs := by
  obtain ⟨ad, cap, rfl, hc, h⟩ := h
  refine ⟨ad, cap, rfl, hc, ?_⟩
  rcases h with h | ⟨b, o, rfl, hlt, hm⟩
  · exact .inl h
  · exact .inr ⟨b, o, rfl, Nat.lt_of_lt_of_le hlt hk.size, fun i hi => (hk.cell b (o + i) hlt).trans (hm i hi)⟩
theorem LL.mk {B : Nat} {w w' : World} {v : Value} {xss : List (List Int)} (h : LL w v xss) (hk : Mk B w w') : LL w' v xss := by
  obtain ⟨ad, cap, rfl, hc, h⟩ := h
  refine ⟨ad, cap, rfl, hc, ?_⟩
  rcases h with h | ⟨b, o, rfl, hlt, hm⟩
  · exact .inl h
  · refine .inr ⟨b, o, rfl, Nat.lt_of_lt_of_le hlt hk.size, fun i hi => ?_⟩
    obtain ⟨u, h1, h2⟩ := hm i hi
    exact ⟨u, (hk.cell b (o + i) hlt).trans h1, h2.mk hk⟩
/-- A block that is marked. -/
theorem Mk.freeze {B : Nat} {w : World} {g n : Nat} (hg : B ≤ g) : Mk B w (w.freeze ⟨g, n, none⟩ 1) := by
  have hh : ∀ k, (w.freeze ⟨g, n, none⟩ 1).heap[k]? = if k = g then (w.heap[g]?).map (fun o => match o with | .cells c t (lo, hi) => .cells c t (if lo = hi then (n, n + 1) else (min lo n, max hi (n + 1))) | o => o) else w.heap[k]? := by
    intro k
    unfold World.freeze
    rw [if_neg (by decide)]
    by_cases e : k = g
    · subst e; simp [Array.getElem?_modify]; rfl
    · rw [if_neg e]; simp [Array.getElem?_modify, Ne.symm e]
  have hz : (w.freeze ⟨g, n, none⟩ 1).heap.size = w.heap.size := by
    unfold World.freeze
    rw [if_neg (by decide)]; simp
  have ho : (w.freeze ⟨g, n, none⟩ 1).os = w.os ∧ (w.freeze ⟨g, n, none⟩ 1).tape = w.tape ∧ (w.freeze ⟨g, n, none⟩ 1).output = w.output := by
    unfold World.freeze
    rw [if_neg (by decide)]; exact ⟨rfl, rfl, rfl⟩
  refine ⟨⟨ho.1, ho.2.1, ho.2.2, by rw [hz]; exact Nat.le_refl _, fun k hk => by rw [hh, if_neg (by omega)]⟩, by rw [hz]; exact Nat.le_refl _, fun b o hb => ?_, fun b hb => ?_⟩
  · unfold World.cell?
    simp only [hh]
    by_cases e : b = g
    · subst e
      rw [if_pos rfl]
      cases hq : w.heap[b]? with
      | none => rfl
      | some x => cases x <;> rfl
    · rw [if_neg e]
  · unfold World.shape?
    rw [hh]
    by_cases e : b = g
    · subst e
      rw [if_pos rfl]
      cases hq : w.heap[b]? with
      | none => rfl
      | some x => cases x <;> rfl
    · rw [if_neg e]
theorem conv_mark (g l c t n : Nat) (w : World) (h : w.shape? g = some (t, n)) : (convert 34 34 (.slice (some ⟨g, 0, none⟩) l c)).run Try.prog w = .ok (.slice (some ⟨g, 0, none⟩) l c) (w.freeze ⟨g, n, none⟩ 1) := by
  simp [convert, run_underlying Try.underlying34, run_underlying Try.underlying5, markStringish, h]
end Go.Proofs.Ytfnmdeekenjlgaa
