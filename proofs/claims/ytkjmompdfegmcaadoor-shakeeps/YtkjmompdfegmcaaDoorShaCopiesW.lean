/- The walk of ShaCopies. -/
import Derived.Test.YtkjmompdfegmcaaDoorShaR
import Derived.Test.YtkjmompdfegmcaaDoorRefE
namespace Go.Proofs.YtkjmompdfegmcaaDoor
open Go Go.RowKit
set_option linter.unusedSimpArgs false
set_option linter.unusedVariables false

/-- n bytes of f, then those of g. -/
def cat (n : Nat) (f g : Nat → BitVec 8) : Nat → BitVec 8 := fun i => if i < n then f i else g (i - n)
theorem cat_lo (n : Nat) (f g : Nat → BitVec 8) (i : Nat) (h : i < n) : cat n f g i = f i := if_pos h
theorem cat_hi (n : Nat) (f g : Nat → BitVec 8) (i : Nat) : cat n f g (n + i) = g i := by
  rw [cat, if_neg (by omega), show n + i - n = i by omega]
theorem Own.src {w wr : World} {v : Value} {k : Nat} {f : Nat → BitVec 8} (h : Own w wr v k f) : ∃ ad cap, v = .slice ad k cap ∧ Src wr ad k cap f := by
  by_cases hk : 0 < k
  · obtain ⟨g, cap, hv, _, hlt, _, hc⟩ := h.form hk
    exact ⟨_, cap, hv, .inr ⟨g, 0, rfl, hlt, fun i hi => by rw [Nat.zero_add]; exact hc i hi⟩⟩
  · obtain rfl : k = 0 := by omega
    rcases h.own.2 with ⟨hv, _⟩ | ⟨g, cap, cur, hv, _, hg, _⟩
    · exact ⟨none, 0, hv, .inl ⟨rfl, rfl⟩⟩
    · exact ⟨_, cap, hv, .inr ⟨g, 0, rfl, (Array.getElem?_eq_some_iff.1 hg).1, fun i hi => by omega⟩⟩
theorem HInv.congr {K : Nat → BitVec 32} {s0 : St} {M M' : Nat → BitVec 8} {w : World} {hb N : Nat} (h : HInv K s0 M w hb N) (he : ∀ i, i < N → M i = M' i) : HInv K s0 M' w hb N := by
  obtain ⟨buf, h1, h2⟩ := h
  refine ⟨buf, ?_, fun i hi => (h2 i hi).trans (he _ (by omega))⟩
  rw [← blocks_congr K s0 M M' (N / 64) (fun i hi => he i (by omega))]; exact h1
theorem Bytes.below {w w' : World} {v : Value} {n hb hb' B0 : Nat} {m : Nat → BitVec 8} (h : Bytes w v n m w.heap.size) (hb1 : Below w.heap.size w w') (hb2 : w.heap.size ≤ hb') : Bytes w' v n m hb' := h.mono hb1 hb2
theorem Bytes.congr {w : World} {v : Value} {n hb : Nat} {m m' : Nat → BitVec 8} (h : Bytes w v n m hb) (he : ∀ i, i < n → m i = m' i) : Bytes w v n m' hb := by
  rcases h with h | ⟨b, off, cap, rfl, h1, h2, h3, hm⟩
  · exact .inl h
  · exact .inr ⟨b, off, cap, rfl, h1, h2, h3, fun i hi => (he i hi) ▸ hm i hi⟩
/-- The sums, with a letter for the state that they end at. -/
theorem sum_at (S : St) (K : Nat → BitVec 32) (s0 : St) (M : Nat → BitVec 8) (hb N : Nat) (hS : sumSt K s0 M N = S) (hN : N < 1152921504606846976) (w : World) (hw : HInv K s0 M w hb N)
    (hK : ∀ i, i < 64 → w.cell? ⟨3, i, none⟩ = some (U (K i))) :
    Calls Tryd.prog 14 #[.pointer (some ⟨hb, 0, none⟩)] w fun e w' => e = .returned (.agg (srow S)) ∧ Below w.heap.size w w' := by
  subst hS; exact sum_any K s0 M hb N hN w hw hK
theorem rsum_at (S : St) (m : Nat → BitVec 8) (ad : Option Addr) (n cap : Nat) (hS : sumSt K256 H256 m n = S) (hn : n < 140737488354900) (w : World) (hm : Src w ad n cap m) :
    Calls Tryd.prog 8 #[.slice ad n cap] w fun e w' => e = .returned (.agg (srow S)) ∧ Below w.heap.size w w' := by
  subst hS; exact rsum_walk m ad n cap hn w hm

end Go.Proofs.YtkjmompdfegmcaaDoor
