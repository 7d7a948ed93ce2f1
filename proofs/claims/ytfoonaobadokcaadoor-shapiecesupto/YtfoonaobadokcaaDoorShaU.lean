/- What comes in as a slice of slices of bytes. -/
import Derived.Test.YtfoonaobadokcaaDoorShaS
import Derived.Test.YtfoonaobadokcaaDoorShaCopiesW
namespace Go.Proofs.YtfoonaobadokcaaDoor
open Go Go.ChangeShapes Go.WideShapes Go.ChangeAt Go.RowKit
set_option linter.unusedSimpArgs false
set_option linter.unusedVariables false

theorem addr_of_cell {W : World} {x : Addr} {v : Value} (h : W.cell? x = some v) : x.spot = none ∧ x.block < W.heap.size := by
  unfold World.cell? at h
  split at h
  · rename_i hg
    split at h
    · cases h
    · rename_i hs
      exact ⟨by simpa using hs, (Array.getElem?_eq_some_iff.1 hg).1⟩
  · cases h
/-- One piece. -/
theorem piece {H : Type} {enc : TypeId × Value → H} {W : World} {fuel : Nat} {cs : List Value} {y : DataW H × List MemPlace} (h : DataW.trod enc Tryd.prog W 0 (fun _ => true) true fuel 22 cs = some y) :
    ∃ ad l c m, cs = [.slice ad l c] ∧ Bytes W (.slice ad l c) l m W.heap.size ∧ l + 1 ≤ Rows.uptoBulk y.1 := by
  rcases open_ints Tryd.underlying22 Tryd.underlying5 (by kernel_rfl) h with ⟨hcs, hx⟩ | ⟨x, l, c, zs, hcs, _, hl, hm, hz, hx, hcell, hwz⟩
  · exact ⟨none, 0, 0, fun _ => 0, hcs, .inl ⟨⟨_, rfl⟩, rfl⟩, by rw [hx]; simp [Rows.uptoBulk]⟩
  · simp at hz
    have hbulk : l + 1 ≤ Rows.uptoBulk y.1 := by
      rw [hx]; simp only [Rows.uptoBulk, bulk_lits, List.length_take, List.length_drop]; omega
    by_cases h0 : c = 0
    · obtain rfl : l = 0 := by omega
      subst h0
      exact ⟨some x, 0, 0, fun _ => 0, hcs, .inl ⟨⟨_, rfl⟩, rfl⟩, hbulk⟩
    · have hc0 := hcell 0 (by omega)
      obtain ⟨hs, hlt⟩ := addr_of_cell hc0
      obtain ⟨b, off, sp⟩ := x
      obtain rfl : sp = none := hs
      have hlt' : b < W.heap.size := hlt
      refine ⟨_, l, c, fun i => BitVec.ofInt 8 (zs.getD i 0), hcs, .inr ⟨b, off, c, rfl, hl, hlt', Nat.ne_of_lt hlt', fun i hi => ?_⟩, hbulk⟩
      have h1 := hcell i (by omega)
      rw [addr_add0] at h1
      rw [h1, byte_of _ (hwz _ ?_)]
      rw [List.getD_eq_getElem?_getD, List.getElem?_eq_getElem (by omega : i < zs.length)]
      exact List.getElem_mem _
def total (ln : Nat → Nat) : Nat → Nat
  | 0 => 0
  | k + 1 => total ln k + ln k
theorem total_mono (ln : Nat → Nat) {k : Nat} : ∀ n, k ≤ n → total ln k ≤ total ln n
  | 0, h => by obtain rfl : k = 0 := by omega
               exact Nat.le_refl _
  | n + 1, h => by
    by_cases e : k = n + 1
    · subst e; exact Nat.le_refl _
    · exact Nat.le_trans (total_mono ln n (by omega)) (Nat.le_add_right _ _)
/-- The pieces, one behind the other. -/
def joined (ln : Nat → Nat) (m : Nat → Nat → BitVec 8) : Nat → Nat → BitVec 8
  | 0 => fun _ => 0
  | k + 1 => cat (total ln k) (joined ln m k) (m k)
theorem joined_at (ln : Nat → Nat) (m : Nat → Nat → BitVec 8) : ∀ n k, k < n → ∀ j, j < ln k → joined ln m n (total ln k + j) = m k j
  | 0, _, h => by omega
  | n + 1, k, h => by
    intro j hj
    by_cases e : k = n
    · subst e; exact cat_hi _ _ _ _
    · have h1 : total ln (k + 1) ≤ total ln n := total_mono ln n (by omega)
      have h2 : total ln (k + 1) = total ln k + ln k := rfl
      rw [joined, cat_lo _ _ _ _ (by omega)]
      exact joined_at ln m n k (by omega) j hj
theorem bulk_append {H : Type} (l r : List (DataW H)) : Rows.uptoBulkAll (l ++ r) = Rows.uptoBulkAll l + Rows.uptoBulkAll r := by
  induction l with
  | nil => simp [Rows.uptoBulkAll]
  | cons x l ih => simp only [List.cons_append, Rows.uptoBulkAll, ih]; omega
theorem pieces {H : Type} {enc : TypeId × Value → H} {W : World} {fuel : Nat} {a0 : Option Addr} {len cap : Nat} {d : DataW H} {p : List MemPlace} (h : DataW.trod enc Tryd.prog W 0 (fun _ => true) true fuel 31 [.slice a0 len cap] = some (d, p)) :
    ∃ (ad : Nat → Option Addr) (ln cp : Nat → Nat) (m : Nat → Nat → BitVec 8), (0 < len → ∃ pb po, a0 = some ⟨pb, po, none⟩ ∧ pb < W.heap.size ∧ ∀ i, i < len → W.cell? ⟨pb, po + i, none⟩ = some (.slice (ad i) (ln i) (cp i))) ∧
      (∀ i, i < len → Bytes W (.slice (ad i) (ln i) (cp i)) (ln i) (m i) W.heap.size) ∧ total ln len + len ≤ Rows.uptoBulk d := by
  rcases DataW.trod_slice Tryd.underlying31 h with ⟨hcs, hx⟩ | ⟨a, l, c, elems, rest, n, _, hcs, hx, hb, hl, hm, hlen, hel, _, _⟩
  · simp at hcs
    obtain ⟨rfl, rfl, rfl⟩ := hcs
    exact ⟨fun _ => none, fun _ => 0, fun _ => 0, fun _ _ => 0, fun h => by omega, fun i hi => by omega, Nat.zero_le _⟩
  · simp at hcs
    obtain ⟨rfl, rfl, rfl⟩ := hcs
    have hce : Tryd.prog.cellsOf 22 = 1 := by kernel_rfl
    have each : ∀ i, ∃ q : Option Addr × Nat × Nat × (Nat → BitVec 8), i < len → ∃ y, elems[i]? = some y ∧ W.cell? (a.add i) = some (.slice q.1 q.2.1 q.2.2.1) ∧ Bytes W (.slice q.1 q.2.1 q.2.2.1) q.2.1 q.2.2.2 W.heap.size ∧ q.2.1 + 1 ≤ Rows.uptoBulk y.1 := by
      intro i
      by_cases hi : i < len
      · have he := hel i hi
        rw [List.getElem?_eq_getElem (by omega : i < elems.length), hce, Nat.mul_one, Option.bind_eq_some_iff] at he
        obtain ⟨cs, h1, h2⟩ := he
        obtain ⟨ad, l, c, m, rfl, hB, hu⟩ := piece h2
        exact ⟨⟨ad, l, c, m⟩, fun _ => ⟨_, List.getElem?_eq_getElem (by omega : i < elems.length), cell_of_cells?_one h1, hB, hu⟩⟩
      · exact ⟨⟨none, 0, 0, fun _ => 0⟩, fun h => absurd h hi⟩
    obtain ⟨f, hf⟩ := Classical.axiomOfChoice each
    have hsum : ∀ k, k ≤ len → total (fun i => (f i).2.1) k + k ≤ Rows.uptoBulkAll ((elems.take k).map (·.1)) := by
      intro k
      induction k with
      | zero => intro _; simp [total, Rows.uptoBulkAll]
      | succ k ih =>
        intro hk
        obtain ⟨y, hy, _, _, hu⟩ := hf k (by omega)
        have h1 := ih (by omega)
        have e : elems.take (k + 1) = elems.take k ++ [y] := by
          rw [List.take_add_one, hy]; rfl
        rw [e, List.map_append, bulk_append]
        simp only [total, List.map_cons, List.map_nil, Rows.uptoBulkAll]
        omega
    refine ⟨fun i => (f i).1, fun i => (f i).2.1, fun i => (f i).2.2.1, fun i => (f i).2.2.2, fun h0 => ?_, fun i hi => ?_, ?_⟩
    · obtain ⟨y, _, hc, _⟩ := hf 0 h0
      obtain ⟨hs, hlt⟩ := addr_of_cell hc
      obtain ⟨b, off, sp⟩ := a
      obtain rfl : sp = none := hs
      refine ⟨b, off, rfl, hlt, fun i hi => ?_⟩
      obtain ⟨y, _, hc, _⟩ := hf i hi
      rw [addr_add0] at hc; exact hc
    · obtain ⟨y, _, _, hB, _⟩ := hf i hi
      exact hB
    · have h1 := hsum len (Nat.le_refl _)
      rw [List.take_of_length_le (by omega)] at h1
      have h2 : d = .slice (elems.map (·.1)) (rest.map (·.1)) := congrArg Prod.fst hx
      rw [h2]
      simp only [Rows.uptoBulk]
      omega
end Go.Proofs.YtfoonaobadokcaaDoor
