/- What comes in as a root. -/
import Derived.Test.YtfnmdeekenjlgaaWirV
import Derived.Test.YtfnmdeekenjlgaaWrtI
import Derived.ChangeArms
namespace Go.Proofs.Ytfnmdeekenjlgaa
open Go Go.ChangeShapes Go.WideShapes Go.ChangeAt Go.RowKit
set_option linter.unusedVariables false
set_option maxRecDepth 100000

/-- Bytes in a row. -/
theorem open_arr {H : Type} {enc : TypeId × Value → H} {W : World} {t : TypeId} {n fuel : Nat} {cs : List Value} {y : DataW H × List MemPlace} (ht : Try.prog.underlying t = some (.array n 5)) (hc : Try.prog.cellsOf t = n)
    (h : DataW.trod enc Try.prog W 0 (fun _ => true) true fuel t cs = some y) : ∃ xs, cs = bv xs ∧ xs.length = n ∧ Byt xs := by
  obtain ⟨xs, m, _, _, hl, hlen, hf⟩ := DataW.trod_array ht h
  rw [hc] at hl
  have h1 : Try.prog.cellsOf 5 = 1 := by kernel_rfl
  have each : ∀ i, ∃ z : Int, i < n → cs[i]? = some (.int .u8 z) ∧ (0 ≤ z ∧ z ≤ 255) := by
    intro i
    by_cases hi : i < n
    · have := hf i hi
      have hx : xs[i]? = some xs[i] := List.getElem?_eq_getElem (by omega)
      rw [hx, h1, Nat.mul_one] at this
      obtain ⟨z, hz, -, hw⟩ := DataW.trod_int Try.underlying5 this
      refine ⟨z, fun _ => ⟨?_, byte_wf hw⟩⟩
      have e : ((cs.drop i).take 1)[0]? = some (.int .u8 z) := by rw [hz]; rfl
      rw [List.getElem?_take, if_pos (by omega), List.getElem?_drop] at e
      simpa using e
    · exact ⟨0, fun h => absurd h hi⟩
  obtain ⟨f, hf'⟩ := Classical.axiomOfChoice each
  refine ⟨(List.range n).map f, ?_, by simp, fun z hz => ?_⟩
  · apply List.ext_getElem?
    intro i
    by_cases hi : i < n
    · rw [(hf' i hi).1]; simp [bv, hi]
    · rw [List.getElem?_eq_none (by omega), List.getElem?_eq_none (by simp [bv]; omega)]
  · obtain ⟨i, hi, rfl⟩ := List.mem_map.1 hz
    exact (hf' i (List.mem_range.1 hi)).2
theorem u64_wf {n : Int} (h : (Lit.int .u64 n).wf = true) : 0 ≤ n ∧ n < 18446744073709551616 := by
  simp only [Lit.wf, Bool.and_eq_true, decide_eq_true_eq] at h
  have h2 : n ≤ 18446744073709551615 := h.2
  exact ⟨h.1, by omega⟩
theorem take1 {cs : List Value} {o : Nat} {v : Value} (h : (cs.drop o).take 1 = [v]) : cs.drop o = v :: cs.drop (o + 1) := by
  cases hd : cs.drop o with
  | nil => rw [hd] at h; simp at h
  | cons x r =>
    rw [hd] at h
    simp at h
    subst h
    have : (cs.drop o).drop 1 = r := by rw [hd]; rfl
    rw [List.drop_drop] at this
    rw [this]
theorem taken {cs xs : List Value} {o n : Nat} (h : (cs.drop o).take n = xs) : cs.drop o = xs ++ cs.drop (o + n) := by
  rw [← h, ← List.drop_drop, List.take_append_drop]
theorem open_root {H : Type} {enc : TypeId × Value → H} {W : World} {v : Value} {d : DataW H} {p : List MemPlace} (h : DataW.Trod enc Try.prog W 0 (fun _ => true) true 26 v d p) : ∃ R : Rt, R.Ok ∧ v = .agg R.cells.toArray := by
  obtain ⟨fuel, hf⟩ := h
  obtain ⟨xs, n, _, _, hl, hlen, hx⟩ := DataW.trod_struct Try.underlying26 hf
  rw [show Try.prog.cellsOf 26 = 163 by kernel_rfl] at hl
  have g : ∀ i, i < 7 → ∃ y, xs[i]? = some y := fun i hi => ⟨xs[i]'(by rw [hlen]; exact hi), List.getElem?_eq_getElem _⟩
  obtain ⟨y0, e0⟩ := g 0 (by omega)
  obtain ⟨y1, e1⟩ := g 1 (by omega)
  obtain ⟨y2, e2⟩ := g 2 (by omega)
  obtain ⟨y3, e3⟩ := g 3 (by omega)
  obtain ⟨y4, e4⟩ := g 4 (by omega)
  obtain ⟨y5, e5⟩ := g 5 (by omega)
  obtain ⟨y6, e6⟩ := g 6 (by omega)
  have k0 : DataW.trod enc Try.prog W 0 (fun _ => true) true n 22 ((v.cells.toList.drop 0).take (Try.prog.cellsOf 22)) = some y0 := (hx 0 _ rfl).trans e0
  have k1 : DataW.trod enc Try.prog W 0 (fun _ => true) true n 22 ((v.cells.toList.drop 1).take (Try.prog.cellsOf 22)) = some y1 := (hx 1 _ rfl).trans e1
  have k2 : DataW.trod enc Try.prog W 0 (fun _ => true) true n 22 ((v.cells.toList.drop 2).take (Try.prog.cellsOf 22)) = some y2 := (hx 2 _ rfl).trans e2
  have k3 : DataW.trod enc Try.prog W 0 (fun _ => true) true n 23 ((v.cells.toList.drop 3).take (Try.prog.cellsOf 23)) = some y3 := (hx 3 _ rfl).trans e3
  have k4 : DataW.trod enc Try.prog W 0 (fun _ => true) true n 23 ((v.cells.toList.drop 35).take (Try.prog.cellsOf 23)) = some y4 := (hx 4 _ rfl).trans e4
  have k5 : DataW.trod enc Try.prog W 0 (fun _ => true) true n 23 ((v.cells.toList.drop 67).take (Try.prog.cellsOf 23)) = some y5 := (hx 5 _ rfl).trans e5
  have k6 : DataW.trod enc Try.prog W 0 (fun _ => true) true n 24 ((v.cells.toList.drop 99).take (Try.prog.cellsOf 24)) = some y6 := (hx 6 _ rfl).trans e6
  obtain ⟨n0, c0, -, w0⟩ := DataW.trod_int Try.underlying22 k0
  obtain ⟨n1, c1, -, w1⟩ := DataW.trod_int Try.underlying22 k1
  obtain ⟨n2, c2, -, w2⟩ := DataW.trod_int Try.underlying22 k2
  obtain ⟨x3, c3, l3, b3⟩ := open_arr Try.underlying23 (by kernel_rfl) k3
  obtain ⟨x4, c4, l4, b4⟩ := open_arr Try.underlying23 (by kernel_rfl) k4
  obtain ⟨x5, c5, l5, b5⟩ := open_arr Try.underlying23 (by kernel_rfl) k5
  obtain ⟨x6, c6, l6, b6⟩ := open_arr Try.underlying24 (by kernel_rfl) k6
  refine ⟨⟨n0, n1, n2, x3, x4, x5, x6⟩, ⟨u64_wf w0, u64_wf w1, u64_wf w2, ⟨l3, b3⟩, ⟨l4, b4⟩, ⟨l5, b5⟩, ⟨l6, b6⟩⟩, ?_⟩
  have q32 : Try.prog.cellsOf 23 = 32 := by kernel_rfl
  have q64 : Try.prog.cellsOf 24 = 64 := by kernel_rfl
  have q1 : Try.prog.cellsOf 22 = 1 := by kernel_rfl
  have d0 : (v.cells.toList.drop 0).take 1 = [.int .u64 n0] := by rw [q1] at c0; exact c0
  have d1 : (v.cells.toList.drop 1).take 1 = [.int .u64 n1] := by rw [q1] at c1; exact c1
  have d2 : (v.cells.toList.drop 2).take 1 = [.int .u64 n2] := by rw [q1] at c2; exact c2
  have d3 : (v.cells.toList.drop 3).take 32 = bv x3 := by rw [q32] at c3; exact c3
  have d4 : (v.cells.toList.drop 35).take 32 = bv x4 := by rw [q32] at c4; exact c4
  have d5 : (v.cells.toList.drop 67).take 32 = bv x5 := by rw [q32] at c5; exact c5
  have d6 : (v.cells.toList.drop 99).take 64 = bv x6 := by rw [q64] at c6; exact c6
  have all : v.cells.toList = (Rt.cells ⟨n0, n1, n2, x3, x4, x5, x6⟩) := by
    have s0 := take1 d0
    rw [List.drop_zero] at s0
    rw [s0, take1 d1, take1 d2, taken d3, taken d4, taken d5, taken d6, List.drop_of_length_le (by omega)]
    simp [Rt.cells]
  cases v with
  | agg cs => simp only [Value.cells] at all; rw [← all]
  | _ => simp [Value.cells] at hl
end Go.Proofs.Ytfnmdeekenjlgaa
