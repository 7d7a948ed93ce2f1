/- What comes in as nodes and as a label. -/
import Derived.Test.YtddgdaggdgeclaaDoorLabB
import Derived.ProofKit
import Derived.OpenShut
import Derived.ChangeOld
import Derived.SizedLaws
import Derived.ChangeArms
namespace Go.Proofs.YtddgdaggdgeclaaDoor
open Go Go.ChangeShapes Go.WideShapes Go.ChangeAt Go.RowKit
set_option linter.unusedVariables false
set_option maxRecDepth 100000

theorem byte_wf {n : Int} (h : (Lit.int .u8 n).wf = true) : 0 ≤ n ∧ n ≤ 255 := by
  simp only [Lit.wf, Bool.and_eq_true, decide_eq_true_eq] at h
  exact h
theorem addr_of_cell {W : World} {x : Addr} {v : Value} (h : W.cell? x = some v) : x.spot = none ∧ x.block < W.heap.size := by
  unfold World.cell? at h
  split at h
  · rename_i hg
    split at h
    · cases h
    · rename_i hs
      exact ⟨by simpa using hs, (Array.getElem?_eq_some_iff.1 hg).1⟩
  · cases h
theorem open_arr {H : Type} {enc : TypeId × Value → H} {W : World} {t : TypeId} {n fuel : Nat} {cs : List Value} {y : DataW H × List MemPlace} (ht : Tryd.prog.underlying t = some (.array n 5)) (hc : Tryd.prog.cellsOf t = n)
    (h : DataW.trod enc Tryd.prog W 0 (fun _ => true) true fuel t cs = some y) : ∃ xs, cs = bv xs ∧ xs.length = n ∧ Byt xs := by
  obtain ⟨xs, m, _, _, hl, hlen, hf⟩ := DataW.trod_array ht h
  rw [hc] at hl
  have h1 : Tryd.prog.cellsOf 5 = 1 := by kernel_rfl
  have each : ∀ i, ∃ z : Int, i < n → cs[i]? = some (.int .u8 z) ∧ (0 ≤ z ∧ z ≤ 255) := by
    intro i
    by_cases hi : i < n
    · have := hf i hi
      have hx : xs[i]? = some xs[i] := List.getElem?_eq_getElem (by omega)
      rw [hx, h1, Nat.mul_one] at this
      obtain ⟨z, hz, -, hw⟩ := DataW.trod_int Tryd.underlying5 this
      refine ⟨z, fun _ => ⟨?_, byte_wf hw⟩⟩
      have e : ((cs.drop i).take 1)[0]? = some (.int .u8 z) := by rw [hz]; rfl
      rw [List.getElem?_take, if_pos (by omega), List.getElem?_drop] at e
      simpa using e
    · exact ⟨0, fun h => absurd h hi⟩
  obtain ⟨f, hf'⟩ := Classical.axiomOfChoice each
  refine ⟨(List.range n).map f, ?_, by simp, fun z hz => ?_⟩
  · apply List.ext_getElem?
    intro i
    by_cases hi : i < n
    · rw [(hf' i hi).1]; simp [bv, hi]
    · rw [List.getElem?_eq_none (by omega), List.getElem?_eq_none (by simp [bv]; omega)]
  · obtain ⟨i, hi, rfl⟩ := List.mem_map.1 hz
    exact (hf' i (List.mem_range.1 hi)).2
theorem item32 {H : Type} {enc : TypeId × Value → H} {W : World} {fuel : Nat} {cs : List Value} {y : DataW H × List MemPlace} (h : DataW.trod enc Tryd.prog W 0 (fun _ => true) true fuel 24 cs = some y) :
    ∃ x : List Int, cs = bv x ∧ L32 x := by
  obtain ⟨x, h1, h2, h3⟩ := open_arr Tryd.underlying24 (by kernel_rfl) h
  exact ⟨x, h1, ⟨h2, h3⟩⟩
theorem open_ys {H : Type} {enc : TypeId × Value → H} {W : World} {a : Option Addr} {l c : Nat} {d : DataW H} {p : List MemPlace}
    (h : DataW.Trod enc Tryd.prog W 0 (fun _ => true) true 22 (.slice a l c) d p) (hw : ∀ n ∈ d.weights Tryd.prog 22, n ≤ reachBytes) :
    ∃ m : List (List Int), YS W (.slice a l c) m ∧ (∀ x ∈ m, L32 x) ∧ m.length ≤ 4398046510976 := by
  obtain ⟨fuel, hf⟩ := h
  rcases DataW.trod_slice Tryd.underlying22 hf with ⟨hcs, hx⟩ | ⟨a', l', c', elems, rest, n, _, hcs, hx, hb, hl, hm, hlen, hel, hsp, _⟩
  · simp [Value.cells] at hcs
    obtain ⟨rfl, rfl, rfl⟩ := hcs
    exact ⟨[], ⟨none, 0, rfl, Nat.le_refl _, .inl ⟨rfl, fun _ => rfl⟩⟩, (fun x hx => by cases hx), by simp⟩
  · simp [Value.cells] at hcs
    obtain ⟨rfl, rfl, rfl⟩ := hcs
    have hce : Tryd.prog.cellsOf 24 = 32 := by kernel_rfl
    have hd : d = .slice (elems.map (·.1)) (rest.map (·.1)) := congrArg Prod.fst hx
    have hlen32 : l * 32 ≤ 140737488351232 := by
      have := hw (((elems.map (·.1)).length + (rest.map (·.1)).length) * Tryd.prog.bytesOf 24) (by
        rw [hd]
        simp only [DataW.weights, Tryd.underlying22]
        exact List.mem_cons_self)
      rw [show Tryd.prog.bytesOf 24 = 32 by kernel_rfl, List.length_map, List.length_map] at this
      have hr : reachBytes = 140737488351232 := rfl
      omega
    have each : ∀ i, ∃ o : (List Int), i < l → (∀ j, j < 32 → W.cell? ((a'.add (i * 32)).add j) = (bv o)[j]?) ∧ L32 o := by
      intro i
      by_cases hi : i < l
      · have he := hel i hi
        have hge : elems[i]? = some elems[i] := List.getElem?_eq_getElem (by omega)
        rw [hge, hce, Option.bind_eq_some_iff] at he
        obtain ⟨cs, h1, h2⟩ := he
        obtain ⟨o, rfl, hok⟩ := item32 h2
        exact ⟨o, fun _ => ⟨(World.cells?_some h1).2.2, hok⟩⟩
      · exact ⟨z32, fun h => absurd h hi⟩
    obtain ⟨f, hf⟩ := Classical.axiomOfChoice each
    have hml : ((List.range l).map f).length = l := by simp
    refine ⟨(List.range l).map f, ⟨some a', c, by rw [hml], by rw [hml]; exact hl, ?_⟩, fun x hx => ?_, by rw [hml]; omega⟩
    · by_cases h0 : l = 0
      · exact .inl ⟨by subst h0; rfl, fun h => by cases h⟩
      · have hc0 := (hf 0 (by omega)).1 0 (by omega)
        obtain ⟨u0, hu0⟩ : ∃ u, (bv (f 0))[0]? = some u := ⟨_, List.getElem?_eq_getElem (by rw [l32_cells (hf 0 (by omega)).2]; omega)⟩
        have hc1 := hc0.trans hu0
        obtain ⟨hs, hlt⟩ := addr_of_cell hc1
        obtain ⟨b, off, sp⟩ := a'
        have hs' : sp = none := by
          cases sp with
          | none => rfl
          | some q => simp [Addr.add] at hs
        subst hs'
        refine .inr ⟨b, off, rfl, by simpa [Addr.add] using hlt, fun i x hi j u hu => ?_⟩
        rw [List.getElem?_map] at hi
        obtain ⟨q, hq, rfl⟩ := Option.map_eq_some_iff.1 hi
        obtain ⟨hil, rfl⟩ := List.getElem?_eq_some_iff.1 hq
        rw [List.getElem_range] at hu
        have hil' : i < l := by simpa using hil
        have hj : j < 32 := by have := (List.getElem?_eq_some_iff.1 hu).1; rw [l32_cells (hf i hil').2] at this; exact this
        have := (hf i hil').1 j hj
        rw [addr_add0, addr_add0, hu] at this
        exact this
    · obtain ⟨i, hi, rfl⟩ := List.mem_map.1 hx
      exact (hf i (List.mem_range.1 hi)).2
end Go.Proofs.YtddgdaggdgeclaaDoor
