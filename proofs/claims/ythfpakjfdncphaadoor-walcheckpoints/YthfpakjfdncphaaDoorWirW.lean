/- What comes in as a slice of slices of bytes. -/
import Derived.Test.YthfpakjfdncphaaDoorWirV
import Derived.Test.YthfpakjfdncphaaDoorWirE
import Derived.Test.YthfpakjfdncphaaDoorWalFB
import Derived.Test.YthfpakjfdncphaaDoorWalCD
namespace Go.Proofs.YthfpakjfdncphaaDoor
open Go Go.ChangeShapes Go.WideShapes Go.ChangeAt Go.RowKit
set_option linter.unusedVariables false
set_option maxRecDepth 100000

theorem addr_of_cell {W : World} {x : Addr} {v : Value} (h : W.cell? x = some v) : x.spot = none ∧ x.block < W.heap.size := by
  unfold World.cell? at h
  split at h
  · rename_i hg
    split at h
    · cases h
    · rename_i hs
      exact ⟨by simpa using hs, (Array.getElem?_eq_some_iff.1 hg).1⟩
  · cases h
theorem weightsAll_mem {H : Type} {P : Program} {e : TypeId} : ∀ {l : List (DataW H)} {d : DataW H}, d ∈ l → ∀ n ∈ d.weights P e, n ∈ DataW.weightsAll P e l
  | x :: l, d, h, n, hn => by
    simp only [DataW.weightsAll, List.mem_append]
    rcases List.mem_cons.1 h with rfl | h
    · exact .inl hn
    · exact .inr (weightsAll_mem h n hn)
theorem piece {H : Type} {enc : TypeId × Value → H} {W : World} {fuel : Nat} {cs : List Value} {y : DataW H × List MemPlace} (h : DataW.trod enc Tryd.prog W 0 (fun _ => true) true fuel 32 cs = some y) (hw : ∀ n ∈ y.1.weights Tryd.prog 32, n ≤ reachBytes) :
    ∃ u xs, cs = [u] ∧ Sl W u xs ∧ Byt xs ∧ xs.length ≤ 140737488351232 := by
  rcases open_ints Tryd.underlying32 Tryd.underlying5 (by kernel_rfl) h with ⟨hcs, hx⟩ | ⟨x, l, c, zs, hcs, _, hl, hm, hz, hx, hcell, hwz⟩
  · exact ⟨_, [], hcs, ⟨none, 0, rfl, Nat.le_refl _, .inl ⟨rfl, fun _ => rfl⟩⟩, Byt.nil, by simp⟩
  · have hz' : zs.length = c := by simpa using hz
    by_cases h0 : c = 0
    · obtain rfl : l = 0 := by omega
      exact ⟨_, [], hcs, ⟨some x, c, rfl, by simp, .inl ⟨rfl, fun e => by cases e⟩⟩, Byt.nil, by simp⟩
    · obtain ⟨hs, hb⟩ := addr_of_cell (hcell 0 (by omega))
      obtain ⟨b, o, sp⟩ := x
      obtain rfl : sp = none := hs
      obtain ⟨h1, h2, h3⟩ := sl_of hb hl hz' hcell hwz
      refine ⟨_, _, hcs, h3, h1, ?_⟩
      rw [h2]
      have := hw (((zs.take l).length + (zs.drop l).length) * Tryd.prog.bytesOf 5) (by
        rw [hx]
        simp only [DataW.weights, Tryd.underlying32, lits, List.length_map]
        exact List.mem_cons_self)
      rw [show Tryd.prog.bytesOf 5 = 1 by kernel_rfl, List.length_take, List.length_drop] at this
      have hr : reachBytes = 140737488351232 := rfl
      omega
theorem open_lists {H : Type} {enc : TypeId × Value → H} {W : World} {a : Option Addr} {l c : Nat} {d : DataW H} {p : List MemPlace}
    (h : DataW.Trod enc Tryd.prog W 0 (fun _ => true) true 31 (.slice a l c) d p) (hw : ∀ n ∈ d.weights Tryd.prog 31, n ≤ reachBytes) :
    ∃ xss, xss.length = l ∧ LL W (.slice a l c) xss ∧ Lens xss ∧ (∀ i, i < xss.length → Byt (mi xss i)) ∧ xss.length * 24 ≤ 140737488351232 := by
  obtain ⟨fuel, hf⟩ := h
  rcases DataW.trod_slice Tryd.underlying31 hf with ⟨hcs, hx⟩ | ⟨a', l', c', elems, rest, n, _, hcs, hx, hb, hl, hm, hlen, hel, hsp, _⟩
  · simp [Value.cells] at hcs
    obtain ⟨rfl, rfl, rfl⟩ := hcs
    exact ⟨[], rfl, ⟨none, 0, rfl, Nat.le_refl _, .inl ⟨rfl, fun _ => rfl⟩⟩, fun i hi => by simp at hi, fun i hi => by simp at hi, by simp⟩
  · simp [Value.cells] at hcs
    obtain ⟨rfl, rfl, rfl⟩ := hcs
    have hce : Tryd.prog.cellsOf 32 = 1 := by kernel_rfl
    have hd : d = .slice (elems.map (·.1)) (rest.map (·.1)) := congrArg Prod.fst hx
    have hw1 : ∀ y ∈ elems, ∀ n ∈ y.1.weights Tryd.prog 32, n ≤ reachBytes := by
      intro y hy n hn
      refine hw n ?_
      rw [hd]
      simp only [DataW.weights, Tryd.underlying31]
      refine List.mem_cons_of_mem _ (List.mem_append_left _ (weightsAll_mem (List.mem_map_of_mem (f := (·.1)) hy) n hn))
    have hlen24 : l * 24 ≤ 140737488351232 := by
      have := hw (((elems.map (·.1)).length + (rest.map (·.1)).length) * Tryd.prog.bytesOf 32) (by
        rw [hd]
        simp only [DataW.weights, Tryd.underlying31]
        exact List.mem_cons_self)
      rw [show Tryd.prog.bytesOf 32 = 24 by kernel_rfl, List.length_map, List.length_map] at this
      have hr : reachBytes = 140737488351232 := rfl
      omega
    have each : ∀ i, ∃ q : Value × List Int, i < l → W.cell? (a'.add i) = some q.1 ∧ Sl W q.1 q.2 ∧ Byt q.2 ∧ q.2.length ≤ 140737488351232 := by
      intro i
      by_cases hi : i < l
      · have he := hel i hi
        have hge : elems[i]? = some elems[i] := List.getElem?_eq_getElem (by omega)
        rw [hge, hce, Nat.mul_one, Option.bind_eq_some_iff] at he
        obtain ⟨cs, h1, h2⟩ := he
        obtain ⟨u, xs, rfl, hS, hB, hL⟩ := piece h2 (hw1 _ (List.getElem_mem _))
        exact ⟨⟨u, xs⟩, fun _ => ⟨cell_of_cells?_one h1, hS, hB, hL⟩⟩
      · exact ⟨⟨.bool false, []⟩, fun h => absurd h hi⟩
    obtain ⟨f, hf⟩ := Classical.axiomOfChoice each
    have hmi : ∀ i, i < l → mi ((List.range l).map fun i => (f i).2) i = (f i).2 := by
      intro i hi
      rw [mi_get (by simpa using hi)]
      simp
    refine ⟨(List.range l).map fun i => (f i).2, by simp, ⟨some a', c, by simp, by simpa using hl, ?_⟩, fun i hi => ?_, fun i hi => ?_, by simpa using hlen24⟩
    · by_cases h0 : l = 0
      · subst h0; exact .inl ⟨rfl, fun e => by cases e⟩
      · obtain ⟨hs, hlt⟩ := addr_of_cell (hf 0 (by omega)).1
        obtain ⟨b, off, sp⟩ := a'
        obtain rfl : sp = none := hs
        refine .inr ⟨b, off, rfl, hlt, fun i hi => ?_⟩
        have hi' : i < l := by simpa using hi
        obtain ⟨h1, h2, _⟩ := hf i hi'
        rw [addr_add0] at h1
        exact ⟨_, h1, by rw [hmi i hi']; exact h2⟩
    · have hi' : i < l := by simpa using hi
      rw [hmi i hi']; have := (hf i hi').2.2.2; omega
    · have hi' : i < l := by simpa using hi
      rw [hmi i hi']; exact (hf i hi').2.2.1
end Go.Proofs.YthfpakjfdncphaaDoor
/- What comes in as a slice of slices of bytes, with where they lie. -/
namespace Go.Proofs.YthfpakjfdncphaaDoor
open Go Go.ChangeShapes Go.WideShapes Go.ChangeAt Go.RowKit
set_option linter.unusedVariables false
set_option maxRecDepth 100000
theorem piece_q {H : Type} {enc : TypeId × Value → H} {W : World} {fuel : Nat} {cs : List Value} {y : DataW H × List MemPlace} (h : DataW.trod enc Tryd.prog W 0 (fun _ => true) true fuel 32 cs = some y) (hw : ∀ n ∈ y.1.weights Tryd.prog 32, n ≤ reachBytes) :
    ∃ u xs, cs = [u] ∧ Sq W u xs ∧ Byt xs ∧ xs.length ≤ 140737488351232 := by
  rcases open_ints Tryd.underlying32 Tryd.underlying5 (by kernel_rfl) h with ⟨hcs, hx⟩ | ⟨x, l, c, zs, hcs, _, hl, hm, hz, hx, hcell, hwz⟩
  · exact ⟨_, [], hcs, ⟨⟨none, 0, rfl, Nat.le_refl _, .inl ⟨rfl, fun _ => rfl⟩⟩, fun A l c e => (by cases e), fun l c e => by cases e; rfl⟩, Byt.nil, by simp⟩
  · have hz' : zs.length = c := by simpa using hz
    by_cases h0 : c = 0
    · obtain rfl : l = 0 := by omega
      exact ⟨_, [], hcs, ⟨⟨some x, c, rfl, by simp, .inl ⟨rfl, fun e => by cases e⟩⟩, fun A l c' e hc' => (by cases e; exact absurd h0 hc'), fun l c e => by cases e⟩, Byt.nil, by simp⟩
    · obtain ⟨hs, hb⟩ := addr_of_cell (hcell 0 (by omega))
      obtain ⟨b, o, sp⟩ := x
      obtain rfl : sp = none := hs
      obtain ⟨h1, h2, h3⟩ := sl_of hb hl hz' hcell hwz
      refine ⟨_, _, hcs, ⟨h3, fun A l c e _ => (by cases e; exact ⟨rfl, hb⟩), fun l c e => by cases e⟩, h1, ?_⟩
      rw [h2]
      have := hw (((zs.take l).length + (zs.drop l).length) * Tryd.prog.bytesOf 5) (by
        rw [hx]
        simp only [DataW.weights, Tryd.underlying32, lits, List.length_map]
        exact List.mem_cons_self)
      rw [show Tryd.prog.bytesOf 5 = 1 by kernel_rfl, List.length_take, List.length_drop] at this
      have hr : reachBytes = 140737488351232 := rfl
      omega
theorem open_q {H : Type} {enc : TypeId × Value → H} {W : World} {a : Option Addr} {l c : Nat} {d : DataW H} {p : List MemPlace}
    (h : DataW.Trod enc Tryd.prog W 0 (fun _ => true) true 31 (.slice a l c) d p) (hw : ∀ n ∈ d.weights Tryd.prog 31, n ≤ reachBytes) :
    ∃ xss, xss.length = l ∧ LQ W (.slice a l c) xss ∧ (∀ m ∈ xss, Byt m ∧ m.length ≤ 140737488351232) ∧ xss.length ≤ 5864062014805 := by
  obtain ⟨fuel, hf⟩ := h
  rcases DataW.trod_slice Tryd.underlying31 hf with ⟨hcs, hx⟩ | ⟨a', l', c', elems, rest, n, _, hcs, hx, hb, hl, hm, hlen, hel, hsp, _⟩
  · simp [Value.cells] at hcs
    obtain ⟨rfl, rfl, rfl⟩ := hcs
    exact ⟨[], rfl, ⟨none, 0, rfl, Nat.le_refl _, .inl rfl⟩, fun m hm => (by cases hm), by simp⟩
  · simp [Value.cells] at hcs
    obtain ⟨rfl, rfl, rfl⟩ := hcs
    have hce : Tryd.prog.cellsOf 32 = 1 := by kernel_rfl
    have hd : d = .slice (elems.map (·.1)) (rest.map (·.1)) := congrArg Prod.fst hx
    have hw1 : ∀ y ∈ elems, ∀ n ∈ y.1.weights Tryd.prog 32, n ≤ reachBytes := by
      intro y hy n hn
      refine hw n ?_
      rw [hd]
      simp only [DataW.weights, Tryd.underlying31]
      refine List.mem_cons_of_mem _ (List.mem_append_left _ (weightsAll_mem (List.mem_map_of_mem (f := (·.1)) hy) n hn))
    have hlen24 : l * 24 ≤ 140737488351232 := by
      have := hw (((elems.map (·.1)).length + (rest.map (·.1)).length) * Tryd.prog.bytesOf 32) (by
        rw [hd]
        simp only [DataW.weights, Tryd.underlying31]
        exact List.mem_cons_self)
      rw [show Tryd.prog.bytesOf 32 = 24 by kernel_rfl, List.length_map, List.length_map] at this
      have hr : reachBytes = 140737488351232 := rfl
      omega
    have each : ∀ i, ∃ q : Value × List Int, i < l → W.cell? (a'.add i) = some q.1 ∧ Sq W q.1 q.2 ∧ Byt q.2 ∧ q.2.length ≤ 140737488351232 := by
      intro i
      by_cases hi : i < l
      · have he := hel i hi
        have hge : elems[i]? = some elems[i] := List.getElem?_eq_getElem (by omega)
        rw [hge, hce, Nat.mul_one, Option.bind_eq_some_iff] at he
        obtain ⟨cs, h1, h2⟩ := he
        obtain ⟨u, xs, rfl, hS, hB, hL⟩ := piece_q h2 (hw1 _ (List.getElem_mem _))
        exact ⟨⟨u, xs⟩, fun _ => ⟨cell_of_cells?_one h1, hS, hB, hL⟩⟩
      · exact ⟨⟨.bool false, []⟩, fun h => absurd h hi⟩
    obtain ⟨f, hf⟩ := Classical.axiomOfChoice each
    have hmi : ∀ i, i < l → mi ((List.range l).map fun i => (f i).2) i = (f i).2 := by
      intro i hi
      rw [mi_get (by simpa using hi)]
      simp
    refine ⟨(List.range l).map fun i => (f i).2, by simp, ⟨some a', c, by simp, by simpa using hl, ?_⟩, fun m hm => ?_, by simp; omega⟩
    · by_cases h0 : l = 0
      · subst h0; exact .inl rfl
      · obtain ⟨hs, hlt⟩ := addr_of_cell (hf 0 (by omega)).1
        obtain ⟨b, off, sp⟩ := a'
        obtain rfl : sp = none := hs
        refine .inr ⟨b, off, rfl, hlt, fun i hi => ?_⟩
        have hi' : i < l := by simpa using hi
        obtain ⟨h1, h2, _⟩ := hf i hi'
        rw [addr_add0] at h1
        exact ⟨_, h1, by rw [hmi i hi']; exact h2⟩
    · obtain ⟨i, hi, rfl⟩ := List.mem_map.1 hm
      have hi' : i < l := List.mem_range.1 hi
      exact ⟨(hf i hi').2.2.1, (hf i hi').2.2.2⟩
end Go.Proofs.YthfpakjfdncphaaDoor
/- A slice of slices that comes in is nil outright, or has a place. -/
namespace Go.Proofs.YthfpakjfdncphaaDoor
open Go Go.ChangeShapes Go.WideShapes Go.ChangeAt Go.RowKit
set_option linter.unusedVariables false
theorem open_shape {H : Type} {enc : TypeId × Value → H} {W : World} {a : Option Addr} {l c : Nat} {d : DataW H} {p : List MemPlace}
    (h : DataW.Trod enc Tryd.prog W 0 (fun _ => true) true 31 (.slice a l c) d p) : Value.slice a l c = .slice none 0 0 ∨ ∃ a' l' c', Value.slice a l c = .slice (some a') l' c' := by
  obtain ⟨fuel, hf⟩ := h
  rcases DataW.trod_slice Tryd.underlying31 hf with ⟨hcs, hx⟩ | ⟨a', l', c', elems, rest, n, _, hcs, hx, hb, hl, hm, hlen, hel, hsp, _⟩
  · simp [Value.cells] at hcs
    obtain ⟨rfl, rfl, rfl⟩ := hcs
    exact .inl rfl
  · simp [Value.cells] at hcs
    obtain ⟨rfl, rfl, rfl⟩ := hcs
    exact .inr ⟨_, _, _, rfl⟩
end Go.Proofs.YthfpakjfdncphaaDoor
