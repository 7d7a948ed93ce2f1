/- What comes in as a step. -/
import Derived.Test.YtfnmdeekenjlgaaWrtV
import Derived.Test.YtfnmdeekenjlgaaWsP
namespace Go.Proofs.Ytfnmdeekenjlgaa
open Go Go.ChangeShapes Go.WideShapes Go.ChangeAt Go.RowKit
set_option linter.unusedVariables false
set_option maxRecDepth 100000

theorem addr_of_cell {W : World} {x : Addr} {v : Value} (h : W.cell? x = some v) : x.spot = none ∧ x.block < W.heap.size := by
  unfold World.cell? at h
  split at h
  · rename_i hg
    split at h
    · cases h
    · rename_i hs
      exact ⟨by simpa using hs, (Array.getElem?_eq_some_iff.1 hg).1⟩
  · cases h
theorem item {H : Type} {enc : TypeId × Value → H} {W : World} {fuel : Nat} {cs : List Value} {y : DataW H × List MemPlace} (h : DataW.trod enc Try.prog W 0 (fun _ => true) true fuel 94 cs = some y) :
    ∃ x : Nd, cs = nc x ∧ x.Ok := by
  obtain ⟨xs, n, _, _, hl, hlen, hx⟩ := DataW.trod_struct Try.underlying94 h
  rw [show Try.prog.cellsOf 94 = 65 by kernel_rfl] at hl
  have g : ∀ i, i < 3 → ∃ y, xs[i]? = some y := fun i hi => ⟨xs[i]'(by rw [hlen]; exact hi), List.getElem?_eq_getElem _⟩
  obtain ⟨y0, e0⟩ := g 0 (by omega)
  obtain ⟨y1, e1⟩ := g 1 (by omega)
  obtain ⟨y2, e2⟩ := g 2 (by omega)
  have k0 : DataW.trod enc Try.prog W 0 (fun _ => true) true n 3 ((cs.drop 0).take (Try.prog.cellsOf 3)) = some y0 := (hx 0 _ rfl).trans e0
  have k1 : DataW.trod enc Try.prog W 0 (fun _ => true) true n 23 ((cs.drop 1).take (Try.prog.cellsOf 23)) = some y1 := (hx 1 _ rfl).trans e1
  have k2 : DataW.trod enc Try.prog W 0 (fun _ => true) true n 23 ((cs.drop 33).take (Try.prog.cellsOf 23)) = some y2 := (hx 2 _ rfl).trans e2
  obtain ⟨n0, c0, -, w0⟩ := DataW.trod_int Try.underlying3 k0
  obtain ⟨x1, c1, l1, b1⟩ := open_arr Try.underlying23 (by kernel_rfl) k1
  obtain ⟨x2, c2, l2, b2⟩ := open_arr Try.underlying23 (by kernel_rfl) k2
  have q32 : Try.prog.cellsOf 23 = 32 := by kernel_rfl
  have q1 : Try.prog.cellsOf 3 = 1 := by kernel_rfl
  have d0 : (cs.drop 0).take 1 = [.int .i64 n0] := by rw [q1] at c0; exact c0
  have d1 : (cs.drop 1).take 32 = bv x1 := by rw [q32] at c1; exact c1
  have d2 : (cs.drop 33).take 32 = bv x2 := by rw [q32] at c2; exact c2
  refine ⟨⟨n0, x1, x2⟩, ?_, ⟨⟨l1, b1⟩, ⟨l2, b2⟩⟩⟩
  have s0 := take1 d0
  rw [List.drop_zero] at s0
  rw [s0, taken d1, taken d2, List.drop_of_length_le (by omega)]
  simp [nc]
theorem open_nodes {H : Type} {enc : TypeId × Value → H} {W : World} {a : Option Addr} {l c : Nat} {d : DataW H} {p : List MemPlace}
    (h : DataW.Trod enc Try.prog W 0 (fun _ => true) true 29 (.slice a l c) d p) (hw : ∀ n ∈ d.weights Try.prog 29, n ≤ reachBytes) :
    ∃ m : List Nd, NS W (.slice a l c) m ∧ (∀ x ∈ m, x.Ok) ∧ m.length * 72 ≤ 140737488351232 := by
  obtain ⟨fuel, hf⟩ := h
  rcases DataW.trod_slice Try.underlying29 hf with ⟨hcs, hx⟩ | ⟨a', l', c', elems, rest, n, _, hcs, hx, hb, hl, hm, hlen, hel, hsp, _⟩
  · simp [Value.cells] at hcs
    obtain ⟨rfl, rfl, rfl⟩ := hcs
    exact ⟨[], ⟨none, 0, rfl, Nat.le_refl _, .inl ⟨rfl, fun _ => rfl⟩⟩, (fun x hx => by cases hx), by simp⟩
  · simp [Value.cells] at hcs
    obtain ⟨rfl, rfl, rfl⟩ := hcs
    have hce : Try.prog.cellsOf 94 = 65 := by kernel_rfl
    have hd : d = .slice (elems.map (·.1)) (rest.map (·.1)) := congrArg Prod.fst hx
    have hlen72 : l * 72 ≤ 140737488351232 := by
      have := hw (((elems.map (·.1)).length + (rest.map (·.1)).length) * Try.prog.bytesOf 94) (by
        rw [hd]
        simp only [DataW.weights, Try.underlying29]
        exact List.mem_cons_self)
      rw [show Try.prog.bytesOf 94 = 72 by kernel_rfl, List.length_map, List.length_map] at this
      have hr : reachBytes = 140737488351232 := rfl
      omega
    have each : ∀ i, ∃ o : Nd, i < l → (∀ j, j < 65 → W.cell? ((a'.add (i * 65)).add j) = (nc o)[j]?) ∧ o.Ok := by
      intro i
      by_cases hi : i < l
      · have he := hel i hi
        have hge : elems[i]? = some elems[i] := List.getElem?_eq_getElem (by omega)
        rw [hge, hce, Option.bind_eq_some_iff] at he
        obtain ⟨cs, h1, h2⟩ := he
        obtain ⟨o, rfl, hok⟩ := item h2
        exact ⟨o, fun _ => ⟨(World.cells?_some h1).2.2, hok⟩⟩
      · exact ⟨ndz, fun h => absurd h hi⟩
    obtain ⟨f, hf⟩ := Classical.axiomOfChoice each
    have hml : ((List.range l).map f).length = l := by simp
    refine ⟨(List.range l).map f, ⟨some a', c, by rw [hml], by rw [hml]; exact hl, ?_⟩, fun x hx => ?_, by rw [hml]; omega⟩
    · by_cases h0 : l = 0
      · exact .inl ⟨by subst h0; rfl, fun h => by cases h⟩
      · have hc0 := (hf 0 (by omega)).1 0 (by omega)
        have hc1 : W.cell? ((a'.add (0 * 65)).add 0) = some (.int .i64 (f 0).n) := hc0
        obtain ⟨hs, hlt⟩ := addr_of_cell hc1
        obtain ⟨b, off, sp⟩ := a'
        have hs' : sp = none := by
          cases sp with
          | none => rfl
          | some q => simp [Addr.add] at hs
        subst hs'
        refine .inr ⟨b, off, rfl, by simpa [Addr.add] using hlt, fun i x hi j u hu => ?_⟩
        rw [List.getElem?_map] at hi
        obtain ⟨q, hq, rfl⟩ := Option.map_eq_some_iff.1 hi
        obtain ⟨hil, rfl⟩ := List.getElem?_eq_some_iff.1 hq
        rw [List.getElem_range] at hu
        have hil' : i < l := by simpa using hil
        have hj : j < 65 := by have := (List.getElem?_eq_some_iff.1 hu).1; rw [nc_length (hf i hil').2] at this; exact this
        have := (hf i hil').1 j hj
        rw [addr_add0, addr_add0, hu] at this
        exact this
    · obtain ⟨i, hi, rfl⟩ := List.mem_map.1 hx
      exact (hf i (List.mem_range.1 hi)).2
theorem itemL {H : Type} {enc : TypeId × Value → H} {W : World} {fuel : Nat} {cs : List Value} {y : DataW H × List MemPlace} (h : DataW.trod enc Try.prog W 0 (fun _ => true) true fuel 84 cs = some y) :
    ∃ x : Lf, cs = lfc x ∧ x.Ok := by
  obtain ⟨xs, n, _, _, hl, hlen, hx⟩ := DataW.trod_struct Try.underlying84 h
  rw [show Try.prog.cellsOf 84 = 64 by kernel_rfl] at hl
  have g : ∀ i, i < 2 → ∃ y, xs[i]? = some y := fun i hi => ⟨xs[i]'(by rw [hlen]; exact hi), List.getElem?_eq_getElem _⟩
  obtain ⟨y1, e1⟩ := g 0 (by omega)
  obtain ⟨y2, e2⟩ := g 1 (by omega)
  have k1 : DataW.trod enc Try.prog W 0 (fun _ => true) true n 23 ((cs.drop 0).take (Try.prog.cellsOf 23)) = some y1 := (hx 0 _ rfl).trans e1
  have k2 : DataW.trod enc Try.prog W 0 (fun _ => true) true n 23 ((cs.drop 32).take (Try.prog.cellsOf 23)) = some y2 := (hx 1 _ rfl).trans e2
  obtain ⟨x1, c1, l1, b1⟩ := open_arr Try.underlying23 (by kernel_rfl) k1
  obtain ⟨x2, c2, l2, b2⟩ := open_arr Try.underlying23 (by kernel_rfl) k2
  have q32 : Try.prog.cellsOf 23 = 32 := by kernel_rfl
  have d1 : (cs.drop 0).take 32 = bv x1 := by rw [q32] at c1; exact c1
  have d2 : (cs.drop 32).take 32 = bv x2 := by rw [q32] at c2; exact c2
  refine ⟨⟨x1, x2⟩, ?_, ⟨⟨l1, b1⟩, ⟨l2, b2⟩⟩⟩
  have s0 := taken d1
  rw [List.drop_zero, Nat.zero_add] at s0
  rw [s0, taken d2, List.drop_of_length_le (by omega)]
  simp [lfc, lf]
theorem open_leaves {H : Type} {enc : TypeId × Value → H} {W : World} {a : Option Addr} {l c : Nat} {d : DataW H} {p : List MemPlace}
    (h : DataW.Trod enc Try.prog W 0 (fun _ => true) true 43 (.slice a l c) d p) (hw : ∀ n ∈ d.weights Try.prog 43, n ≤ reachBytes) :
    ∃ m : List Lf, LS W (.slice a l c) m ∧ (∀ x ∈ m, x.Ok) ∧ m.length * 64 ≤ 140737488351232 := by
  obtain ⟨fuel, hf⟩ := h
  rcases DataW.trod_slice Try.underlying43 hf with ⟨hcs, hx⟩ | ⟨a', l', c', elems, rest, n, _, hcs, hx, hb, hl, hm, hlen, hel, hsp, _⟩
  · simp [Value.cells] at hcs
    obtain ⟨rfl, rfl, rfl⟩ := hcs
    exact ⟨[], ⟨none, 0, rfl, Nat.le_refl _, .inl ⟨rfl, fun _ => rfl⟩⟩, (fun x hx => by cases hx), by simp⟩
  · simp [Value.cells] at hcs
    obtain ⟨rfl, rfl, rfl⟩ := hcs
    have hce : Try.prog.cellsOf 84 = 64 := by kernel_rfl
    have hd : d = .slice (elems.map (·.1)) (rest.map (·.1)) := congrArg Prod.fst hx
    have hlen64 : l * 64 ≤ 140737488351232 := by
      have := hw (((elems.map (·.1)).length + (rest.map (·.1)).length) * Try.prog.bytesOf 84) (by
        rw [hd]
        simp only [DataW.weights, Try.underlying43]
        exact List.mem_cons_self)
      rw [show Try.prog.bytesOf 84 = 64 by kernel_rfl, List.length_map, List.length_map] at this
      have hr : reachBytes = 140737488351232 := rfl
      omega
    have each : ∀ i, ∃ o : Lf, i < l → (∀ j, j < 64 → W.cell? ((a'.add (i * 64)).add j) = (lfc o)[j]?) ∧ o.Ok := by
      intro i
      by_cases hi : i < l
      · have he := hel i hi
        have hge : elems[i]? = some elems[i] := List.getElem?_eq_getElem (by omega)
        rw [hge, hce, Option.bind_eq_some_iff] at he
        obtain ⟨cs, h1, h2⟩ := he
        obtain ⟨o, rfl, hok⟩ := itemL h2
        exact ⟨o, fun _ => ⟨(World.cells?_some h1).2.2, hok⟩⟩
      · exact ⟨lfz, fun h => absurd h hi⟩
    obtain ⟨f, hf⟩ := Classical.axiomOfChoice each
    have hml : ((List.range l).map f).length = l := by simp
    refine ⟨(List.range l).map f, ⟨some a', c, by rw [hml], by rw [hml]; exact hl, ?_⟩, fun x hx => ?_, by rw [hml]; omega⟩
    · by_cases h0 : l = 0
      · exact .inl ⟨by subst h0; rfl, fun h => by cases h⟩
      · have hc0 := (hf 0 (by omega)).1 0 (by omega)
        obtain ⟨u0, hu0⟩ : ∃ u, (lfc (f 0))[0]? = some u := ⟨_, List.getElem?_eq_getElem (by rw [lfc_length (hf 0 (by omega)).2]; omega)⟩
        have hc1 := hc0.trans hu0
        obtain ⟨hs, hlt⟩ := addr_of_cell hc1
        obtain ⟨b, off, sp⟩ := a'
        have hs' : sp = none := by
          cases sp with
          | none => rfl
          | some q => simp [Addr.add] at hs
        subst hs'
        refine .inr ⟨b, off, rfl, by simpa [Addr.add] using hlt, fun i x hi j u hu => ?_⟩
        rw [List.getElem?_map] at hi
        obtain ⟨q, hq, rfl⟩ := Option.map_eq_some_iff.1 hi
        obtain ⟨hil, rfl⟩ := List.getElem?_eq_some_iff.1 hq
        rw [List.getElem_range] at hu
        have hil' : i < l := by simpa using hil
        have hj : j < 64 := by have := (List.getElem?_eq_some_iff.1 hu).1; rw [lfc_length (hf i hil').2] at this; exact this
        have := (hf i hil').1 j hj
        rw [addr_add0, addr_add0, hu] at this
        exact this
    · obtain ⟨i, hi, rfl⟩ := List.mem_map.1 hx
      exact (hf i (List.mem_range.1 hi)).2
theorem itemK {H : Type} {enc : TypeId × Value → H} {W : World} {fuel : Nat} {cs : List Value} {y : DataW H × List MemPlace} (h : DataW.trod enc Try.prog W 0 (fun _ => true) true fuel 110 cs = some y) :
    ∃ x : Lk, cs = lkc x ∧ x.Ok := by
  obtain ⟨xs, n, _, _, hl, hlen, hx⟩ := DataW.trod_struct Try.underlying110 h
  rw [show Try.prog.cellsOf 110 = 96 by kernel_rfl] at hl
  have g : ∀ i, i < 3 → ∃ y, xs[i]? = some y := fun i hi => ⟨xs[i]'(by rw [hlen]; exact hi), List.getElem?_eq_getElem _⟩
  obtain ⟨y1, e1⟩ := g 0 (by omega)
  obtain ⟨y2, e2⟩ := g 1 (by omega)
  obtain ⟨y3, e3⟩ := g 2 (by omega)
  have k1 : DataW.trod enc Try.prog W 0 (fun _ => true) true n 23 ((cs.drop 0).take (Try.prog.cellsOf 23)) = some y1 := (hx 0 _ rfl).trans e1
  have k2 : DataW.trod enc Try.prog W 0 (fun _ => true) true n 23 ((cs.drop 32).take (Try.prog.cellsOf 23)) = some y2 := (hx 1 _ rfl).trans e2
  have k3 : DataW.trod enc Try.prog W 0 (fun _ => true) true n 23 ((cs.drop 64).take (Try.prog.cellsOf 23)) = some y3 := (hx 2 _ rfl).trans e3
  obtain ⟨x1, c1, l1, b1⟩ := open_arr Try.underlying23 (by kernel_rfl) k1
  obtain ⟨x2, c2, l2, b2⟩ := open_arr Try.underlying23 (by kernel_rfl) k2
  obtain ⟨x3, c3, l3, b3⟩ := open_arr Try.underlying23 (by kernel_rfl) k3
  have q32 : Try.prog.cellsOf 23 = 32 := by kernel_rfl
  have d1 : (cs.drop 0).take 32 = bv x1 := by rw [q32] at c1; exact c1
  have d2 : (cs.drop 32).take 32 = bv x2 := by rw [q32] at c2; exact c2
  have d3 : (cs.drop 64).take 32 = bv x3 := by rw [q32] at c3; exact c3
  refine ⟨⟨x1, x2, x3⟩, ?_, ⟨⟨l1, b1⟩, ⟨l2, b2⟩, ⟨l3, b3⟩⟩⟩
  have s0 := taken d1
  rw [List.drop_zero, Nat.zero_add] at s0
  rw [s0, taken d2, taken d3, List.drop_of_length_le (by omega)]
  simp [lkc]
theorem open_links {H : Type} {enc : TypeId × Value → H} {W : World} {a : Option Addr} {l c : Nat} {d : DataW H} {p : List MemPlace}
    (h : DataW.Trod enc Try.prog W 0 (fun _ => true) true 44 (.slice a l c) d p) (hw : ∀ n ∈ d.weights Try.prog 44, n ≤ reachBytes) :
    ∃ m : List Lk, KS W (.slice a l c) m ∧ (∀ x ∈ m, x.Ok) ∧ m.length * 96 ≤ 140737488351232 := by
  obtain ⟨fuel, hf⟩ := h
  rcases DataW.trod_slice Try.underlying44 hf with ⟨hcs, hx⟩ | ⟨a', l', c', elems, rest, n, _, hcs, hx, hb, hl, hm, hlen, hel, hsp, _⟩
  · simp [Value.cells] at hcs
    obtain ⟨rfl, rfl, rfl⟩ := hcs
    exact ⟨[], ⟨none, 0, rfl, Nat.le_refl _, .inl ⟨rfl, fun _ => rfl⟩⟩, (fun x hx => by cases hx), by simp⟩
  · simp [Value.cells] at hcs
    obtain ⟨rfl, rfl, rfl⟩ := hcs
    have hce : Try.prog.cellsOf 110 = 96 := by kernel_rfl
    have hd : d = .slice (elems.map (·.1)) (rest.map (·.1)) := congrArg Prod.fst hx
    have hlen64 : l * 96 ≤ 140737488351232 := by
      have := hw (((elems.map (·.1)).length + (rest.map (·.1)).length) * Try.prog.bytesOf 110) (by
        rw [hd]
        simp only [DataW.weights, Try.underlying44]
        exact List.mem_cons_self)
      rw [show Try.prog.bytesOf 110 = 96 by kernel_rfl, List.length_map, List.length_map] at this
      have hr : reachBytes = 140737488351232 := rfl
      omega
    have each : ∀ i, ∃ o : Lk, i < l → (∀ j, j < 96 → W.cell? ((a'.add (i * 96)).add j) = (lkc o)[j]?) ∧ o.Ok := by
      intro i
      by_cases hi : i < l
      · have he := hel i hi
        have hge : elems[i]? = some elems[i] := List.getElem?_eq_getElem (by omega)
        rw [hge, hce, Option.bind_eq_some_iff] at he
        obtain ⟨cs, h1, h2⟩ := he
        obtain ⟨o, rfl, hok⟩ := itemK h2
        exact ⟨o, fun _ => ⟨(World.cells?_some h1).2.2, hok⟩⟩
      · exact ⟨lkz, fun h => absurd h hi⟩
    obtain ⟨f, hf⟩ := Classical.axiomOfChoice each
    have hml : ((List.range l).map f).length = l := by simp
    refine ⟨(List.range l).map f, ⟨some a', c, by rw [hml], by rw [hml]; exact hl, ?_⟩, fun x hx => ?_, by rw [hml]; omega⟩
    · by_cases h0 : l = 0
      · exact .inl ⟨by subst h0; rfl, fun h => by cases h⟩
      · have hc0 := (hf 0 (by omega)).1 0 (by omega)
        obtain ⟨u0, hu0⟩ : ∃ u, (lkc (f 0))[0]? = some u := ⟨_, List.getElem?_eq_getElem (by rw [lkc_length (hf 0 (by omega)).2]; omega)⟩
        have hc1 := hc0.trans hu0
        obtain ⟨hs, hlt⟩ := addr_of_cell hc1
        obtain ⟨b, off, sp⟩ := a'
        have hs' : sp = none := by
          cases sp with
          | none => rfl
          | some q => simp [Addr.add] at hs
        subst hs'
        refine .inr ⟨b, off, rfl, by simpa [Addr.add] using hlt, fun i x hi j u hu => ?_⟩
        rw [List.getElem?_map] at hi
        obtain ⟨q, hq, rfl⟩ := Option.map_eq_some_iff.1 hi
        obtain ⟨hil, rfl⟩ := List.getElem?_eq_some_iff.1 hq
        rw [List.getElem_range] at hu
        have hil' : i < l := by simpa using hil
        have hj : j < 96 := by have := (List.getElem?_eq_some_iff.1 hu).1; rw [lkc_length (hf i hil').2] at this; exact this
        have := (hf i hil').1 j hj
        rw [addr_add0, addr_add0, hu] at this
        exact this
    · obtain ⟨i, hi, rfl⟩ := List.mem_map.1 hx
      exact (hf i (List.mem_range.1 hi)).2
theorem itemR {H : Type} {enc : TypeId × Value → H} {W : World} {fuel : Nat} {cs : List Value} {y : DataW H × List MemPlace} (hf : DataW.trod enc Try.prog W 0 (fun _ => true) true fuel 26 cs = some y) : ∃ R : Rt, R.Ok ∧ cs = R.cells := by
  obtain ⟨xs, n, _, _, hl, hlen, hx⟩ := DataW.trod_struct Try.underlying26 hf
  rw [show Try.prog.cellsOf 26 = 163 by kernel_rfl] at hl
  have g : ∀ i, i < 7 → ∃ y, xs[i]? = some y := fun i hi => ⟨xs[i]'(by rw [hlen]; exact hi), List.getElem?_eq_getElem _⟩
  obtain ⟨y0, e0⟩ := g 0 (by omega)
  obtain ⟨y1, e1⟩ := g 1 (by omega)
  obtain ⟨y2, e2⟩ := g 2 (by omega)
  obtain ⟨y3, e3⟩ := g 3 (by omega)
  obtain ⟨y4, e4⟩ := g 4 (by omega)
  obtain ⟨y5, e5⟩ := g 5 (by omega)
  obtain ⟨y6, e6⟩ := g 6 (by omega)
  have k0 : DataW.trod enc Try.prog W 0 (fun _ => true) true n 22 ((cs.drop 0).take (Try.prog.cellsOf 22)) = some y0 := (hx 0 _ rfl).trans e0
  have k1 : DataW.trod enc Try.prog W 0 (fun _ => true) true n 22 ((cs.drop 1).take (Try.prog.cellsOf 22)) = some y1 := (hx 1 _ rfl).trans e1
  have k2 : DataW.trod enc Try.prog W 0 (fun _ => true) true n 22 ((cs.drop 2).take (Try.prog.cellsOf 22)) = some y2 := (hx 2 _ rfl).trans e2
  have k3 : DataW.trod enc Try.prog W 0 (fun _ => true) true n 23 ((cs.drop 3).take (Try.prog.cellsOf 23)) = some y3 := (hx 3 _ rfl).trans e3
  have k4 : DataW.trod enc Try.prog W 0 (fun _ => true) true n 23 ((cs.drop 35).take (Try.prog.cellsOf 23)) = some y4 := (hx 4 _ rfl).trans e4
  have k5 : DataW.trod enc Try.prog W 0 (fun _ => true) true n 23 ((cs.drop 67).take (Try.prog.cellsOf 23)) = some y5 := (hx 5 _ rfl).trans e5
  have k6 : DataW.trod enc Try.prog W 0 (fun _ => true) true n 24 ((cs.drop 99).take (Try.prog.cellsOf 24)) = some y6 := (hx 6 _ rfl).trans e6
  obtain ⟨n0, c0, -, w0⟩ := DataW.trod_int Try.underlying22 k0
  obtain ⟨n1, c1, -, w1⟩ := DataW.trod_int Try.underlying22 k1
  obtain ⟨n2, c2, -, w2⟩ := DataW.trod_int Try.underlying22 k2
  obtain ⟨x3, c3, l3, b3⟩ := open_arr Try.underlying23 (by kernel_rfl) k3
  obtain ⟨x4, c4, l4, b4⟩ := open_arr Try.underlying23 (by kernel_rfl) k4
  obtain ⟨x5, c5, l5, b5⟩ := open_arr Try.underlying23 (by kernel_rfl) k5
  obtain ⟨x6, c6, l6, b6⟩ := open_arr Try.underlying24 (by kernel_rfl) k6
  refine ⟨⟨n0, n1, n2, x3, x4, x5, x6⟩, ⟨u64_wf w0, u64_wf w1, u64_wf w2, ⟨l3, b3⟩, ⟨l4, b4⟩, ⟨l5, b5⟩, ⟨l6, b6⟩⟩, ?_⟩
  have q32 : Try.prog.cellsOf 23 = 32 := by kernel_rfl
  have q64 : Try.prog.cellsOf 24 = 64 := by kernel_rfl
  have q1 : Try.prog.cellsOf 22 = 1 := by kernel_rfl
  have d0 : (cs.drop 0).take 1 = [.int .u64 n0] := by rw [q1] at c0; exact c0
  have d1 : (cs.drop 1).take 1 = [.int .u64 n1] := by rw [q1] at c1; exact c1
  have d2 : (cs.drop 2).take 1 = [.int .u64 n2] := by rw [q1] at c2; exact c2
  have d3 : (cs.drop 3).take 32 = bv x3 := by rw [q32] at c3; exact c3
  have d4 : (cs.drop 35).take 32 = bv x4 := by rw [q32] at c4; exact c4
  have d5 : (cs.drop 67).take 32 = bv x5 := by rw [q32] at c5; exact c5
  have d6 : (cs.drop 99).take 64 = bv x6 := by rw [q64] at c6; exact c6
  have s0 := take1 d0
  rw [List.drop_zero] at s0
  rw [s0, take1 d1, take1 d2, taken d3, taken d4, taken d5, taken d6, List.drop_of_length_le (by omega)]
  simp [Rt.cells]
theorem each_mem {H : Type} {P : Program} : ∀ {ts : List TypeId} {ds : List (DataW H)} {j : Nat} {t : TypeId} {d : DataW H}, ts[j]? = some t → ds[j]? = some d → ∀ n ∈ d.weights P t, n ∈ DataW.weightsEach P ts ds
  | [], _, j, _, _, h, _, _, _ => by simp at h
  | _ :: _, [], j, _, _, _, h, _, _ => by simp at h
  | a :: ts, b :: ds, 0, t, d, h1, h2, n, hn => by
    simp at h1 h2; subst h1; subst h2
    simp only [DataW.weightsEach, List.mem_append]
    exact .inl hn
  | a :: ts, b :: ds, j + 1, t, d, h1, h2, n, hn => by
    simp at h1 h2
    simp only [DataW.weightsEach, List.mem_append]
    exact .inr (each_mem h1 h2 n hn)
/-- A slice's one cell. -/
theorem one_slice {H : Type} {enc : TypeId × Value → H} {W : World} {fuel : Nat} {t e : TypeId} {cs : List Value} {y : DataW H × List MemPlace} (ht : Try.prog.underlying t = some (.slice e)) (h : DataW.trod enc Try.prog W 0 (fun _ => true) true fuel t cs = some y) : ∃ a l c, cs = [.slice a l c] ∧ DataW.Trod enc Try.prog W 0 (fun _ => true) true t (.slice a l c) y.1 y.2 := by
  rcases DataW.trod_slice ht h with ⟨hcs, _⟩ | ⟨a, l, c, _, _, _, _, hcs, _⟩
  · exact ⟨none, 0, 0, hcs, fuel, by rw [hcs] at h; exact h⟩
  · exact ⟨some a, l, c, hcs, fuel, by rw [hcs] at h; exact h⟩
theorem open_step {H : Type} {enc : TypeId × Value → H} {W : World} {v : Value} {d : DataW H} {p : List MemPlace} (h : DataW.Trod enc Try.prog W 0 (fun _ => true) true 46 v d p) (hw : ∀ n ∈ d.weights Try.prog 46, n ≤ reachBytes) :
    ∃ (S : Sp) (A : List Value), S.Ok ∧ v = .agg A.toArray ∧ SV W A S := by
  obtain ⟨fuel, hf⟩ := h
  obtain ⟨xs, n, _, hdx, hl, hlen, hx⟩ := DataW.trod_struct Try.underlying46 hf
  rw [show Try.prog.cellsOf 46 = 166 by kernel_rfl] at hl
  have hd : d = .agg (xs.map (·.1)) := congrArg Prod.fst hdx
  have g : ∀ i, i < 4 → ∃ y, xs[i]? = some y := fun i hi => ⟨xs[i]'(by rw [hlen]; exact hi), List.getElem?_eq_getElem _⟩
  obtain ⟨y0, e0⟩ := g 0 (by omega)
  obtain ⟨y1, e1⟩ := g 1 (by omega)
  obtain ⟨y2, e2⟩ := g 2 (by omega)
  obtain ⟨y3, e3⟩ := g 3 (by omega)
  have k0 : DataW.trod enc Try.prog W 0 (fun _ => true) true n 26 ((v.cells.toList.drop 0).take (Try.prog.cellsOf 26)) = some y0 := (hx 0 _ rfl).trans e0
  have k1 : DataW.trod enc Try.prog W 0 (fun _ => true) true n 29 ((v.cells.toList.drop 163).take (Try.prog.cellsOf 29)) = some y1 := (hx 1 _ rfl).trans e1
  have k2 : DataW.trod enc Try.prog W 0 (fun _ => true) true n 43 ((v.cells.toList.drop 164).take (Try.prog.cellsOf 43)) = some y2 := (hx 2 _ rfl).trans e2
  have k3 : DataW.trod enc Try.prog W 0 (fun _ => true) true n 44 ((v.cells.toList.drop 165).take (Try.prog.cellsOf 44)) = some y3 := (hx 3 _ rfl).trans e3
  have we : ∀ (j : Nat) (t : TypeId) (y : DataW H × List MemPlace), ([26, 29, 43, 44] : List TypeId)[j]? = some t → xs[j]? = some y → ∀ q ∈ y.1.weights Try.prog t, q ≤ reachBytes := fun j t y h1 h2 q hq => hw q (by
    rw [hd]
    simp only [DataW.weights, Try.underlying46]
    exact each_mem (ts := [26, 29, 43, 44]) h1 (by rw [List.getElem?_map, h2]; rfl) q hq)
  obtain ⟨R, ro, c0⟩ := itemR k0
  obtain ⟨a1, l1, p1, c1, t1⟩ := one_slice Try.underlying29 k1
  obtain ⟨a2, l2, p2, c2, t2⟩ := one_slice Try.underlying43 k2
  obtain ⟨a3, l3, p3, c3, t3⟩ := one_slice Try.underlying44 k3
  obtain ⟨ns, n1, n2, n3⟩ := open_nodes t1 (we 1 _ _ rfl e1)
  obtain ⟨ls, m1, m2, m3⟩ := open_leaves t2 (we 2 _ _ rfl e2)
  obtain ⟨ks, o1, o2, o3⟩ := open_links t3 (we 3 _ _ rfl e3)
  have q163 : Try.prog.cellsOf 26 = 163 := by kernel_rfl
  have qn : Try.prog.cellsOf 29 = 1 := by kernel_rfl
  have ql : Try.prog.cellsOf 43 = 1 := by kernel_rfl
  have qk : Try.prog.cellsOf 44 = 1 := by kernel_rfl
  have d0 : (v.cells.toList.drop 0).take 163 = R.cells := by rw [q163] at c0; exact c0
  have d1 : (v.cells.toList.drop 163).take 1 = [.slice a1 l1 p1] := by rw [qn] at c1; exact c1
  have d2 : (v.cells.toList.drop 164).take 1 = [.slice a2 l2 p2] := by rw [ql] at c2; exact c2
  have d3 : (v.cells.toList.drop 165).take 1 = [.slice a3 l3 p3] := by rw [qk] at c3; exact c3
  have all : v.cells.toList = sc R (.slice a1 l1 p1) (.slice a2 l2 p2) (.slice a3 l3 p3) := by
    have s0 := taken d0
    rw [List.drop_zero] at s0
    rw [s0, taken d1, taken d2, taken d3, List.drop_of_length_le (by omega)]
    simp [sc]
  refine ⟨⟨R, ns, ls, ks⟩, sc R (.slice a1 l1 p1) (.slice a2 l2 p2) (.slice a3 l3 p3), ⟨ro, n2, m2, o2, n3, m3, o3⟩, ?_, ⟨_, _, _, rfl, n1, m1, o1⟩⟩
  cases v with
  | agg cs => simp only [Value.cells] at all; rw [← all]
  | _ => simp [Value.cells] at hl
end Go.Proofs.Ytfnmdeekenjlgaa
