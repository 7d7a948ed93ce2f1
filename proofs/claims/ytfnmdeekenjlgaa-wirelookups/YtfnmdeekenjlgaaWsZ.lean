/- What comes in as a lookup. -/
import Derived.Test.YtfnmdeekenjlgaaWsV
import Derived.Test.YtfnmdeekenjlgaaWsU
namespace Go.Proofs.Ytfnmdeekenjlgaa
open Go Go.ChangeShapes Go.WideShapes Go.ChangeAt Go.RowKit
set_option linter.unusedVariables false
set_option maxRecDepth 100000

theorem item32 {H : Type} {enc : TypeId × Value → H} {W : World} {fuel : Nat} {cs : List Value} {y : DataW H × List MemPlace} (h : DataW.trod enc Try.prog W 0 (fun _ => true) true fuel 23 cs = some y) :
    ∃ x : List Int, cs = bv x ∧ L32 x := by
  obtain ⟨x, h1, h2, h3⟩ := open_arr Try.underlying23 (by kernel_rfl) h
  exact ⟨x, h1, ⟨h2, h3⟩⟩
theorem open_ys {H : Type} {enc : TypeId × Value → H} {W : World} {a : Option Addr} {l c : Nat} {d : DataW H} {p : List MemPlace}
    (h : DataW.Trod enc Try.prog W 0 (fun _ => true) true 27 (.slice a l c) d p) (hw : ∀ n ∈ d.weights Try.prog 27, n ≤ reachBytes) :
    ∃ m : List (List Int), YS W (.slice a l c) m ∧ (∀ x ∈ m, L32 x) ∧ m.length * 32 ≤ 140737488351232 := by
  obtain ⟨fuel, hf⟩ := h
  rcases DataW.trod_slice Try.underlying27 hf with ⟨hcs, hx⟩ | ⟨a', l', c', elems, rest, n, _, hcs, hx, hb, hl, hm, hlen, hel, hsp, _⟩
  · simp [Value.cells] at hcs
    obtain ⟨rfl, rfl, rfl⟩ := hcs
    exact ⟨[], ⟨none, 0, rfl, Nat.le_refl _, .inl ⟨rfl, fun _ => rfl⟩⟩, (fun x hx => by cases hx), by simp⟩
  · simp [Value.cells] at hcs
    obtain ⟨rfl, rfl, rfl⟩ := hcs
    have hce : Try.prog.cellsOf 23 = 32 := by kernel_rfl
    have hd : d = .slice (elems.map (·.1)) (rest.map (·.1)) := congrArg Prod.fst hx
    have hlen32 : l * 32 ≤ 140737488351232 := by
      have := hw (((elems.map (·.1)).length + (rest.map (·.1)).length) * Try.prog.bytesOf 23) (by
        rw [hd]
        simp only [DataW.weights, Try.underlying27]
        exact List.mem_cons_self)
      rw [show Try.prog.bytesOf 23 = 32 by kernel_rfl, List.length_map, List.length_map] at this
      have hr : reachBytes = 140737488351232 := rfl
      omega
    have each : ∀ i, ∃ o : (List Int), i < l → (∀ j, j < 32 → W.cell? ((a'.add (i * 32)).add j) = (bv o)[j]?) ∧ L32 o := by
      intro i
      by_cases hi : i < l
      · have he := hel i hi
        have hge : elems[i]? = some elems[i] := List.getElem?_eq_getElem (by omega)
        rw [hge, hce, Option.bind_eq_some_iff] at he
        obtain ⟨cs, h1, h2⟩ := he
        obtain ⟨o, rfl, hok⟩ := item32 h2
        exact ⟨o, fun _ => ⟨(World.cells?_some h1).2.2, hok⟩⟩
      · exact ⟨z32, fun h => absurd h hi⟩
    obtain ⟨f, hf⟩ := Classical.axiomOfChoice each
    have hml : ((List.range l).map f).length = l := by simp
    refine ⟨(List.range l).map f, ⟨some a', c, by rw [hml], by rw [hml]; exact hl, ?_⟩, fun x hx => ?_, by rw [hml]; omega⟩
    · by_cases h0 : l = 0
      · exact .inl ⟨by subst h0; rfl, fun h => by cases h⟩
      · have hc0 := (hf 0 (by omega)).1 0 (by omega)
        obtain ⟨u0, hu0⟩ : ∃ u, (bv (f 0))[0]? = some u := ⟨_, List.getElem?_eq_getElem (by rw [l32_cells (hf 0 (by omega)).2]; omega)⟩
        have hc1 := hc0.trans hu0
        obtain ⟨hs, hlt⟩ := addr_of_cell hc1
        obtain ⟨b, off, sp⟩ := a'
        have hs' : sp = none := by
          cases sp with
          | none => rfl
          | some q => simp [Addr.add] at hs
        subst hs'
        refine .inr ⟨b, off, rfl, by simpa [Addr.add] using hlt, fun i x hi j u hu => ?_⟩
        rw [List.getElem?_map] at hi
        obtain ⟨q, hq, rfl⟩ := Option.map_eq_some_iff.1 hi
        obtain ⟨hil, rfl⟩ := List.getElem?_eq_some_iff.1 hq
        rw [List.getElem_range] at hu
        have hil' : i < l := by simpa using hil
        have hj : j < 32 := by have := (List.getElem?_eq_some_iff.1 hu).1; rw [l32_cells (hf i hil').2] at this; exact this
        have := (hf i hil').1 j hj
        rw [addr_add0, addr_add0, hu] at this
        exact this
    · obtain ⟨i, hi, rfl⟩ := List.mem_map.1 hx
      exact (hf i (List.mem_range.1 hi)).2
theorem itemO {H : Type} {enc : TypeId × Value → H} {W : World} {fuel : Nat} {cs : List Value} {y : DataW H × List MemPlace} (hf : DataW.trod enc Try.prog W 0 (fun _ => true) true fuel 31 cs = some y) (hw : ∀ n ∈ y.1.weights Try.prog 31, n ≤ reachBytes) :
    ∃ (p : List Int) (ns : List Nd) (a : Option Addr) (l c : Nat), cs = oc p (.slice a l c) ∧ (p.length = 80 ∧ Byt p) ∧ NS W (.slice a l c) ns ∧ (∀ x ∈ ns, x.Ok) ∧ ns.length * 72 ≤ 140737488351232 := by
  obtain ⟨xs, n, _, hdx, hl, hlen, hx⟩ := DataW.trod_struct Try.underlying31 hf
  rw [show Try.prog.cellsOf 31 = 81 by kernel_rfl] at hl
  have hd : y.1 = .agg (xs.map (·.1)) := congrArg Prod.fst hdx
  have g : ∀ i, i < 2 → ∃ y, xs[i]? = some y := fun i hi => ⟨xs[i]'(by rw [hlen]; exact hi), List.getElem?_eq_getElem _⟩
  obtain ⟨y0, e0⟩ := g 0 (by omega)
  obtain ⟨y1, e1⟩ := g 1 (by omega)
  have k0 : DataW.trod enc Try.prog W 0 (fun _ => true) true n 28 ((cs.drop 0).take (Try.prog.cellsOf 28)) = some y0 := (hx 0 _ rfl).trans e0
  have k1 : DataW.trod enc Try.prog W 0 (fun _ => true) true n 29 ((cs.drop 80).take (Try.prog.cellsOf 29)) = some y1 := (hx 1 _ rfl).trans e1
  have we : ∀ q ∈ y1.1.weights Try.prog 29, q ≤ reachBytes := fun q hq => hw q (by
    rw [hd]
    simp only [DataW.weights, Try.underlying31]
    exact each_mem (ts := [28, 29]) (j := 1) rfl (by rw [List.getElem?_map, e1]; rfl) q hq)
  obtain ⟨x0, c0, l0, b0⟩ := open_arr Try.underlying28 (by kernel_rfl) k0
  obtain ⟨a1, l1, p1, c1, t1⟩ := one_slice Try.underlying29 k1
  obtain ⟨ns, n1, n2, n3⟩ := open_nodes t1 we
  have q80 : Try.prog.cellsOf 28 = 80 := by kernel_rfl
  have qn : Try.prog.cellsOf 29 = 1 := by kernel_rfl
  have d0 : (cs.drop 0).take 80 = bv x0 := by rw [q80] at c0; exact c0
  have d1 : (cs.drop 80).take 1 = [.slice a1 l1 p1] := by rw [qn] at c1; exact c1
  refine ⟨x0, ns, a1, l1, p1, ?_, ⟨l0, b0⟩, n1, n2, n3⟩
  have s0 := taken d0
  rw [List.drop_zero] at s0
  rw [s0, taken d1, List.drop_of_length_le (by omega)]
  simp [oc]
theorem open_lookup {H : Type} {enc : TypeId × Value → H} {W : World} {v : Value} {d : DataW H} {p : List MemPlace} (h : DataW.Trod enc Try.prog W 0 (fun _ => true) true 33 v d p) (hw : ∀ n ∈ d.weights Try.prog 33, n ≤ reachBytes) :
    ∃ (S : Lp) (A : List Value), S.Ok ∧ v = .agg A.toArray ∧ LV W A S := by
  obtain ⟨fuel, hf⟩ := h
  obtain ⟨xs, n, _, hdx, hl, hlen, hx⟩ := DataW.trod_struct Try.underlying33 hf
  rw [show Try.prog.cellsOf 33 = 328 by kernel_rfl] at hl
  have hd : d = .agg (xs.map (·.1)) := congrArg Prod.fst hdx
  have g : ∀ i, i < 6 → ∃ y, xs[i]? = some y := fun i hi => ⟨xs[i]'(by rw [hlen]; exact hi), List.getElem?_eq_getElem _⟩
  obtain ⟨y0, e0⟩ := g 0 (by omega)
  obtain ⟨y1, e1⟩ := g 1 (by omega)
  obtain ⟨y2, e2⟩ := g 2 (by omega)
  obtain ⟨y3, e3⟩ := g 3 (by omega)
  obtain ⟨y4, e4⟩ := g 4 (by omega)
  obtain ⟨y5, e5⟩ := g 5 (by omega)
  have k0 : DataW.trod enc Try.prog W 0 (fun _ => true) true n 26 ((v.cells.toList.drop 0).take (Try.prog.cellsOf 26)) = some y0 := (hx 0 _ rfl).trans e0
  have k1 : DataW.trod enc Try.prog W 0 (fun _ => true) true n 9 ((v.cells.toList.drop 163).take (Try.prog.cellsOf 9)) = some y1 := (hx 1 _ rfl).trans e1
  have k2 : DataW.trod enc Try.prog W 0 (fun _ => true) true n 22 ((v.cells.toList.drop 164).take (Try.prog.cellsOf 22)) = some y2 := (hx 2 _ rfl).trans e2
  have k3 : DataW.trod enc Try.prog W 0 (fun _ => true) true n 27 ((v.cells.toList.drop 165).take (Try.prog.cellsOf 27)) = some y3 := (hx 3 _ rfl).trans e3
  have k4 : DataW.trod enc Try.prog W 0 (fun _ => true) true n 31 ((v.cells.toList.drop 166).take (Try.prog.cellsOf 31)) = some y4 := (hx 4 _ rfl).trans e4
  have k5 : DataW.trod enc Try.prog W 0 (fun _ => true) true n 31 ((v.cells.toList.drop 247).take (Try.prog.cellsOf 31)) = some y5 := (hx 5 _ rfl).trans e5
  have we : ∀ (j : Nat) (t : TypeId) (y : DataW H × List MemPlace), ([26, 9, 22, 27, 31, 31] : List TypeId)[j]? = some t → xs[j]? = some y → ∀ q ∈ y.1.weights Try.prog t, q ≤ reachBytes := fun j t y h1 h2 q hq => hw q (by
    rw [hd]
    simp only [DataW.weights, Try.underlying33]
    exact each_mem (ts := [26, 9, 22, 27, 31, 31]) h1 (by rw [List.getElem?_map, h2]; rfl) q hq)
  obtain ⟨R, ro, c0⟩ := itemR k0
  obtain ⟨s, c1, x1, _⟩ := DataW.trod_string Try.underlying9 k1
  have hs : s.size ≤ 140737488351232 := by
    have := we 1 _ _ rfl e1 s.size (by rw [x1]; simp only [DataW.weights]; rw [Array.length_toList]; exact List.mem_cons_self)
    have hr : reachBytes = 140737488351232 := rfl
    omega
  obtain ⟨z, c2, -, w2⟩ := DataW.trod_int Try.underlying22 k2
  obtain ⟨a3, l3, p3, c3, t3⟩ := one_slice Try.underlying27 k3
  obtain ⟨ds, m1, m2, m3⟩ := open_ys t3 (we 3 _ _ rfl e3)
  obtain ⟨fp, fn, a4, l4, p4, c4, f1, f2, f3, f4⟩ := itemO k4 (we 4 _ _ rfl e4)
  obtain ⟨sp, sn, a5, l5, p5, c5, g1, g2, g3, g4⟩ := itemO k5 (we 5 _ _ rfl e5)
  have q0 : Try.prog.cellsOf 26 = 163 := by kernel_rfl
  have q1 : Try.prog.cellsOf 9 = 1 := by kernel_rfl
  have q2 : Try.prog.cellsOf 22 = 1 := by kernel_rfl
  have q3 : Try.prog.cellsOf 27 = 1 := by kernel_rfl
  have q4 : Try.prog.cellsOf 31 = 81 := by kernel_rfl
  have d0 : (v.cells.toList.drop 0).take 163 = R.cells := by rw [q0] at c0; exact c0
  have d1 : (v.cells.toList.drop 163).take 1 = [.string s] := by rw [q1] at c1; exact c1
  have d2 : (v.cells.toList.drop 164).take 1 = [.int .u64 z] := by rw [q2] at c2; exact c2
  have d3 : (v.cells.toList.drop 165).take 1 = [.slice a3 l3 p3] := by rw [q3] at c3; exact c3
  have d4 : (v.cells.toList.drop 166).take 81 = oc fp (.slice a4 l4 p4) := by rw [q4] at c4; exact c4
  have d5 : (v.cells.toList.drop 247).take 81 = oc sp (.slice a5 l5 p5) := by rw [q4] at c5; exact c5
  have all : v.cells.toList = lc ⟨R, s, z, ds, fp, fn, sp, sn⟩ (.slice a3 l3 p3) (.slice a4 l4 p4) (.slice a5 l5 p5) := by
    have s0 := taken d0
    rw [List.drop_zero] at s0
    rw [s0, taken d1, taken d2, taken d3, taken d4, taken d5, List.drop_of_length_le (by omega)]
    simp [lc, oc]
  refine ⟨⟨R, s, z, ds, fp, fn, sp, sn⟩, lc ⟨R, s, z, ds, fp, fn, sp, sn⟩ (.slice a3 l3 p3) (.slice a4 l4 p4) (.slice a5 l5 p5), ⟨ro, hs, u64_wf w2, m2, m3, f1, f3, f4, g1, g3, g4⟩, ?_, ⟨_, _, _, rfl, m1, f2, g2⟩⟩
  cases v with
  | agg cs => simp only [Value.cells] at all; rw [← all]
  | _ => simp [Value.cells] at hl
end Go.Proofs.Ytfnmdeekenjlgaa
