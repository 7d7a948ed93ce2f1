/- What comes in as nodes and as a label. -/
import Derived.Test.YtpojalbpekbfdaaDoorRows
import Derived.Test.YtpojalbpekbfdaaDoorTraB
import Derived.ProofKit
import Derived.OpenShut
import Derived.ChangeOld
import Derived.SizedLaws
import Derived.ChangeArms
import Derived.Test.YtpojalbpekbfdaaDoorGrpA
namespace Go.Proofs.YtpojalbpekbfdaaDoor
open Go Go.ChangeShapes Go.WideShapes Go.ChangeAt Go.RowKit
set_option linter.unusedVariables false
set_option maxRecDepth 100000

theorem byte_wf {n : Int} (h : (Lit.int .u8 n).wf = true) : 0 ≤ n ∧ n ≤ 255 := by
  simp only [Lit.wf, Bool.and_eq_true, decide_eq_true_eq] at h
  exact h
theorem addr_of_cell {W : World} {x : Addr} {v : Value} (h : W.cell? x = some v) : x.spot = none ∧ x.block < W.heap.size := by
  unfold World.cell? at h
  split at h
  · rename_i hg
    split at h
    · cases h
    · rename_i hs
      exact ⟨by simpa using hs, (Array.getElem?_eq_some_iff.1 hg).1⟩
  · cases h
theorem open_arr {H : Type} {enc : TypeId × Value → H} {W : World} {t : TypeId} {n fuel : Nat} {cs : List Value} {y : DataW H × List MemPlace} (ht : Tryd.prog.underlying t = some (.array n 5)) (hc : Tryd.prog.cellsOf t = n)
    (h : DataW.trod enc Tryd.prog W 0 (fun _ => true) true fuel t cs = some y) : ∃ xs, cs = bv xs ∧ xs.length = n ∧ Byt xs := by
  obtain ⟨xs, m, _, _, hl, hlen, hf⟩ := DataW.trod_array ht h
  rw [hc] at hl
  have h1 : Tryd.prog.cellsOf 5 = 1 := by kernel_rfl
  have each : ∀ i, ∃ z : Int, i < n → cs[i]? = some (.int .u8 z) ∧ (0 ≤ z ∧ z ≤ 255) := by
    intro i
    by_cases hi : i < n
    · have := hf i hi
      have hx : xs[i]? = some xs[i] := List.getElem?_eq_getElem (by omega)
      rw [hx, h1, Nat.mul_one] at this
      obtain ⟨z, hz, -, hw⟩ := DataW.trod_int Tryd.underlying5 this
      refine ⟨z, fun _ => ⟨?_, byte_wf hw⟩⟩
      have e : ((cs.drop i).take 1)[0]? = some (.int .u8 z) := by rw [hz]; rfl
      rw [List.getElem?_take, if_pos (by omega), List.getElem?_drop] at e
      simpa using e
    · exact ⟨0, fun h => absurd h hi⟩
  obtain ⟨f, hf'⟩ := Classical.axiomOfChoice each
  refine ⟨(List.range n).map f, ?_, by simp, fun z hz => ?_⟩
  · apply List.ext_getElem?
    intro i
    by_cases hi : i < n
    · rw [(hf' i hi).1]; simp [bv, hi]
    · rw [List.getElem?_eq_none (by omega), List.getElem?_eq_none (by simp [bv]; omega)]
  · obtain ⟨i, hi, rfl⟩ := List.mem_map.1 hz
    exact (hf' i (List.mem_range.1 hi)).2
theorem take1 {cs : List Value} {o : Nat} {v : Value} (h : (cs.drop o).take 1 = [v]) : cs.drop o = v :: cs.drop (o + 1) := by
  cases hd : cs.drop o with
  | nil => rw [hd] at h; simp at h
  | cons x r =>
    rw [hd] at h
    simp at h
    subst h
    have : (cs.drop o).drop 1 = r := by rw [hd]; rfl
    rw [List.drop_drop] at this
    rw [this]
theorem taken {cs xs : List Value} {o n : Nat} (h : (cs.drop o).take n = xs) : cs.drop o = xs ++ cs.drop (o + n) := by
  rw [← h, ← List.drop_drop, List.take_append_drop]
theorem open_label {H : Type} {enc : TypeId × Value → H} {W : World} {v : Value} {d : DataW H} {p : List MemPlace} (h : DataW.Trod enc Tryd.prog W 0 (fun _ => true) true 31 v d p) : ∃ y, L32 y ∧ v = .agg (bv y).toArray := by
  obtain ⟨fuel, hf⟩ := h
  obtain ⟨x, c, l, b⟩ := open_arr Tryd.underlying31 (by kernel_rfl) hf
  refine ⟨x, ⟨l, b⟩, ?_⟩
  cases v with
  | agg cs => simp only [Value.cells] at c; rw [← c]
  | _ =>
    exfalso
    have := congrArg List.length c
    rw [bv_length, l] at this
    simp [Value.cells] at this
theorem item {H : Type} {enc : TypeId × Value → H} {W : World} {fuel : Nat} {cs : List Value} {y : DataW H × List MemPlace} (h : DataW.trod enc Tryd.prog W 0 (fun _ => true) true fuel 44 cs = some y) :
    ∃ x : Nd, cs = nc x ∧ x.Ok := by
  obtain ⟨xs, n, _, _, hl, hlen, hx⟩ := DataW.trod_struct Tryd.underlying44 h
  rw [show Tryd.prog.cellsOf 44 = 65 by kernel_rfl] at hl
  have g : ∀ i, i < 3 → ∃ y, xs[i]? = some y := fun i hi => ⟨xs[i]'(by rw [hlen]; exact hi), List.getElem?_eq_getElem _⟩
  obtain ⟨y0, e0⟩ := g 0 (by omega)
  obtain ⟨y1, e1⟩ := g 1 (by omega)
  obtain ⟨y2, e2⟩ := g 2 (by omega)
  have k0 : DataW.trod enc Tryd.prog W 0 (fun _ => true) true n 3 ((cs.drop 0).take (Tryd.prog.cellsOf 3)) = some y0 := (hx 0 _ rfl).trans e0
  have k1 : DataW.trod enc Tryd.prog W 0 (fun _ => true) true n 31 ((cs.drop 1).take (Tryd.prog.cellsOf 31)) = some y1 := (hx 1 _ rfl).trans e1
  have k2 : DataW.trod enc Tryd.prog W 0 (fun _ => true) true n 31 ((cs.drop 33).take (Tryd.prog.cellsOf 31)) = some y2 := (hx 2 _ rfl).trans e2
  obtain ⟨n0, c0, -, w0⟩ := DataW.trod_int Tryd.underlying3 k0
  obtain ⟨x1, c1, l1, b1⟩ := open_arr Tryd.underlying31 (by kernel_rfl) k1
  obtain ⟨x2, c2, l2, b2⟩ := open_arr Tryd.underlying31 (by kernel_rfl) k2
  have q32 : Tryd.prog.cellsOf 31 = 32 := by kernel_rfl
  have q1 : Tryd.prog.cellsOf 3 = 1 := by kernel_rfl
  have d0 : (cs.drop 0).take 1 = [.int .i64 n0] := by rw [q1] at c0; exact c0
  have d1 : (cs.drop 1).take 32 = bv x1 := by rw [q32] at c1; exact c1
  have d2 : (cs.drop 33).take 32 = bv x2 := by rw [q32] at c2; exact c2
  refine ⟨⟨n0, x1, x2⟩, ?_, ⟨⟨l1, b1⟩, ⟨l2, b2⟩⟩⟩
  have s0 := take1 d0
  rw [List.drop_zero] at s0
  rw [s0, taken d1, taken d2, List.drop_of_length_le (by omega)]
  simp [nc]
theorem open_nodes {H : Type} {enc : TypeId × Value → H} {W : World} {a : Option Addr} {l c : Nat} {d : DataW H} {p : List MemPlace}
    (h : DataW.Trod enc Tryd.prog W 0 (fun _ => true) true 24 (.slice a l c) d p) (hw : ∀ n ∈ d.weights Tryd.prog 24, n ≤ reachBytes) :
    ∃ m : List Nd, NS W (.slice a l c) m ∧ (∀ x ∈ m, x.Ok) ∧ m.length ≤ 3000000000000 := by
  obtain ⟨fuel, hf⟩ := h
  rcases DataW.trod_slice Tryd.underlying24 hf with ⟨hcs, hx⟩ | ⟨a', l', c', elems, rest, n, _, hcs, hx, hb, hl, hm, hlen, hel, hsp, _⟩
  · simp [Value.cells] at hcs
    obtain ⟨rfl, rfl, rfl⟩ := hcs
    exact ⟨[], ⟨none, 0, rfl, Nat.le_refl _, .inl ⟨rfl, fun _ => rfl⟩⟩, (fun x hx => by cases hx), by simp⟩
  · simp [Value.cells] at hcs
    obtain ⟨rfl, rfl, rfl⟩ := hcs
    have hce : Tryd.prog.cellsOf 44 = 65 := by kernel_rfl
    have hd : d = .slice (elems.map (·.1)) (rest.map (·.1)) := congrArg Prod.fst hx
    have hlen72 : l * 72 ≤ 140737488351232 := by
      have := hw (((elems.map (·.1)).length + (rest.map (·.1)).length) * Tryd.prog.bytesOf 44) (by
        rw [hd]
        simp only [DataW.weights, Tryd.underlying24]
        exact List.mem_cons_self)
      rw [show Tryd.prog.bytesOf 44 = 72 by kernel_rfl, List.length_map, List.length_map] at this
      have hr : reachBytes = 140737488351232 := rfl
      omega
    have each : ∀ i, ∃ o : Nd, i < l → (∀ j, j < 65 → W.cell? ((a'.add (i * 65)).add j) = (nc o)[j]?) ∧ o.Ok := by
      intro i
      by_cases hi : i < l
      · have he := hel i hi
        have hge : elems[i]? = some elems[i] := List.getElem?_eq_getElem (by omega)
        rw [hge, hce, Option.bind_eq_some_iff] at he
        obtain ⟨cs, h1, h2⟩ := he
        obtain ⟨o, rfl, hok⟩ := item h2
        exact ⟨o, fun _ => ⟨(World.cells?_some h1).2.2, hok⟩⟩
      · exact ⟨ndz, fun h => absurd h hi⟩
    obtain ⟨f, hf⟩ := Classical.axiomOfChoice each
    have hml : ((List.range l).map f).length = l := by simp
    refine ⟨(List.range l).map f, ⟨some a', c, by rw [hml], by rw [hml]; exact hl, ?_⟩, fun x hx => ?_, by rw [hml]; omega⟩
    · by_cases h0 : l = 0
      · exact .inl ⟨by subst h0; rfl, fun h => by cases h⟩
      · have hc0 := (hf 0 (by omega)).1 0 (by omega)
        have hc1 : W.cell? ((a'.add (0 * 65)).add 0) = some (.int .i64 (f 0).n) := hc0
        obtain ⟨hs, hlt⟩ := addr_of_cell hc1
        obtain ⟨b, off, sp⟩ := a'
        have hs' : sp = none := by
          cases sp with
          | none => rfl
          | some q => simp [Addr.add] at hs
        subst hs'
        refine .inr ⟨b, off, rfl, by simpa [Addr.add] using hlt, fun i x hi j u hu => ?_⟩
        rw [List.getElem?_map] at hi
        obtain ⟨q, hq, rfl⟩ := Option.map_eq_some_iff.1 hi
        obtain ⟨hil, rfl⟩ := List.getElem?_eq_some_iff.1 hq
        rw [List.getElem_range] at hu
        have hil' : i < l := by simpa using hil
        have hj : j < 65 := by have := (List.getElem?_eq_some_iff.1 hu).1; rw [nc_length (hf i hil').2] at this; exact this
        have := (hf i hil').1 j hj
        rw [addr_add0, addr_add0, hu] at this
        exact this
    · obtain ⟨i, hi, rfl⟩ := List.mem_map.1 hx
      exact (hf i (List.mem_range.1 hi)).2
end Go.Proofs.YtpojalbpekbfdaaDoor
/- Links that come in. -/
namespace Go.Proofs.YtpojalbpekbfdaaDoor
open Go Go.RowKit
set_option linter.unusedSimpArgs false
set_option linter.unusedVariables false

theorem itemK {H : Type} {enc : TypeId × Value → H} {W : World} {fuel : Nat} {cs : List Value} {y : DataW H × List MemPlace} (h : DataW.trod enc Tryd.prog W 0 (fun _ => true) true fuel 49 cs = some y) :
    ∃ x : Lk, cs = lkc x ∧ x.Ok := by
  obtain ⟨xs, n, _, _, hl, hlen, hx⟩ := DataW.trod_struct Tryd.underlying49 h
  rw [show Tryd.prog.cellsOf 49 = 96 by kernel_rfl] at hl
  have g : ∀ i, i < 3 → ∃ y, xs[i]? = some y := fun i hi => ⟨xs[i]'(by rw [hlen]; exact hi), List.getElem?_eq_getElem _⟩
  obtain ⟨y1, e1⟩ := g 0 (by omega)
  obtain ⟨y2, e2⟩ := g 1 (by omega)
  obtain ⟨y3, e3⟩ := g 2 (by omega)
  have k1 : DataW.trod enc Tryd.prog W 0 (fun _ => true) true n 31 ((cs.drop 0).take (Tryd.prog.cellsOf 31)) = some y1 := (hx 0 _ rfl).trans e1
  have k2 : DataW.trod enc Tryd.prog W 0 (fun _ => true) true n 31 ((cs.drop 32).take (Tryd.prog.cellsOf 31)) = some y2 := (hx 1 _ rfl).trans e2
  have k3 : DataW.trod enc Tryd.prog W 0 (fun _ => true) true n 31 ((cs.drop 64).take (Tryd.prog.cellsOf 31)) = some y3 := (hx 2 _ rfl).trans e3
  obtain ⟨x1, c1, l1, b1⟩ := open_arr Tryd.underlying31 (by kernel_rfl) k1
  obtain ⟨x2, c2, l2, b2⟩ := open_arr Tryd.underlying31 (by kernel_rfl) k2
  obtain ⟨x3, c3, l3, b3⟩ := open_arr Tryd.underlying31 (by kernel_rfl) k3
  have q32 : Tryd.prog.cellsOf 31 = 32 := by kernel_rfl
  have d1 : (cs.drop 0).take 32 = bv x1 := by rw [q32] at c1; exact c1
  have d2 : (cs.drop 32).take 32 = bv x2 := by rw [q32] at c2; exact c2
  have d3 : (cs.drop 64).take 32 = bv x3 := by rw [q32] at c3; exact c3
  refine ⟨⟨x1, x2, x3⟩, ?_, ⟨⟨l1, b1⟩, ⟨l2, b2⟩, ⟨l3, b3⟩⟩⟩
  have s0 := taken d1
  rw [List.drop_zero, Nat.zero_add] at s0
  rw [s0, taken d2, taken d3, List.drop_of_length_le (by omega)]
  simp [lkc]
theorem open_links {H : Type} {enc : TypeId × Value → H} {W : World} {a : Option Addr} {l c : Nat} {d : DataW H} {p : List MemPlace}
    (h : DataW.Trod enc Tryd.prog W 0 (fun _ => true) true 47 (.slice a l c) d p) (hw : ∀ n ∈ d.weights Tryd.prog 47, n ≤ reachBytes) :
    ∃ m : List Lk, KS W (.slice a l c) m ∧ (∀ x ∈ m, x.Ok) ∧ m.length ≤ 1500000000000 := by
  obtain ⟨fuel, hf⟩ := h
  rcases DataW.trod_slice Tryd.underlying47 hf with ⟨hcs, hx⟩ | ⟨a', l', c', elems, rest, n, _, hcs, hx, hb, hl, hm, hlen, hel, hsp, _⟩
  · simp [Value.cells] at hcs
    obtain ⟨rfl, rfl, rfl⟩ := hcs
    exact ⟨[], ⟨none, 0, rfl, Nat.le_refl _, .inl ⟨rfl, fun _ => rfl⟩⟩, (fun x hx => by cases hx), by simp⟩
  · simp [Value.cells] at hcs
    obtain ⟨rfl, rfl, rfl⟩ := hcs
    have hce : Tryd.prog.cellsOf 49 = 96 := by kernel_rfl
    have hd : d = .slice (elems.map (·.1)) (rest.map (·.1)) := congrArg Prod.fst hx
    have hlen64 : l * 96 ≤ 140737488351232 := by
      have := hw (((elems.map (·.1)).length + (rest.map (·.1)).length) * Tryd.prog.bytesOf 49) (by
        rw [hd]
        simp only [DataW.weights, Tryd.underlying47]
        exact List.mem_cons_self)
      rw [show Tryd.prog.bytesOf 49 = 96 by kernel_rfl, List.length_map, List.length_map] at this
      have hr : reachBytes = 140737488351232 := rfl
      omega
    have each : ∀ i, ∃ o : Lk, i < l → (∀ j, j < 96 → W.cell? ((a'.add (i * 96)).add j) = (lkc o)[j]?) ∧ o.Ok := by
      intro i
      by_cases hi : i < l
      · have he := hel i hi
        have hge : elems[i]? = some elems[i] := List.getElem?_eq_getElem (by omega)
        rw [hge, hce, Option.bind_eq_some_iff] at he
        obtain ⟨cs, h1, h2⟩ := he
        obtain ⟨o, rfl, hok⟩ := itemK h2
        exact ⟨o, fun _ => ⟨(World.cells?_some h1).2.2, hok⟩⟩
      · exact ⟨lkz, fun h => absurd h hi⟩
    obtain ⟨f, hf⟩ := Classical.axiomOfChoice each
    have hml : ((List.range l).map f).length = l := by simp
    refine ⟨(List.range l).map f, ⟨some a', c, by rw [hml], by rw [hml]; exact hl, ?_⟩, fun x hx => ?_, by rw [hml]; omega⟩
    · by_cases h0 : l = 0
      · exact .inl ⟨by subst h0; rfl, fun h => by cases h⟩
      · have hc0 := (hf 0 (by omega)).1 0 (by omega)
        obtain ⟨u0, hu0⟩ : ∃ u, (lkc (f 0))[0]? = some u := ⟨_, List.getElem?_eq_getElem (by rw [lkc_length (hf 0 (by omega)).2]; omega)⟩
        have hc1 := hc0.trans hu0
        obtain ⟨hs, hlt⟩ := addr_of_cell hc1
        obtain ⟨b, off, sp⟩ := a'
        have hs' : sp = none := by
          cases sp with
          | none => rfl
          | some q => simp [Addr.add] at hs
        subst hs'
        refine .inr ⟨b, off, rfl, by simpa [Addr.add] using hlt, fun i x hi j u hu => ?_⟩
        rw [List.getElem?_map] at hi
        obtain ⟨q, hq, rfl⟩ := Option.map_eq_some_iff.1 hi
        obtain ⟨hil, rfl⟩ := List.getElem?_eq_some_iff.1 hq
        rw [List.getElem_range] at hu
        have hil' : i < l := by simpa using hil
        have hj : j < 96 := by have := (List.getElem?_eq_some_iff.1 hu).1; rw [lkc_length (hf i hil').2] at this; exact this
        have := (hf i hil').1 j hj
        rw [addr_add0, addr_add0, hu] at this
        exact this
    · obtain ⟨i, hi, rfl⟩ := List.mem_map.1 hx
      exact (hf i (List.mem_range.1 hi)).2
end Go.Proofs.YtpojalbpekbfdaaDoor
