/- What comes in as a script. -/
import Derived.Test.YtmlialabdijcoaaWirV
import Derived.Test.YtmlialabdijcoaaDskU
import Derived.Lib.SmallJoins
namespace Go.Proofs.Ytmlialabdijcoaa
open Go Go.ChangeShapes Go.WideShapes Go.ChangeAt Go.RowKit
set_option linter.unusedVariables false
set_option maxRecDepth 100000

theorem addr_of_cell {W : World} {x : Addr} {v : Value} (h : W.cell? x = some v) : x.spot = none ∧ x.block < W.heap.size := by
  unfold World.cell? at h
  split at h
  · rename_i hg
    split at h
    · cases h
    · rename_i hs
      exact ⟨by simpa using hs, (Array.getElem?_eq_some_iff.1 hg).1⟩
  · cases h
theorem weightsAll_mem {H : Type} {P : Program} {e : TypeId} : ∀ {l : List (DataW H)} {d : DataW H}, d ∈ l → ∀ n ∈ d.weights P e, n ∈ DataW.weightsAll P e l
  | x :: l, d, h, n, hn => by
    simp only [DataW.weightsAll, List.mem_append]
    rcases List.mem_cons.1 h with rfl | h
    · exact .inl hn
    · exact .inr (weightsAll_mem h n hn)
theorem piece {H : Type} {enc : TypeId × Value → H} {W : World} {fuel : Nat} {cs : List Value} {y : DataW H × List MemPlace} (h : DataW.trod enc Try.prog W 0 (fun _ => true) true fuel 32 cs = some y) (hw : ∀ n ∈ y.1.weights Try.prog 32, n ≤ reachBytes) :
    ∃ u xs, cs = [u] ∧ Sl W u xs ∧ (∀ b, u.ownBlock = some b → xs ≠ [] → b < W.heap.size) ∧ xs.length ≤ 140737488351232 := by
  rcases open_ints Try.underlying32 Try.underlying5 (by kernel_rfl) h with ⟨hcs, hx⟩ | ⟨x, l, c, zs, hcs, _, hl, hm, hz, hx, hcell, hwz⟩
  · exact ⟨_, [], hcs, ⟨none, 0, rfl, Nat.le_refl _, .inl ⟨rfl, fun _ => rfl⟩⟩, fun b hb => by simp [Value.ownBlock] at hb, by simp⟩
  · have hz' : zs.length = c := by simpa using hz
    by_cases h0 : c = 0
    · obtain rfl : l = 0 := by omega
      exact ⟨_, [], hcs, ⟨some x, c, rfl, by simp, .inl ⟨rfl, fun e => by cases e⟩⟩, fun b _ hn => absurd rfl hn, by simp⟩
    · obtain ⟨hs, hb⟩ := addr_of_cell (hcell 0 (by omega))
      obtain ⟨b, o, sp⟩ := x
      obtain rfl : sp = none := hs
      obtain ⟨h1, h2, h3⟩ := sl_of hb hl hz' hcell hwz
      refine ⟨_, _, hcs, h3, fun b' hb' _ => ?_, ?_⟩
      · simp [Value.ownBlock] at hb'; subst hb'; exact hb
      · rw [h2]
        have := hw (((zs.take l).length + (zs.drop l).length) * Try.prog.bytesOf 5) (by
          rw [hx]
          simp only [DataW.weights, Try.underlying32, lits, List.length_map]
          exact List.mem_cons_self)
        rw [show Try.prog.bytesOf 5 = 1 by kernel_rfl, List.length_take, List.length_drop] at this
        have hr : reachBytes = 140737488351232 := rfl
        omega
theorem int_wf {k : IntKind} {n : Int} {lo hi : Int} (h : (Lit.int k n).wf = true) (h1 : k.min = lo) (h2 : k.max = hi) : lo ≤ n ∧ n ≤ hi := by
  simp only [Lit.wf, Bool.and_eq_true, decide_eq_true_eq] at h
  rw [← h1, ← h2]; exact h
theorem item {H : Type} {enc : TypeId × Value → H} {W : World} {fuel : Nat} {cs : List Value} {y : DataW H × List MemPlace} (h : DataW.trod enc Try.prog W 0 (fun _ => true) true fuel 34 cs = some y) (hw : ∀ n ∈ y.1.weights Try.prog 34, n ≤ reachBytes) :
    ∃ o : Itm, cs = o.cells ∧ o.Ok W := by
  obtain ⟨y0, y1, y2, y3, n, rfl, hl, t0, t1, t2, t3⟩ := Go.Joins.trod_struct4 Try.underlying34 h
  rw [show Try.prog.cellsOf 34 = 4 by kernel_rfl] at hl
  obtain ⟨c0, c1, c2, c3, rfl⟩ : ∃ c0 c1 c2 c3, cs = [c0, c1, c2, c3] := by
    match cs, hl with
    | [c0, c1, c2, c3], _ => exact ⟨c0, c1, c2, c3, rfl⟩
  have k0 : DataW.trod enc Try.prog W 0 (fun _ => true) true n 3 [c0] = some y0 := t0
  have k1 : DataW.trod enc Try.prog W 0 (fun _ => true) true n 3 [c1] = some y1 := t1
  have k2 : DataW.trod enc Try.prog W 0 (fun _ => true) true n 5 [c2] = some y2 := t2
  have k3 : DataW.trod enc Try.prog W 0 (fun _ => true) true n 32 [c3] = some y3 := t3
  obtain ⟨n0, e0, -, -⟩ := DataW.trod_int Try.underlying3 k0
  obtain ⟨n1, e1, -, w1⟩ := DataW.trod_int Try.underlying3 k1
  obtain ⟨n2, e2, -, w2⟩ := DataW.trod_int Try.underlying5 k2
  obtain ⟨u, xs, e3, hS, hO, hL⟩ := piece k3 (fun m hm => hw m (by
    simp only [DataW.weights, Try.underlying34, DataW.weightsEach, List.map_cons, List.map_nil]
    simp only [List.mem_append]
    exact .inr (.inr (.inr (.inl hm)))))
  cases e0; cases e1; cases e2; cases e3
  exact ⟨⟨n0, n1, n2, c3, xs⟩, rfl, ⟨int_wf w1 rfl rfl, int_wf w2 rfl rfl, hS, hO, Nat.le_trans hL (by decide)⟩⟩
theorem open_script {H : Type} {enc : TypeId × Value → H} {W : World} {a : Option Addr} {l c : Nat} {d : DataW H} {p : List MemPlace}
    (h : DataW.Trod enc Try.prog W 0 (fun _ => true) true 22 (.slice a l c) d p) (hw : ∀ n ∈ d.weights Try.prog 22, n ≤ reachBytes) :
    ∃ f, Scr W (.slice a l c) l f ∧ l * 48 ≤ 140737488351232 := by
  obtain ⟨fuel, hf⟩ := h
  rcases DataW.trod_slice Try.underlying22 hf with ⟨hcs, hx⟩ | ⟨a', l', c', elems, rest, n, _, hcs, hx, hb, hl, hm, hlen, hel, hsp, _⟩
  · simp [Value.cells] at hcs
    obtain ⟨rfl, rfl, rfl⟩ := hcs
    exact ⟨fun _ => ⟨0, 0, 0, .slice none 0 0, []⟩, ⟨none, 0, rfl, .inl rfl⟩, by simp⟩
  · simp [Value.cells] at hcs
    obtain ⟨rfl, rfl, rfl⟩ := hcs
    have hce : Try.prog.cellsOf 34 = 4 := by kernel_rfl
    have hd : d = .slice (elems.map (·.1)) (rest.map (·.1)) := congrArg Prod.fst hx
    have hw1 : ∀ y ∈ elems, ∀ n ∈ y.1.weights Try.prog 34, n ≤ reachBytes := by
      intro y hy n hn
      refine hw n ?_
      rw [hd]
      simp only [DataW.weights, Try.underlying22]
      refine List.mem_cons_of_mem _ (List.mem_append_left _ (weightsAll_mem (List.mem_map_of_mem (f := (·.1)) hy) n hn))
    have hlen48 : l * 48 ≤ 140737488351232 := by
      have := hw (((elems.map (·.1)).length + (rest.map (·.1)).length) * Try.prog.bytesOf 34) (by
        rw [hd]
        simp only [DataW.weights, Try.underlying22]
        exact List.mem_cons_self)
      rw [show Try.prog.bytesOf 34 = 48 by kernel_rfl, List.length_map, List.length_map] at this
      have hr : reachBytes = 140737488351232 := rfl
      omega
    have each : ∀ i, ∃ o : Itm, i < l → (∀ j, j < 4 → W.cell? ((a'.add (i * 4)).add j) = o.cells[j]?) ∧ o.Ok W := by
      intro i
      by_cases hi : i < l
      · have he := hel i hi
        have hge : elems[i]? = some elems[i] := List.getElem?_eq_getElem (by omega)
        rw [hge, hce, Option.bind_eq_some_iff] at he
        obtain ⟨cs, h1, h2⟩ := he
        obtain ⟨o, rfl, hok⟩ := item h2 (hw1 _ (List.getElem_mem _))
        exact ⟨o, fun _ => ⟨(World.cells?_some h1).2.2, hok⟩⟩
      · exact ⟨⟨0, 0, 0, .slice none 0 0, []⟩, fun h => absurd h hi⟩
    obtain ⟨f, hf⟩ := Classical.axiomOfChoice each
    refine ⟨f, ⟨some a', c, rfl, ?_⟩, hlen48⟩
    by_cases h0 : l = 0
    · exact .inl h0
    · have hc0 := (hf 0 (by omega)).1 0 (by omega)
      have hc1 : W.cell? ((a'.add (0 * 4)).add 0) = some (.int .i64 (f 0).kind) := hc0
      obtain ⟨hs, hlt⟩ := addr_of_cell hc1
      obtain ⟨b, off, sp⟩ := a'
      have hs' : sp = none := by
        cases sp with
        | none => rfl
        | some q => simp [Addr.add] at hs
      subst hs'
      refine .inr ⟨b, off, rfl, by simpa [Addr.add] using hlt, fun i hi => ⟨fun j u hu => ?_, (hf i hi).2⟩⟩
      have hj : j < 4 := (List.getElem?_eq_some_iff.1 hu).1
      have := (hf i hi).1 j hj
      rw [addr_add0, addr_add0, hu] at this
      exact this
end Go.Proofs.Ytmlialabdijcoaa
