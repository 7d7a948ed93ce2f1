/- What comes in as a slice of rows of 32 bytes. -/
import Derived.Test.YtagfjpafbpoebaaWirW
import Derived.Test.YtagfjpafbpoebaaWirP
namespace Go.Proofs.Ytagfjpafbpoebaa
open Go Go.ChangeShapes Go.WideShapes Go.ChangeAt Go.RowKit
set_option linter.unusedVariables false

theorem row32 {H : Type} {enc : TypeId × Value → H} {W : World} {n : Nat} {cs : List Value} {y : DataW H × List MemPlace} (h : DataW.trod enc Try.prog W 0 (fun _ => true) true n 44 cs = some y) :
    ∃ xs : List Int, xs.length = 32 ∧ Byt xs ∧ ∀ j, j < 32 → cs[j]? = some (.int .u8 (gi xs j)) := by
  obtain ⟨zs, m, _, _, hlen, _, hel⟩ := DataW.trod_array Try.underlying44 h
  rw [show Try.prog.cellsOf 44 = 32 by kernel_rfl] at hlen
  have hc : Try.prog.cellsOf 5 = 1 := by kernel_rfl
  have each : ∀ j, ∃ z : Int, j < 32 → cs[j]? = some (.int .u8 z) ∧ 0 ≤ z ∧ z ≤ 255 := by
    intro j
    by_cases hj : j < 32
    · have hq := hel j hj
      rw [hc, Nat.mul_one] at hq
      cases hx : zs[j]? with
      | none =>
        exfalso
        rename_i hzl
        rw [List.getElem?_eq_none_iff] at hx
        omega
      | some q =>
        rw [hx] at hq
        obtain ⟨z, h1, h2, h3⟩ := DataW.trod_int Try.underlying5 hq
        refine ⟨z, fun _ => ⟨?_, byte_wf h3⟩⟩
        have h4 : ((cs.drop j).take 1)[0]? = some (.int .u8 z) := by rw [h1]; rfl
        rw [List.getElem?_take, if_pos (by omega), List.getElem?_drop, Nat.add_zero] at h4
        exact h4
    · exact ⟨0, fun h => absurd h hj⟩
  obtain ⟨f, hf⟩ := Classical.axiomOfChoice each
  have hgi : ∀ j, j < 32 → gi ((List.range 32).map f) j = f j := fun j hj => by rw [gi_get (by simpa using hj)]; simp
  refine ⟨(List.range 32).map f, by simp, fun z hz => ?_, fun j hj => by rw [hgi j hj]; exact (hf j hj).1⟩
  obtain ⟨j, hj, rfl⟩ := List.mem_map.1 hz
  exact (hf j (List.mem_range.1 hj)).2
theorem open_devs {H : Type} {enc : TypeId × Value → H} {W : World} {a : Option Addr} {l c : Nat} {d : DataW H} {p : List MemPlace}
    (h : DataW.Trod enc Try.prog W 0 (fun _ => true) true 40 (.slice a l c) d p) (hw : ∀ n ∈ d.weights Try.prog 40, n ≤ reachBytes) :
    ∃ ds, ds.length = l ∧ DD W (.slice a l c) ds ∧ ds.length ≤ 140737488351232 := by
  obtain ⟨fuel, hf⟩ := h
  rcases DataW.trod_slice Try.underlying40 hf with ⟨hcs, hx⟩ | ⟨a', l', c', elems, rest, n, _, hcs, hx, hb, hl, hm, hlen, hel, hsp, _⟩
  · simp [Value.cells] at hcs
    obtain ⟨rfl, rfl, rfl⟩ := hcs
    exact ⟨[], rfl, ⟨none, 0, rfl, fun i hi => by simp at hi, .inl rfl⟩, by simp⟩
  · simp [Value.cells] at hcs
    obtain ⟨rfl, rfl, rfl⟩ := hcs
    have hce : Try.prog.cellsOf 44 = 32 := by kernel_rfl
    have hd : d = .slice (elems.map (·.1)) (rest.map (·.1)) := congrArg Prod.fst hx
    have hlen32 : l ≤ 140737488351232 := by
      have := hw (((elems.map (·.1)).length + (rest.map (·.1)).length) * Try.prog.bytesOf 44) (by
        rw [hd]
        simp only [DataW.weights, Try.underlying40]
        exact List.mem_cons_self)
      rw [show Try.prog.bytesOf 44 = 32 by kernel_rfl, List.length_map, List.length_map] at this
      have hr : reachBytes = 140737488351232 := rfl
      omega
    have each : ∀ i, ∃ xs : List Int, i < l → xs.length = 32 ∧ Byt xs ∧ ∀ j, j < 32 → W.cell? ((a'.add (i * 32)).add j) = some (.int .u8 (gi xs j)) := by
      intro i
      by_cases hi : i < l
      · have he := hel i hi
        have hge : elems[i]? = some elems[i] := List.getElem?_eq_getElem (by omega)
        rw [hge, hce, Option.bind_eq_some_iff] at he
        obtain ⟨cs, h1, h2⟩ := he
        obtain ⟨xs, e1, e2, e3⟩ := row32 h2
        obtain ⟨_, _, h4⟩ := World.cells?_some h1
        exact ⟨xs, fun _ => ⟨e1, e2, fun j hj => by rw [h4 j hj]; exact e3 j hj⟩⟩
      · exact ⟨[], fun h => absurd h hi⟩
    obtain ⟨f, hf⟩ := Classical.axiomOfChoice each
    have hmi : ∀ i, i < l → mi ((List.range l).map f) i = f i := by
      intro i hi
      rw [mi_get (by simpa using hi)]
      simp
    refine ⟨(List.range l).map f, by simp, ⟨some a', c, by simp, fun i hi => ?_, ?_⟩, by simpa using hlen32⟩
    · have hi' : i < l := by simpa using hi
      rw [hmi i hi']; exact ⟨(hf i hi').1, (hf i hi').2.1⟩
    · by_cases h0 : l = 0
      · subst h0; exact .inl rfl
      · have h00 := (hf 0 (by omega)).2.2 0 (by omega)
        obtain ⟨hs, hlt⟩ := addr_of_cell h00
        obtain ⟨b, off, sp⟩ := a'
        have hsp : sp = none := by
          cases sp with
          | none => rfl
          | some q => simp [Addr.add] at hs
        subst hsp
        rw [addr_add0, addr_add0] at hlt
        refine .inr ⟨b, off, rfl, hlt, fun i hi j hj => ?_⟩
        have hi' : i < l := by simpa using hi
        have h1 := (hf i hi').2.2 j hj
        rw [addr_add0, addr_add0, Nat.add_assoc] at h1
        rw [hmi i hi']; exact h1
end Go.Proofs.Ytagfjpafbpoebaa
