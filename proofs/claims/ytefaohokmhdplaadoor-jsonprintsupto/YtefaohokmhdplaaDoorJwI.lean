/- What comes in as a tree, by the bulk. -/
import Derived.Test.YtefaohokmhdplaaDoorRows
import Derived.Test.YtefaohokmhdplaaDoorJwE
import Derived.Test.YtefaohokmhdplaaDoorJzD
namespace Go.Proofs.YtefaohokmhdplaaDoor
open Go Go.RowKit
set_option linter.unusedSimpArgs false
set_option linter.unusedVariables false
set_option maxRecDepth 100000

theorem addr_cellJ {W : World} {x : Addr} {v : Value} (h : W.cell? x = some v) : x.spot = none ∧ x.block < W.heap.size := by
  unfold World.cell? at h
  split at h
  · rename_i hg
    split at h
    · cases h
    · rename_i hs
      exact ⟨by simpa using hs, (Array.getElem?_eq_some_iff.1 hg).1⟩
  · cases h
theorem addr_addJ (b o n : Nat) : (⟨b, o, none⟩ : Addr).add n = ⟨b, o + n, none⟩ := by
  unfold Addr.add
  split <;> simp_all
theorem bulkJ {H : Type} (d : DataW H) : 1 ≤ Rows.uptoBulk d := by
  cases d <;> first | (simp only [Rows.uptoBulk]; omega) | (rename_i l; cases l <;> simp only [Rows.uptoBulk] <;> omega)
theorem flat_at {α : Type} {K : Nat} (hK : 0 < K) : ∀ (css : List (List α)), (∀ cs ∈ css, cs.length = K) → ∀ (j : Nat) (v : α), css.flatten[j]? = some v → ∃ (i r : Nat) (cs : List α), j = i * K + r ∧ r < K ∧ css[i]? = some cs ∧ cs[r]? = some v
  | [], _, j, v, h => by simp at h
  | c :: t, hl, j, v, h => by
    have hc : c.length = K := hl c List.mem_cons_self
    rw [List.flatten_cons] at h
    by_cases hj : j < K
    · rw [List.getElem?_append_left (by omega)] at h
      exact ⟨0, j, c, by omega, hj, rfl, h⟩
    · rw [List.getElem?_append_right (by omega), hc] at h
      obtain ⟨i, r, cs, h1, h2, h3, h4⟩ := flat_at hK t (fun cs hm => hl cs (List.mem_cons_of_mem _ hm)) _ v h
      exact ⟨i + 1, r, cs, by rw [Nat.add_mul]; omega, h2, h3, h4⟩
theorem flat_len {α : Type} {K : Nat} : ∀ (css : List (List α)), (∀ cs ∈ css, cs.length = K) → css.flatten.length = css.length * K
  | [], _ => by simp
  | c :: t, hl => by
    have hc : c.length = K := hl c List.mem_cons_self
    have := flat_len t (fun cs hm => hl cs (List.mem_cons_of_mem _ hm))
    rw [List.flatten_cons, List.length_append, this, List.length_cons, Nat.add_mul]; omega
theorem open_row {H : Type} {enc : TypeId × Value → H} {W : World} {fuel K : Nat} {t e : TypeId} {v : Value} {y : DataW H × List MemPlace} (hce : Tryd.prog.cellsOf e = K) (hK : 0 < K) (ht : Tryd.prog.underlying t = some (.slice e))
    (h : DataW.trod enc Tryd.prog W 0 (fun _ => true) true fuel t [v] = some y) :
    ∃ (s : Sv) (css : List (List Value)) (ds : List (DataW H × List MemPlace)) (n : Nat), v = s.v ∧ css.length = ds.length ∧ n < fuel ∧ (∀ (i : Nat) (cs : List Value) (d : DataW H × List MemPlace), css[i]? = some cs → ds[i]? = some d → DataW.trod enc Tryd.prog W 0 (fun _ => true) true n e cs = some d) ∧ RV (fun _ => True) W K s.v css.flatten ∧ Rows.uptoBulkAll (ds.map (·.1)) + 1 ≤ Rows.uptoBulk y.1 ∧ (∀ cs ∈ css, cs.length = K) := by
  rcases DataW.trod_slice ht h with ⟨hcs, rfl⟩ | ⟨a', l', c', elems, rest, n, hfu, hcs, rfl, hb, hl, hm, hlen, hel, hsp, _⟩
  · cases hcs
    refine ⟨⟨none, 0, 0⟩, [], [], 0, rfl, rfl, ?_, (fun i cs d h => by simp at h), ⟨none, 0, 0, rfl, by simp, Nat.le_refl _, .inl rfl⟩, by simp [Rows.uptoBulkAll, Rows.uptoBulk], (fun cs h => by cases h)⟩
    cases fuel with
    | zero => simp [DataW.trod] at h
    | succ n => omega
  · cases hcs
    have each : ∀ i, ∃ cs : List Value, i < l' → W.cells? 0 (a'.add (i * K)) K = some cs ∧ DataW.trod enc Tryd.prog W 0 (fun _ => true) true n e cs = elems[i]? := by
      intro i
      by_cases hi : i < l'
      · have he := hel i hi
        have hge : elems[i]? = some elems[i] := List.getElem?_eq_getElem (by omega)
        rw [hge, hce, Option.bind_eq_some_iff] at he
        obtain ⟨cs, h1, h2⟩ := he
        exact ⟨cs, fun _ => ⟨h1, h2.trans hge.symm⟩⟩
      · exact ⟨[], fun h => absurd h hi⟩
    obtain ⟨f, hf⟩ := Classical.axiomOfChoice each
    have hml : ((List.range l').map f).length = l' := by simp
    have hcl : ∀ cs ∈ (List.range l').map f, cs.length = K := fun cs hx => by
      obtain ⟨i, hi, rfl⟩ := List.mem_map.1 hx
      have := (hf i (List.mem_range.1 hi)).1
      exact (World.cells?_some this).2.1
    refine ⟨⟨some a', l', c'⟩, (List.range l').map f, elems, n, rfl, by rw [hml, hlen], by omega, fun i cs d h1 h2 => ?_, ⟨some a', l', c', rfl, by rw [flat_len _ hcl, hml], hl, ?_⟩, by simp only [Rows.uptoBulk]; omega, hcl⟩
    · rw [List.getElem?_map] at h1
      obtain ⟨q, hq, rfl⟩ := Option.map_eq_some_iff.1 h1
      obtain ⟨hil, rfl⟩ := List.getElem?_eq_some_iff.1 hq
      rw [List.getElem_range] at *
      exact ((hf i (by simpa using hil)).2).trans h2
    · by_cases h0 : l' = 0
      · exact .inl h0
      · have hq := World.cells?_some (hf 0 (by omega)).1
        have hl0 := hcl (f 0) (List.mem_map.2 ⟨0, List.mem_range.2 (by omega), rfl⟩)
        have hc0 := hq.2.2 0 hK
        obtain ⟨u0, hu0⟩ : ∃ u, (f 0)[0]? = some u := ⟨_, List.getElem?_eq_getElem (by omega)⟩
        obtain ⟨hs, hlt⟩ := addr_cellJ (hc0.trans hu0)
        obtain ⟨b, off, sp⟩ := a'
        have hs' : sp = none := by
          cases sp with
          | none => rfl
          | some q => simp [Addr.add] at hs
        subst hs'
        refine .inr ⟨b, off, rfl, trivial, by simpa [Addr.add] using hlt, fun j u hj => ?_⟩
        obtain ⟨i, r, cs, rfl, hr, h1, h2⟩ := flat_at hK _ hcl j u hj
        rw [List.getElem?_map] at h1
        obtain ⟨q, hq, rfl⟩ := Option.map_eq_some_iff.1 h1
        obtain ⟨hil, rfl⟩ := List.getElem?_eq_some_iff.1 hq
        rw [List.getElem_range] at h2
        have := (World.cells?_some (hf i (by simpa using hil)).1).2.2 r hr
        rw [h2] at this
        rw [addr_addJ, addr_addJ, Nat.add_assoc] at this
        exact this
/-- Each one of a row opened. -/
theorem bulk_mem {H : Type} {d : DataW H} : ∀ {ds : List (DataW H)}, d ∈ ds → Rows.uptoBulk d ≤ Rows.uptoBulkAll ds
  | [], h => by cases h
  | a :: r, h => by
    rcases List.mem_cons.1 h with rfl | h
    · simp only [Rows.uptoBulkAll]; omega
    · have := bulk_mem h; simp only [Rows.uptoBulkAll]; omega
theorem bulk_lenJ {H : Type} : ∀ es : List (DataW H), es.length ≤ Rows.uptoBulkAll es
  | [] => Nat.zero_le _
  | d :: r => by
    have h1 := bulkJ d
    have h2 := bulk_lenJ r
    simp only [Rows.uptoBulkAll, List.length_cons]
    omega
/-- All keys' bytes, each with one more. -/
def kz (ks : List ByteArray) : Nat := (ks.map fun k => k.size + 1).sum
theorem kz_mem {k : ByteArray} : ∀ {ks : List ByteArray}, k ∈ ks → k.size ≤ kz ks
  | [], h => by cases h
  | a :: r, h => by
    rcases List.mem_cons.1 h with rfl | h
    · simp only [kz, List.map_cons, List.sum_cons]; omega
    · have := kz_mem h; simp only [kz, List.map_cons, List.sum_cons] at this ⊢; omega
theorem kz_len : ∀ (ks : List ByteArray), ks.length ≤ kz ks
  | [] => Nat.zero_le _
  | a :: r => by have := kz_len r; simp only [kz, List.map_cons, List.sum_cons, List.length_cons] at this ⊢; omega
theorem open_keys {H : Type} {enc : TypeId × Value → H} {W : World} {fuel : Nat} {v : Value} {y : DataW H × List MemPlace}
    (h : DataW.trod enc Tryd.prog W 0 (fun _ => true) true fuel 23 [v] = some y) :
    ∃ (s : Sv) (ks : List ByteArray), v = s.v ∧ RV (fun _ => True) W 1 s.v (keyc ks) ∧ kz ks + 1 ≤ Rows.uptoBulk y.1 := by
  obtain ⟨s, css, ds, n, rfl, hl, -, he, hr, hb, hk⟩ := open_row (K := 1) (by kernel_rfl) (by omega) Tryd.underlying23 h
  have g : ∀ (css : List (List Value)) (ds : List (DataW H × List MemPlace)), css.length = ds.length → (∀ (i : Nat) (cs : List Value) (d : DataW H × List MemPlace), css[i]? = some cs → ds[i]? = some d → DataW.trod enc Tryd.prog W 0 (fun _ => true) true n 9 cs = some d) → ∃ ks : List ByteArray, css.flatten = keyc ks ∧ kz ks ≤ Rows.uptoBulkAll (ds.map (·.1)) := by
    intro css
    induction css with
    | nil => intro ds _ _; exact ⟨[], rfl, Nat.zero_le _⟩
    | cons c t ih =>
      intro ds hl he
      cases ds with
      | nil => simp at hl
      | cons d r =>
        obtain ⟨ks, h1, h2⟩ := ih r (by simpa using hl) (fun i cs d h1 h2 => he (i + 1) cs d (by simpa using h1) (by simpa using h2))
        obtain ⟨k, rfl, rfl, -⟩ := DataW.trod_string Tryd.underlying9 (he 0 c d rfl rfl)
        refine ⟨k :: ks, by rw [List.flatten_cons, h1]; rfl, ?_⟩
        have e1 : k.data.toList.length = k.size := Array.length_toList
        simp only [kz, List.map_cons, List.sum_cons, Rows.uptoBulkAll, Rows.uptoBulk, e1] at h2 ⊢
        omega
  obtain ⟨ks, h1, h2⟩ := g css ds hl he
  exact ⟨s, ks, rfl, by rw [← h1]; exact hr, by omega⟩
theorem tpl_bound : ∀ (ps : List JT) (bs : List Nat), ps.length = bs.length → (∀ (i : Nat) (j : JT) (b : Nat), ps[i]? = some j → bs[i]? = some b → (tp j).length + 8 ≤ 8 * b) → (cm (tpl ps)).length ≤ 8 * bs.sum := by
  intro ps bs hl h
  have g : ∀ (ps : List JT) (bs : List Nat), ps.length = bs.length → (∀ (i : Nat) (j : JT) (b : Nat), ps[i]? = some j → bs[i]? = some b → (tp j).length + 8 ≤ 8 * b) → (ctl (tpl ps)).length ≤ 8 * bs.sum := by
    intro ps
    induction ps with
    | nil => intro bs _ _; simp [tpl, ctl]
    | cons p r ih =>
      intro bs hl h
      cases bs with
      | nil => simp at hl
      | cons b t =>
        have h1 := ih t (by simpa using hl) (fun i j b h1 h2 => h (i + 1) j b (by simpa using h1) (by simpa using h2))
        have h2 := h 0 p b rfl rfl
        simp only [tpl, ctl, List.flatMap_cons, List.sum_cons, List.length_append, List.length_cons, List.length_nil] at h1 ⊢
        omega
  cases ps with
  | nil => simp [tpl, cm]
  | cons p r =>
    cases bs with
    | nil => simp at hl
    | cons b t =>
      have h1 := g r t (by simpa using hl) (fun i j b h1 h2 => h (i + 1) j b (by simpa using h1) (by simpa using h2))
      have h2 := h 0 p b rfl rfl
      simp only [tpl, cm, List.sum_cons, List.length_append] at h1 ⊢
      omega
theorem hd_le (ks : List ByteArray) : 6 * (ks.headD ⟨#[]⟩).size + 8 * kz ks.tail ≤ 8 * kz ks := by
  cases ks with
  | nil => simp [kz]; rfl
  | cons k r => simp only [List.headD_cons, List.tail_cons, kz, List.map_cons, List.sum_cons]; omega
theorem tpo_bound : ∀ (ps : List JT) (ks : List ByteArray) (bs : List Nat), ps.length = bs.length → (∀ (i : Nat) (j : JT) (b : Nat), ps[i]? = some j → bs[i]? = some b → (tp j).length + 8 ≤ 8 * b) → (cm (tpo ks ps)).length ≤ 8 * bs.sum + 8 * kz ks := by
  intro ps ks bs hl h
  have g : ∀ (ps : List JT) (ks : List ByteArray) (bs : List Nat), ps.length = bs.length → (∀ (i : Nat) (j : JT) (b : Nat), ps[i]? = some j → bs[i]? = some b → (tp j).length + 8 ≤ 8 * b) → (ctl (tpo ks ps)).length ≤ 8 * bs.sum + 8 * kz ks := by
    intro ps
    induction ps with
    | nil => intro ks bs _ _; simp [tpo, ctl]
    | cons p r ih =>
      intro ks bs hl h
      cases bs with
      | nil => simp at hl
      | cons b t =>
        have h1 := ih ks.tail t (by simpa using hl) (fun i j b h1 h2 => h (i + 1) j b (by simpa using h1) (by simpa using h2))
        have h2 := h 0 p b rfl rfl
        have h3 := hd_le ks
        have h4 := qt_len (ks.headD ⟨#[]⟩)
        simp only [tpo, ctl, List.flatMap_cons, List.sum_cons, List.length_append, List.length_cons, List.length_nil] at h1 ⊢
        omega
  cases ps with
  | nil => simp [tpo, cm]
  | cons p r =>
    cases bs with
    | nil => simp at hl
    | cons b t =>
      have h1 := g r ks.tail t (by simpa using hl) (fun i j b h1 h2 => h (i + 1) j b (by simpa using h1) (by simpa using h2))
      have h2 := h 0 p b rfl rfl
      have h3 := hd_le ks
      have h4 := qt_len (ks.headD ⟨#[]⟩)
      simp only [tpo, cm, List.sum_cons, List.length_append, List.length_cons, List.length_nil] at h1 ⊢
      omega
theorem tp_bound {k : Int} {b : Bool} {t : ByteArray} {ks : List ByteArray} {ps : List JT} {bs : List Nat} {B : Nat} (hl : ps.length = bs.length) (h : ∀ (i : Nat) (j : JT) (b : Nat), ps[i]? = some j → bs[i]? = some b → (tp j).length + 8 ≤ 8 * b) (hB : bs.sum + kz ks + t.size + 6 ≤ B) : (tp (.mk k b t ks ps)).length + 8 ≤ 8 * B := by
  have h1 := tpl_bound ps bs hl h
  have h2 := tpo_bound ps ks bs hl h
  have h3 := qt_len t
  have h4 : (nb t).length = t.size := nb_length t
  have h5 : (bt b).length ≤ 5 := by cases b <;> decide
  simp only [tp]
  split
  · omega
  split
  · omega
  split
  · omega
  split
  · simp only [List.length_append, List.length_cons, List.length_nil]; omega
  split
  · simp only [List.length_append, List.length_cons, List.length_nil]; omega
  · simp only [List.length_cons, List.length_nil]; omega
theorem cons5 {cs : List Value} {a b c d e : Value} (hl : cs.length = 5) (h0 : (cs.drop 0).take 1 = [a]) (h1 : (cs.drop 1).take 1 = [b]) (h2 : (cs.drop 2).take 1 = [c]) (h3 : (cs.drop 3).take 1 = [d]) (h4 : (cs.drop 4).take 1 = [e]) : cs = [a, b, c, d, e] := by
  match cs, hl with
  | [x0, x1, x2, x3, x4], _ => simp at h0 h1 h2 h3 h4; subst h0 h1 h2 h3 h4; rfl
theorem open_tree {H : Type} {enc : TypeId × Value → H} {W : World} : ∀ (fuel : Nat) (cs : List Value) (y : DataW H × List MemPlace), DataW.trod enc Tryd.prog W 0 (fun _ => true) true fuel 38 cs = some y →
    ∃ (x : Tv) (j : JT), cs = tcv x ∧ LT (fun _ => True) W x j ∧ (Rows.uptoBulk y.1 ≤ 1048576 → SJ j) ∧ (tp j).length + 8 ≤ 8 * Rows.uptoBulk y.1 := by
  intro fuel
  induction fuel using Nat.strongRecOn with
  | _ fuel ih =>
  intro cs y h
  obtain ⟨xs, n, hfu, rfl, hl, hlen, hx⟩ := DataW.trod_struct Tryd.underlying38 h
  rw [show Tryd.prog.cellsOf 38 = 5 by kernel_rfl] at hl
  obtain ⟨y0, y1, y2, y3, y4, rfl⟩ : ∃ a b c d e, xs = [a, b, c, d, e] := by
    match xs, hlen with
    | [a, b, c, d, e], _ => exact ⟨a, b, c, d, e, rfl⟩
  have k0 : DataW.trod enc Tryd.prog W 0 (fun _ => true) true n 3 ((cs.drop 0).take (Tryd.prog.cellsOf 3)) = some y0 := hx 0 _ rfl
  have k1 : DataW.trod enc Tryd.prog W 0 (fun _ => true) true n 4 ((cs.drop 1).take (Tryd.prog.cellsOf 4)) = some y1 := hx 1 _ rfl
  have k2 : DataW.trod enc Tryd.prog W 0 (fun _ => true) true n 9 ((cs.drop 2).take (Tryd.prog.cellsOf 9)) = some y2 := hx 2 _ rfl
  have k3 : DataW.trod enc Tryd.prog W 0 (fun _ => true) true n 23 ((cs.drop 3).take (Tryd.prog.cellsOf 23)) = some y3 := hx 3 _ rfl
  have k4 : DataW.trod enc Tryd.prog W 0 (fun _ => true) true n 36 ((cs.drop 4).take (Tryd.prog.cellsOf 36)) = some y4 := hx 4 _ rfl
  rw [show Tryd.prog.cellsOf 3 = 1 by kernel_rfl] at k0
  rw [show Tryd.prog.cellsOf 4 = 1 by kernel_rfl] at k1
  rw [show Tryd.prog.cellsOf 9 = 1 by kernel_rfl] at k2
  rw [show Tryd.prog.cellsOf 23 = 1 by kernel_rfl] at k3
  rw [show Tryd.prog.cellsOf 36 = 1 by kernel_rfl] at k4
  obtain ⟨k, c0, rfl, -⟩ := DataW.trod_int Tryd.underlying3 k0
  obtain ⟨b, c1, rfl⟩ := DataW.trod_bool Tryd.underlying4 k1
  obtain ⟨t, c2, rfl, -⟩ := DataW.trod_string Tryd.underlying9 k2
  have one : ∀ o, o < 5 → ∃ v, (cs.drop o).take 1 = [v] := fun o ho => by
    have : ((cs.drop o).take 1).length = 1 := by rw [List.length_take, List.length_drop]; omega
    match (cs.drop o).take 1, this with
    | [v], _ => exact ⟨v, rfl⟩
  obtain ⟨v3, c3⟩ := one 3 (by omega)
  obtain ⟨v4, c4⟩ := one 4 (by omega)
  rw [c3] at k3
  rw [c4] at k4
  obtain ⟨s3, ks, rfl, hr3, hb3⟩ := open_keys k3
  obtain ⟨s4, css, ds, m, rfl, hld, hmn, he, hr4, hb4, hk4⟩ := open_row (K := 5) (by kernel_rfl) (by omega) Tryd.underlying36 k4
  have g : ∀ (css : List (List Value)) (ds : List (DataW H × List MemPlace)), css.length = ds.length → (∀ (i : Nat) (cs : List Value) (d : DataW H × List MemPlace), css[i]? = some cs → ds[i]? = some d → DataW.trod enc Tryd.prog W 0 (fun _ => true) true m 38 cs = some d) → ∃ (xs : List Tv) (ps : List JT), css.flatten = tcs xs ∧ xs.length = ps.length ∧ (∀ (i : Nat) (x : Tv) (j : JT), xs[i]? = some x → ps[i]? = some j → LT (fun _ => True) W x j) ∧ ps.length = ds.length ∧ (∀ (i : Nat) (j : JT) (b : Nat), ps[i]? = some j → (ds.map fun d => Rows.uptoBulk d.1)[i]? = some b → (tp j).length + 8 ≤ 8 * b) ∧ (Rows.uptoBulkAll (ds.map (·.1)) ≤ 1048576 → ∀ p ∈ ps, SJ p) ∧ (ds.map fun d => Rows.uptoBulk d.1).sum = Rows.uptoBulkAll (ds.map (·.1)) := by
    intro css
    induction css with
    | nil =>
      intro ds hl _
      obtain rfl : ds = [] := by cases ds with | nil => rfl | cons a b => simp at hl
      exact ⟨[], [], rfl, rfl, (fun i x j h => by simp at h), rfl, (fun i j b h => by simp at h), (fun _ p h => by cases h), rfl⟩
    | cons c t ih2 =>
      intro ds hl he
      cases ds with
      | nil => simp at hl
      | cons d r =>
        obtain ⟨xs, ps, h1, h2, h3, h4, h5, h6, h7⟩ := ih2 r (by simpa using hl) (fun i cs d h1 h2 => he (i + 1) cs d (by simpa using h1) (by simpa using h2))
        obtain ⟨x, j, rfl, hj, hs, hb⟩ := ih m (by omega) c d (he 0 c d rfl rfl)
        refine ⟨x :: xs, j :: ps, by rw [List.flatten_cons, h1]; rfl, by simp [h2], fun i x' j' e1 e2 => ?_, by simp [h4], fun i j' b' e1 e2 => ?_, fun hz p hp => ?_, by simp only [List.map_cons, List.sum_cons, Rows.uptoBulkAll, h7]⟩
        · cases i with
          | zero => simp at e1 e2; subst e1 e2; exact hj
          | succ i => exact h3 i x' j' (by simpa using e1) (by simpa using e2)
        · cases i with
          | zero => simp at e1 e2; subst e1 e2; exact hb
          | succ i => exact h5 i j' b' (by simpa using e1) (by simpa using e2)
        · simp only [List.map_cons, Rows.uptoBulkAll] at hz
          rcases List.mem_cons.1 hp with rfl | hp
          · exact hs (by omega)
          · exact h6 (by omega) p hp
  obtain ⟨xs, ps, h1, h2, h3, h4, h5, h6, h7⟩ := g css ds hld he
  have e1 : t.data.toList.length = t.size := Array.length_toList
  have hpl : ps.length ≤ Rows.uptoBulkAll (ds.map (·.1)) := by have := bulk_lenJ (ds.map (·.1)); rw [List.length_map] at this; omega
  have hkl := kz_len ks
  have hB : (ds.map fun d => Rows.uptoBulk d.1).sum + kz ks + t.size + 6 ≤ Rows.uptoBulk (.agg (([(.lit (.int .i64 k), []), (.lit (.bool b), []), (.lit (.string t.data.toList), []), y3, y4] : List (DataW H × List MemPlace)).map (·.1))) := by
    simp only [List.map_cons, List.map_nil, Rows.uptoBulk, Rows.uptoBulkAll, e1]
    omega
  refine ⟨⟨k, b, t, s3, s4⟩, .mk k b t ks ps, cons5 hl c0 c1 c2 c3 c4, .mk ⟨k, b, t, s3, s4⟩ ks xs ps hr3 (by rw [← h1]; exact hr4) h2 h3, fun hz => ?_, tp_bound (by rw [List.length_map]; exact h4) h5 hB⟩
  have hz2 : (ds.map fun d => Rows.uptoBulk d.1).sum + kz ks + t.size + 6 ≤ 1048576 := Nat.le_trans hB hz
  exact .mk k b t ks ps (by omega) (by omega) (by omega) (fun g hg => by have := kz_mem hg; omega) (h6 (by omega))
theorem open_arg {H : Type} {enc : TypeId × Value → H} {W : World} {v : Value} {d : DataW H} {p : List MemPlace} (h : DataW.Trod enc Tryd.prog W 0 (fun _ => true) true 38 v d p) (ha : ∃ cs, v = .agg cs ∧ cs.size = Tryd.prog.cellsOf 38) :
    ∃ (x : Tv) (j : JT), v = x.val ∧ LT (fun _ => True) W x j ∧ (Rows.uptoBulk d ≤ 1048576 → SJ j) ∧ (tp j).length + 8 ≤ 8 * Rows.uptoBulk d := by
  obtain ⟨fuel, hf⟩ := h
  obtain ⟨cs, rfl, -⟩ := ha
  obtain ⟨x, j, h1, h2, h3, h4⟩ := open_tree fuel _ _ hf
  refine ⟨x, j, ?_, h2, h3, h4⟩
  have h5 : cs.toList = tcv x := h1
  show Value.agg cs = .agg (tcv x).toArray
  rw [← h5]
end Go.Proofs.YtefaohokmhdplaaDoor
