/- Nodes, leaves, links in rows of a call's own. -/
import Derived.Test.YtfnmdeekenjlgaaWsH
namespace Go.Proofs.Ytfnmdeekenjlgaa
open Go Go.RowKit
set_option linter.unusedSimpArgs false
set_option linter.unusedVariables false
set_option maxRecDepth 100000

def ncs (l : List Nd) : List Value := l.flatMap nc
theorem ncs_length : ∀ {l : List Nd}, (∀ x ∈ l, x.Ok) → (ncs l).length = l.length * 65
  | [], _ => rfl
  | a :: r, h => by
    have ih := ncs_length (l := r) (fun x hx => h x (List.mem_cons_of_mem _ hx))
    show (nc a ++ ncs r).length = _
    rw [List.length_append, ih, nc_length (h a List.mem_cons_self), List.length_cons]
    omega
theorem ncs_one (l : List Nd) : ∀ u ∈ ncs l, u.oneCell' = true := by
  intro u hu
  obtain ⟨x, hx, hu⟩ := List.mem_flatMap.1 hu
  have h := nc_one x
  rw [Array.all_eq_true] at h
  obtain ⟨i, hi, rfl⟩ := List.getElem_of_mem hu
  have := h i (by simpa using hi)
  simpa using this
theorem ncs_get : ∀ {l : List Nd}, (∀ x ∈ l, x.Ok) → ∀ (i j : Nat) (x : Nd), l[i]? = some x → j < 65 → (ncs l)[i * 65 + j]? = (nc x)[j]?
  | [], _, i, j, x, h, _ => by simp at h
  | a :: r, hk, i, j, x, h, hj => by
    show (nc a ++ ncs r)[i * 65 + j]? = _
    have ha := nc_length (hk a List.mem_cons_self)
    cases i with
    | zero =>
      simp at h; subst h
      rw [Nat.zero_mul, Nat.zero_add, List.getElem?_append_left (by omega)]
    | succ i =>
      rw [List.getElem?_append_right (by omega), ha, show (i + 1) * 65 + j - 65 = i * 65 + j by omega]
      exact ncs_get (fun x hx => hk x (List.mem_cons_of_mem _ hx)) i j x (by simpa using h) hj
theorem ncs_at {w : World} {b o : Nat} {l : List Nd} (hk : ∀ x ∈ l, x.Ok) (hm : ∀ (i : Nat) (x : Nd), l[i]? = some x → w.rangeAt b (o + i * 65) (nc x)) : ∀ j u, (ncs l)[j]? = some u → w.cell? ⟨b, o + j, none⟩ = some u := by
  intro j u hu
  have hj := (List.getElem?_eq_some_iff.1 hu).1
  rw [ncs_length hk] at hj
  have hi : j / 65 < l.length := by omega
  have e := ncs_get hk (j / 65) (j % 65) l[j / 65] (List.getElem?_eq_getElem hi) (by omega)
  have hd : j / 65 * 65 + j % 65 = j := by omega
  rw [hd, hu] at e
  have := hm (j / 65) _ (List.getElem?_eq_getElem hi) (j % 65) u e.symm
  rwa [show o + j / 65 * 65 + j % 65 = o + j by omega] at this
theorem info_nd : ∃ i z, Try.prog.info? 94 = some i ∧ i.zero = some z ∧ i.size = 65 ∧ i.bytes = 72 ∧ z.cells.size = 65 := by
  have h1 : (Try.prog.info? 94).map (·.size) = some 65 := by kernel_rfl
  have h2 : (Try.prog.info? 94).map (·.bytes) = some 72 := by kernel_rfl
  have h3 : (Try.prog.info? 94).bind (fun i => i.zero.map (·.cells.size)) = some 65 := by kernel_rfl
  cases hq : Try.prog.info? 94 with
  | none => rw [hq] at h1; cases h1
  | some i =>
    rw [hq] at h1 h2 h3
    cases hz : i.zero with
    | none => simp [hz] at h3
    | some z => exact ⟨i, z, rfl, hz, Option.some.inj h1, Option.some.inj h2, by simpa [hz] using h3⟩
theorem ns_row {w : World} {v : Value} {l : List Nd} (hk : ∀ x ∈ l, x.Ok) {B : Nat} (h : w.ownsRow B 94 65 v l.length (ncs l)) : NS w v l := by
  have h' := h
  obtain ⟨h1, ⟨rfl, h2⟩ | ⟨g, cap, cur, rfl, -, hg, hnc, -, hcs, -⟩⟩ := h
  · have : l = [] := List.length_eq_zero_iff.1 h2
    subst this
    exact ⟨none, 0, rfl, Nat.le_refl _, .inl ⟨rfl, fun _ => rfl⟩⟩
  · refine ⟨_, cap, rfl, hnc, .inr ⟨g, 0, rfl, (Array.getElem?_eq_some_iff.1 hg).1, ?_⟩⟩
    intro i x hi j u hu
    have hx : x ∈ l := List.mem_of_getElem? hi
    have hj := (List.getElem?_eq_some_iff.1 hu).1
    rw [nc_length (hk x hx)] at hj
    have := h'.cells (g := g) rfl (i * 65 + j) u (by rw [ncs_get hk i j x hi hj]; exact hu)
    rw [addr_add0] at this
    rwa [show 0 + i * 65 + j = 0 + (i * 65 + j) by omega]
def NO (B : Nat) (w : World) (v : Value) (l : List Nd) : Prop := w.ownsRow B 94 65 v l.length (ncs l) ∧ (∀ x ∈ l, x.Ok) ∧ B ≤ w.heap.size
theorem NO.ns {B : Nat} {w : World} {v : Value} {l : List Nd} (h : NO B w v l) : NS w v l := ns_row h.2.1 h.1
theorem NO.alloc {B : Nat} {w : World} {v : Value} {l : List Nd} (h : NO B w v l) (o : Obj) : NO B (w.alloc o) v l := ⟨h.1.alloc o, h.2.1, by have := h.2.2; simp; omega⟩
theorem NO.nil' {B : Nat} {w : World} (hB : B ≤ w.heap.size) : NO B w (.slice none 0 0) [] := ⟨World.ownsRow_nil _ _ _ _, (fun x hx => by cases hx), hB⟩
theorem NO.below {B : Nat} {w w' : World} {v : Value} {l : List Nd} (h : NO B w v l) (hb : Below w.heap.size w w') : NO B w' v l := ⟨own_keep h.1 hb, h.2.1, Nat.le_trans h.2.2 hb.size⟩
theorem ncs_app (l m : List Nd) : ncs (l ++ m) = ncs l ++ ncs m := by simp [ncs]
theorem app_own {B : Nat} {w : World} {v u : Value} {l m : List Nd} (h : NO B w v l) (hkm : ∀ x ∈ m, x.Ok) (hu : NS w u m) (hlen : l.length + m.length ≤ 3000000000000) :
    ∃ v' w', (Builtin.append_ #[29, 29] 29 #[v, u]).run Try.prog w = .ok v' w' ∧ NO B w' v' (l ++ m) ∧ Below B w w' ∧ w.grownBy w' v.ownBlock := by
  obtain ⟨i, z, hi, hz, hs, hb, hzs⟩ := info_nd
  obtain ⟨ho, hkl, hB⟩ := h
  have hkk : ∀ x ∈ l ++ m, x.Ok := fun x hx => by
    rcases List.mem_append.1 hx with q | q
    · exact hkl x q
    · exact hkm x q
  have hbytes : ((l.length + m.length) + (l.length + m.length) / 4 + 192) * 72 ≤ 281474976710656 := Nat.le_trans (Nat.mul_le_mul_right 72 (show (l.length + m.length) + (l.length + m.length) / 4 + 192 ≤ 3750000000192 by omega)) (by decide)
  have fin : ∀ w', w.grownBy w' v.ownBlock → Below B w w' := fun w' g => (Below.refl B w).grown g hB (fun k e => (ho.lt k e).1)
  obtain ⟨ad, cap, rfl, hc, ⟨rfl, hn⟩ | ⟨b, o, rfl, hlt, hm⟩⟩ := hu
  · cases ad with
    | none =>
      obtain rfl := hn rfl
      refine ⟨_, _, run_append_owned_none (P := Try.prog) w B _ _ _ i 65 Try.underlying29 hi _ _ _ ho, ?_, Below.refl _ _, ⟨rfl, rfl, rfl, Nat.le_refl _, fun _ _ _ => rfl⟩⟩
      rw [List.append_nil]; exact ⟨ho, hkl, hB⟩
    | some A =>
      obtain ⟨v', w', hr, h2, h3, -⟩ := run_append_own_wide (P := Try.prog) w B 29 29 94 i z 65 72 Try.underlying29 hi hz hs hb hzs (by decide) _ _ _ ho A 0 cap [] rfl (fun j u hu => by simp at hu) (fun _ h => by cases h) (by unfold maxLen; simp at hlen ⊢; omega) (by simpa using hbytes) hB
      rw [Nat.add_zero, List.append_nil] at h2
      refine ⟨v', w', hr, ?_, fin w' h3, h3⟩
      rw [List.append_nil]
      exact ⟨h2, hkl, Nat.le_trans hB h3.size⟩
  · obtain ⟨v', w', hr, h2, h3, -⟩ := run_append_own_wide (P := Try.prog) w B 29 29 94 i z 65 72 Try.underlying29 hi hz hs hb hzs (by decide) _ _ _ ho ⟨b, o, none⟩ m.length cap (ncs m) (ncs_length hkm) (fun j u hu => by rw [addr_add0]; exact ncs_at hkm hm j u hu) (ncs_one m) (by unfold maxLen; omega) hbytes hB
    refine ⟨v', w', hr, ⟨?_, hkk, Nat.le_trans hB h3.size⟩, fin w' h3, h3⟩
    rw [List.length_append, ncs_app]; exact h2
theorem zero_cells_nd : ∃ i, Try.prog.info? 94 = some i ∧ i.zero = some (.agg (nc ndz).toArray) ∧ i.size = 65 := by
  have h1 : (Try.prog.info? 94).map (·.size) = some 65 := by kernel_rfl
  have h2 : (Try.prog.info? 94).bind (·.zero) = some (.agg (nc ndz).toArray) := by kernel_rfl
  cases hq : Try.prog.info? 94 with
  | none => rw [hq] at h1; cases h1
  | some i => rw [hq] at h1 h2; exact ⟨i, rfl, h2, Option.some.inj h1⟩
theorem run_onen (w : World) {x : Nd} (hx : x.Ok) : (Instr.buildSlice 29 1 #[(0, .agg (nc x).toArray)]).run Try.prog w = .ok (.slice (some ⟨w.heap.size, 0, none⟩) 1 1) (w.alloc (.cells (nc x).toArray 94)) := by
  obtain ⟨i, hi, hz, hs⟩ := zero_cells_nd
  have h1 := nc_length hx
  have hb : i.bytes = 72 := by
    obtain ⟨i', z', hi', -, -, hb, -⟩ := info_nd
    rw [hi] at hi'; cases hi'; exact hb
  refine run_buildSlice w 29 94 1 _ (nc x).toArray i _ Try.underlying29 hi hz (by omega) (by omega) ?_
  have := _root_.Go.Great.fill_whole (s := i.size) (by omega) [.agg (nc x).toArray] ((Array.range (1 * i.size)).map ((Value.agg (nc ndz).toArray).cells[· % (Value.agg (nc ndz).toArray).cells.size]!)) (by intro v hv; simp at hv; subst hv; simp [Value.cells, hs, h1]) (by simp)
  simpa [Value.cells] using this
theorem wpList_onen {ops : Array Oper} {rest : List Oper} {o : Oper} {a : Act} {w : World} {Q : Exit → Act → World → Prop} (hg : o.guard = none) (y : Operand) (ho : o.op = .buildSlice 29 1 #[(0, y)]) (x : Nd) (hx : x.Ok) (hy : a.eval y = .agg (nc x).toArray)
    (h : wpList Try.prog ops Q rest (a.put o.dst (.slice (some ⟨w.heap.size, 0, none⟩) 1 1)) (w.alloc (.cells (nc x).toArray 94))) : wpList Try.prog ops Q (o :: rest) a w := by
  refine wpList_plain hg fun K hK => ?_
  have hr := run_onen w hx
  unfold Oper.wp
  simp only [execOp, ho, List.map_toArray, List.map_cons, List.map_nil, hy, Sem.run_bind, hr, Result.andThen_ok, Sem.run_pure]
  exact hK _ _ h
theorem ns_one (w : World) (x : Nd) (t : TypeId) : NS (w.alloc (.cells (nc x).toArray t)) (.slice (some ⟨w.heap.size, 0, none⟩) 1 1) [x] :=
  ⟨_, 1, rfl, Nat.le_refl _, .inr ⟨w.heap.size, 0, rfl, by simp, fun i z hi => by
    cases i with
    | zero => simp at hi; subst hi; exact range_alloc w (nc x) t (0, 0)
    | succ i => simp at hi⟩⟩
theorem wp_appn {ops : Array Oper} {rest : List Oper} {o : Oper} {a : Act} {w : World} {Q : Exit → Act → World → Prop} (hgd : o.guard = none) (s x : Operand) (ho : o.op = .call { callee := .builtin .append, args := #[s, x], argTypes := #[29, 29] }) (hT : o.type = 29)
    (B : Nat) (v u : Value) (l m : List Nd) (hs : a.eval s = v) (hx : a.eval x = u) (h0 : NO B w v l) (hkm : ∀ x ∈ m, x.Ok) (hu : NS w u m) (hlen : l.length + m.length ≤ 3000000000000)
    (h : ∀ v' w', NO B w' v' (l ++ m) → Below B w w' → wpList Try.prog ops Q rest (a.put o.dst v') w') : wpList Try.prog ops Q (o :: rest) a w := by
  obtain ⟨v', w', hr, h1, h2, -⟩ := app_own h0 hkm hu hlen
  exact wp_app_run hgd s x 29 ho 29 hT v u v' w' hs hx hr (h v' w' h1 h2)
theorem lfc_all (x : Lf) : ∀ u ∈ lfc x, u.oneCell' = true := fun u hu => by
  unfold lfc lf at hu
  rcases List.mem_append.1 hu with hu | hu
  · exact bv_one _ u hu
  · exact bv_one _ u hu
def lcs (l : List Lf) : List Value := l.flatMap lfc
theorem lcs_length : ∀ {l : List Lf}, (∀ x ∈ l, x.Ok) → (lcs l).length = l.length * 64
  | [], _ => rfl
  | a :: r, h => by
    have ih := lcs_length (l := r) (fun x hx => h x (List.mem_cons_of_mem _ hx))
    show (lfc a ++ lcs r).length = _
    rw [List.length_append, ih, lfc_length (h a List.mem_cons_self), List.length_cons]
    omega
theorem lcs_one (l : List Lf) : ∀ u ∈ lcs l, u.oneCell' = true := by
  intro u hu
  obtain ⟨x, hx, hu⟩ := List.mem_flatMap.1 hu
  have h := lfc_one x
  rw [Array.all_eq_true] at h
  obtain ⟨i, hi, rfl⟩ := List.getElem_of_mem hu
  have := h i (by simpa using hi)
  simpa using this
theorem lcs_get : ∀ {l : List Lf}, (∀ x ∈ l, x.Ok) → ∀ (i j : Nat) (x : Lf), l[i]? = some x → j < 64 → (lcs l)[i * 64 + j]? = (lfc x)[j]?
  | [], _, i, j, x, h, _ => by simp at h
  | a :: r, hk, i, j, x, h, hj => by
    show (lfc a ++ lcs r)[i * 64 + j]? = _
    have ha := lfc_length (hk a List.mem_cons_self)
    cases i with
    | zero =>
      simp at h; subst h
      rw [Nat.zero_mul, Nat.zero_add, List.getElem?_append_left (by omega)]
    | succ i =>
      rw [List.getElem?_append_right (by omega), ha, show (i + 1) * 64 + j - 64 = i * 64 + j by omega]
      exact lcs_get (fun x hx => hk x (List.mem_cons_of_mem _ hx)) i j x (by simpa using h) hj
theorem lcs_at {w : World} {b o : Nat} {l : List Lf} (hk : ∀ x ∈ l, x.Ok) (hm : ∀ (i : Nat) (x : Lf), l[i]? = some x → w.rangeAt b (o + i * 64) (lfc x)) : ∀ j u, (lcs l)[j]? = some u → w.cell? ⟨b, o + j, none⟩ = some u := by
  intro j u hu
  have hj := (List.getElem?_eq_some_iff.1 hu).1
  rw [lcs_length hk] at hj
  have hi : j / 64 < l.length := by omega
  have e := lcs_get hk (j / 64) (j % 64) l[j / 64] (List.getElem?_eq_getElem hi) (by omega)
  have hd : j / 64 * 64 + j % 64 = j := by omega
  rw [hd, hu] at e
  have := hm (j / 64) _ (List.getElem?_eq_getElem hi) (j % 64) u e.symm
  rwa [show o + j / 64 * 64 + j % 64 = o + j by omega] at this
theorem info_lf : ∃ i z, Try.prog.info? 84 = some i ∧ i.zero = some z ∧ i.size = 64 ∧ i.bytes = 64 ∧ z.cells.size = 64 := by
  have h1 : (Try.prog.info? 84).map (·.size) = some 64 := by kernel_rfl
  have h2 : (Try.prog.info? 84).map (·.bytes) = some 64 := by kernel_rfl
  have h3 : (Try.prog.info? 84).bind (fun i => i.zero.map (·.cells.size)) = some 64 := by kernel_rfl
  cases hq : Try.prog.info? 84 with
  | none => rw [hq] at h1; cases h1
  | some i =>
    rw [hq] at h1 h2 h3
    cases hz : i.zero with
    | none => simp [hz] at h3
    | some z => exact ⟨i, z, rfl, hz, Option.some.inj h1, Option.some.inj h2, by simpa [hz] using h3⟩
theorem ls_row {w : World} {v : Value} {l : List Lf} (hk : ∀ x ∈ l, x.Ok) {B : Nat} (h : w.ownsRow B 84 64 v l.length (lcs l)) : LS w v l := by
  have h' := h
  obtain ⟨h1, ⟨rfl, h2⟩ | ⟨g, cap, cur, rfl, -, hg, hnc, -, hcs, -⟩⟩ := h
  · have : l = [] := List.length_eq_zero_iff.1 h2
    subst this
    exact ⟨none, 0, rfl, Nat.le_refl _, .inl ⟨rfl, fun _ => rfl⟩⟩
  · refine ⟨_, cap, rfl, hnc, .inr ⟨g, 0, rfl, (Array.getElem?_eq_some_iff.1 hg).1, ?_⟩⟩
    intro i x hi j u hu
    have hx : x ∈ l := List.mem_of_getElem? hi
    have hj := (List.getElem?_eq_some_iff.1 hu).1
    rw [lfc_length (hk x hx)] at hj
    have := h'.cells (g := g) rfl (i * 64 + j) u (by rw [lcs_get hk i j x hi hj]; exact hu)
    rw [addr_add0] at this
    rwa [show 0 + i * 64 + j = 0 + (i * 64 + j) by omega]
def LO (B : Nat) (w : World) (v : Value) (l : List Lf) : Prop := w.ownsRow B 84 64 v l.length (lcs l) ∧ (∀ x ∈ l, x.Ok) ∧ B ≤ w.heap.size
theorem LO.ls {B : Nat} {w : World} {v : Value} {l : List Lf} (h : LO B w v l) : LS w v l := ls_row h.2.1 h.1
theorem LO.alloc {B : Nat} {w : World} {v : Value} {l : List Lf} (h : LO B w v l) (o : Obj) : LO B (w.alloc o) v l := ⟨h.1.alloc o, h.2.1, by have := h.2.2; simp; omega⟩
theorem LO.nil' {B : Nat} {w : World} (hB : B ≤ w.heap.size) : LO B w (.slice none 0 0) [] := ⟨World.ownsRow_nil _ _ _ _, (fun x hx => by cases hx), hB⟩
theorem LO.below {B : Nat} {w w' : World} {v : Value} {l : List Lf} (h : LO B w v l) (hb : Below w.heap.size w w') : LO B w' v l := ⟨own_keep h.1 hb, h.2.1, Nat.le_trans h.2.2 hb.size⟩
theorem lcs_app (l m : List Lf) : lcs (l ++ m) = lcs l ++ lcs m := by simp [lcs]
theorem app_lown {B : Nat} {w : World} {v u : Value} {l m : List Lf} (h : LO B w v l) (hkm : ∀ x ∈ m, x.Ok) (hu : LS w u m) (hlen : l.length + m.length ≤ 3000000000000) :
    ∃ v' w', (Builtin.append_ #[43, 43] 43 #[v, u]).run Try.prog w = .ok v' w' ∧ LO B w' v' (l ++ m) ∧ Below B w w' ∧ w.grownBy w' v.ownBlock := by
  obtain ⟨i, z, hi, hz, hs, hb, hzs⟩ := info_lf
  obtain ⟨ho, hkl, hB⟩ := h
  have hkk : ∀ x ∈ l ++ m, x.Ok := fun x hx => by
    rcases List.mem_append.1 hx with q | q
    · exact hkl x q
    · exact hkm x q
  have hbytes : ((l.length + m.length) + (l.length + m.length) / 4 + 192) * 64 ≤ 281474976710656 := Nat.le_trans (Nat.mul_le_mul_right 64 (show (l.length + m.length) + (l.length + m.length) / 4 + 192 ≤ 3750000000192 by omega)) (by decide)
  have fin : ∀ w', w.grownBy w' v.ownBlock → Below B w w' := fun w' g => (Below.refl B w).grown g hB (fun k e => (ho.lt k e).1)
  obtain ⟨ad, cap, rfl, hc, ⟨rfl, hn⟩ | ⟨b, o, rfl, hlt, hm⟩⟩ := hu
  · cases ad with
    | none =>
      obtain rfl := hn rfl
      refine ⟨_, _, run_append_owned_none (P := Try.prog) w B _ _ _ i 64 Try.underlying43 hi _ _ _ ho, ?_, Below.refl _ _, ⟨rfl, rfl, rfl, Nat.le_refl _, fun _ _ _ => rfl⟩⟩
      rw [List.append_nil]; exact ⟨ho, hkl, hB⟩
    | some A =>
      obtain ⟨v', w', hr, h2, h3, -⟩ := run_append_own_wide (P := Try.prog) w B 43 43 84 i z 64 64 Try.underlying43 hi hz hs hb hzs (by decide) _ _ _ ho A 0 cap [] rfl (fun j u hu => by simp at hu) (fun _ h => by cases h) (by unfold maxLen; simp at hlen ⊢; omega) (by simpa using hbytes) hB
      rw [Nat.add_zero, List.append_nil] at h2
      refine ⟨v', w', hr, ?_, fin w' h3, h3⟩
      rw [List.append_nil]
      exact ⟨h2, hkl, Nat.le_trans hB h3.size⟩
  · obtain ⟨v', w', hr, h2, h3, -⟩ := run_append_own_wide (P := Try.prog) w B 43 43 84 i z 64 64 Try.underlying43 hi hz hs hb hzs (by decide) _ _ _ ho ⟨b, o, none⟩ m.length cap (lcs m) (lcs_length hkm) (fun j u hu => by rw [addr_add0]; exact lcs_at hkm hm j u hu) (lcs_one m) (by unfold maxLen; omega) hbytes hB
    refine ⟨v', w', hr, ⟨?_, hkk, Nat.le_trans hB h3.size⟩, fin w' h3, h3⟩
    rw [List.length_append, lcs_app]; exact h2
theorem zero_cells_lf : ∃ i, Try.prog.info? 84 = some i ∧ i.zero = some (.agg (lfc lfz).toArray) ∧ i.size = 64 := by
  have h1 : (Try.prog.info? 84).map (·.size) = some 64 := by kernel_rfl
  have h2 : (Try.prog.info? 84).bind (·.zero) = some (.agg (lfc lfz).toArray) := by kernel_rfl
  cases hq : Try.prog.info? 84 with
  | none => rw [hq] at h1; cases h1
  | some i => rw [hq] at h1 h2; exact ⟨i, rfl, h2, Option.some.inj h1⟩
theorem run_onel (w : World) {x : Lf} (hx : x.Ok) : (Instr.buildSlice 43 1 #[(0, .agg (lfc x).toArray)]).run Try.prog w = .ok (.slice (some ⟨w.heap.size, 0, none⟩) 1 1) (w.alloc (.cells (lfc x).toArray 84)) := by
  obtain ⟨i, hi, hz, hs⟩ := zero_cells_lf
  have h1 := lfc_length hx
  have hb : i.bytes = 64 := by
    obtain ⟨i', z', hi', -, -, hb, -⟩ := info_lf
    rw [hi] at hi'; cases hi'; exact hb
  refine run_buildSlice w 43 84 1 _ (lfc x).toArray i _ Try.underlying43 hi hz (by omega) (by omega) ?_
  have := _root_.Go.Great.fill_whole (s := i.size) (by omega) [.agg (lfc x).toArray] ((Array.range (1 * i.size)).map ((Value.agg (lfc lfz).toArray).cells[· % (Value.agg (lfc lfz).toArray).cells.size]!)) (by intro v hv; simp at hv; subst hv; simp [Value.cells, hs, h1]) (by simp)
  simpa [Value.cells] using this
theorem wpList_onel {ops : Array Oper} {rest : List Oper} {o : Oper} {a : Act} {w : World} {Q : Exit → Act → World → Prop} (hg : o.guard = none) (y : Operand) (ho : o.op = .buildSlice 43 1 #[(0, y)]) (x : Lf) (hx : x.Ok) (hy : a.eval y = .agg (lfc x).toArray)
    (h : wpList Try.prog ops Q rest (a.put o.dst (.slice (some ⟨w.heap.size, 0, none⟩) 1 1)) (w.alloc (.cells (lfc x).toArray 84))) : wpList Try.prog ops Q (o :: rest) a w := by
  refine wpList_plain hg fun K hK => ?_
  have hr := run_onel w hx
  unfold Oper.wp
  simp only [execOp, ho, List.map_toArray, List.map_cons, List.map_nil, hy, Sem.run_bind, hr, Result.andThen_ok, Sem.run_pure]
  exact hK _ _ h
theorem ls_one (w : World) (x : Lf) (t : TypeId) : LS (w.alloc (.cells (lfc x).toArray t)) (.slice (some ⟨w.heap.size, 0, none⟩) 1 1) [x] :=
  ⟨_, 1, rfl, Nat.le_refl _, .inr ⟨w.heap.size, 0, rfl, by simp, fun i z hi => by
    cases i with
    | zero => simp at hi; subst hi; exact range_alloc w (lfc x) t (0, 0)
    | succ i => simp at hi⟩⟩
theorem wp_appl {ops : Array Oper} {rest : List Oper} {o : Oper} {a : Act} {w : World} {Q : Exit → Act → World → Prop} (hgd : o.guard = none) (s x : Operand) (ho : o.op = .call { callee := .builtin .append, args := #[s, x], argTypes := #[43, 43] }) (hT : o.type = 43)
    (B : Nat) (v u : Value) (l m : List Lf) (hs : a.eval s = v) (hx : a.eval x = u) (h0 : LO B w v l) (hkm : ∀ x ∈ m, x.Ok) (hu : LS w u m) (hlen : l.length + m.length ≤ 3000000000000)
    (h : ∀ v' w', LO B w' v' (l ++ m) → Below B w w' → wpList Try.prog ops Q rest (a.put o.dst v') w') : wpList Try.prog ops Q (o :: rest) a w := by
  obtain ⟨v', w', hr, h1, h2, -⟩ := app_lown h0 hkm hu hlen
  exact wp_app_run hgd s x 43 ho 43 hT v u v' w' hs hx hr (h v' w' h1 h2)
def kcs (l : List Lk) : List Value := l.flatMap lkc
theorem kcs_length : ∀ {l : List Lk}, (∀ x ∈ l, x.Ok) → (kcs l).length = l.length * 96
  | [], _ => rfl
  | a :: r, h => by
    have ih := kcs_length (l := r) (fun x hx => h x (List.mem_cons_of_mem _ hx))
    show (lkc a ++ kcs r).length = _
    rw [List.length_append, ih, lkc_length (h a List.mem_cons_self), List.length_cons]
    omega
theorem kcs_one (l : List Lk) : ∀ u ∈ kcs l, u.oneCell' = true := by
  intro u hu
  obtain ⟨x, hx, hu⟩ := List.mem_flatMap.1 hu
  have h := lkc_one x
  rw [Array.all_eq_true] at h
  obtain ⟨i, hi, rfl⟩ := List.getElem_of_mem hu
  have := h i (by simpa using hi)
  simpa using this
theorem kcs_get : ∀ {l : List Lk}, (∀ x ∈ l, x.Ok) → ∀ (i j : Nat) (x : Lk), l[i]? = some x → j < 96 → (kcs l)[i * 96 + j]? = (lkc x)[j]?
  | [], _, i, j, x, h, _ => by simp at h
  | a :: r, hk, i, j, x, h, hj => by
    show (lkc a ++ kcs r)[i * 96 + j]? = _
    have ha := lkc_length (hk a List.mem_cons_self)
    cases i with
    | zero =>
      simp at h; subst h
      rw [Nat.zero_mul, Nat.zero_add, List.getElem?_append_left (by omega)]
    | succ i =>
      rw [List.getElem?_append_right (by omega), ha, show (i + 1) * 96 + j - 96 = i * 96 + j by omega]
      exact kcs_get (fun x hx => hk x (List.mem_cons_of_mem _ hx)) i j x (by simpa using h) hj
theorem kcs_at {w : World} {b o : Nat} {l : List Lk} (hk : ∀ x ∈ l, x.Ok) (hm : ∀ (i : Nat) (x : Lk), l[i]? = some x → w.rangeAt b (o + i * 96) (lkc x)) : ∀ j u, (kcs l)[j]? = some u → w.cell? ⟨b, o + j, none⟩ = some u := by
  intro j u hu
  have hj := (List.getElem?_eq_some_iff.1 hu).1
  rw [kcs_length hk] at hj
  have hi : j / 96 < l.length := by omega
  have e := kcs_get hk (j / 96) (j % 96) l[j / 96] (List.getElem?_eq_getElem hi) (by omega)
  have hd : j / 96 * 96 + j % 96 = j := by omega
  rw [hd, hu] at e
  have := hm (j / 96) _ (List.getElem?_eq_getElem hi) (j % 96) u e.symm
  rwa [show o + j / 96 * 96 + j % 96 = o + j by omega] at this
theorem info_lk : ∃ i z, Try.prog.info? 110 = some i ∧ i.zero = some z ∧ i.size = 96 ∧ i.bytes = 96 ∧ z.cells.size = 96 := by
  have h1 : (Try.prog.info? 110).map (·.size) = some 96 := by kernel_rfl
  have h2 : (Try.prog.info? 110).map (·.bytes) = some 96 := by kernel_rfl
  have h3 : (Try.prog.info? 110).bind (fun i => i.zero.map (·.cells.size)) = some 96 := by kernel_rfl
  cases hq : Try.prog.info? 110 with
  | none => rw [hq] at h1; cases h1
  | some i =>
    rw [hq] at h1 h2 h3
    cases hz : i.zero with
    | none => simp [hz] at h3
    | some z => exact ⟨i, z, rfl, hz, Option.some.inj h1, Option.some.inj h2, by simpa [hz] using h3⟩
theorem ks_row {w : World} {v : Value} {l : List Lk} (hk : ∀ x ∈ l, x.Ok) {B : Nat} (h : w.ownsRow B 110 96 v l.length (kcs l)) : KS w v l := by
  have h' := h
  obtain ⟨h1, ⟨rfl, h2⟩ | ⟨g, cap, cur, rfl, -, hg, hnc, -, hcs, -⟩⟩ := h
  · have : l = [] := List.length_eq_zero_iff.1 h2
    subst this
    exact ⟨none, 0, rfl, Nat.le_refl _, .inl ⟨rfl, fun _ => rfl⟩⟩
  · refine ⟨_, cap, rfl, hnc, .inr ⟨g, 0, rfl, (Array.getElem?_eq_some_iff.1 hg).1, ?_⟩⟩
    intro i x hi j u hu
    have hx : x ∈ l := List.mem_of_getElem? hi
    have hj := (List.getElem?_eq_some_iff.1 hu).1
    rw [lkc_length (hk x hx)] at hj
    have := h'.cells (g := g) rfl (i * 96 + j) u (by rw [kcs_get hk i j x hi hj]; exact hu)
    rw [addr_add0] at this
    rwa [show 0 + i * 96 + j = 0 + (i * 96 + j) by omega]
def KO (B : Nat) (w : World) (v : Value) (l : List Lk) : Prop := w.ownsRow B 110 96 v l.length (kcs l) ∧ (∀ x ∈ l, x.Ok) ∧ B ≤ w.heap.size
theorem KO.ks {B : Nat} {w : World} {v : Value} {l : List Lk} (h : KO B w v l) : KS w v l := ks_row h.2.1 h.1
theorem KO.alloc {B : Nat} {w : World} {v : Value} {l : List Lk} (h : KO B w v l) (o : Obj) : KO B (w.alloc o) v l := ⟨h.1.alloc o, h.2.1, by have := h.2.2; simp; omega⟩
theorem KO.nil' {B : Nat} {w : World} (hB : B ≤ w.heap.size) : KO B w (.slice none 0 0) [] := ⟨World.ownsRow_nil _ _ _ _, (fun x hx => by cases hx), hB⟩
theorem KO.below {B : Nat} {w w' : World} {v : Value} {l : List Lk} (h : KO B w v l) (hb : Below w.heap.size w w') : KO B w' v l := ⟨own_keep h.1 hb, h.2.1, Nat.le_trans h.2.2 hb.size⟩
theorem kcs_app (l m : List Lk) : kcs (l ++ m) = kcs l ++ kcs m := by simp [kcs]
theorem app_kown {B : Nat} {w : World} {v u : Value} {l m : List Lk} (h : KO B w v l) (hkm : ∀ x ∈ m, x.Ok) (hu : KS w u m) (hlen : l.length + m.length ≤ 1460000000000) :
    ∃ v' w', (Builtin.append_ #[44, 44] 44 #[v, u]).run Try.prog w = .ok v' w' ∧ KO B w' v' (l ++ m) ∧ Below B w w' ∧ w.grownBy w' v.ownBlock := by
  obtain ⟨i, z, hi, hz, hs, hb, hzs⟩ := info_lk
  obtain ⟨ho, hkl, hB⟩ := h
  have hkk : ∀ x ∈ l ++ m, x.Ok := fun x hx => by
    rcases List.mem_append.1 hx with q | q
    · exact hkl x q
    · exact hkm x q
  have hbytes : ((l.length + m.length) + (l.length + m.length) / 4 + 192) * 96 ≤ 281474976710656 := Nat.le_trans (Nat.mul_le_mul_right 96 (show (l.length + m.length) + (l.length + m.length) / 4 + 192 ≤ 1825000000192 by omega)) (by decide)
  have fin : ∀ w', w.grownBy w' v.ownBlock → Below B w w' := fun w' g => (Below.refl B w).grown g hB (fun k e => (ho.lt k e).1)
  obtain ⟨ad, cap, rfl, hc, ⟨rfl, hn⟩ | ⟨b, o, rfl, hlt, hm⟩⟩ := hu
  · cases ad with
    | none =>
      obtain rfl := hn rfl
      refine ⟨_, _, run_append_owned_none (P := Try.prog) w B _ _ _ i 96 Try.underlying44 hi _ _ _ ho, ?_, Below.refl _ _, ⟨rfl, rfl, rfl, Nat.le_refl _, fun _ _ _ => rfl⟩⟩
      rw [List.append_nil]; exact ⟨ho, hkl, hB⟩
    | some A =>
      obtain ⟨v', w', hr, h2, h3, -⟩ := run_append_own_wide (P := Try.prog) w B 44 44 110 i z 96 96 Try.underlying44 hi hz hs hb hzs (by decide) _ _ _ ho A 0 cap [] rfl (fun j u hu => by simp at hu) (fun _ h => by cases h) (by unfold maxLen; simp at hlen ⊢; omega) (by simpa using hbytes) hB
      rw [Nat.add_zero, List.append_nil] at h2
      refine ⟨v', w', hr, ?_, fin w' h3, h3⟩
      rw [List.append_nil]
      exact ⟨h2, hkl, Nat.le_trans hB h3.size⟩
  · obtain ⟨v', w', hr, h2, h3, -⟩ := run_append_own_wide (P := Try.prog) w B 44 44 110 i z 96 96 Try.underlying44 hi hz hs hb hzs (by decide) _ _ _ ho ⟨b, o, none⟩ m.length cap (kcs m) (kcs_length hkm) (fun j u hu => by rw [addr_add0]; exact kcs_at hkm hm j u hu) (kcs_one m) (by unfold maxLen; omega) hbytes hB
    refine ⟨v', w', hr, ⟨?_, hkk, Nat.le_trans hB h3.size⟩, fin w' h3, h3⟩
    rw [List.length_append, kcs_app]; exact h2
theorem zero_cells_lk : ∃ i, Try.prog.info? 110 = some i ∧ i.zero = some (.agg (lkc lkz).toArray) ∧ i.size = 96 := by
  have h1 : (Try.prog.info? 110).map (·.size) = some 96 := by kernel_rfl
  have h2 : (Try.prog.info? 110).bind (·.zero) = some (.agg (lkc lkz).toArray) := by kernel_rfl
  cases hq : Try.prog.info? 110 with
  | none => rw [hq] at h1; cases h1
  | some i => rw [hq] at h1 h2; exact ⟨i, rfl, h2, Option.some.inj h1⟩
theorem run_onek (w : World) {x : Lk} (hx : x.Ok) : (Instr.buildSlice 44 1 #[(0, .agg (lkc x).toArray)]).run Try.prog w = .ok (.slice (some ⟨w.heap.size, 0, none⟩) 1 1) (w.alloc (.cells (lkc x).toArray 110)) := by
  obtain ⟨i, hi, hz, hs⟩ := zero_cells_lk
  have h1 := lkc_length hx
  have hb : i.bytes = 96 := by
    obtain ⟨i', z', hi', -, -, hb, -⟩ := info_lk
    rw [hi] at hi'; cases hi'; exact hb
  refine run_buildSlice w 44 110 1 _ (lkc x).toArray i _ Try.underlying44 hi hz (by omega) (by omega) ?_
  have := _root_.Go.Great.fill_whole (s := i.size) (by omega) [.agg (lkc x).toArray] ((Array.range (1 * i.size)).map ((Value.agg (lkc lkz).toArray).cells[· % (Value.agg (lkc lkz).toArray).cells.size]!)) (by intro v hv; simp at hv; subst hv; simp [Value.cells, hs, h1]) (by simp)
  simpa [Value.cells] using this
theorem wpList_onek {ops : Array Oper} {rest : List Oper} {o : Oper} {a : Act} {w : World} {Q : Exit → Act → World → Prop} (hg : o.guard = none) (y : Operand) (ho : o.op = .buildSlice 44 1 #[(0, y)]) (x : Lk) (hx : x.Ok) (hy : a.eval y = .agg (lkc x).toArray)
    (h : wpList Try.prog ops Q rest (a.put o.dst (.slice (some ⟨w.heap.size, 0, none⟩) 1 1)) (w.alloc (.cells (lkc x).toArray 110))) : wpList Try.prog ops Q (o :: rest) a w := by
  refine wpList_plain hg fun K hK => ?_
  have hr := run_onek w hx
  unfold Oper.wp
  simp only [execOp, ho, List.map_toArray, List.map_cons, List.map_nil, hy, Sem.run_bind, hr, Result.andThen_ok, Sem.run_pure]
  exact hK _ _ h
theorem ks_one (w : World) (x : Lk) (t : TypeId) : KS (w.alloc (.cells (lkc x).toArray t)) (.slice (some ⟨w.heap.size, 0, none⟩) 1 1) [x] :=
  ⟨_, 1, rfl, Nat.le_refl _, .inr ⟨w.heap.size, 0, rfl, by simp, fun i z hi => by
    cases i with
    | zero => simp at hi; subst hi; exact range_alloc w (lkc x) t (0, 0)
    | succ i => simp at hi⟩⟩
theorem wp_appk {ops : Array Oper} {rest : List Oper} {o : Oper} {a : Act} {w : World} {Q : Exit → Act → World → Prop} (hgd : o.guard = none) (s x : Operand) (ho : o.op = .call { callee := .builtin .append, args := #[s, x], argTypes := #[44, 44] }) (hT : o.type = 44)
    (B : Nat) (v u : Value) (l m : List Lk) (hs : a.eval s = v) (hx : a.eval x = u) (h0 : KO B w v l) (hkm : ∀ x ∈ m, x.Ok) (hu : KS w u m) (hlen : l.length + m.length ≤ 1460000000000)
    (h : ∀ v' w', KO B w' v' (l ++ m) → Below B w w' → wpList Try.prog ops Q rest (a.put o.dst v') w') : wpList Try.prog ops Q (o :: rest) a w := by
  obtain ⟨v', w', hr, h1, h2, -⟩ := app_kown h0 hkm hu hlen
  exact wp_app_run hgd s x 44 ho 44 hT v u v' w' hs hx hr (h v' w' h1 h2)
end Go.Proofs.Ytfnmdeekenjlgaa
