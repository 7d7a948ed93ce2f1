/- Rows of leaves of a call's own; copyLeaves of the law. -/
import Derived.Test.YtpojalbpekbfdabDoorTrhB
namespace Go.Proofs.YtpojalbpekbfdabDoor
open Go Go.RowKit
set_option linter.unusedSimpArgs false
set_option linter.unusedVariables false
set_option maxRecDepth 100000

theorem ls_none (w : World) (ad : Option Addr) (cap : Nat) (h : ad = none → cap = 0) : LS w (.slice ad 0 cap) [] := ⟨ad, cap, rfl, Nat.zero_le _, .inl ⟨rfl, h⟩⟩
theorem lfc_all (x : Lf) : ∀ u ∈ lfc x, u.oneCell' = true := fun u hu => by
  unfold lfc lf at hu
  rcases List.mem_append.1 hu with hu | hu
  · exact bv_one _ u hu
  · exact bv_one _ u hu
/-- All cells of nodes. -/
def lcs (l : List Lf) : List Value := l.flatMap lfc
theorem lcs_length : ∀ {l : List Lf}, (∀ x ∈ l, x.Ok) → (lcs l).length = l.length * 64
  | [], _ => rfl
  | a :: r, h => by
    have ih := lcs_length (l := r) (fun x hx => h x (List.mem_cons_of_mem _ hx))
    show (lfc a ++ lcs r).length = _
    rw [List.length_append, ih, lfc_length (h a List.mem_cons_self), List.length_cons]
    omega
theorem lcs_one (l : List Lf) : ∀ u ∈ lcs l, u.oneCell' = true := by
  intro u hu
  obtain ⟨x, hx, hu⟩ := List.mem_flatMap.1 hu
  have h := lfc_one x
  rw [Array.all_eq_true] at h
  obtain ⟨i, hi, rfl⟩ := List.getElem_of_mem hu
  have := h i (by simpa using hi)
  simpa using this
/-- A cell of all cells is a cell of a node. -/
theorem lcs_get : ∀ {l : List Lf}, (∀ x ∈ l, x.Ok) → ∀ (i j : Nat) (x : Lf), l[i]? = some x → j < 64 → (lcs l)[i * 64 + j]? = (lfc x)[j]?
  | [], _, i, j, x, h, _ => by simp at h
  | a :: r, hk, i, j, x, h, hj => by
    show (lfc a ++ lcs r)[i * 64 + j]? = _
    have ha := lfc_length (hk a List.mem_cons_self)
    cases i with
    | zero =>
      simp at h; subst h
      rw [Nat.zero_mul, Nat.zero_add, List.getElem?_append_left (by omega)]
    | succ i =>
      rw [List.getElem?_append_right (by omega), ha, show (i + 1) * 64 + j - 64 = i * 64 + j by omega]
      exact lcs_get (fun x hx => hk x (List.mem_cons_of_mem _ hx)) i j x (by simpa using h) hj
theorem lcs_at {w : World} {b o : Nat} {l : List Lf} (hk : ∀ x ∈ l, x.Ok) (hm : ∀ (i : Nat) (x : Lf), l[i]? = some x → w.rangeAt b (o + i * 64) (lfc x)) : ∀ j u, (lcs l)[j]? = some u → w.cell? ⟨b, o + j, none⟩ = some u := by
  intro j u hu
  have hj := (List.getElem?_eq_some_iff.1 hu).1
  rw [lcs_length hk] at hj
  have hi : j / 64 < l.length := by omega
  have e := lcs_get hk (j / 64) (j % 64) l[j / 64] (List.getElem?_eq_getElem hi) (by omega)
  have hd : j / 64 * 64 + j % 64 = j := by omega
  rw [hd, hu] at e
  have := hm (j / 64) _ (List.getElem?_eq_getElem hi) (j % 64) u e.symm
  rwa [show o + j / 64 * 64 + j % 64 = o + j by omega] at this
theorem info_lf : ∃ i z, Tryd.prog.info? 27 = some i ∧ i.zero = some z ∧ i.size = 64 ∧ i.bytes = 64 ∧ z.cells.size = 64 := by
  have h1 : (Tryd.prog.info? 27).map (·.size) = some 64 := by kernel_rfl
  have h2 : (Tryd.prog.info? 27).map (·.bytes) = some 64 := by kernel_rfl
  have h3 : (Tryd.prog.info? 27).bind (fun i => i.zero.map (·.cells.size)) = some 64 := by kernel_rfl
  cases hq : Tryd.prog.info? 27 with
  | none => rw [hq] at h1; cases h1
  | some i =>
    rw [hq] at h1 h2 h3
    cases hz : i.zero with
    | none => simp [hz] at h3
    | some z => exact ⟨i, z, rfl, hz, Option.some.inj h1, Option.some.inj h2, by simpa [hz] using h3⟩
/-- Nodes in a row of one's own. -/
theorem ls_row {w : World} {v : Value} {l : List Lf} (hk : ∀ x ∈ l, x.Ok) {B : Nat} (h : w.ownsRow B 27 64 v l.length (lcs l)) : LS w v l := by
  have h' := h
  obtain ⟨h1, ⟨rfl, h2⟩ | ⟨g, cap, cur, rfl, -, hg, hnc, -, hcs, -⟩⟩ := h
  · have : l = [] := List.length_eq_zero_iff.1 h2
    subst this
    exact ⟨none, 0, rfl, Nat.le_refl _, .inl ⟨rfl, fun _ => rfl⟩⟩
  · refine ⟨_, cap, rfl, hnc, .inr ⟨g, 0, rfl, (Array.getElem?_eq_some_iff.1 hg).1, ?_⟩⟩
    intro i x hi j u hu
    have hx : x ∈ l := List.mem_of_getElem? hi
    have hj := (List.getElem?_eq_some_iff.1 hu).1
    rw [lfc_length (hk x hx)] at hj
    have := h'.cells (g := g) rfl (i * 64 + j) u (by rw [lcs_get hk i j x hi hj]; exact hu)
    rw [addr_add0] at this
    rwa [show 0 + i * 64 + j = 0 + (i * 64 + j) by omega]
theorem lit_nol (w : World) : (Instr.buildSlice 22 0 #[]).run Tryd.prog w = .ok (.slice (some ⟨w.heap.size, 0, none⟩) 0 0) (w.alloc (.cells #[] 27)) := by kernel_rfl
/-- Nodes behind none. -/
theorem app_leaves (w : World) (l : List Lf) (hk : ∀ x ∈ l, x.Ok) (hlen : l.length ≤ 3000000000000) (u : Value) (hu : LS w u l) :
    ∃ v' w', (Builtin.append_ #[22, 22] 22 #[.slice (some ⟨w.heap.size, 0, none⟩) 0 0, u]).run Tryd.prog (w.alloc (.cells #[] 27)) = .ok v' w' ∧ LS w' v' l ∧ Below w.heap.size w w' := by
  obtain ⟨i, z, hi, hz, hs, hb, hzs⟩ := info_lf
  obtain ⟨W, hW⟩ : ∃ W, w.alloc (.cells #[] 27) = W := ⟨_, rfl⟩
  have hB : Below w.heap.size w W := by rw [← hW]; exact (Below.refl _ w).alloc (Nat.le_refl _) _
  have hh : W.heap[w.heap.size]? = some (.cells #[] 27 (0, 0)) := by rw [← hW]; show (w.heap.push _)[w.heap.size]? = _; simp
  have hS : w.heap.size < W.heap.size := (Array.getElem?_eq_some_iff.1 hh).1
  have hu2 : LS W u l := hu.below hB
  rw [hW]
  have ho : W.ownsRow w.heap.size 27 64 (.slice (some ⟨w.heap.size, 0, none⟩) 0 0) 0 [] := ⟨rfl, .inr ⟨w.heap.size, 0, _, rfl, Nat.le_refl _, hh, Nat.le_refl _, by unfold maxLen; omega, rfl, rfl⟩⟩
  have hbytes : ((0 + l.length) + (0 + l.length) / 4 + 192) * 64 ≤ 281474976710656 := Nat.le_trans (Nat.mul_le_mul_right 64 (show (0 + l.length) + (0 + l.length) / 4 + 192 ≤ 3750000000192 by omega)) (by decide)
  have fin : ∀ w', W.grownBy w' ((.slice (some ⟨w.heap.size, 0, none⟩) 0 0 : Value).ownBlock) → Below w.heap.size w w' := fun w' g => hB.grown g (Nat.le_of_lt hS) (fun b e => by cases e; exact Nat.le_refl _)
  obtain ⟨ad, cap, rfl, hc, ⟨rfl, hn⟩ | ⟨b, o, rfl, hlt, hm⟩⟩ := hu2
  · cases ad with
    | none =>
      obtain rfl := hn rfl
      exact ⟨_, _, run_append_owned_none (P := Tryd.prog) W w.heap.size _ _ _ i 64 Tryd.underlying22 hi _ 0 [] ho, ls_none _ _ _ (fun h => by cases h), hB⟩
    | some A =>
      obtain ⟨v', w', hr, h2, h3, -⟩ := run_append_own_wide (P := Tryd.prog) W w.heap.size 22 22 27 i z 64 64 Tryd.underlying22 hi hz hs hb hzs (by decide) _ 0 [] ho A 0 cap [] rfl (fun j u hu => by simp at hu) (fun _ h => by cases h) (by unfold maxLen; omega) (by decide) (Nat.le_of_lt hS)
      exact ⟨v', w', hr, ls_row (l := []) (fun x hx => by cases hx) h2, fin w' h3⟩
  · obtain ⟨v', w', hr, h2, h3, -⟩ := run_append_own_wide (P := Tryd.prog) W w.heap.size 22 22 27 i z 64 64 Tryd.underlying22 hi hz hs hb hzs (by decide) _ 0 [] ho ⟨b, o, none⟩ l.length cap (lcs l) (lcs_length hk) (fun j u hu => by rw [addr_add0]; exact lcs_at hk hm j u hu) (lcs_one l) (by unfold maxLen; omega) hbytes (Nat.le_of_lt hS)
    rw [Nat.zero_add, List.nil_append] at h2
    exact ⟨v', w', hr, ls_row hk h2, fin w' h3⟩
set_option maxHeartbeats 1000000 in
theorem copyLeaves_any (l : List Lf) (hk : ∀ x ∈ l, x.Ok) (hlen : l.length ≤ 3000000000000) (v : Value) (w : World) (hv : LS w v l) :
    Calls Tryd.prog 5 #[v] w fun e w' => ∃ v', e = .returned v' ∧ LS w' v' l ∧ Below w.heap.size w w' := by
  have hl := lit_nol w
  obtain ⟨v', w', hr, h1, h2⟩ := app_leaves w l hk hlen v hv
  have H1 : Hid (LS w' v' l) := h1
  have H2 : Hid (Below w.heap.size w w') := h2
  obtain ⟨ad, cap, rfl, -, -⟩ := hv
  obtain ⟨n, hn⟩ : ∃ n, l.length = n := ⟨_, rfl⟩
  rw [hn] at hr ⊢
  have HR : Hid ((Builtin.append_ #[22, 22] 22 #[.slice (some ⟨w.heap.size, 0, none⟩) 0 0, .slice ad n cap]).run Tryd.prog (w.alloc (.cells #[] 27)) = .ok v' w') := hr
  clear hk hlen h1 h2 hn hr
  go_enter Tryd.func5, Tryd.ntmps5
  go_wp2_with (at_builtin; refine wp_app_run rfl (.tmp 3) (.tmp 4) 22 rfl 22 rfl (.slice (some ⟨w.heap.size, 0, none⟩) 0 0) (.slice ad n cap) v' w' rfl rfl HR.out ?_)
  go_ret
  exact ⟨_, rfl, H1.out, H2.out⟩
/-- Nodes in a row of the call's own, from the block B on. -/
def LO (B : Nat) (w : World) (v : Value) (l : List Lf) : Prop := w.ownsRow B 27 64 v l.length (lcs l) ∧ (∀ x ∈ l, x.Ok) ∧ B ≤ w.heap.size
theorem LO.ls {B : Nat} {w : World} {v : Value} {l : List Lf} (h : LO B w v l) : LS w v l := ls_row h.2.1 h.1
theorem LO.alloc {B : Nat} {w : World} {v : Value} {l : List Lf} (h : LO B w v l) (o : Obj) : LO B (w.alloc o) v l := ⟨h.1.alloc o, h.2.1, by have := h.2.2; simp; omega⟩
theorem LO.nil (w : World) : LO w.heap.size w (.slice none 0 0) [] := ⟨World.ownsRow_nil _ _ _ _, (fun x hx => by cases hx), Nat.le_refl _⟩
theorem LO.nil' {B : Nat} {w : World} (hB : B ≤ w.heap.size) : LO B w (.slice none 0 0) [] := ⟨World.ownsRow_nil _ _ _ _, (fun x hx => by cases hx), hB⟩
theorem LO.below {B : Nat} {w w' : World} {v : Value} {l : List Lf} (h : LO B w v l) (hb : Below w.heap.size w w') : LO B w' v l := ⟨own_keep h.1 hb, h.2.1, Nat.le_trans h.2.2 hb.size⟩
theorem lcs_app (l m : List Lf) : lcs (l ++ m) = lcs l ++ lcs m := by simp [lcs]
/-- Nodes behind nodes of the call's own. -/
theorem app_lown {B : Nat} {w : World} {v u : Value} {l m : List Lf} (h : LO B w v l) (hkm : ∀ x ∈ m, x.Ok) (hu : LS w u m) (hlen : l.length + m.length ≤ 3000000000000) :
    ∃ v' w', (Builtin.append_ #[22, 22] 22 #[v, u]).run Tryd.prog w = .ok v' w' ∧ LO B w' v' (l ++ m) ∧ Below B w w' ∧ w.grownBy w' v.ownBlock := by
  obtain ⟨i, z, hi, hz, hs, hb, hzs⟩ := info_lf
  obtain ⟨ho, hkl, hB⟩ := h
  have hkk : ∀ x ∈ l ++ m, x.Ok := fun x hx => by
    rcases List.mem_append.1 hx with q | q
    · exact hkl x q
    · exact hkm x q
  have hbytes : ((l.length + m.length) + (l.length + m.length) / 4 + 192) * 64 ≤ 281474976710656 := Nat.le_trans (Nat.mul_le_mul_right 64 (show (l.length + m.length) + (l.length + m.length) / 4 + 192 ≤ 3750000000192 by omega)) (by decide)
  have fin : ∀ w', w.grownBy w' v.ownBlock → Below B w w' := fun w' g => (Below.refl B w).grown g hB (fun k e => (ho.lt k e).1)
  obtain ⟨ad, cap, rfl, hc, ⟨rfl, hn⟩ | ⟨b, o, rfl, hlt, hm⟩⟩ := hu
  · cases ad with
    | none =>
      obtain rfl := hn rfl
      refine ⟨_, _, run_append_owned_none (P := Tryd.prog) w B _ _ _ i 64 Tryd.underlying22 hi _ _ _ ho, ?_, Below.refl _ _, ⟨rfl, rfl, rfl, Nat.le_refl _, fun _ _ _ => rfl⟩⟩
      rw [List.append_nil]; exact ⟨ho, hkl, hB⟩
    | some A =>
      obtain ⟨v', w', hr, h2, h3, -⟩ := run_append_own_wide (P := Tryd.prog) w B 22 22 27 i z 64 64 Tryd.underlying22 hi hz hs hb hzs (by decide) _ _ _ ho A 0 cap [] rfl (fun j u hu => by simp at hu) (fun _ h => by cases h) (by unfold maxLen; simp at hlen ⊢; omega) (by simpa using hbytes) hB
      rw [Nat.add_zero, List.append_nil] at h2
      refine ⟨v', w', hr, ?_, fin w' h3, h3⟩
      rw [List.append_nil]
      exact ⟨h2, hkl, Nat.le_trans hB h3.size⟩
  · obtain ⟨v', w', hr, h2, h3, -⟩ := run_append_own_wide (P := Tryd.prog) w B 22 22 27 i z 64 64 Tryd.underlying22 hi hz hs hb hzs (by decide) _ _ _ ho ⟨b, o, none⟩ m.length cap (lcs m) (lcs_length hkm) (fun j u hu => by rw [addr_add0]; exact lcs_at hkm hm j u hu) (lcs_one m) (by unfold maxLen; omega) hbytes hB
    refine ⟨v', w', hr, ⟨?_, hkk, Nat.le_trans hB h3.size⟩, fin w' h3, h3⟩
    rw [List.length_append, lcs_app]; exact h2
theorem zero_cells_lf : ∃ i, Tryd.prog.info? 27 = some i ∧ i.zero = some (.agg (lfc lfz).toArray) ∧ i.size = 64 := by
  have h1 : (Tryd.prog.info? 27).map (·.size) = some 64 := by kernel_rfl
  have h2 : (Tryd.prog.info? 27).bind (·.zero) = some (.agg (lfc lfz).toArray) := by kernel_rfl
  cases hq : Tryd.prog.info? 27 with
  | none => rw [hq] at h1; cases h1
  | some i => rw [hq] at h1 h2; exact ⟨i, rfl, h2, Option.some.inj h1⟩
theorem run_onel (w : World) {x : Lf} (hx : x.Ok) : (Instr.buildSlice 22 1 #[(0, .agg (lfc x).toArray)]).run Tryd.prog w = .ok (.slice (some ⟨w.heap.size, 0, none⟩) 1 1) (w.alloc (.cells (lfc x).toArray 27)) := by
  obtain ⟨i, hi, hz, hs⟩ := zero_cells_lf
  have h1 := lfc_length hx
  have hb : i.bytes = 64 := by
    obtain ⟨i', z', hi', -, -, hb, -⟩ := info_lf
    rw [hi] at hi'; cases hi'; exact hb
  refine run_buildSlice w 22 27 1 _ (lfc x).toArray i _ Tryd.underlying22 hi hz (by omega) (by omega) ?_
  have := _root_.Go.Great.fill_whole (s := i.size) (by omega) [.agg (lfc x).toArray] ((Array.range (1 * i.size)).map ((Value.agg (lfc lfz).toArray).cells[· % (Value.agg (lfc lfz).toArray).cells.size]!)) (by intro v hv; simp at hv; subst hv; simp [Value.cells, hs, h1]) (by simp)
  simpa [Value.cells] using this
theorem wpList_onel {ops : Array Oper} {rest : List Oper} {o : Oper} {a : Act} {w : World} {Q : Exit → Act → World → Prop} (hg : o.guard = none) (y : Operand) (ho : o.op = .buildSlice 22 1 #[(0, y)]) (x : Lf) (hx : x.Ok) (hy : a.eval y = .agg (lfc x).toArray)
    (h : wpList Tryd.prog ops Q rest (a.put o.dst (.slice (some ⟨w.heap.size, 0, none⟩) 1 1)) (w.alloc (.cells (lfc x).toArray 27))) : wpList Tryd.prog ops Q (o :: rest) a w := by
  refine wpList_plain hg fun K hK => ?_
  have hr := run_onel w hx
  unfold Oper.wp
  simp only [execOp, ho, List.map_toArray, List.map_cons, List.map_nil, hy, Sem.run_bind, hr, Result.andThen_ok, Sem.run_pure]
  exact hK _ _ h
theorem ls_one (w : World) (x : Lf) (t : TypeId) : LS (w.alloc (.cells (lfc x).toArray t)) (.slice (some ⟨w.heap.size, 0, none⟩) 1 1) [x] :=
  ⟨_, 1, rfl, Nat.le_refl _, .inr ⟨w.heap.size, 0, rfl, by simp, fun i z hi => by
    cases i with
    | zero => simp at hi; subst hi; exact range_alloc w (lfc x) t (0, 0)
    | succ i => simp at hi⟩⟩
/-- append of nodes onto a row of the call's own, within a walk. -/
theorem wp_appl {ops : Array Oper} {rest : List Oper} {o : Oper} {a : Act} {w : World} {Q : Exit → Act → World → Prop} (hgd : o.guard = none) (s x : Operand) (ho : o.op = .call { callee := .builtin .append, args := #[s, x], argTypes := #[22, 22] }) (hT : o.type = 22)
    (B : Nat) (v u : Value) (l m : List Lf) (hs : a.eval s = v) (hx : a.eval x = u) (h0 : LO B w v l) (hkm : ∀ x ∈ m, x.Ok) (hu : LS w u m) (hlen : l.length + m.length ≤ 3000000000000)
    (h : ∀ v' w', LO B w' v' (l ++ m) → Below B w w' → wpList Tryd.prog ops Q rest (a.put o.dst v') w') : wpList Tryd.prog ops Q (o :: rest) a w := by
  obtain ⟨v', w', hr, h1, h2, -⟩ := app_lown h0 hkm hu hlen
  exact wp_app_run hgd s x 22 ho 22 hT v u v' w' hs hx hr (h v' w' h1 h2)
theorem wp_applg {ops : Array Oper} {rest : List Oper} {o : Oper} {a : Act} {w : World} {Q : Exit → Act → World → Prop} (hgd : o.guard = none) (s x : Operand) (ho : o.op = .call { callee := .builtin .append, args := #[s, x], argTypes := #[22, 22] }) (hT : o.type = 22)
    (B : Nat) (v u : Value) (l m : List Lf) (hs : a.eval s = v) (hx : a.eval x = u) (h0 : LO B w v l) (hkm : ∀ x ∈ m, x.Ok) (hu : LS w u m) (hlen : l.length + m.length ≤ 3000000000000)
    (h : ∀ v' w', LO B w' v' (l ++ m) → Below B w w' → w.grownBy w' v.ownBlock → wpList Tryd.prog ops Q rest (a.put o.dst v') w') : wpList Tryd.prog ops Q (o :: rest) a w := by
  obtain ⟨v', w', hr, h1, h2, h3⟩ := app_lown h0 hkm hu hlen
  exact wp_app_run hgd s x 22 ho 22 hT v u v' w' hs hx hr (h v' w' h1 h2 h3)
theorem lcs_take {l : List Lf} (hk : ∀ x ∈ l, x.Ok) (i : Nat) (hi : i ≤ l.length) : (lcs l).take (i * 64) = lcs (l.take i) := by
  have e : lcs l = lcs (l.take i) ++ lcs (l.drop i) := by rw [← lcs_app, List.take_append_drop]
  have hl : (lcs (l.take i)).length = i * 64 := by rw [lcs_length (fun x hx => hk x (List.mem_of_mem_take hx)), List.length_take]; congr 1; omega
  rw [e, ← hl, List.take_left]
theorem lcs_drop {l : List Lf} (hk : ∀ x ∈ l, x.Ok) (i : Nat) (hi : i ≤ l.length) : (lcs l).drop (i * 64) = lcs (l.drop i) := by
  have e : lcs l = lcs (l.take i) ++ lcs (l.drop i) := by rw [← lcs_app, List.take_append_drop]
  have hl : (lcs (l.take i)).length = i * 64 := by rw [lcs_length (fun x hx => hk x (List.mem_of_mem_take hx)), List.length_take]; congr 1; omega
  rw [e, ← hl, List.drop_left]
/-- Nodes of the call's own, some written over. -/
theorem LO.set {B : Nat} {w : World} {g n cap : Nat} {l : List Lf} (h : LO B w (.slice (some ⟨g, 0, none⟩) n cap) l) {m : List Lf} (hm : ∀ x ∈ m, x.Ok) {i : Nat} (hi : i + m.length ≤ l.length) :
    LO B (w.setCells g (i * 64) (lcs m)) (.slice (some ⟨g, 0, none⟩) n cap) (l.take i ++ m ++ l.drop (i + m.length)) := by
  obtain ⟨ho, hk, hB⟩ := h
  have hk' : ∀ x ∈ l.take i ++ m ++ l.drop (i + m.length), x.Ok := fun x hx => by
    simp only [List.mem_append] at hx
    rcases hx with (hx | hx) | hx
    · exact hk x (List.mem_of_mem_take hx)
    · exact hm x hx
    · exact hk x (List.mem_of_mem_drop hx)
  have hlen : (l.take i ++ m ++ l.drop (i + m.length)).length = l.length := by simp only [List.length_append, List.length_take, List.length_drop]; omega
  have hml := lcs_length hm
  refine ⟨?_, hk', by rw [size_setC]; exact hB⟩
  obtain ⟨h1, ⟨he, _⟩ | ⟨g', cap', cur, he, hBg, hg, hnc, hcm, hcs, htk⟩⟩ := ho
  · cases he
  · simp only [Value.slice.injEq, Option.some.injEq, Addr.mk.injEq, and_true] at he
    obtain ⟨rfl, rfl, rfl⟩ := he
    have hsz : l.length * 64 ≤ cur.size := by rw [hcs]; exact Nat.mul_le_mul_right 64 hnc
    have hfit : i * 64 + (lcs m).length ≤ l.length * 64 := by rw [hml, ← Nat.add_mul]; exact Nat.mul_le_mul_right 64 hi
    rw [hlen]
    refine ⟨by rw [lcs_length hk', hlen], .inr ⟨g, cap, _, rfl, hBg, heap_setC g _ _ w cur _ _ hg, hnc, hcm, by rw [setL_size]; exact hcs, ?_⟩⟩
    rw [setL_list _ _ _ (by omega)]
    have hct : cur.toList.take (i * 64) = lcs (l.take i) := by
      rw [← lcs_take hk i (by omega), ← htk, List.take_take, Nat.min_eq_left (Nat.mul_le_mul_right 64 (by omega))]
    have hcl : cur.toList.length = cur.size := Array.length_toList
    rw [hct, lcs_app, lcs_app, hml, ← Nat.add_mul]
    have hp : (lcs (l.take i) ++ lcs m).length = (i + m.length) * 64 := by
      rw [List.length_append, hml, lcs_length (fun x hx => hk x (List.mem_of_mem_take hx)), List.length_take, Nat.add_mul]; congr 2; omega
    rw [List.take_append, hp, List.take_of_length_le (by rw [hp]; exact Nat.mul_le_mul_right 64 hi)]
    congr 1
    rw [← lcs_drop hk (i + m.length) hi, ← htk, List.drop_take]
theorem LO.there {B : Nat} {w : World} {g n cap : Nat} {l : List Lf} (h : LO B w (.slice (some ⟨g, 0, none⟩) n cap) l) {i : Nat} (hi : i < l.length) : w.there g (i * 64) 64 := by
  obtain ⟨h1, ⟨he, _⟩ | ⟨g', cap', cur, he, hBg, hg, hnc, hcm, hcs, htk⟩⟩ := h.1
  · cases he
  · simp only [Value.slice.injEq, Option.some.injEq, Addr.mk.injEq, and_true] at he
    obtain ⟨rfl, h2, rfl⟩ := he
    refine there_of_row' hg _ _ ?_
    have : (i + 1) * 64 ≤ cap * 64 := Nat.mul_le_mul_right 64 (by omega)
    omega
theorem LO.sl {B : Nat} {w : World} {v : Value} {l : List Lf} (h : LO B w v l) (hne : l ≠ []) : ∃ g cap, v = .slice (some ⟨g, 0, none⟩) l.length cap ∧ l.length ≤ cap := by
  obtain ⟨h1, ⟨he, h0⟩ | ⟨g', cap', cur, he, hBg, hg, hnc, hcm, hcs, htk⟩⟩ := h.1
  · exact absurd (List.length_eq_zero_iff.1 h0) hne
  · exact ⟨g', cap', he, hnc⟩
end Go.Proofs.YtpojalbpekbfdabDoor
