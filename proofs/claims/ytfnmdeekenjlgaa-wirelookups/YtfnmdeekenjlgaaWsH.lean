/- Rows of 32 bytes each, of a call's own. -/
import Derived.Test.YtfnmdeekenjlgaaWsG
namespace Go.Proofs.Ytfnmdeekenjlgaa
open Go Go.RowKit
set_option linter.unusedSimpArgs false
set_option linter.unusedVariables false
set_option maxRecDepth 100000

theorem own_keep {B : Nat} {e : TypeId} {s n : Nat} {xs : List Value} {w w' : World} {v : Value} (h : w.ownsRow B e s v n xs) (hb : Below w.heap.size w w') : w'.ownsRow B e s v n xs :=
  h.kept (row := none) ⟨hb.os, hb.tape, hb.output, hb.size, fun k hk _ => hb.block k hk⟩ (by
    cases hq : v.ownBlock with
    | none => exact .inl rfl
    | some b => exact .inr (by simp))
theorem wp_app_run {P : Program} {ops : Array Oper} {rest : List Oper} {o : Oper} {a : Act} {w : World} {Q : Exit → Act → World → Prop} (hgd : o.guard = none) (s x : Operand) (t : TypeId) (ho : o.op = .call { callee := .builtin .append, args := #[s, x], argTypes := #[t, t] })
    (T : TypeId) (hT : o.type = T) (v u v' : Value) (w' : World) (hs : a.eval s = v) (hx : a.eval x = u) (hr : (Builtin.append_ #[t, t] T #[v, u]).run P w = .ok v' w') (h : wpList P ops Q rest (a.put o.dst v') w') : wpList P ops Q (o :: rest) a w := by
  subst hT
  refine wpList_plain hgd fun K hK => ?_
  unfold Oper.wp execOp
  simp only [ho, resolve, invoke, builtin, Sem.run_bind, Sem.run_pure, Result.andThen_ok, List.map_toArray, List.map_cons, List.map_nil, hs, hx, hr]
  exact hK _ _ h
theorem l32_cells {x : List Int} (h : L32 x) : (bv x).length = 32 := by rw [bv_length, h.len]
theorem ys_none (w : World) (ad : Option Addr) (cap : Nat) (h : ad = none → cap = 0) : YS w (.slice ad 0 cap) [] := ⟨ad, cap, rfl, Nat.zero_le _, .inl ⟨rfl, h⟩⟩
/-- All cells of nodes. -/
def ycs (l : List (List Int)) : List Value := l.flatMap bv
theorem ycs_length : ∀ {l : List (List Int)}, (∀ x ∈ l, L32 x) → (ycs l).length = l.length * 32
  | [], _ => rfl
  | a :: r, h => by
    have ih := ycs_length (l := r) (fun x hx => h x (List.mem_cons_of_mem _ hx))
    show (bv a ++ ycs r).length = _
    rw [List.length_append, ih, l32_cells (h a List.mem_cons_self), List.length_cons]
    omega
theorem ycs_one (l : List (List Int)) : ∀ u ∈ ycs l, u.oneCell' = true := by
  intro u hu
  obtain ⟨x, hx, hu⟩ := List.mem_flatMap.1 hu
  have h := bv_one' x
  rw [Array.all_eq_true] at h
  obtain ⟨i, hi, rfl⟩ := List.getElem_of_mem hu
  have := h i (by simpa using hi)
  simpa using this
/-- A cell of all cells is a cell of a node. -/
theorem ycs_get : ∀ {l : List (List Int)}, (∀ x ∈ l, L32 x) → ∀ (i j : Nat) (x : (List Int)), l[i]? = some x → j < 32 → (ycs l)[i * 32 + j]? = (bv x)[j]?
  | [], _, i, j, x, h, _ => by simp at h
  | a :: r, hk, i, j, x, h, hj => by
    show (bv a ++ ycs r)[i * 32 + j]? = _
    have ha := l32_cells (hk a List.mem_cons_self)
    cases i with
    | zero =>
      simp at h; subst h
      rw [Nat.zero_mul, Nat.zero_add, List.getElem?_append_left (by omega)]
    | succ i =>
      rw [List.getElem?_append_right (by omega), ha, show (i + 1) * 32 + j - 32 = i * 32 + j by omega]
      exact ycs_get (fun x hx => hk x (List.mem_cons_of_mem _ hx)) i j x (by simpa using h) hj
theorem ycs_at {w : World} {b o : Nat} {l : List (List Int)} (hk : ∀ x ∈ l, L32 x) (hm : ∀ (i : Nat) (x : (List Int)), l[i]? = some x → w.rangeAt b (o + i * 32) (bv x)) : ∀ j u, (ycs l)[j]? = some u → w.cell? ⟨b, o + j, none⟩ = some u := by
  intro j u hu
  have hj := (List.getElem?_eq_some_iff.1 hu).1
  rw [ycs_length hk] at hj
  have hi : j / 32 < l.length := by omega
  have e := ycs_get hk (j / 32) (j % 32) l[j / 32] (List.getElem?_eq_getElem hi) (by omega)
  have hd : j / 32 * 32 + j % 32 = j := by omega
  rw [hd, hu] at e
  have := hm (j / 32) _ (List.getElem?_eq_getElem hi) (j % 32) u e.symm
  rwa [show o + j / 32 * 32 + j % 32 = o + j by omega] at this
theorem info_32 : ∃ i z, Try.prog.info? 23 = some i ∧ i.zero = some z ∧ i.size = 32 ∧ i.bytes = 32 ∧ z.cells.size = 32 := by
  have h1 : (Try.prog.info? 23).map (·.size) = some 32 := by kernel_rfl
  have h2 : (Try.prog.info? 23).map (·.bytes) = some 32 := by kernel_rfl
  have h3 : (Try.prog.info? 23).bind (fun i => i.zero.map (·.cells.size)) = some 32 := by kernel_rfl
  cases hq : Try.prog.info? 23 with
  | none => rw [hq] at h1; cases h1
  | some i =>
    rw [hq] at h1 h2 h3
    cases hz : i.zero with
    | none => simp [hz] at h3
    | some z => exact ⟨i, z, rfl, hz, Option.some.inj h1, Option.some.inj h2, by simpa [hz] using h3⟩
/-- Nodes in a row of one's own. -/
theorem ys_row {w : World} {v : Value} {l : List (List Int)} (hk : ∀ x ∈ l, L32 x) {B : Nat} (h : w.ownsRow B 23 32 v l.length (ycs l)) : YS w v l := by
  have h' := h
  obtain ⟨h1, ⟨rfl, h2⟩ | ⟨g, cap, cur, rfl, -, hg, hnc, -, hcs, -⟩⟩ := h
  · have : l = [] := List.length_eq_zero_iff.1 h2
    subst this
    exact ⟨none, 0, rfl, Nat.le_refl _, .inl ⟨rfl, fun _ => rfl⟩⟩
  · refine ⟨_, cap, rfl, hnc, .inr ⟨g, 0, rfl, (Array.getElem?_eq_some_iff.1 hg).1, ?_⟩⟩
    intro i x hi j u hu
    have hx : x ∈ l := List.mem_of_getElem? hi
    have hj := (List.getElem?_eq_some_iff.1 hu).1
    rw [l32_cells (hk x hx)] at hj
    have := h'.cells (g := g) rfl (i * 32 + j) u (by rw [ycs_get hk i j x hi hj]; exact hu)
    rw [addr_add0] at this
    rwa [show 0 + i * 32 + j = 0 + (i * 32 + j) by omega]
theorem lit_noy (w : World) : (Instr.buildSlice 27 0 #[]).run Try.prog w = .ok (.slice (some ⟨w.heap.size, 0, none⟩) 0 0) (w.alloc (.cells #[] 23)) := by kernel_rfl
/-- Nodes behind none. -/
theorem app_ys (w : World) (l : List (List Int)) (hk : ∀ x ∈ l, L32 x) (hlen : l.length ≤ 4400000000000) (u : Value) (hu : YS w u l) :
    ∃ v' w', (Builtin.append_ #[27, 27] 27 #[.slice (some ⟨w.heap.size, 0, none⟩) 0 0, u]).run Try.prog (w.alloc (.cells #[] 23)) = .ok v' w' ∧ YS w' v' l ∧ Below w.heap.size w w' := by
  obtain ⟨i, z, hi, hz, hs, hb, hzs⟩ := info_32
  obtain ⟨W, hW⟩ : ∃ W, w.alloc (.cells #[] 23) = W := ⟨_, rfl⟩
  have hB : Below w.heap.size w W := by rw [← hW]; exact (Below.refl _ w).alloc (Nat.le_refl _) _
  have hh : W.heap[w.heap.size]? = some (.cells #[] 23 (0, 0)) := by rw [← hW]; show (w.heap.push _)[w.heap.size]? = _; simp
  have hS : w.heap.size < W.heap.size := (Array.getElem?_eq_some_iff.1 hh).1
  have hu2 : YS W u l := hu.below hB
  rw [hW]
  have ho : W.ownsRow w.heap.size 23 32 (.slice (some ⟨w.heap.size, 0, none⟩) 0 0) 0 [] := ⟨rfl, .inr ⟨w.heap.size, 0, _, rfl, Nat.le_refl _, hh, Nat.le_refl _, by unfold maxLen; omega, rfl, rfl⟩⟩
  have hbytes : ((0 + l.length) + (0 + l.length) / 4 + 192) * 32 ≤ 281474976710656 := Nat.le_trans (Nat.mul_le_mul_right 32 (show (0 + l.length) + (0 + l.length) / 4 + 192 ≤ 5500000000192 by omega)) (by decide)
  have fin : ∀ w', W.grownBy w' ((.slice (some ⟨w.heap.size, 0, none⟩) 0 0 : Value).ownBlock) → Below w.heap.size w w' := fun w' g => hB.grown g (Nat.le_of_lt hS) (fun b e => by cases e; exact Nat.le_refl _)
  obtain ⟨ad, cap, rfl, hc, ⟨rfl, hn⟩ | ⟨b, o, rfl, hlt, hm⟩⟩ := hu2
  · cases ad with
    | none =>
      obtain rfl := hn rfl
      exact ⟨_, _, run_append_owned_none (P := Try.prog) W w.heap.size _ _ _ i 32 Try.underlying27 hi _ 0 [] ho, ys_none _ _ _ (fun h => by cases h), hB⟩
    | some A =>
      obtain ⟨v', w', hr, h2, h3, -⟩ := run_append_own_wide (P := Try.prog) W w.heap.size 27 27 23 i z 32 32 Try.underlying27 hi hz hs hb hzs (by decide) _ 0 [] ho A 0 cap [] rfl (fun j u hu => by simp at hu) (fun _ h => by cases h) (by unfold maxLen; omega) (by decide) (Nat.le_of_lt hS)
      exact ⟨v', w', hr, ys_row (l := []) (fun x hx => by cases hx) h2, fin w' h3⟩
  · obtain ⟨v', w', hr, h2, h3, -⟩ := run_append_own_wide (P := Try.prog) W w.heap.size 27 27 23 i z 32 32 Try.underlying27 hi hz hs hb hzs (by decide) _ 0 [] ho ⟨b, o, none⟩ l.length cap (ycs l) (ycs_length hk) (fun j u hu => by rw [addr_add0]; exact ycs_at hk hm j u hu) (ycs_one l) (by unfold maxLen; omega) hbytes (Nat.le_of_lt hS)
    rw [Nat.zero_add, List.nil_append] at h2
    exact ⟨v', w', hr, ys_row hk h2, fin w' h3⟩
/-- Nodes in a row of the call's own, from the block B on. -/
def YO (B : Nat) (w : World) (v : Value) (l : List (List Int)) : Prop := w.ownsRow B 23 32 v l.length (ycs l) ∧ (∀ x ∈ l, L32 x) ∧ B ≤ w.heap.size
theorem YO.ys {B : Nat} {w : World} {v : Value} {l : List (List Int)} (h : YO B w v l) : YS w v l := ys_row h.2.1 h.1
theorem YO.alloc {B : Nat} {w : World} {v : Value} {l : List (List Int)} (h : YO B w v l) (o : Obj) : YO B (w.alloc o) v l := ⟨h.1.alloc o, h.2.1, by have := h.2.2; simp; omega⟩
theorem YO.nil (w : World) : YO w.heap.size w (.slice none 0 0) [] := ⟨World.ownsRow_nil _ _ _ _, (fun x hx => by cases hx), Nat.le_refl _⟩
theorem YO.nil' {B : Nat} {w : World} (hB : B ≤ w.heap.size) : YO B w (.slice none 0 0) [] := ⟨World.ownsRow_nil _ _ _ _, (fun x hx => by cases hx), hB⟩
theorem YO.below {B : Nat} {w w' : World} {v : Value} {l : List (List Int)} (h : YO B w v l) (hb : Below w.heap.size w w') : YO B w' v l := ⟨own_keep h.1 hb, h.2.1, Nat.le_trans h.2.2 hb.size⟩
theorem ycs_app (l m : List (List Int)) : ycs (l ++ m) = ycs l ++ ycs m := by simp [ycs]
/-- Nodes behind nodes of the call's own. -/
theorem app_yown {B : Nat} {w : World} {v u : Value} {l m : List (List Int)} (h : YO B w v l) (hkm : ∀ x ∈ m, L32 x) (hu : YS w u m) (hlen : l.length + m.length ≤ 4400000000000) :
    ∃ v' w', (Builtin.append_ #[27, 27] 27 #[v, u]).run Try.prog w = .ok v' w' ∧ YO B w' v' (l ++ m) ∧ Below B w w' ∧ w.grownBy w' v.ownBlock := by
  obtain ⟨i, z, hi, hz, hs, hb, hzs⟩ := info_32
  obtain ⟨ho, hkl, hB⟩ := h
  have hkk : ∀ x ∈ l ++ m, L32 x := fun x hx => by
    rcases List.mem_append.1 hx with q | q
    · exact hkl x q
    · exact hkm x q
  have hbytes : ((l.length + m.length) + (l.length + m.length) / 4 + 192) * 32 ≤ 281474976710656 := Nat.le_trans (Nat.mul_le_mul_right 32 (show (l.length + m.length) + (l.length + m.length) / 4 + 192 ≤ 5500000000192 by omega)) (by decide)
  have fin : ∀ w', w.grownBy w' v.ownBlock → Below B w w' := fun w' g => (Below.refl B w).grown g hB (fun k e => (ho.lt k e).1)
  obtain ⟨ad, cap, rfl, hc, ⟨rfl, hn⟩ | ⟨b, o, rfl, hlt, hm⟩⟩ := hu
  · cases ad with
    | none =>
      obtain rfl := hn rfl
      refine ⟨_, _, run_append_owned_none (P := Try.prog) w B _ _ _ i 32 Try.underlying27 hi _ _ _ ho, ?_, Below.refl _ _, ⟨rfl, rfl, rfl, Nat.le_refl _, fun _ _ _ => rfl⟩⟩
      rw [List.append_nil]; exact ⟨ho, hkl, hB⟩
    | some A =>
      obtain ⟨v', w', hr, h2, h3, -⟩ := run_append_own_wide (P := Try.prog) w B 27 27 23 i z 32 32 Try.underlying27 hi hz hs hb hzs (by decide) _ _ _ ho A 0 cap [] rfl (fun j u hu => by simp at hu) (fun _ h => by cases h) (by unfold maxLen; simp at hlen ⊢; omega) (by simpa using hbytes) hB
      rw [Nat.add_zero, List.append_nil] at h2
      refine ⟨v', w', hr, ?_, fin w' h3, h3⟩
      rw [List.append_nil]
      exact ⟨h2, hkl, Nat.le_trans hB h3.size⟩
  · obtain ⟨v', w', hr, h2, h3, -⟩ := run_append_own_wide (P := Try.prog) w B 27 27 23 i z 32 32 Try.underlying27 hi hz hs hb hzs (by decide) _ _ _ ho ⟨b, o, none⟩ m.length cap (ycs m) (ycs_length hkm) (fun j u hu => by rw [addr_add0]; exact ycs_at hkm hm j u hu) (ycs_one m) (by unfold maxLen; omega) hbytes hB
    refine ⟨v', w', hr, ⟨?_, hkk, Nat.le_trans hB h3.size⟩, fin w' h3, h3⟩
    rw [List.length_append, ycs_app]; exact h2
/-- append of nodes onto a row of the call's own, within a walk. -/
theorem wp_appy {ops : Array Oper} {rest : List Oper} {o : Oper} {a : Act} {w : World} {Q : Exit → Act → World → Prop} (hgd : o.guard = none) (s x : Operand) (ho : o.op = .call { callee := .builtin .append, args := #[s, x], argTypes := #[27, 27] }) (hT : o.type = 27)
    (B : Nat) (v u : Value) (l m : List (List Int)) (hs : a.eval s = v) (hx : a.eval x = u) (h0 : YO B w v l) (hkm : ∀ x ∈ m, L32 x) (hu : YS w u m) (hlen : l.length + m.length ≤ 4400000000000)
    (h : ∀ v' w', YO B w' v' (l ++ m) → Below B w w' → wpList Try.prog ops Q rest (a.put o.dst v') w') : wpList Try.prog ops Q (o :: rest) a w := by
  obtain ⟨v', w', hr, h1, h2, -⟩ := app_yown h0 hkm hu hlen
  exact wp_app_run hgd s x 27 ho 27 hT v u v' w' hs hx hr (h v' w' h1 h2)
theorem wp_appyg {ops : Array Oper} {rest : List Oper} {o : Oper} {a : Act} {w : World} {Q : Exit → Act → World → Prop} (hgd : o.guard = none) (s x : Operand) (ho : o.op = .call { callee := .builtin .append, args := #[s, x], argTypes := #[27, 27] }) (hT : o.type = 27)
    (B : Nat) (v u : Value) (l m : List (List Int)) (hs : a.eval s = v) (hx : a.eval x = u) (h0 : YO B w v l) (hkm : ∀ x ∈ m, L32 x) (hu : YS w u m) (hlen : l.length + m.length ≤ 4400000000000)
    (h : ∀ v' w', YO B w' v' (l ++ m) → Below B w w' → w.grownBy w' v.ownBlock → wpList Try.prog ops Q rest (a.put o.dst v') w') : wpList Try.prog ops Q (o :: rest) a w := by
  obtain ⟨v', w', hr, h1, h2, h3⟩ := app_yown h0 hkm hu hlen
  exact wp_app_run hgd s x 27 ho 27 hT v u v' w' hs hx hr (h v' w' h1 h2 h3)
theorem zero_cells_32 : ∃ i, Try.prog.info? 23 = some i ∧ i.zero = some (.agg (bv z32).toArray) ∧ i.size = 32 ∧ i.bytes = 32 := by
  have h1 : (Try.prog.info? 23).map (·.size) = some 32 := by kernel_rfl
  have h2 : (Try.prog.info? 23).bind (·.zero) = some (.agg (bv z32).toArray) := by kernel_rfl
  have h3 : (Try.prog.info? 23).map (·.bytes) = some 32 := by kernel_rfl
  cases hq : Try.prog.info? 23 with
  | none => rw [hq] at h1; cases h1
  | some i => rw [hq] at h1 h2 h3; exact ⟨i, rfl, h2, Option.some.inj h1, Option.some.inj h3⟩
theorem run_oney (w : World) {x : List Int} (hx : L32 x) : (Instr.buildSlice 27 1 #[(0, .agg (bv x).toArray)]).run Try.prog w = .ok (.slice (some ⟨w.heap.size, 0, none⟩) 1 1) (w.alloc (.cells (bv x).toArray 23)) := by
  obtain ⟨i, hi, hz, hs, hb⟩ := zero_cells_32
  have h1 : (bv x).length = 32 := by rw [bv_length, hx.len]
  refine run_buildSlice w 27 23 1 _ (bv x).toArray i _ Try.underlying27 hi hz (by omega) (by omega) ?_
  have := _root_.Go.Great.fill_whole (s := i.size) (by omega) [.agg (bv x).toArray] ((Array.range (1 * i.size)).map ((Value.agg (bv z32).toArray).cells[· % (Value.agg (bv z32).toArray).cells.size]!)) (by intro v hv; simp at hv; subst hv; simp [Value.cells, hs, h1]) (by simp)
  simpa [Value.cells] using this
theorem wpList_oney {ops : Array Oper} {rest : List Oper} {o : Oper} {a : Act} {w : World} {Q : Exit → Act → World → Prop} (hg : o.guard = none) (y : Operand) (ho : o.op = .buildSlice 27 1 #[(0, y)]) (x : List Int) (hx : L32 x) (hy : a.eval y = .agg (bv x).toArray)
    (h : wpList Try.prog ops Q rest (a.put o.dst (.slice (some ⟨w.heap.size, 0, none⟩) 1 1)) (w.alloc (.cells (bv x).toArray 23))) : wpList Try.prog ops Q (o :: rest) a w := by
  refine wpList_plain hg fun K hK => ?_
  have hr := run_oney w hx
  unfold Oper.wp
  simp only [execOp, ho, List.map_toArray, List.map_cons, List.map_nil, hy, Sem.run_bind, hr, Result.andThen_ok, Sem.run_pure]
  exact hK _ _ h
theorem ys_one (w : World) (x : List Int) (t : TypeId) : YS (w.alloc (.cells (bv x).toArray t)) (.slice (some ⟨w.heap.size, 0, none⟩) 1 1) [x] :=
  ⟨_, 1, rfl, Nat.le_refl _, .inr ⟨w.heap.size, 0, rfl, by simp, fun i z hi => by
    cases i with
    | zero => simp at hi; subst hi; exact range_alloc w (bv x) t (0, 0)
    | succ i => simp at hi⟩⟩
end Go.Proofs.Ytfnmdeekenjlgaa
