/- Rows of 32 bytes each, of a call's own. -/
import Derived.Test.YtpojalbpekbfdaaDoorTroA
import Derived.Test.YtpojalbpekbfdaaDoorTrrL
import Derived.Test.YtpojalbpekbfdaaDoorTrlA
import Derived.Test.YtpojalbpekbfdaaDoorGrnE
namespace Go.Proofs.YtpojalbpekbfdaaDoor
open Go Go.RowKit
set_option linter.unusedSimpArgs false
set_option linter.unusedVariables false
set_option maxRecDepth 100000

theorem l32_cells {x : List Int} (h : L32 x) : (bv x).length = 32 := by rw [bv_length, h.len]
theorem ys_none (w : World) (ad : Option Addr) (cap : Nat) (h : ad = none → cap = 0) : YS w (.slice ad 0 cap) [] := ⟨ad, cap, rfl, Nat.zero_le _, .inl ⟨rfl, h⟩⟩
/-- All cells of nodes. -/
def ycs (l : List (List Int)) : List Value := l.flatMap bv
theorem ycs_length : ∀ {l : List (List Int)}, (∀ x ∈ l, L32 x) → (ycs l).length = l.length * 32
  | [], _ => rfl
  | a :: r, h => by
    have ih := ycs_length (l := r) (fun x hx => h x (List.mem_cons_of_mem _ hx))
    show (bv a ++ ycs r).length = _
    rw [List.length_append, ih, l32_cells (h a List.mem_cons_self), List.length_cons]
    omega
theorem ycs_one (l : List (List Int)) : ∀ u ∈ ycs l, u.oneCell' = true := by
  intro u hu
  obtain ⟨x, hx, hu⟩ := List.mem_flatMap.1 hu
  have h := bv_one' x
  rw [Array.all_eq_true] at h
  obtain ⟨i, hi, rfl⟩ := List.getElem_of_mem hu
  have := h i (by simpa using hi)
  simpa using this
/-- A cell of all cells is a cell of a node. -/
theorem ycs_get : ∀ {l : List (List Int)}, (∀ x ∈ l, L32 x) → ∀ (i j : Nat) (x : (List Int)), l[i]? = some x → j < 32 → (ycs l)[i * 32 + j]? = (bv x)[j]?
  | [], _, i, j, x, h, _ => by simp at h
  | a :: r, hk, i, j, x, h, hj => by
    show (bv a ++ ycs r)[i * 32 + j]? = _
    have ha := l32_cells (hk a List.mem_cons_self)
    cases i with
    | zero =>
      simp at h; subst h
      rw [Nat.zero_mul, Nat.zero_add, List.getElem?_append_left (by omega)]
    | succ i =>
      rw [List.getElem?_append_right (by omega), ha, show (i + 1) * 32 + j - 32 = i * 32 + j by omega]
      exact ycs_get (fun x hx => hk x (List.mem_cons_of_mem _ hx)) i j x (by simpa using h) hj
theorem ycs_at {w : World} {b o : Nat} {l : List (List Int)} (hk : ∀ x ∈ l, L32 x) (hm : ∀ (i : Nat) (x : (List Int)), l[i]? = some x → w.rangeAt b (o + i * 32) (bv x)) : ∀ j u, (ycs l)[j]? = some u → w.cell? ⟨b, o + j, none⟩ = some u := by
  intro j u hu
  have hj := (List.getElem?_eq_some_iff.1 hu).1
  rw [ycs_length hk] at hj
  have hi : j / 32 < l.length := by omega
  have e := ycs_get hk (j / 32) (j % 32) l[j / 32] (List.getElem?_eq_getElem hi) (by omega)
  have hd : j / 32 * 32 + j % 32 = j := by omega
  rw [hd, hu] at e
  have := hm (j / 32) _ (List.getElem?_eq_getElem hi) (j % 32) u e.symm
  rwa [show o + j / 32 * 32 + j % 32 = o + j by omega] at this
theorem info_32 : ∃ i z, Tryd.prog.info? 31 = some i ∧ i.zero = some z ∧ i.size = 32 ∧ i.bytes = 32 ∧ z.cells.size = 32 := by
  have h1 : (Tryd.prog.info? 31).map (·.size) = some 32 := by kernel_rfl
  have h2 : (Tryd.prog.info? 31).map (·.bytes) = some 32 := by kernel_rfl
  have h3 : (Tryd.prog.info? 31).bind (fun i => i.zero.map (·.cells.size)) = some 32 := by kernel_rfl
  cases hq : Tryd.prog.info? 31 with
  | none => rw [hq] at h1; cases h1
  | some i =>
    rw [hq] at h1 h2 h3
    cases hz : i.zero with
    | none => simp [hz] at h3
    | some z => exact ⟨i, z, rfl, hz, Option.some.inj h1, Option.some.inj h2, by simpa [hz] using h3⟩
/-- Nodes in a row of one's own. -/
theorem ys_row {w : World} {v : Value} {l : List (List Int)} (hk : ∀ x ∈ l, L32 x) {B : Nat} (h : w.ownsRow B 31 32 v l.length (ycs l)) : YS w v l := by
  have h' := h
  obtain ⟨h1, ⟨rfl, h2⟩ | ⟨g, cap, cur, rfl, -, hg, hnc, -, hcs, -⟩⟩ := h
  · have : l = [] := List.length_eq_zero_iff.1 h2
    subst this
    exact ⟨none, 0, rfl, Nat.le_refl _, .inl ⟨rfl, fun _ => rfl⟩⟩
  · refine ⟨_, cap, rfl, hnc, .inr ⟨g, 0, rfl, (Array.getElem?_eq_some_iff.1 hg).1, ?_⟩⟩
    intro i x hi j u hu
    have hx : x ∈ l := List.mem_of_getElem? hi
    have hj := (List.getElem?_eq_some_iff.1 hu).1
    rw [l32_cells (hk x hx)] at hj
    have := h'.cells (g := g) rfl (i * 32 + j) u (by rw [ycs_get hk i j x hi hj]; exact hu)
    rw [addr_add0] at this
    rwa [show 0 + i * 32 + j = 0 + (i * 32 + j) by omega]
theorem lit_noy (w : World) : (Instr.buildSlice 54 0 #[]).run Tryd.prog w = .ok (.slice (some ⟨w.heap.size, 0, none⟩) 0 0) (w.alloc (.cells #[] 31)) := by kernel_rfl
/-- Nodes behind none. -/
theorem app_ys (w : World) (l : List (List Int)) (hk : ∀ x ∈ l, L32 x) (hlen : l.length ≤ 4400000000000) (u : Value) (hu : YS w u l) :
    ∃ v' w', (Builtin.append_ #[54, 54] 54 #[.slice (some ⟨w.heap.size, 0, none⟩) 0 0, u]).run Tryd.prog (w.alloc (.cells #[] 31)) = .ok v' w' ∧ YS w' v' l ∧ Below w.heap.size w w' := by
  obtain ⟨i, z, hi, hz, hs, hb, hzs⟩ := info_32
  obtain ⟨W, hW⟩ : ∃ W, w.alloc (.cells #[] 31) = W := ⟨_, rfl⟩
  have hB : Below w.heap.size w W := by rw [← hW]; exact (Below.refl _ w).alloc (Nat.le_refl _) _
  have hh : W.heap[w.heap.size]? = some (.cells #[] 31 (0, 0)) := by rw [← hW]; show (w.heap.push _)[w.heap.size]? = _; simp
  have hS : w.heap.size < W.heap.size := (Array.getElem?_eq_some_iff.1 hh).1
  have hu2 : YS W u l := hu.below hB
  rw [hW]
  have ho : W.ownsRow w.heap.size 31 32 (.slice (some ⟨w.heap.size, 0, none⟩) 0 0) 0 [] := ⟨rfl, .inr ⟨w.heap.size, 0, _, rfl, Nat.le_refl _, hh, Nat.le_refl _, by unfold maxLen; omega, rfl, rfl⟩⟩
  have hbytes : ((0 + l.length) + (0 + l.length) / 4 + 192) * 32 ≤ 281474976710656 := Nat.le_trans (Nat.mul_le_mul_right 32 (show (0 + l.length) + (0 + l.length) / 4 + 192 ≤ 5500000000192 by omega)) (by decide)
  have fin : ∀ w', W.grownBy w' ((.slice (some ⟨w.heap.size, 0, none⟩) 0 0 : Value).ownBlock) → Below w.heap.size w w' := fun w' g => hB.grown g (Nat.le_of_lt hS) (fun b e => by cases e; exact Nat.le_refl _)
  obtain ⟨ad, cap, rfl, hc, ⟨rfl, hn⟩ | ⟨b, o, rfl, hlt, hm⟩⟩ := hu2
  · cases ad with
    | none =>
      obtain rfl := hn rfl
      exact ⟨_, _, run_append_owned_none (P := Tryd.prog) W w.heap.size _ _ _ i 32 Tryd.underlying54 hi _ 0 [] ho, ys_none _ _ _ (fun h => by cases h), hB⟩
    | some A =>
      obtain ⟨v', w', hr, h2, h3, -⟩ := run_append_own_wide (P := Tryd.prog) W w.heap.size 54 54 31 i z 32 32 Tryd.underlying54 hi hz hs hb hzs (by decide) _ 0 [] ho A 0 cap [] rfl (fun j u hu => by simp at hu) (fun _ h => by cases h) (by unfold maxLen; omega) (by decide) (Nat.le_of_lt hS)
      exact ⟨v', w', hr, ys_row (l := []) (fun x hx => by cases hx) h2, fin w' h3⟩
  · obtain ⟨v', w', hr, h2, h3, -⟩ := run_append_own_wide (P := Tryd.prog) W w.heap.size 54 54 31 i z 32 32 Tryd.underlying54 hi hz hs hb hzs (by decide) _ 0 [] ho ⟨b, o, none⟩ l.length cap (ycs l) (ycs_length hk) (fun j u hu => by rw [addr_add0]; exact ycs_at hk hm j u hu) (ycs_one l) (by unfold maxLen; omega) hbytes (Nat.le_of_lt hS)
    rw [Nat.zero_add, List.nil_append] at h2
    exact ⟨v', w', hr, ys_row hk h2, fin w' h3⟩
/-- Nodes in a row of the call's own, from the block B on. -/
def YO (B : Nat) (w : World) (v : Value) (l : List (List Int)) : Prop := w.ownsRow B 31 32 v l.length (ycs l) ∧ (∀ x ∈ l, L32 x) ∧ B ≤ w.heap.size
theorem YO.ys {B : Nat} {w : World} {v : Value} {l : List (List Int)} (h : YO B w v l) : YS w v l := ys_row h.2.1 h.1
theorem YO.alloc {B : Nat} {w : World} {v : Value} {l : List (List Int)} (h : YO B w v l) (o : Obj) : YO B (w.alloc o) v l := ⟨h.1.alloc o, h.2.1, by have := h.2.2; simp; omega⟩
theorem YO.nil (w : World) : YO w.heap.size w (.slice none 0 0) [] := ⟨World.ownsRow_nil _ _ _ _, (fun x hx => by cases hx), Nat.le_refl _⟩
theorem YO.nil' {B : Nat} {w : World} (hB : B ≤ w.heap.size) : YO B w (.slice none 0 0) [] := ⟨World.ownsRow_nil _ _ _ _, (fun x hx => by cases hx), hB⟩
theorem YO.below {B : Nat} {w w' : World} {v : Value} {l : List (List Int)} (h : YO B w v l) (hb : Below w.heap.size w w') : YO B w' v l := ⟨own_keep h.1 hb, h.2.1, Nat.le_trans h.2.2 hb.size⟩
theorem ycs_app (l m : List (List Int)) : ycs (l ++ m) = ycs l ++ ycs m := by simp [ycs]
/-- Nodes behind nodes of the call's own. -/
theorem app_yown {B : Nat} {w : World} {v u : Value} {l m : List (List Int)} (h : YO B w v l) (hkm : ∀ x ∈ m, L32 x) (hu : YS w u m) (hlen : l.length + m.length ≤ 4400000000000) :
    ∃ v' w', (Builtin.append_ #[54, 54] 54 #[v, u]).run Tryd.prog w = .ok v' w' ∧ YO B w' v' (l ++ m) ∧ Below B w w' ∧ w.grownBy w' v.ownBlock := by
  obtain ⟨i, z, hi, hz, hs, hb, hzs⟩ := info_32
  obtain ⟨ho, hkl, hB⟩ := h
  have hkk : ∀ x ∈ l ++ m, L32 x := fun x hx => by
    rcases List.mem_append.1 hx with q | q
    · exact hkl x q
    · exact hkm x q
  have hbytes : ((l.length + m.length) + (l.length + m.length) / 4 + 192) * 32 ≤ 281474976710656 := Nat.le_trans (Nat.mul_le_mul_right 32 (show (l.length + m.length) + (l.length + m.length) / 4 + 192 ≤ 5500000000192 by omega)) (by decide)
  have fin : ∀ w', w.grownBy w' v.ownBlock → Below B w w' := fun w' g => (Below.refl B w).grown g hB (fun k e => (ho.lt k e).1)
  obtain ⟨ad, cap, rfl, hc, ⟨rfl, hn⟩ | ⟨b, o, rfl, hlt, hm⟩⟩ := hu
  · cases ad with
    | none =>
      obtain rfl := hn rfl
      refine ⟨_, _, run_append_owned_none (P := Tryd.prog) w B _ _ _ i 32 Tryd.underlying54 hi _ _ _ ho, ?_, Below.refl _ _, ⟨rfl, rfl, rfl, Nat.le_refl _, fun _ _ _ => rfl⟩⟩
      rw [List.append_nil]; exact ⟨ho, hkl, hB⟩
    | some A =>
      obtain ⟨v', w', hr, h2, h3, -⟩ := run_append_own_wide (P := Tryd.prog) w B 54 54 31 i z 32 32 Tryd.underlying54 hi hz hs hb hzs (by decide) _ _ _ ho A 0 cap [] rfl (fun j u hu => by simp at hu) (fun _ h => by cases h) (by unfold maxLen; simp at hlen ⊢; omega) (by simpa using hbytes) hB
      rw [Nat.add_zero, List.append_nil] at h2
      refine ⟨v', w', hr, ?_, fin w' h3, h3⟩
      rw [List.append_nil]
      exact ⟨h2, hkl, Nat.le_trans hB h3.size⟩
  · obtain ⟨v', w', hr, h2, h3, -⟩ := run_append_own_wide (P := Tryd.prog) w B 54 54 31 i z 32 32 Tryd.underlying54 hi hz hs hb hzs (by decide) _ _ _ ho ⟨b, o, none⟩ m.length cap (ycs m) (ycs_length hkm) (fun j u hu => by rw [addr_add0]; exact ycs_at hkm hm j u hu) (ycs_one m) (by unfold maxLen; omega) hbytes hB
    refine ⟨v', w', hr, ⟨?_, hkk, Nat.le_trans hB h3.size⟩, fin w' h3, h3⟩
    rw [List.length_append, ycs_app]; exact h2
/-- append of nodes onto a row of the call's own, within a walk. -/
theorem wp_appy {ops : Array Oper} {rest : List Oper} {o : Oper} {a : Act} {w : World} {Q : Exit → Act → World → Prop} (hgd : o.guard = none) (s x : Operand) (ho : o.op = .call { callee := .builtin .append, args := #[s, x], argTypes := #[54, 54] }) (hT : o.type = 54)
    (B : Nat) (v u : Value) (l m : List (List Int)) (hs : a.eval s = v) (hx : a.eval x = u) (h0 : YO B w v l) (hkm : ∀ x ∈ m, L32 x) (hu : YS w u m) (hlen : l.length + m.length ≤ 4400000000000)
    (h : ∀ v' w', YO B w' v' (l ++ m) → Below B w w' → wpList Tryd.prog ops Q rest (a.put o.dst v') w') : wpList Tryd.prog ops Q (o :: rest) a w := by
  obtain ⟨v', w', hr, h1, h2, -⟩ := app_yown h0 hkm hu hlen
  exact wp_app_run hgd s x 54 ho 54 hT v u v' w' hs hx hr (h v' w' h1 h2)
theorem wp_appyg {ops : Array Oper} {rest : List Oper} {o : Oper} {a : Act} {w : World} {Q : Exit → Act → World → Prop} (hgd : o.guard = none) (s x : Operand) (ho : o.op = .call { callee := .builtin .append, args := #[s, x], argTypes := #[54, 54] }) (hT : o.type = 54)
    (B : Nat) (v u : Value) (l m : List (List Int)) (hs : a.eval s = v) (hx : a.eval x = u) (h0 : YO B w v l) (hkm : ∀ x ∈ m, L32 x) (hu : YS w u m) (hlen : l.length + m.length ≤ 4400000000000)
    (h : ∀ v' w', YO B w' v' (l ++ m) → Below B w w' → w.grownBy w' v.ownBlock → wpList Tryd.prog ops Q rest (a.put o.dst v') w') : wpList Tryd.prog ops Q (o :: rest) a w := by
  obtain ⟨v', w', hr, h1, h2, h3⟩ := app_yown h0 hkm hu hlen
  exact wp_app_run hgd s x 54 ho 54 hT v u v' w' hs hx hr (h v' w' h1 h2 h3)
end Go.Proofs.YtpojalbpekbfdaaDoor
/- Leaves turned about: copies of the call's own; the root does not hang on the order. -/
namespace Go.Proofs.YtpojalbpekbfdaaDoor
open Go Go.RowKit
set_option linter.unusedSimpArgs false
set_option linter.unusedVariables false
set_option maxRecDepth 100000

theorem ro_perm {ls ms : List Lf} (hp : ms.Perm ls) (hk : ∀ x ∈ ls, x.Ok) {R : List Int} {er : Int} (h : RO ls R er) : RO ms R er := by
  have hk2 : ∀ x ∈ ms, x.Ok := fun x hx => hk x (hp.mem_iff.1 hx)
  have hm : (ms.map ln).Perm (ls.map ln) := hp.map _
  rcases h with ⟨ho, rfl, rfl⟩ | ⟨ho, rfl, rfl⟩
  · obtain ⟨h1, h2⟩ := so_spec ho
    obtain ⟨o2, e2⟩ := so_uniq hk2 (h1.trans hm.symm) h2
    exact .inl ⟨o2, by rw [e2], rfl⟩
  · exact .inr ⟨fun ⟨s, q1, q2⟩ => ho ⟨s, q1.trans hm, q2⟩, rfl, rfl⟩
theorem lit_ownl (w : World) : LO w.heap.size (w.alloc (.cells #[] 46)) (.slice (some ⟨w.heap.size, 0, none⟩) 0 0) [] := by
  have hh : (w.alloc (.cells #[] 46)).heap[w.heap.size]? = some (.cells #[] 46 (0, 0)) := by show (w.heap.push _)[w.heap.size]? = _; simp
  exact ⟨⟨rfl, .inr ⟨w.heap.size, 0, _, rfl, Nat.le_refl _, hh, Nat.le_refl _, by unfold maxLen; omega, rfl, rfl⟩⟩, (fun x hx => by cases hx), by simp⟩
set_option maxHeartbeats 1000000 in
theorem copyLeaves_own (l : List Lf) (hk : ∀ x ∈ l, x.Ok) (hlen : l.length ≤ 3000000000000) (v : Value) (w : World) (hv : LS w v l) :
    Calls Tryd.prog 11 #[v] w fun e w' => ∃ v', e = .returned v' ∧ LO w.heap.size w' v' l ∧ Below w.heap.size w w' := by
  have hl := lit_nol w
  have hb0 : Below w.heap.size w (w.alloc (.cells #[] 46)) := (Below.refl _ w).alloc (Nat.le_refl _) _
  obtain ⟨v', w', hr, h1, h2, -⟩ := app_lown (lit_ownl w) hk (hv.below hb0) (by simpa using hlen)
  have H1 : Hid (LO w.heap.size w' v' l) := h1
  have H2 : Hid (Below w.heap.size w w') := hb0.trans h2
  obtain ⟨ad, cap, rfl, -, -⟩ := hv
  obtain ⟨n, hn⟩ : ∃ n, l.length = n := ⟨_, rfl⟩
  rw [hn] at hr ⊢
  have HR : Hid ((Builtin.append_ #[22, 22] 22 #[.slice (some ⟨w.heap.size, 0, none⟩) 0 0, .slice ad n cap]).run Tryd.prog (w.alloc (.cells #[] 46)) = .ok v' w') := hr
  clear hk hlen h1 h2 hn hr hb0
  go_enter Tryd.func11, Tryd.ntmps11
  go_wp2_with (at_builtin; refine wp_app_run rfl (.tmp 3) (.tmp 4) 22 rfl 22 rfl (.slice (some ⟨w.heap.size, 0, none⟩) 0 0) (.slice ad n cap) v' w' rfl rfl HR.out ?_)
  go_ret
  exact ⟨_, rfl, H1.out, H2.out⟩
/-- The first k of a list from behind, the others as they were. -/
def trn (ls : List Lf) (k : Nat) : List Lf := ls.reverse.take k ++ ls.drop k
theorem trn_len (ls : List Lf) {k : Nat} (hk : k ≤ ls.length) : (trn ls k).length = ls.length := by simp [trn]; omega
theorem trn_step {ls : List Lf} {k : Nat} (hk : k < ls.length) {x : Lf} (hx : ls[ls.length - 1 - k]? = some x) : (trn ls k).take k ++ [x] ++ (trn ls k).drop (k + [x].length) = trn ls (k + 1) := by
  have h1 : (ls.reverse.take k).length = k := by simp; omega
  have hr : ls.reverse[k]? = some x := by rw [List.getElem?_reverse (by omega)]; exact hx
  unfold trn
  rw [List.take_append_of_le_length (by omega), List.take_take, Nat.min_self]
  rw [List.drop_append, List.drop_of_length_le (by rw [h1]; omega), h1, List.nil_append, List.drop_drop]
  obtain ⟨q1, q2⟩ := List.getElem?_eq_some_iff.1 hr
  rw [List.take_succ_eq_append_getElem q1, q2]
  congr 2
  simp
theorem trn_all (ls : List Lf) : trn ls ls.length = ls.reverse := by unfold trn; rw [List.drop_length, List.append_nil, List.take_of_length_le (by simp)]
/-- Two of a list put in each other's place. -/
theorem swap_perm {l : List Lf} {k : Nat} {a b : Lf} (ha : l[0]? = some a) (hb : l[k]? = some b) : ((l.set 0 b).set k a).Perm l := by
  obtain ⟨h1, rfl⟩ := List.getElem?_eq_some_iff.1 ha
  obtain ⟨h2, rfl⟩ := List.getElem?_eq_some_iff.1 hb
  exact List.set_set_perm h1 h2
theorem set_take {l : List Lf} {i : Nat} (hi : i < l.length) (x : Lf) : l.take i ++ [x] ++ l.drop (i + [x].length) = l.set i x := by
  rw [List.set_eq_take_append_cons_drop, if_pos hi]; simp
end Go.Proofs.YtpojalbpekbfdaaDoor
/- The reference's Stays. -/
namespace Go.Proofs.YtpojalbpekbfdaaDoor
open Go Go.RowKit
set_option linter.unusedSimpArgs false
set_option linter.unusedVariables false
set_option maxRecDepth 100000

/-- Both readings of what stays are one. -/
theorem sty_wo {ls ms : List Lf} (hk : ∀ x ∈ ls ++ ms, x.Ok) (h : okl (ls ++ ms)) (g : Nat) (hg : (so ls).length ≤ g) : wo (fun n => (ms.map (·.p)).any (fun y => hl n y)) false g (so ls) = sty ls ms := by
  obtain ⟨o1, o2, o3⟩ := okl_left hk h
  have hk1 : ∀ x ∈ ls, x.Ok := fun x hx => hk x (List.mem_append_left _ hx)
  have hk2 : ∀ x ∈ ms, x.Ok := fun x hx => hk x (List.mem_append_right _ hx)
  have e : (fun n : Nd => (ms.map (·.p)).any (fun y => hl n y)) = anyH (so ms) := by
    funext n
    unfold anyH
    have hp := (so_spec o2).1
    rw [List.any_map]
    have : (so ms).any (fun z => hl n z.p) = (ms.map ln).any (fun z => hl n z.p) := by
      rw [Bool.eq_iff_iff, List.any_eq_true, List.any_eq_true]
      exact ⟨fun ⟨x, q1, q2⟩ => ⟨x, hp.mem_iff.1 q1, q2⟩, fun ⟨x, q1, q2⟩ => ⟨x, hp.mem_iff.2 q1, q2⟩⟩
    rw [this, List.any_map]; rfl
  rw [e]
  exact (st_wo 256 0 (so ls) (so ms) g rfl (so_apn hk1 o1) (so_apn hk2 o2) (fun x hx => (map_ok hk1 (so_spec o1).1 x hx).2.2) (fun x _ z _ => shr_zero _ _) (so_dis o1 o2 o3) hg).symm
def RSo (ls ms : List Lf) (v' : Value) (er : Int) (w' : World) : Prop := (okl (ls ++ ms) ∧ er = 0 ∧ NS w' v' (sty ls ms)) ∨ (¬ okl (ls ++ ms) ∧ er = 1 ∧ v' = .slice none 0 0)
theorem take_p {ms : List Lf} {k : Nat} {x : Lf} (hx : ms[k]? = some x) : (ms.take (k + 1)).map (·.p) = (ms.take k).map (·.p) ++ [x.p] := by
  rw [List.take_add_one, hx]; simp
set_option maxHeartbeats 4000000 in
theorem rStays_any (ls ms : List Lf) (hk : ∀ x ∈ ls ++ ms, x.Ok) (hlen : ls.length + ms.length ≤ 1400000000000) (v u : Value) (w : World) (hv : LS w v ls) (hu : LS w u ms) :
    Calls Tryd.prog 9 #[v, u] w fun e w' => ∃ v' er, e = .returned (.tuple #[v', .int .i64 er]) ∧ RSo ls ms v' er w' ∧ Below w.heap.size w w' := by
  have hk1 : ∀ x ∈ ls, x.Ok := fun x hx => hk x (List.mem_append_left _ hx)
  have hk2 : ∀ x ∈ ms, x.Ok := fun x hx => hk x (List.mem_append_right _ hx)
  have HK : Hid (∀ x ∈ ls ++ ms, x.Ok) := hk
  have HK1 : Hid (∀ x ∈ ls, x.Ok) := hk1
  have HK2 : Hid (∀ x ∈ ms, x.Ok) := hk2
  have VW : Hid (LS w v ls) := hv
  have VU : Hid (LS w u ms) := hu
  have HLN : Hid (ls.length + ms.length ≤ 1400000000000) := hlen
  have hb0 : Below w.heap.size w (w.alloc (.cells #[] 46)) := (Below.refl _ w).alloc (Nat.le_refl _) _
  obtain ⟨v1, w1, hr1, h1, h2, -⟩ := app_lown (lit_ownl w) hk1 (hv.below hb0) (by simp; omega)
  rw [List.nil_append] at h1
  have b1 : Below w.heap.size w w1 := hb0.trans h2
  obtain ⟨v2, w2, hr2, h3, h4, -⟩ := app_lown h1 hk2 (hu.below b1) (by omega)
  have N2 : Hid (LS w2 v2 (ls ++ ms)) := h3.ls
  have B2 : Hid (Below w.heap.size w w2) := b1.trans h4
  obtain ⟨ad, cap, hv0, hc0, hx0⟩ := id hv
  obtain ⟨au, cu, hu0, hcu0, hxu⟩ := id hu
  obtain ⟨n, hn⟩ : ∃ n, ls.length = n := ⟨_, rfl⟩
  obtain ⟨m, hm⟩ : ∃ n, ms.length = n := ⟨_, rfl⟩
  have HM : Hid (ms.length = m) := hm
  rw [hn] at hv0
  rw [hm] at hu0
  subst hv0
  subst hu0
  have HXU : Hid ((ms = [] ∧ (au = none → cu = 0)) ∨ ∃ b o, au = some ⟨b, o, none⟩ ∧ b < w.heap.size ∧ ∀ (i : Nat) (x : Lf), ms[i]? = some x → w.rangeAt b (o + i * 64) (lfc x)) := hxu
  have HR1 : Hid ((Builtin.append_ #[22, 22] 22 #[.slice (some ⟨w.heap.size, 0, none⟩) 0 0, .slice ad n cap]).run Tryd.prog (w.alloc (.cells #[] 46)) = .ok v1 w1) := hr1
  have HR2 : Hid ((Builtin.append_ #[22, 22] 22 #[v1, .slice au m cu]).run Tryd.prog w1 = .ok v2 w2) := hr2
  have hm9 : m ≤ 1400000000000 := by omega
  clear hk hk1 hk2 hlen hv hu hb0 hr1 h1 h2 b1 hr2 h3 h4 hc0 hx0 hcu0 hxu hn hm
  by_cases ho : okl (ls ++ ms)
  · have HO : Hid (okl (ls ++ ms)) := ho
    obtain ⟨o1, o2, o3⟩ := okl_left HK.out ho
    have HN1 : Hid (Calls Tryd.prog 24 #[v2] w2 fun e w' => ∃ v', e = .returned (.tuple #[v', .bool true]) ∧ NS w' v' (so (ls ++ ms)) ∧ Below w2.heap.size w2 w') := rNodes_yes (ls ++ ms) HK.out (by rw [List.length_append]; have := HLN.out; omega) ho v2 w2 N2.out
    have HN2 : Hid (∀ W : World, Below w.heap.size w W → Calls Tryd.prog 24 #[.slice ad n cap] W fun e w' => ∃ v', e = .returned (.tuple #[v', .bool true]) ∧ NS w' v' (so ls) ∧ Below W.heap.size W w') := fun W q => rNodes_yes ls HK1.out (by have := HLN.out; omega) o1 _ W (VW.out.below q)
    have HWO : Hid (∀ (nv yv : Value) (W : World), NS W nv (so ls) → YS W yv (ms.map (·.p)) → Calls Tryd.prog 25 #[nv, yv, .bool false] W fun e w' => ∃ v', e = .returned v' ∧ NS w' v' (sty ls ms) ∧ Below W.heap.size W w') := fun nv yv W q1 q2 => by
      have := rWithout_any (ms.map (·.p)) (fun y hy => by obtain ⟨x, hx, rfl⟩ := List.mem_map.1 hy; exact (HK2.out x hx).p) (by rw [List.length_map]; have := HLN.out; omega) false _ (so ls) (Nat.le_refl _) (so_rsn HK1.out o1) (by rw [so_len o1]; have := HLN.out; omega) nv yv W q1 q2
      rw [sty_wo HK.out ho _ (by omega)] at this
      exact this
    clear ho o1 o2 o3
    go_enter Tryd.func9, Tryd.ntmps9
    go_upto_region 2 with (first
      | (at_builtin; refine wp_app_run rfl (.tmp 13) (.tmp 14) 22 rfl 22 rfl _ _ v1 w1 rfl rfl HR1.out ?_)
      | (at_builtin; refine wp_app_run rfl (.tmp 15) (.tmp 16) 22 rfl 22 rfl _ _ v2 w2 rfl rfl HR2.out ?_)
      | (go_at_call 24; refine HN1.out.mono ?_; rintro e w3 ⟨v3, rfl, g1, g2⟩; have B3 : Hid (Below w.heap.size w w3) := Below.tr' B2.out g2; clear g1 g2))
    go_wp2_with (go_at_call 24; refine (HN2.out w3 B3.out).mono ?_; rintro e w4 ⟨v4, rfl, g1, g2⟩; have N4 : Hid (NS w4 v4 (so ls)) := g1; have B4 : Hid (Below w.heap.size w w4) := Below.tr' B3.out g2; clear g1 g2)
    go_loopw [10, 30] (fun yv i wr => ∃ k : Nat, k ≤ m ∧ i = .int .i64 (k : Int) ∧ YO w4.heap.size wr yv ((ms.take k).map (·.p)) ∧ Below w4.heap.size w4 wr) (fun _ i _ => m - (intOf i).toNat)
    case atStart => exact ⟨0, Nat.zero_le _, rfl, YO.nil' (Nat.le_refl _), Below.refl _ _⟩
    case round =>
      obtain ⟨k, hkm, rfl, q1, q2⟩ := hrel
      have O5 : Hid (YO w4.heap.size wr u10 ((ms.take k).map (·.p))) := q1
      have G5 : Hid (Below w4.heap.size w4 wr) := q2
      clear q1 q2
      by_cases hlt : k < m
      · have HLT : Hid (k < m) := hlt
        obtain ⟨x, hx⟩ : ∃ x, ms[k]? = some x := ⟨ms[k]'(by rw [HM.out]; exact hlt), List.getElem?_eq_getElem _⟩
        have HX : Hid x.Ok := HK2.out x (List.mem_of_getElem? hx)
        rcases HXU.out with ⟨h0, _⟩ | ⟨b, o, rfl, hlb, hmm⟩
        · rw [h0] at hx; simp at hx
        · have RX : Hid (wr.rangeAt b (o + k * 64) (bv x.p)) := lf_p (range_below (hmm k x hx) (Below.tr' B4.out G5.out) hlb)
          obtain ⟨px, hpx⟩ : ∃ p, x.p = p := ⟨_, rfl⟩
          have HP : Hid (L32 px) := by rw [← hpx]; exact HX.out.p
          have HTP : Hid ((ms.take (k + 1)).map (·.p) = (ms.take k).map (·.p) ++ [px]) := by rw [← hpx]; exact take_p hx
          rw [hpx] at RX
          have HSZ : Hid (((ms.take k).map (·.p)).length + [px].length ≤ 4400000000000) := by show _ ≤ _; rw [List.length_map, List.length_take]; simp only [List.length_cons, List.length_nil]; omega
          obtain ⟨Lk, hLk⟩ : ∃ L, (ms.take k).map (·.p) = L := ⟨_, rfl⟩
          rw [hLk] at O5 HTP HSZ
          clear hmm hlb hx hpx hLk
          go_wp2_with (first
            | (refine wpList_load_mid rfl 31 (.tmp 37) rfl b (o + k * 64) rfl (bv px) _ RX.out Tryd.underlying31 rfl (size_l32 HP.out) ?_)
            | (refine wpList_oney rfl (.tmp 38) rfl px HP.out rfl ?_)
            | (at_builtin; refine wp_appy rfl (.tmp 33) (.tmp 39) rfl rfl w4.heap.size u10 (.slice (some ⟨wr.heap.size, 0, none⟩) 1 1) Lk [px] rfl rfl (O5.out.alloc _) (fun z hz => by simp at hz; subst hz; exact HP.out) (ys_one wr px _) HSZ.out ?_; intro v6 w6 g1 g2; have O6 : Hid (YO w4.heap.size w6 v6 ((ms.take (k + 1)).map (·.p))) := (HTP.out.symm ▸ g1); have G6 : Hid (Below w4.heap.size w4 w6) := (G5.out.alloc G5.out.size _).trans g2; clear g1 g2))
          exact ⟨⟨k + 1, HLT.out, by go_num, O6.out, G6.out⟩, by have := HLT.out; simp [intOf]; omega⟩
      · obtain rfl : k = m := by omega
        have eT : ms.take k = ms := by rw [← HM.out]; exact List.take_length
        have Y5 : Hid (YS wr u10 (ms.map (·.p))) := by have := O5.out.ys; rw [eT] at this; exact this
        clear eT
        go_wp2_with (go_at_call 25; refine (HWO.out v4 u10 wr (N4.out.below G5.out) Y5.out).mono ?_; rintro e w7 ⟨v7, rfl, g1, g2⟩; have N7 : Hid (NS w7 v7 (sty ls ms)) := g1; have B7 : Hid (Below w.heap.size w w7) := Below.tr' B4.out (Below.tr' G5.out g2); clear g1 g2)
        go_ret2
        exact ⟨_, _, rfl, .inl ⟨HO.out, rfl, N7.out⟩, B7.out⟩
  · have HO : Hid (¬ okl (ls ++ ms)) := ho
    have HN1 : Hid (Calls Tryd.prog 24 #[v2] w2 fun e w' => e = .returned (.tuple #[.slice none 0 0, .bool false]) ∧ Below w2.heap.size w2 w') := rNodes_no (ls ++ ms) HK.out (by rw [List.length_append]; have := HLN.out; omega) ho v2 w2 N2.out
    clear ho
    go_enter Tryd.func9, Tryd.ntmps9
    go_wp2_with (first
      | (at_builtin; refine wp_app_run rfl (.tmp 13) (.tmp 14) 22 rfl 22 rfl _ _ v1 w1 rfl rfl HR1.out ?_)
      | (at_builtin; refine wp_app_run rfl (.tmp 15) (.tmp 16) 22 rfl 22 rfl _ _ v2 w2 rfl rfl HR2.out ?_)
      | (go_at_call 24; refine HN1.out.mono ?_; rintro e w3 ⟨rfl, g2⟩; have B3 : Hid (Below w.heap.size w w3) := Below.tr' B2.out g2; clear g2))
    go_ret2
    exact ⟨_, _, rfl, .inr ⟨HO.out, rfl, rfl⟩, B3.out⟩
end Go.Proofs.YtpojalbpekbfdaaDoor
