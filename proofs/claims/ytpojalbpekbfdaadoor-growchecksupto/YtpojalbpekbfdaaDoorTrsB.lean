/- Rows of nodes of a call's own: made, appended to; leaves that come in. -/
import Derived.Test.YtpojalbpekbfdaaDoorTraB
import Derived.Great.BuildSlice
namespace Go.Proofs.YtpojalbpekbfdaaDoor
open Go Go.RowKit
set_option linter.unusedSimpArgs false
set_option linter.unusedVariables false
set_option maxRecDepth 100000

/-- Nodes in a row of the call's own, from the block B on. -/
def NO (B : Nat) (w : World) (v : Value) (l : List Nd) : Prop := w.ownsRow B 44 65 v l.length (ncs l) ∧ (∀ x ∈ l, x.Ok) ∧ B ≤ w.heap.size
theorem NO.ns {B : Nat} {w : World} {v : Value} {l : List Nd} (h : NO B w v l) : NS w v l := ns_row h.2.1 h.1
theorem NO.alloc {B : Nat} {w : World} {v : Value} {l : List Nd} (h : NO B w v l) (o : Obj) : NO B (w.alloc o) v l := ⟨h.1.alloc o, h.2.1, by have := h.2.2; simp; omega⟩
theorem NO.nil (w : World) : NO w.heap.size w (.slice none 0 0) [] := ⟨World.ownsRow_nil _ _ _ _, (fun x hx => by cases hx), Nat.le_refl _⟩
theorem NO.nil' {B : Nat} {w : World} (hB : B ≤ w.heap.size) : NO B w (.slice none 0 0) [] := ⟨World.ownsRow_nil _ _ _ _, (fun x hx => by cases hx), hB⟩
theorem own_keep {B : Nat} {e : TypeId} {s n : Nat} {xs : List Value} {w w' : World} {v : Value} (h : w.ownsRow B e s v n xs) (hb : Below w.heap.size w w') : w'.ownsRow B e s v n xs :=
  h.kept (row := none) ⟨hb.os, hb.tape, hb.output, hb.size, fun k hk _ => hb.block k hk⟩ (by
    cases hq : v.ownBlock with
    | none => exact .inl rfl
    | some b => exact .inr (by simp))
theorem NO.below {B : Nat} {w w' : World} {v : Value} {l : List Nd} (h : NO B w v l) (hb : Below w.heap.size w w') : NO B w' v l := ⟨own_keep h.1 hb, h.2.1, Nat.le_trans h.2.2 hb.size⟩
theorem ncs_app (l m : List Nd) : ncs (l ++ m) = ncs l ++ ncs m := by simp [ncs]
/-- Nodes behind nodes of the call's own. -/
theorem app_own {B : Nat} {w : World} {v u : Value} {l m : List Nd} (h : NO B w v l) (hkm : ∀ x ∈ m, x.Ok) (hu : NS w u m) (hlen : l.length + m.length ≤ 3000000000000) :
    ∃ v' w', (Builtin.append_ #[24, 24] 24 #[v, u]).run Tryd.prog w = .ok v' w' ∧ NO B w' v' (l ++ m) ∧ Below B w w' ∧ w.grownBy w' v.ownBlock := by
  obtain ⟨i, z, hi, hz, hs, hb, hzs⟩ := info_nd
  obtain ⟨ho, hkl, hB⟩ := h
  have hkk : ∀ x ∈ l ++ m, x.Ok := fun x hx => by
    rcases List.mem_append.1 hx with q | q
    · exact hkl x q
    · exact hkm x q
  have hbytes : ((l.length + m.length) + (l.length + m.length) / 4 + 192) * 72 ≤ 281474976710656 := Nat.le_trans (Nat.mul_le_mul_right 72 (show (l.length + m.length) + (l.length + m.length) / 4 + 192 ≤ 3750000000192 by omega)) (by decide)
  have fin : ∀ w', w.grownBy w' v.ownBlock → Below B w w' := fun w' g => (Below.refl B w).grown g hB (fun k e => (ho.lt k e).1)
  obtain ⟨ad, cap, rfl, hc, ⟨rfl, hn⟩ | ⟨b, o, rfl, hlt, hm⟩⟩ := hu
  · cases ad with
    | none =>
      obtain rfl := hn rfl
      refine ⟨_, _, run_append_owned_none (P := Tryd.prog) w B _ _ _ i 65 Tryd.underlying24 hi _ _ _ ho, ?_, Below.refl _ _, ⟨rfl, rfl, rfl, Nat.le_refl _, fun _ _ _ => rfl⟩⟩
      rw [List.append_nil]; exact ⟨ho, hkl, hB⟩
    | some A =>
      obtain ⟨v', w', hr, h2, h3, -⟩ := run_append_own_wide (P := Tryd.prog) w B 24 24 44 i z 65 72 Tryd.underlying24 hi hz hs hb hzs (by decide) _ _ _ ho A 0 cap [] rfl (fun j u hu => by simp at hu) (fun _ h => by cases h) (by unfold maxLen; simp at hlen ⊢; omega) (by simpa using hbytes) hB
      rw [Nat.add_zero, List.append_nil] at h2
      refine ⟨v', w', hr, ?_, fin w' h3, h3⟩
      rw [List.append_nil]
      exact ⟨h2, hkl, Nat.le_trans hB h3.size⟩
  · obtain ⟨v', w', hr, h2, h3, -⟩ := run_append_own_wide (P := Tryd.prog) w B 24 24 44 i z 65 72 Tryd.underlying24 hi hz hs hb hzs (by decide) _ _ _ ho ⟨b, o, none⟩ m.length cap (ncs m) (ncs_length hkm) (fun j u hu => by rw [addr_add0]; exact ncs_at hkm hm j u hu) (ncs_one m) (by unfold maxLen; omega) hbytes hB
    refine ⟨v', w', hr, ⟨?_, hkk, Nat.le_trans hB h3.size⟩, fin w' h3, h3⟩
    rw [List.length_append, ncs_app]; exact h2
theorem make_own (w : World) (n : Nat) (hn : n ≤ 3000000000000) :
    ∃ w', (Instr.makeSlice 24 (.int .i64 0) (.int .i64 (n : Int))).run Tryd.prog w = .ok (.slice (some ⟨w.heap.size, 0, none⟩) 0 n) w' ∧ NO w.heap.size w' (.slice (some ⟨w.heap.size, 0, none⟩) 0 n) [] ∧ Below w.heap.size w w' := by
  obtain ⟨i, z, hi, hz, hs, hb, hzs⟩ := info_nd
  obtain ⟨w', hr, h1, h2⟩ := run_make_own (P := Tryd.prog) w w.heap.size 24 44 i z 65 Tryd.underlying24 hi hz hs .i64 .i64 n (by rw [hb]; omega) (by unfold maxLen; omega) (Nat.le_refl _)
  exact ⟨w', hr, ⟨h1, (fun x hx => by cases hx), h2.size⟩, (Below.refl _ w).grown h2 (Nat.le_refl _) (fun k e => by cases e)⟩
theorem zero_cells_nd : ∃ i, Tryd.prog.info? 44 = some i ∧ i.zero = some (.agg (nc ndz).toArray) ∧ i.size = 65 := by
  have h1 : (Tryd.prog.info? 44).map (·.size) = some 65 := by kernel_rfl
  have h2 : (Tryd.prog.info? 44).bind (·.zero) = some (.agg (nc ndz).toArray) := by kernel_rfl
  cases hq : Tryd.prog.info? 44 with
  | none => rw [hq] at h1; cases h1
  | some i => rw [hq] at h1 h2; exact ⟨i, rfl, h2, Option.some.inj h1⟩
theorem run_onen (w : World) {x : Nd} (hx : x.Ok) : (Instr.buildSlice 24 1 #[(0, .agg (nc x).toArray)]).run Tryd.prog w = .ok (.slice (some ⟨w.heap.size, 0, none⟩) 1 1) (w.alloc (.cells (nc x).toArray 44)) := by
  obtain ⟨i, hi, hz, hs⟩ := zero_cells_nd
  have h1 := nc_length hx
  have hb : i.bytes = 72 := by
    obtain ⟨i', z', hi', -, -, hb, -⟩ := info_nd
    rw [hi] at hi'; cases hi'; exact hb
  refine run_buildSlice w 24 44 1 _ (nc x).toArray i _ Tryd.underlying24 hi hz (by omega) (by omega) ?_
  have := _root_.Go.Great.fill_whole (s := i.size) (by omega) [.agg (nc x).toArray] ((Array.range (1 * i.size)).map ((Value.agg (nc ndz).toArray).cells[· % (Value.agg (nc ndz).toArray).cells.size]!)) (by intro v hv; simp at hv; subst hv; simp [Value.cells, hs, h1]) (by simp)
  simpa [Value.cells] using this
theorem wpList_onen {ops : Array Oper} {rest : List Oper} {o : Oper} {a : Act} {w : World} {Q : Exit → Act → World → Prop} (hg : o.guard = none) (y : Operand) (ho : o.op = .buildSlice 24 1 #[(0, y)]) (x : Nd) (hx : x.Ok) (hy : a.eval y = .agg (nc x).toArray)
    (h : wpList Tryd.prog ops Q rest (a.put o.dst (.slice (some ⟨w.heap.size, 0, none⟩) 1 1)) (w.alloc (.cells (nc x).toArray 44))) : wpList Tryd.prog ops Q (o :: rest) a w := by
  refine wpList_plain hg fun K hK => ?_
  have hr := run_onen w hx
  unfold Oper.wp
  simp only [execOp, ho, List.map_toArray, List.map_cons, List.map_nil, hy, Sem.run_bind, hr, Result.andThen_ok, Sem.run_pure]
  exact hK _ _ h
theorem ns_one (w : World) (x : Nd) (t : TypeId) : NS (w.alloc (.cells (nc x).toArray t)) (.slice (some ⟨w.heap.size, 0, none⟩) 1 1) [x] :=
  ⟨_, 1, rfl, Nat.le_refl _, .inr ⟨w.heap.size, 0, rfl, by simp, fun i z hi => by
    cases i with
    | zero => simp at hi; subst hi; exact range_alloc w (nc x) t (0, 0)
    | succ i => simp at hi⟩⟩
/-- append of nodes onto a row of the call's own, within a walk. -/
theorem wp_appn {ops : Array Oper} {rest : List Oper} {o : Oper} {a : Act} {w : World} {Q : Exit → Act → World → Prop} (hgd : o.guard = none) (s x : Operand) (ho : o.op = .call { callee := .builtin .append, args := #[s, x], argTypes := #[24, 24] }) (hT : o.type = 24)
    (B : Nat) (v u : Value) (l m : List Nd) (hs : a.eval s = v) (hx : a.eval x = u) (h0 : NO B w v l) (hkm : ∀ x ∈ m, x.Ok) (hu : NS w u m) (hlen : l.length + m.length ≤ 3000000000000)
    (h : ∀ v' w', NO B w' v' (l ++ m) → Below B w w' → wpList Tryd.prog ops Q rest (a.put o.dst v') w') : wpList Tryd.prog ops Q (o :: rest) a w := by
  obtain ⟨v', w', hr, h1, h2, -⟩ := app_own h0 hkm hu hlen
  exact wp_app_run hgd s x 24 ho 24 hT v u v' w' hs hx hr (h v' w' h1 h2)
theorem wp_appg {ops : Array Oper} {rest : List Oper} {o : Oper} {a : Act} {w : World} {Q : Exit → Act → World → Prop} (hgd : o.guard = none) (s x : Operand) (ho : o.op = .call { callee := .builtin .append, args := #[s, x], argTypes := #[24, 24] }) (hT : o.type = 24)
    (B : Nat) (v u : Value) (l m : List Nd) (hs : a.eval s = v) (hx : a.eval x = u) (h0 : NO B w v l) (hkm : ∀ x ∈ m, x.Ok) (hu : NS w u m) (hlen : l.length + m.length ≤ 3000000000000)
    (h : ∀ v' w', NO B w' v' (l ++ m) → Below B w w' → w.grownBy w' v.ownBlock → wpList Tryd.prog ops Q rest (a.put o.dst v') w') : wpList Tryd.prog ops Q (o :: rest) a w := by
  obtain ⟨v', w', hr, h1, h2, h3⟩ := app_own h0 hkm hu hlen
  exact wp_app_run hgd s x 24 ho 24 hT v u v' w' hs hx hr (h v' w' h1 h2 h3)
/-- A leaf. -/
structure Lf where
  p : List Int
  q : List Int
structure Lf.Ok (x : Lf) : Prop where
  p : L32 x.p
  q : L32 x.q
def lfc (x : Lf) : List Value := lf x.p x.q
theorem lfc_length {x : Lf} (h : x.Ok) : (lfc x).length = 64 := lf_length h.p h.q
/-- A leaf's node. -/
def ln (x : Lf) : Nd := lnd x.p x.q
theorem ln_ok {x : Lf} (h : x.Ok) : (ln x).Ok := ⟨h.p, hs_l32 _⟩
theorem ln_gd {x : Lf} (h : x.Ok) : gd (ln x) = true := gd_iff.2 ⟨by show (0 : Int) ≤ 256; omega, by show (256 : Int) ≤ 256; omega, fb_full h.p⟩
/-- A slice that holds these leaves. -/
def LS (w : World) (v : Value) (l : List Lf) : Prop := ∃ ad cap, v = .slice ad l.length cap ∧ l.length ≤ cap ∧ ((l = [] ∧ (ad = none → cap = 0)) ∨ ∃ b o, ad = some ⟨b, o, none⟩ ∧ b < w.heap.size ∧ ∀ (i : Nat) (x : Lf), l[i]? = some x → w.rangeAt b (o + i * 64) (lfc x))
theorem LS.below {w w' : World} {v : Value} {l : List Lf} (h : LS w v l) (hb : Below w.heap.size w w') : LS w' v l := by
  obtain ⟨ad, cap, rfl, hc, h⟩ := h
  refine ⟨ad, cap, rfl, hc, ?_⟩
  rcases h with h | ⟨b, o, rfl, hlt, hm⟩
  · exact .inl h
  · exact .inr ⟨b, o, rfl, Nat.lt_of_lt_of_le hlt hb.size, fun i x hi => range_below (hm i x hi) hb hlt⟩
def lfz : Lf := ⟨z32, z32⟩
theorem lfz_ok : lfz.Ok := ⟨z32_l32, z32_l32⟩
theorem zero_lf (w : World) : (zeroValue 46).run Tryd.prog w = .ok (.agg (lfc lfz).toArray) w := by kernel_rfl
theorem size_lf' : (Tryd.prog.info? 46).map (·.size) = some 64 := by kernel_rfl
theorem size_lfc {x : Lf} (h : x.Ok) : (Tryd.prog.info? 46).map (·.size) = some (lfc x).length := by rw [lfc_length h]; exact size_lf'
theorem lfc_one (x : Lf) : (lfc x).toArray.all (·.oneCell') = true := all_oneCell_toArray (fun u hu => by
  unfold lfc lf at hu
  rcases List.mem_append.1 hu with hu | hu
  · exact bv_one _ u hu
  · exact bv_one _ u hu)
end Go.Proofs.YtpojalbpekbfdaaDoor
/- Plain mathematics: leaves' nodes in order. -/
namespace Go.Proofs.YtpojalbpekbfdaaDoor
open Go Go.RowKit
set_option linter.unusedSimpArgs false
set_option linter.unusedVariables false
set_option maxRecDepth 100000

/-- Leaves' nodes of which no two have one label, in order. -/
def okl (ls : List Lf) : Prop := ∃ s : List Nd, s.Perm (ls.map ln) ∧ apt s = true
open Classical in
noncomputable def so (ls : List Lf) : List Nd := if h : okl ls then Classical.choose h else []
theorem so_spec {ls : List Lf} (h : okl ls) : (so ls).Perm (ls.map ln) ∧ apt (so ls) = true := by
  unfold so; rw [dif_pos h]; exact Classical.choose_spec h
theorem map_ok {ls : List Lf} (hk : ∀ x ∈ ls, x.Ok) {s : List Nd} (h : s.Perm (ls.map ln)) : ∀ x ∈ s, x.Ok ∧ gd x = true ∧ x.n = 256 := fun x hx => by
  obtain ⟨y, hy, rfl⟩ := List.mem_map.1 (h.mem_iff.1 hx)
  exact ⟨ln_ok (hk y hy), ln_gd (hk y hy), rfl⟩
theorem leaf_apt : ∀ (s : List Nd), (∀ x ∈ s, x.Ok ∧ gd x = true ∧ x.n = 256) → s.Pairwise (fun a b => pf a.p 256 < pf b.p 256) → apt s = true
  | [], _, _ => rfl
  | [a], h, _ => (h a (by simp)).2.1
  | a :: b :: r, h, hp => by
    have hab := (List.pairwise_cons.1 hp).1 b (by simp)
    obtain ⟨ka, ga, na⟩ := h a (by simp)
    obtain ⟨kb, gb, nb⟩ := h b (by simp)
    have ih := leaf_apt (b :: r) (fun x hx => h x (List.mem_cons_of_mem _ hx)) (List.pairwise_cons.1 hp).2
    simp only [apt, ap2, Bool.and_eq_true]
    refine ⟨ga, ⟨(ltb_iff ka.p kb.p).2 hab, ?_⟩, ih⟩
    unfold hl
    rw [ga, Bool.true_and, na]
    have : ¬ (256 : Int).toNat ≤ cm a.p b.p 256 := fun q => by
      have := ((cm_ge (a := a.p) (b := b.p) (m := 256) (r := 256) (Nat.le_refl _)).1 q).pf
      omega
    rw [decide_eq_false this]; rfl
theorem rise_uniq {s t : List Nd} (h : s.Perm t) (hs : s.Pairwise (fun a b => pf a.p 256 < pf b.p 256)) (ht : t.Pairwise (fun a b => pf a.p 256 < pf b.p 256)) : s = t := by
  induction s generalizing t with
  | nil => exact (List.nil_perm.1 h).symm
  | cons a s ih =>
    cases t with
    | nil => exact absurd h.length_eq (by simp)
    | cons b t =>
      have h1 := (List.pairwise_cons.1 hs)
      have h2 := (List.pairwise_cons.1 ht)
      have e : a = b := by
        rcases List.mem_cons.1 (h.mem_iff.1 (List.mem_cons_self (a := a) (l := s))) with q | q
        · exact q
        · rcases List.mem_cons.1 (h.mem_iff.2 (List.mem_cons_self (a := b) (l := t))) with r | r
          · exact r.symm
          · have := h2.1 a q; have := h1.1 b r; omega
      subst e
      rw [ih ((List.perm_cons a).1 h) h1.2 h2.2]
theorem so_uniq {ls : List Lf} (hk : ∀ x ∈ ls, x.Ok) {s : List Nd} (h : s.Perm (ls.map ln)) (ha : apt s = true) : okl ls ∧ so ls = s := by
  have ho : okl ls := ⟨s, h, ha⟩
  obtain ⟨h1, h2⟩ := so_spec ho
  exact ⟨ho, rise_uniq (h1.trans h.symm) (apt_ris (fun x hx => (map_ok hk h1 x hx).1) h2).up (apt_ris (fun x hx => (map_ok hk h x hx).1) ha).up⟩
theorem so_rise {ls : List Lf} (hk : ∀ x ∈ ls, x.Ok) {s : List Nd} (h : s.Perm (ls.map ln)) (hs : s.Pairwise (fun a b => pf a.p 256 < pf b.p 256)) : okl ls ∧ so ls = s :=
  so_uniq hk h (leaf_apt s (map_ok hk h) hs)
theorem okl_ne {ls : List Lf} (hk : ∀ x ∈ ls, x.Ok) (h : okl ls) : ls.Pairwise (fun a b => pf a.p 256 ≠ pf b.p 256) := by
  obtain ⟨s, h1, h2⟩ := h
  have hr := (apt_ris (fun x hx => (map_ok hk h1 x hx).1) h2).up
  have hn : (s.map fun x => pf x.p 256).Nodup := List.pairwise_map.2 (hr.imp (fun q => by omega))
  have hn2 : ((ls.map ln).map fun x => pf x.p 256).Nodup := (h1.map _).nodup_iff.1 hn
  rw [List.map_map] at hn2
  exact List.pairwise_map.1 hn2
/-- Sorted, and apart just if no two have one label. -/
theorem sorted_apt {ls : List Lf} (hk : ∀ x ∈ ls, x.Ok) {s : List Nd} (h : s.Perm (ls.map ln)) (hs : s.Pairwise (fun a b => pf a.p 256 ≤ pf b.p 256)) (ho : okl ls) : apt s = true ∧ so ls = s := by
  have hn := okl_ne hk ho
  have hn2 : ((ls.map ln).map fun x => pf x.p 256).Nodup := by rw [List.map_map]; exact List.pairwise_map.2 hn
  have hn3 : (s.map fun x => pf x.p 256).Nodup := (h.map _).nodup_iff.2 hn2
  have hp := hs.and (List.pairwise_map.1 hn3)
  have hlt : s.Pairwise (fun a b => pf a.p 256 < pf b.p 256) := hp.imp (fun q => by have h1 := q.1; have h2 := q.2; omega)
  have ha := leaf_apt s (map_ok hk h) hlt
  exact ⟨ha, (so_uniq hk h ha).2⟩
theorem so_len {ls : List Lf} (h : okl ls) : (so ls).length = ls.length := by rw [(so_spec h).1.length_eq, List.length_map]
theorem so_ok {ls : List Lf} (hk : ∀ x ∈ ls, x.Ok) (h : okl ls) : ∀ x ∈ so ls, x.Ok := fun x hx => (map_ok hk (so_spec h).1 x hx).1
theorem so_rsn {ls : List Lf} (hk : ∀ x ∈ ls, x.Ok) (h : okl ls) : Rsn (so ls) := apt_rsn (so_ok hk h) (so_spec h).2
/-- A nought or more: how one row of bytes stands to another. -/
theorem cmp_swo {a b : List Int} (ha : L32 a) (hb : L32 b) : cmpI a b < 0 ↔ pf a 256 < pf b 256 := by
  rw [← ltb_iff ha hb]
  have := cmp_ltb a b (by rw [ha.len, hb.len]) ha.byt hb.byt
  cases h : ltb a b with
  | false => rw [h] at this; have := this.2 rfl; simp; omega
  | true => rw [h] at this; simp at this ⊢; omega
end Go.Proofs.YtpojalbpekbfdaaDoor
/- Package tree: leafNodes, where sorting is as it should be. -/
namespace Go.Proofs.YtpojalbpekbfdaaDoor
open Go Go.RowKit
set_option linter.unusedSimpArgs false
set_option linter.unusedVariables false
set_option maxRecDepth 100000

/-- What sorting nodes gives. -/
def SortC : Prop := ∀ (B : Nat) (w : World) (v : Value) (l : List Nd), NO B w v l → l.length ≤ 3000000000000 →
  Calls Tryd.prog 44 #[v, .func (.func 68) #[] #[]] w fun e w' => e = .returned (.tuple #[]) ∧ ∃ s, s.Perm l ∧ s.Pairwise (fun a b => pf a.p 256 ≤ pf b.p 256) ∧ NS w' v s ∧ Below B w w'
theorem take_ln {ls : List Lf} {k : Nat} {x : Lf} (hx : ls[k]? = some x) : (ls.take (k + 1)).map ln = (ls.take k).map ln ++ [ln x] := by
  obtain ⟨h, rfl⟩ := List.getElem?_eq_some_iff.1 hx
  rw [List.take_succ_eq_append_getElem h, List.map_append]; rfl
/-- What leafNodes gives. -/
def LNo (ls : List Lf) (v' : Value) (er : Int) (w' : World) : Prop := (okl ls ∧ er = 0 ∧ NS w' v' (so ls)) ∨ (¬ okl ls ∧ er = 1 ∧ v' = .slice none 0 0)
set_option maxHeartbeats 4000000 in
theorem leafNodes_core (HS : SortC) (ls : List Lf) (hk : ∀ x ∈ ls, x.Ok) (hlen : ls.length ≤ 2500000000000) (v : Value) (w : World) (hv : LS w v ls) (hT : Tb w) :
    Calls Tryd.prog 61 #[v] w fun e w' => ∃ v' er, e = .returned (.tuple #[v', .int .i64 er]) ∧ LNo ls v' er w' ∧ Below w.heap.size w w' := by
  have HSO : Hid SortC := HS
  obtain ⟨ad, cap, rfl, hc, hx⟩ := hv
  have HXX : Hid (ls = [] ∧ (ad = none → cap = 0) ∨ ∃ b o, ad = some ⟨b, o, none⟩ ∧ b < w.heap.size ∧ ∀ (i : Nat) (x : Lf), ls[i]? = some x → w.rangeAt b (o + i * 64) (lfc x)) := hx
  have HK : Hid (∀ x ∈ ls, x.Ok) := hk
  have HT : Hid (Tb w) := hT
  obtain ⟨len, hln⟩ : ∃ len, ls.length = len := ⟨_, rfl⟩
  have HLN : Hid (ls.length = len) := hln
  have HLE : Hid (len ≤ 2500000000000) := by rw [← hln]; exact hlen
  rw [hln]
  have hz := zero_lf
  obtain ⟨Z, hZ⟩ : ∃ Z, (lfc lfz).toArray = Z := ⟨_, rfl⟩
  have HZS : Hid (Z.size = 64) := by show Z.size = 64; rw [← hZ, List.size_toArray]; exact lfc_length lfz_ok
  rw [hZ] at hz
  obtain ⟨w0, hmk, mk1, mk2⟩ := make_own w len (by have := HLE.out; omega)
  have MK1 : Hid (NO w.heap.size w0 (.slice (some ⟨w.heap.size, 0, none⟩) 0 len) []) := mk1
  have MK2 : Hid (Below w.heap.size w w0) := mk2
  have HMN : Hid (∀ (s : List Nd) (W : World) (v : Value), (∀ x ∈ s, x.Ok) → s.length ≤ 140737488355328 → NS W v s → Calls Tryd.prog 28 #[v] W fun e w' => e = .returned (.bool (apt s)) ∧ Below W.heap.size W w') := fun s W v h1 h2 h3 => Apart_any s h1 v W h3 h2
  clear hx hk hT hc hln hlen mk1 mk2 hZ
  go_enter Tryd.func61, Tryd.ntmps61
  go_wp2_with fail
  go_loopw [4, 12] (fun nv i wr => ∃ k : Nat, k ≤ len ∧ i = .int .i64 (k : Int) ∧ NO w.heap.size wr nv ((ls.take k).map ln) ∧ Below w.heap.size w wr) (fun _ i _ => len - (intOf i).toNat)
  case atStart => exact ⟨0, Nat.zero_le _, rfl, MK1.out, MK2.out⟩
  case round =>
    obtain ⟨k, hkl, rfl, hno, h4⟩ := hrel
    have H4 : Hid (Below w.heap.size w wr) := h4
    have HNO : Hid (NO w.heap.size wr u4 ((ls.take k).map ln)) := hno
    clear h4 hno hmk
    by_cases hlt : k < len
    · rcases HXX.out with ⟨h0, _⟩ | ⟨b, o, rfl, hlb, hm⟩
      · have := HLN.out; rw [h0] at this; simp at this; omega
      · obtain ⟨x, hx⟩ : ∃ x, ls[k]? = some x := ⟨ls[k]'(by have := HLN.out; omega), List.getElem?_eq_getElem _⟩
        have HX : Hid x.Ok := HK.out x (List.mem_of_getElem? hx)
        obtain ⟨y, hy⟩ : ∃ y, ln x = y := ⟨_, rfl⟩
        have HTK : Hid ((ls.take (k + 1)).map ln = (ls.take k).map ln ++ [y]) := by rw [← hy]; exact take_ln hx
        have HYO : Hid y.Ok := by rw [← hy]; exact ln_ok HX.out
        have HRX : Hid (wr.rangeAt b (o + k * 64) (lfc x)) := range_below (hm k x hx) H4.out hlb
        have HLF : Hid (∀ W : World, Tb W → Calls Tryd.prog 47 #[.agg (lfc x).toArray] W fun e w' => e = .returned (.agg (nc y).toArray) ∧ Below W.heap.size W w') := fun W q => by rw [← hy]; exact leafNode_any x.p x.q HX.out.p HX.out.q W q
        have HTL : Hid (((ls.take k).map ln).length = k) := by show _ = _; rw [List.length_map, List.length_take]; have := HLN.out; omega
        obtain ⟨X, hX⟩ : ∃ X, (lfc x).toArray = X := ⟨_, rfl⟩
        have HXA : Hid ((lfc x).toArray = X) := hX
        obtain ⟨L, hL⟩ : ∃ L, (ls.take k).map ln = L := ⟨_, rfl⟩
        rw [hL] at HTK HNO HTL
        have hl2 := HLE.out
        clear hm hlb hx hy hL
        go_upto_region 5 with (first
          | (refine load_g rfl 46 (.tmp 14) rfl b (o + k * 64) rfl (lfc x) _ HRX.out Tryd.underlying46 rfl (size_lfc HX.out) ?_; rw [hX])
          | (refine wpList_store_mid rfl 46 (.tmp 6) (.tmp 15) rfl wr.heap.size 0 (lfc x).toArray rfl (by rw [HXA.out]; rfl) (there_new wr (by rw [List.size_toArray, lfc_length HX.out, HZS.out])) (by rw [List.size_toArray]; exact size_lfc HX.out) (lfc_one x) ?_; simp only [List.toList_toArray]))
        obtain ⟨U, hU⟩ : ∃ U, (wr.alloc (.cells Z 46)).setCells wr.heap.size 0 (lfc x) = U := ⟨_, rfl⟩
        rw [hU]
        obtain ⟨r1, r2, r3⟩ := laid_row (by rw [lfc_length HX.out, HZS.out]) (by rw [lfc_length HX.out]; omega) hU
        have RU' : Hid (U.rangeAt wr.heap.size 0 (lfc x)) := r1
        have CU : Hid (Below w.heap.size w U) := H4.out.trans (r2.mono H4.out.size)
        have NU : Hid (NO w.heap.size U u4 L) := HNO.out.below r2
        have TU : Hid (Tb U) := HT.out.below CU.out
        clear r1 r2 r3 hU hX
        go_wp2_with (first
          | (refine ld 46 (.tmp 6) rfl rfl wr.heap.size 0 rfl (lfc x) _ RU'.out Tryd.underlying46 rfl (size_lfc HX.out) ?_)
          | (go_at_call 47; refine (HLF.out U TU.out).mono ?_; rintro e w1 ⟨rfl, g1⟩; have C1 : Hid (Below w.heap.size w w1) := CU.out.trans (g1.mono CU.out.size); have N1 : Hid (NO w.heap.size w1 u4 L) := NU.out.below g1; clear g1)
          | (refine wpList_onen rfl (.tmp 18) rfl y HYO.out rfl ?_)
          | (at_builtin; refine wp_appn rfl (.tmp 16) (.tmp 19) rfl rfl w.heap.size u4 (.slice (some ⟨w1.heap.size, 0, none⟩) 1 1) L [y] rfl rfl (N1.out.alloc _) (fun z hz => by simp at hz; subst hz; exact HYO.out) (ns_one w1 y _) (by have h1 := HTL.out; have h2 := HLE.out; simp only [List.length_cons, List.length_nil]; omega) ?_; intro v2 w2 g1 g2; have N2 : Hid (NO w.heap.size w2 v2 ((ls.take (k + 1)).map ln)) := by rw [HTK.out]; exact g1
             have C2 : Hid (Below w.heap.size w w2) := (C1.out.alloc C1.out.size _).trans g2
             clear g1 g2))
        exact ⟨⟨k + 1, by omega, by go_num, N2.out, C2.out⟩, by simp [intOf]; omega⟩
    · obtain rfl : k = len := by omega
      have HTA : Hid ((ls.take k).map ln = ls.map ln) := by show _ = _; rw [← HLN.out, List.take_length]
      have HSC : Hid (Calls Tryd.prog 44 #[u4, .func (.func 68) #[] #[]] wr fun e w' => e = .returned (.tuple #[]) ∧ ∃ s, s.Perm (ls.map ln) ∧ s.Pairwise (fun a b => pf a.p 256 ≤ pf b.p 256) ∧ NS w' u4 s ∧ Below w.heap.size wr w') := by
        have := HNO.out; rw [HTA.out] at this
        exact HSO.out w.heap.size wr u4 (ls.map ln) this (by rw [List.length_map]; have h1 := HLN.out; have h2 := HLE.out; omega)
      go_upto_region 8 with (go_at_call 44; refine HSC.out.mono ?_; rintro e w1 ⟨rfl, s, g1, g2, g3, g4⟩; have P1 : Hid (s.Perm (ls.map ln)) := g1; have P2 : Hid (s.Pairwise (fun a b => pf a.p 256 ≤ pf b.p 256)) := g2; have N1 : Hid (NS w1 u4 s) := g3; have C1 : Hid (Below w.heap.size w w1) := H4.out.trans g4; clear g1 g2 g3 g4)
      have hsl : s.length ≤ 140737488355328 := by have := P1.out.length_eq; rw [List.length_map] at this; have h1 := HLN.out; have h2 := HLE.out; omega
      have HAC := HMN.out s w1 u4 (fun x hx => (map_ok HK.out P1.out x hx).1) hsl N1.out
      cases ha : apt s with
      | true =>
        rw [ha] at HAC
        have HAP : Hid (Calls Tryd.prog 28 #[u4] w1 fun e w' => e = .returned (.bool true) ∧ Below w1.heap.size w1 w') := HAC
        obtain ⟨o1, o2⟩ := so_uniq HK.out P1.out ha
        have HO1 : Hid (okl ls) := o1
        have HO2 : Hid (so ls = s) := o2
        clear HAC ha hsl o1 o2
        go_wp2_with (go_at_call 28; refine HAP.out.mono ?_; rintro e w2 ⟨rfl, g1⟩; have B2 : Hid (Below w1.heap.size w1 w2) := g1; clear g1)
        go_ret2
        exact ⟨_, _, rfl, .inl ⟨HO1.out, rfl, by rw [HO2.out]; exact N1.out.below B2.out⟩, C1.out.trans (B2.out.mono C1.out.size)⟩
      | false =>
        rw [ha] at HAC
        have HAP : Hid (Calls Tryd.prog 28 #[u4] w1 fun e w' => e = .returned (.bool false) ∧ Below w1.heap.size w1 w') := HAC
        have HO1 : Hid (¬ okl ls) := fun q => by have := (sorted_apt HK.out P1.out P2.out q).1; rw [ha] at this; cases this
        clear HAC ha hsl
        go_wp2_with (go_at_call 28; refine HAP.out.mono ?_; rintro e w2 ⟨rfl, g1⟩; have B2 : Hid (Below w1.heap.size w1 w2) := g1; clear g1)
        go_ret2
        exact ⟨_, _, rfl, .inr ⟨HO1.out, rfl, rfl⟩, C1.out.trans (B2.out.mono C1.out.size)⟩
end Go.Proofs.YtpojalbpekbfdaaDoor
