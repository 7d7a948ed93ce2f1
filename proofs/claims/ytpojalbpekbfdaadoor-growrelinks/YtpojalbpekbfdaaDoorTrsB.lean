/- Rows of nodes of a call's own: made, appended to; leaves that come in. -/
import Derived.Test.YtpojalbpekbfdaaDoorTraB
import Derived.Great.BuildSlice
import Derived.Test.YtpojalbpekbfdaaDoorTreU
namespace Go.Proofs.YtpojalbpekbfdaaDoor
open Go Go.RowKit
set_option linter.unusedSimpArgs false
set_option linter.unusedVariables false
set_option maxRecDepth 100000

/-- Nodes in a row of the call's own, from the block B on. -/
def NO (B : Nat) (w : World) (v : Value) (l : List Nd) : Prop := w.ownsRow B 44 65 v l.length (ncs l) ∧ (∀ x ∈ l, x.Ok) ∧ B ≤ w.heap.size
theorem NO.ns {B : Nat} {w : World} {v : Value} {l : List Nd} (h : NO B w v l) : NS w v l := ns_row h.2.1 h.1
theorem NO.alloc {B : Nat} {w : World} {v : Value} {l : List Nd} (h : NO B w v l) (o : Obj) : NO B (w.alloc o) v l := ⟨h.1.alloc o, h.2.1, by have := h.2.2; simp; omega⟩
theorem NO.nil (w : World) : NO w.heap.size w (.slice none 0 0) [] := ⟨World.ownsRow_nil _ _ _ _, (fun x hx => by cases hx), Nat.le_refl _⟩
theorem NO.nil' {B : Nat} {w : World} (hB : B ≤ w.heap.size) : NO B w (.slice none 0 0) [] := ⟨World.ownsRow_nil _ _ _ _, (fun x hx => by cases hx), hB⟩
theorem own_keep {B : Nat} {e : TypeId} {s n : Nat} {xs : List Value} {w w' : World} {v : Value} (h : w.ownsRow B e s v n xs) (hb : Below w.heap.size w w') : w'.ownsRow B e s v n xs :=
  h.kept (row := none) ⟨hb.os, hb.tape, hb.output, hb.size, fun k hk _ => hb.block k hk⟩ (by
    cases hq : v.ownBlock with
    | none => exact .inl rfl
    | some b => exact .inr (by simp))
theorem NO.below {B : Nat} {w w' : World} {v : Value} {l : List Nd} (h : NO B w v l) (hb : Below w.heap.size w w') : NO B w' v l := ⟨own_keep h.1 hb, h.2.1, Nat.le_trans h.2.2 hb.size⟩
theorem ncs_app (l m : List Nd) : ncs (l ++ m) = ncs l ++ ncs m := by simp [ncs]
/-- Nodes behind nodes of the call's own. -/
theorem app_own {B : Nat} {w : World} {v u : Value} {l m : List Nd} (h : NO B w v l) (hkm : ∀ x ∈ m, x.Ok) (hu : NS w u m) (hlen : l.length + m.length ≤ 3000000000000) :
    ∃ v' w', (Builtin.append_ #[24, 24] 24 #[v, u]).run Tryd.prog w = .ok v' w' ∧ NO B w' v' (l ++ m) ∧ Below B w w' ∧ w.grownBy w' v.ownBlock := by
  obtain ⟨i, z, hi, hz, hs, hb, hzs⟩ := info_nd
  obtain ⟨ho, hkl, hB⟩ := h
  have hkk : ∀ x ∈ l ++ m, x.Ok := fun x hx => by
    rcases List.mem_append.1 hx with q | q
    · exact hkl x q
    · exact hkm x q
  have hbytes : ((l.length + m.length) + (l.length + m.length) / 4 + 192) * 72 ≤ 281474976710656 := Nat.le_trans (Nat.mul_le_mul_right 72 (show (l.length + m.length) + (l.length + m.length) / 4 + 192 ≤ 3750000000192 by omega)) (by decide)
  have fin : ∀ w', w.grownBy w' v.ownBlock → Below B w w' := fun w' g => (Below.refl B w).grown g hB (fun k e => (ho.lt k e).1)
  obtain ⟨ad, cap, rfl, hc, ⟨rfl, hn⟩ | ⟨b, o, rfl, hlt, hm⟩⟩ := hu
  · cases ad with
    | none =>
      obtain rfl := hn rfl
      refine ⟨_, _, run_append_owned_none (P := Tryd.prog) w B _ _ _ i 65 Tryd.underlying24 hi _ _ _ ho, ?_, Below.refl _ _, ⟨rfl, rfl, rfl, Nat.le_refl _, fun _ _ _ => rfl⟩⟩
      rw [List.append_nil]; exact ⟨ho, hkl, hB⟩
    | some A =>
      obtain ⟨v', w', hr, h2, h3, -⟩ := run_append_own_wide (P := Tryd.prog) w B 24 24 44 i z 65 72 Tryd.underlying24 hi hz hs hb hzs (by decide) _ _ _ ho A 0 cap [] rfl (fun j u hu => by simp at hu) (fun _ h => by cases h) (by unfold maxLen; simp at hlen ⊢; omega) (by simpa using hbytes) hB
      rw [Nat.add_zero, List.append_nil] at h2
      refine ⟨v', w', hr, ?_, fin w' h3, h3⟩
      rw [List.append_nil]
      exact ⟨h2, hkl, Nat.le_trans hB h3.size⟩
  · obtain ⟨v', w', hr, h2, h3, -⟩ := run_append_own_wide (P := Tryd.prog) w B 24 24 44 i z 65 72 Tryd.underlying24 hi hz hs hb hzs (by decide) _ _ _ ho ⟨b, o, none⟩ m.length cap (ncs m) (ncs_length hkm) (fun j u hu => by rw [addr_add0]; exact ncs_at hkm hm j u hu) (ncs_one m) (by unfold maxLen; omega) hbytes hB
    refine ⟨v', w', hr, ⟨?_, hkk, Nat.le_trans hB h3.size⟩, fin w' h3, h3⟩
    rw [List.length_append, ncs_app]; exact h2
theorem make_own (w : World) (n : Nat) (hn : n ≤ 3000000000000) :
    ∃ w', (Instr.makeSlice 24 (.int .i64 0) (.int .i64 (n : Int))).run Tryd.prog w = .ok (.slice (some ⟨w.heap.size, 0, none⟩) 0 n) w' ∧ NO w.heap.size w' (.slice (some ⟨w.heap.size, 0, none⟩) 0 n) [] ∧ Below w.heap.size w w' := by
  obtain ⟨i, z, hi, hz, hs, hb, hzs⟩ := info_nd
  obtain ⟨w', hr, h1, h2⟩ := run_make_own (P := Tryd.prog) w w.heap.size 24 44 i z 65 Tryd.underlying24 hi hz hs .i64 .i64 n (by rw [hb]; omega) (by unfold maxLen; omega) (Nat.le_refl _)
  exact ⟨w', hr, ⟨h1, (fun x hx => by cases hx), h2.size⟩, (Below.refl _ w).grown h2 (Nat.le_refl _) (fun k e => by cases e)⟩
theorem zero_cells_nd : ∃ i, Tryd.prog.info? 44 = some i ∧ i.zero = some (.agg (nc ndz).toArray) ∧ i.size = 65 := by
  have h1 : (Tryd.prog.info? 44).map (·.size) = some 65 := by kernel_rfl
  have h2 : (Tryd.prog.info? 44).bind (·.zero) = some (.agg (nc ndz).toArray) := by kernel_rfl
  cases hq : Tryd.prog.info? 44 with
  | none => rw [hq] at h1; cases h1
  | some i => rw [hq] at h1 h2; exact ⟨i, rfl, h2, Option.some.inj h1⟩
theorem run_onen (w : World) {x : Nd} (hx : x.Ok) : (Instr.buildSlice 24 1 #[(0, .agg (nc x).toArray)]).run Tryd.prog w = .ok (.slice (some ⟨w.heap.size, 0, none⟩) 1 1) (w.alloc (.cells (nc x).toArray 44)) := by
  obtain ⟨i, hi, hz, hs⟩ := zero_cells_nd
  have h1 := nc_length hx
  have hb : i.bytes = 72 := by
    obtain ⟨i', z', hi', -, -, hb, -⟩ := info_nd
    rw [hi] at hi'; cases hi'; exact hb
  refine run_buildSlice w 24 44 1 _ (nc x).toArray i _ Tryd.underlying24 hi hz (by omega) (by omega) ?_
  have := _root_.Go.Great.fill_whole (s := i.size) (by omega) [.agg (nc x).toArray] ((Array.range (1 * i.size)).map ((Value.agg (nc ndz).toArray).cells[· % (Value.agg (nc ndz).toArray).cells.size]!)) (by intro v hv; simp at hv; subst hv; simp [Value.cells, hs, h1]) (by simp)
  simpa [Value.cells] using this
theorem wpList_onen {ops : Array Oper} {rest : List Oper} {o : Oper} {a : Act} {w : World} {Q : Exit → Act → World → Prop} (hg : o.guard = none) (y : Operand) (ho : o.op = .buildSlice 24 1 #[(0, y)]) (x : Nd) (hx : x.Ok) (hy : a.eval y = .agg (nc x).toArray)
    (h : wpList Tryd.prog ops Q rest (a.put o.dst (.slice (some ⟨w.heap.size, 0, none⟩) 1 1)) (w.alloc (.cells (nc x).toArray 44))) : wpList Tryd.prog ops Q (o :: rest) a w := by
  refine wpList_plain hg fun K hK => ?_
  have hr := run_onen w hx
  unfold Oper.wp
  simp only [execOp, ho, List.map_toArray, List.map_cons, List.map_nil, hy, Sem.run_bind, hr, Result.andThen_ok, Sem.run_pure]
  exact hK _ _ h
theorem ns_one (w : World) (x : Nd) (t : TypeId) : NS (w.alloc (.cells (nc x).toArray t)) (.slice (some ⟨w.heap.size, 0, none⟩) 1 1) [x] :=
  ⟨_, 1, rfl, Nat.le_refl _, .inr ⟨w.heap.size, 0, rfl, by simp, fun i z hi => by
    cases i with
    | zero => simp at hi; subst hi; exact range_alloc w (nc x) t (0, 0)
    | succ i => simp at hi⟩⟩
/-- append of nodes onto a row of the call's own, within a walk. -/
theorem wp_appn {ops : Array Oper} {rest : List Oper} {o : Oper} {a : Act} {w : World} {Q : Exit → Act → World → Prop} (hgd : o.guard = none) (s x : Operand) (ho : o.op = .call { callee := .builtin .append, args := #[s, x], argTypes := #[24, 24] }) (hT : o.type = 24)
    (B : Nat) (v u : Value) (l m : List Nd) (hs : a.eval s = v) (hx : a.eval x = u) (h0 : NO B w v l) (hkm : ∀ x ∈ m, x.Ok) (hu : NS w u m) (hlen : l.length + m.length ≤ 3000000000000)
    (h : ∀ v' w', NO B w' v' (l ++ m) → Below B w w' → wpList Tryd.prog ops Q rest (a.put o.dst v') w') : wpList Tryd.prog ops Q (o :: rest) a w := by
  obtain ⟨v', w', hr, h1, h2, -⟩ := app_own h0 hkm hu hlen
  exact wp_app_run hgd s x 24 ho 24 hT v u v' w' hs hx hr (h v' w' h1 h2)
theorem wp_appg {ops : Array Oper} {rest : List Oper} {o : Oper} {a : Act} {w : World} {Q : Exit → Act → World → Prop} (hgd : o.guard = none) (s x : Operand) (ho : o.op = .call { callee := .builtin .append, args := #[s, x], argTypes := #[24, 24] }) (hT : o.type = 24)
    (B : Nat) (v u : Value) (l m : List Nd) (hs : a.eval s = v) (hx : a.eval x = u) (h0 : NO B w v l) (hkm : ∀ x ∈ m, x.Ok) (hu : NS w u m) (hlen : l.length + m.length ≤ 3000000000000)
    (h : ∀ v' w', NO B w' v' (l ++ m) → Below B w w' → w.grownBy w' v.ownBlock → wpList Tryd.prog ops Q rest (a.put o.dst v') w') : wpList Tryd.prog ops Q (o :: rest) a w := by
  obtain ⟨v', w', hr, h1, h2, h3⟩ := app_own h0 hkm hu hlen
  exact wp_app_run hgd s x 24 ho 24 hT v u v' w' hs hx hr (h v' w' h1 h2 h3)
/-- A leaf. -/
structure Lf where
  p : List Int
  q : List Int
structure Lf.Ok (x : Lf) : Prop where
  p : L32 x.p
  q : L32 x.q
def lfc (x : Lf) : List Value := lf x.p x.q
theorem lfc_length {x : Lf} (h : x.Ok) : (lfc x).length = 64 := lf_length h.p h.q
/-- A leaf's node. -/
def ln (x : Lf) : Nd := lnd x.p x.q
theorem ln_ok {x : Lf} (h : x.Ok) : (ln x).Ok := ⟨h.p, hs_l32 _⟩
theorem ln_gd {x : Lf} (h : x.Ok) : gd (ln x) = true := gd_iff.2 ⟨by show (0 : Int) ≤ 256; omega, by show (256 : Int) ≤ 256; omega, fb_full h.p⟩
/-- A slice that holds these leaves. -/
def LS (w : World) (v : Value) (l : List Lf) : Prop := ∃ ad cap, v = .slice ad l.length cap ∧ l.length ≤ cap ∧ ((l = [] ∧ (ad = none → cap = 0)) ∨ ∃ b o, ad = some ⟨b, o, none⟩ ∧ b < w.heap.size ∧ ∀ (i : Nat) (x : Lf), l[i]? = some x → w.rangeAt b (o + i * 64) (lfc x))
theorem LS.below {w w' : World} {v : Value} {l : List Lf} (h : LS w v l) (hb : Below w.heap.size w w') : LS w' v l := by
  obtain ⟨ad, cap, rfl, hc, h⟩ := h
  refine ⟨ad, cap, rfl, hc, ?_⟩
  rcases h with h | ⟨b, o, rfl, hlt, hm⟩
  · exact .inl h
  · exact .inr ⟨b, o, rfl, Nat.lt_of_lt_of_le hlt hb.size, fun i x hi => range_below (hm i x hi) hb hlt⟩
def lfz : Lf := ⟨z32, z32⟩
theorem lfz_ok : lfz.Ok := ⟨z32_l32, z32_l32⟩
theorem zero_lf (w : World) : (zeroValue 46).run Tryd.prog w = .ok (.agg (lfc lfz).toArray) w := by kernel_rfl
theorem size_lf' : (Tryd.prog.info? 46).map (·.size) = some 64 := by kernel_rfl
theorem size_lfc {x : Lf} (h : x.Ok) : (Tryd.prog.info? 46).map (·.size) = some (lfc x).length := by rw [lfc_length h]; exact size_lf'
theorem lfc_one (x : Lf) : (lfc x).toArray.all (·.oneCell') = true := all_oneCell_toArray (fun u hu => by
  unfold lfc lf at hu
  rcases List.mem_append.1 hu with hu | hu
  · exact bv_one _ u hu
  · exact bv_one _ u hu)
end Go.Proofs.YtpojalbpekbfdaaDoor
/- Plain mathematics: leaves' nodes in order. -/
namespace Go.Proofs.YtpojalbpekbfdaaDoor
open Go Go.RowKit
set_option linter.unusedSimpArgs false
set_option linter.unusedVariables false
set_option maxRecDepth 100000

/-- Leaves' nodes of which no two have one label, in order. -/
def okl (ls : List Lf) : Prop := ∃ s : List Nd, s.Perm (ls.map ln) ∧ apt s = true
open Classical in
noncomputable def so (ls : List Lf) : List Nd := if h : okl ls then Classical.choose h else []
theorem so_spec {ls : List Lf} (h : okl ls) : (so ls).Perm (ls.map ln) ∧ apt (so ls) = true := by
  unfold so; rw [dif_pos h]; exact Classical.choose_spec h
theorem map_ok {ls : List Lf} (hk : ∀ x ∈ ls, x.Ok) {s : List Nd} (h : s.Perm (ls.map ln)) : ∀ x ∈ s, x.Ok ∧ gd x = true ∧ x.n = 256 := fun x hx => by
  obtain ⟨y, hy, rfl⟩ := List.mem_map.1 (h.mem_iff.1 hx)
  exact ⟨ln_ok (hk y hy), ln_gd (hk y hy), rfl⟩
theorem leaf_apt : ∀ (s : List Nd), (∀ x ∈ s, x.Ok ∧ gd x = true ∧ x.n = 256) → s.Pairwise (fun a b => pf a.p 256 < pf b.p 256) → apt s = true
  | [], _, _ => rfl
  | [a], h, _ => (h a (by simp)).2.1
  | a :: b :: r, h, hp => by
    have hab := (List.pairwise_cons.1 hp).1 b (by simp)
    obtain ⟨ka, ga, na⟩ := h a (by simp)
    obtain ⟨kb, gb, nb⟩ := h b (by simp)
    have ih := leaf_apt (b :: r) (fun x hx => h x (List.mem_cons_of_mem _ hx)) (List.pairwise_cons.1 hp).2
    simp only [apt, ap2, Bool.and_eq_true]
    refine ⟨ga, ⟨(ltb_iff ka.p kb.p).2 hab, ?_⟩, ih⟩
    unfold hl
    rw [ga, Bool.true_and, na]
    have : ¬ (256 : Int).toNat ≤ cm a.p b.p 256 := fun q => by
      have := ((cm_ge (a := a.p) (b := b.p) (m := 256) (r := 256) (Nat.le_refl _)).1 q).pf
      omega
    rw [decide_eq_false this]; rfl
theorem rise_uniq {s t : List Nd} (h : s.Perm t) (hs : s.Pairwise (fun a b => pf a.p 256 < pf b.p 256)) (ht : t.Pairwise (fun a b => pf a.p 256 < pf b.p 256)) : s = t := by
  induction s generalizing t with
  | nil => exact (List.nil_perm.1 h).symm
  | cons a s ih =>
    cases t with
    | nil => exact absurd h.length_eq (by simp)
    | cons b t =>
      have h1 := (List.pairwise_cons.1 hs)
      have h2 := (List.pairwise_cons.1 ht)
      have e : a = b := by
        rcases List.mem_cons.1 (h.mem_iff.1 (List.mem_cons_self (a := a) (l := s))) with q | q
        · exact q
        · rcases List.mem_cons.1 (h.mem_iff.2 (List.mem_cons_self (a := b) (l := t))) with r | r
          · exact r.symm
          · have := h2.1 a q; have := h1.1 b r; omega
      subst e
      rw [ih ((List.perm_cons a).1 h) h1.2 h2.2]
theorem so_uniq {ls : List Lf} (hk : ∀ x ∈ ls, x.Ok) {s : List Nd} (h : s.Perm (ls.map ln)) (ha : apt s = true) : okl ls ∧ so ls = s := by
  have ho : okl ls := ⟨s, h, ha⟩
  obtain ⟨h1, h2⟩ := so_spec ho
  exact ⟨ho, rise_uniq (h1.trans h.symm) (apt_ris (fun x hx => (map_ok hk h1 x hx).1) h2).up (apt_ris (fun x hx => (map_ok hk h x hx).1) ha).up⟩
theorem so_rise {ls : List Lf} (hk : ∀ x ∈ ls, x.Ok) {s : List Nd} (h : s.Perm (ls.map ln)) (hs : s.Pairwise (fun a b => pf a.p 256 < pf b.p 256)) : okl ls ∧ so ls = s :=
  so_uniq hk h (leaf_apt s (map_ok hk h) hs)
theorem okl_ne {ls : List Lf} (hk : ∀ x ∈ ls, x.Ok) (h : okl ls) : ls.Pairwise (fun a b => pf a.p 256 ≠ pf b.p 256) := by
  obtain ⟨s, h1, h2⟩ := h
  have hr := (apt_ris (fun x hx => (map_ok hk h1 x hx).1) h2).up
  have hn : (s.map fun x => pf x.p 256).Nodup := List.pairwise_map.2 (hr.imp (fun q => by omega))
  have hn2 : ((ls.map ln).map fun x => pf x.p 256).Nodup := (h1.map _).nodup_iff.1 hn
  rw [List.map_map] at hn2
  exact List.pairwise_map.1 hn2
/-- Sorted, and apart just if no two have one label. -/
theorem sorted_apt {ls : List Lf} (hk : ∀ x ∈ ls, x.Ok) {s : List Nd} (h : s.Perm (ls.map ln)) (hs : s.Pairwise (fun a b => pf a.p 256 ≤ pf b.p 256)) (ho : okl ls) : apt s = true ∧ so ls = s := by
  have hn := okl_ne hk ho
  have hn2 : ((ls.map ln).map fun x => pf x.p 256).Nodup := by rw [List.map_map]; exact List.pairwise_map.2 hn
  have hn3 : (s.map fun x => pf x.p 256).Nodup := (h.map _).nodup_iff.2 hn2
  have hp := hs.and (List.pairwise_map.1 hn3)
  have hlt : s.Pairwise (fun a b => pf a.p 256 < pf b.p 256) := hp.imp (fun q => by have h1 := q.1; have h2 := q.2; omega)
  have ha := leaf_apt s (map_ok hk h) hlt
  exact ⟨ha, (so_uniq hk h ha).2⟩
theorem so_len {ls : List Lf} (h : okl ls) : (so ls).length = ls.length := by rw [(so_spec h).1.length_eq, List.length_map]
theorem so_ok {ls : List Lf} (hk : ∀ x ∈ ls, x.Ok) (h : okl ls) : ∀ x ∈ so ls, x.Ok := fun x hx => (map_ok hk (so_spec h).1 x hx).1
theorem so_rsn {ls : List Lf} (hk : ∀ x ∈ ls, x.Ok) (h : okl ls) : Rsn (so ls) := apt_rsn (so_ok hk h) (so_spec h).2
/-- A nought or more: how one row of bytes stands to another. -/
theorem cmp_swo {a b : List Int} (ha : L32 a) (hb : L32 b) : cmpI a b < 0 ↔ pf a 256 < pf b 256 := by
  rw [← ltb_iff ha hb]
  have := cmp_ltb a b (by rw [ha.len, hb.len]) ha.byt hb.byt
  cases h : ltb a b with
  | false => rw [h] at this; have := this.2 rfl; simp; omega
  | true => rw [h] at this; simp at this ⊢; omega
end Go.Proofs.YtpojalbpekbfdaaDoor
/- The reference: Bit, Common. -/
namespace Go.Proofs.YtpojalbpekbfdaaDoor
open Go Go.RowKit
set_option linter.unusedSimpArgs false
set_option linter.unusedVariables false
set_option maxRecDepth 100000

set_option maxHeartbeats 1000000 in
theorem rBit_any (x : List Int) (hx : L32 x) (i : Nat) (hi : i < 256) (w : World) :
    Calls Tryd.prog 60 #[.agg (bv x).toArray, .int .i64 (i : Int)] w fun e w' => e = .returned (.int .u8 (bt x i : Int)) ∧ Below w.heap.size w w' := by
  have s1 : (bv x).toArray.size = 32 := by simp [bv, hx.len]
  obtain ⟨A, hA⟩ : ∃ A, (bv x).toArray = A := ⟨_, rfl⟩
  obtain ⟨k, hk⟩ : ∃ k : Nat, (i : Int) / 8 = (k : Int) := ⟨i / 8, by omega⟩
  obtain ⟨r, hr⟩ : ∃ r : Nat, (i : Int) % 8 = (r : Int) := ⟨i % 8, by omega⟩
  have hk1 : k < 32 := by omega
  have hr1 : r < 8 := by omega
  have c0 : (w.alloc (.cells A 31)).cell? ⟨w.heap.size, k, none⟩ = some (.int .u8 (gi x k)) := by rw [cell_alloc, ← hA, List.getElem?_toArray]; exact bv_get x (by rw [hx.len]; exact hk1)
  have hb := hx.byt.get (i := k) (by rw [hx.len]; exact hk1)
  have HE : Hid ((bt x i : Int) = (gn x k / 2 ^ (7 - r) % 2 : Nat)) := by
    show _ = _
    unfold bt
    rw [show i / 8 = k by omega, show i % 8 = r by omega]
  have HC : Hid (gi x k = (gn x k : Int)) := hx.cast k
  have HL : Hid (gn x k < 256) := hx.lt k
  rw [hA] at s1 ⊢
  obtain ⟨z, hz⟩ : ∃ z, gi x k = z := ⟨_, rfl⟩
  rw [hz] at c0 hb HC
  clear hA hx hz
  go_enter Tryd.func60, Tryd.ntmps60
  go_wp2
  go_ret
  refine ⟨?_, (Below.refl _ w).alloc (Nat.le_refl _) _⟩
  rw [HE.out, ← and_one (gn x k / 2 ^ (7 - r)) (Nat.lt_of_le_of_lt (Nat.div_le_self _ _) HL.out), Int.natCast_ediv, ← HC.out, Int.natCast_pow]
  rfl
def cmr1f (xs ys : List Int) (k m za zb : Nat) : Nat → Value
  | 0 => .int .i64 (k : Int)
  | 1 => .int .i64 (m : Int)
  | 2 => .bool true
  | 3 => .bool true
  | 4 => .agg (bv xs).toArray
  | 5 => .int .i64 (k : Int)
  | 6 => .int .u8 (za : Int)
  | 7 => .agg (bv ys).toArray
  | 8 => .int .i64 (k : Int)
  | 9 => .int .u8 (zb : Int)
  | 10 => .bool (decide ((za : Int) = (zb : Int)))
  | 11 => .bool (decide ((za : Int) = (zb : Int)))
  | _ => undef
def cmr2f (xs ys : List Int) (k m za zb : Nat) : Nat → Value
  | 0 => .int .i64 (k : Int)
  | 1 => .int .i64 (m : Int)
  | 2 => .bool false
  | 3 => .bool false
  | 4 => undef
  | 5 => undef
  | 6 => undef
  | 7 => undef
  | 8 => undef
  | 9 => undef
  | 10 => undef
  | 11 => .bool false
  | _ => undef
set_option maxHeartbeats 4000000 in
theorem rCommon_any (xs ys : List Int) (w : World) (h1 : L32 xs) (h2 : L32 ys) (m : Nat) (hm : m ≤ 256) :
    Calls Tryd.prog 40 #[.agg (bv xs).toArray, .agg (bv ys).toArray, .int .i64 (m : Int)] w fun e w' => e = .returned (.int .i64 (cm xs ys m : Int)) ∧ Below w.heap.size w w' := by
  have s1 : (bv xs).toArray.size = 32 := by simp [bv, h1.len]
  have s2 : (bv ys).toArray.size = 32 := by simp [bv, h2.len]
  obtain ⟨ra, rb, rs, rl⟩ := two_rows w (bv xs) (bv ys) 31 31
  obtain ⟨A, hA⟩ : ∃ A, (bv xs).toArray = A := ⟨_, rfl⟩
  obtain ⟨B, hB⟩ : ∃ B, (bv ys).toArray = B := ⟨_, rfl⟩
  rw [hA, hB] at ra rb rs rl
  rw [hA] at s1 ⊢
  rw [hB] at s2 ⊢
  have HX : Hid (L32 xs) := h1
  have HY : Hid (L32 ys) := h2
  clear h1 h2
  go_enter Tryd.func40, Tryd.ntmps40
  go_wp2_with fail
  obtain ⟨U, hU⟩ : ∃ U, (w.alloc (.cells A 31)).alloc (.cells B 31) = U := ⟨_, rfl⟩
  rw [hU] at ra rb rs rl ⊢
  obtain ⟨D, hD⟩ : ∃ D, w.heap.size = D := ⟨_, rfl⟩
  have BU : Hid (Below w.heap.size w U) := rl
  rw [hD] at ra rb rs ⊢
  have hDX0 : Hid (D < U.heap.size) := by show D < _; omega
  have hDY0 : Hid (D + 1 < U.heap.size) := by show D + 1 < _; omega
  have RX0 : Hid (U.rangeAt D 0 (bv xs)) := ra
  have RY0 : Hid (U.rangeAt (D + 1) 0 (bv ys)) := rb
  clear hU ra rb rs rl hD hA hB
  go_loopw [7] (fun i wr => ∃ k : Nat, k ≤ m ∧ i = .int .i64 (k : Int) ∧ Shr xs ys k ∧ Below U.heap.size U wr) (fun i _ => m - (intOf i).toNat)
  case atStart => exact ⟨0, Nat.zero_le _, rfl, fun i hi => by omega, Below.refl _ _⟩
  case round =>
    obtain ⟨k, hk, rfl, hsh, h4⟩ := hrel
    have H4 : Hid (Below U.heap.size U wr) := h4
    have HSH : Hid (Shr xs ys k) := hsh
    have RX : Hid (wr.rangeAt D 0 (bv xs)) := range_below RX0.out h4 hDX0.out
    have RY : Hid (wr.rangeAt (D + 1) 0 (bv ys)) := range_below RY0.out h4 hDY0.out
    have hDX : Hid (D < wr.heap.size) := Nat.lt_of_lt_of_le hDX0.out h4.size
    have hDY : Hid (D + 1 < wr.heap.size) := Nat.lt_of_lt_of_le hDY0.out h4.size
    clear h4 hsh
    by_cases hlt : k < m
    · obtain ⟨za, hza⟩ : ∃ z, bt xs k = z := ⟨_, rfl⟩
      obtain ⟨zb, hzb⟩ : ∃ z, bt ys k = z := ⟨_, rfl⟩
      have HBA : Hid (∀ W : World, Calls Tryd.prog 60 #[.agg (bv xs).toArray, .int .i64 (k : Int)] W fun e w' => e = .returned (.int .u8 (za : Int)) ∧ Below W.heap.size W w') := fun W => by rw [← hza]; exact rBit_any xs HX.out k (by omega) W
      have HBB : Hid (∀ W : World, Calls Tryd.prog 60 #[.agg (bv ys).toArray, .int .i64 (k : Int)] W fun e w' => e = .returned (.int .u8 (zb : Int)) ∧ Below W.heap.size W w') := fun W => by rw [← hzb]; exact rBit_any ys HY.out k (by omega) W
      have HEQ : Hid (bt xs k = za ∧ bt ys k = zb) := ⟨hza, hzb⟩
      clear hza hzb
      go_wp2_with fail
      refine RU.wp_rgn' [] (cmr1f xs ys k m za zb) (fun _ => 0) (gΩ wr) (by kernel_rfl) (by kernel_rfl) (show Below wr.heap.size wr _ from (Below.refl _ _).drew) ?_ ?_
      · refine ⟨?_, ?_, ?_, ?_, ?_, ?_, ?_, ?_, ?_, ?_, ?_, ?_, trivial⟩
        · refine RU.ObT.pure rfl rfl rfl (fun a V hf hp ev he hc W => ?_)
          have q7 : ev (.tmp 7) = .int .i64 (k : Int) := (he (.tmp 7)).trans (hf 7 rfl)
          simp only [List.getElem_toArray, List.getElem_cons_succ, List.getElem_cons_zero, execOp, Option.map_some, Option.map_none]; rw [q7]
          first | (go_simp; done) | (go_simp; rfl) | rfl
        · refine RU.ObT.pure rfl rfl rfl (fun a V hf hp ev he hc W => ?_)
          have q2 : ev (.tmp 2) = .int .i64 (m : Int) := (he (.tmp 2)).trans (hf 2 rfl)
          simp only [List.getElem_toArray, List.getElem_cons_succ, List.getElem_cons_zero, execOp, Option.map_some, Option.map_none]; rw [q2]
          first | (go_simp; done) | (go_simp; rfl) | rfl
        · refine RU.ObT.pure rfl rfl rfl (fun a V hf hp ev he hc W => ?_)
          have q8 : ev (.tmp 8) = .int .i64 (k : Int) := (he (.tmp 8)).trans (hp 0 8 rfl)
          have q9 : ev (.tmp 9) = .int .i64 (m : Int) := (he (.tmp 9)).trans (hp 1 9 rfl)
          simp only [List.getElem_toArray, List.getElem_cons_succ, List.getElem_cons_zero, execOp, Option.map_some, Option.map_none]; rw [q8, q9]
          have hkm : (k : Int) < (m : Int) := by omega
          have hkm2 : k < m := by omega
          first | (go_simp; done) | (go_simp; rfl) | rfl
        · refine RU.ObT.pure rfl rfl rfl (fun a V hf hp ev he hc W => ?_)
          have q10 : ev (.tmp 10) = .bool true := (he (.tmp 10)).trans (hp 2 10 rfl)
          simp only [List.getElem_toArray, List.getElem_cons_succ, List.getElem_cons_zero, execOp, Option.map_some, Option.map_none]; rw [q10]
          first | (go_simp; done) | (go_simp; rfl) | rfl
        · refine RU.ObT.silent rfl (fun a W k0 V hO hf hp hk => ?_)
          have hg : a.eval (.tmp 11) = .bool true := hp 3 11 rfl
          have hO' : Below wr.heap.size wr W := hO
          have q3 : a.eval (.tmp 3) = .pointer (some ⟨D, 0, none⟩) := hf 3 rfl
          exact RU.ob_op rfl (RU.wanted_some rfl rfl rfl hg) (wp_load_mid 31 (.tmp 3) rfl (D) (0) q3 (bv xs) _ (range_below RX.out hO' hDX.out) Tryd.underlying31 rfl (size_l32 HX.out) ⟨rfl, hO⟩)
        · refine RU.ObT.silent rfl (fun a W k0 V hO hf hp hk => ?_)
          have hg : a.eval (.tmp 11) = .bool true := hp 3 11 rfl
          refine RU.ob_val rfl (RU.wanted_some rfl rfl rfl hg) (fun ev he hc => ?_) ⟨rfl, hO⟩
          have q7 : ev (.tmp 7) = .int .i64 (k : Int) := (he (.tmp 7)).trans (hf 7 rfl)
          simp only [List.getElem_toArray, List.getElem_cons_succ, List.getElem_cons_zero, execOp, Option.map_some, Option.map_none]; rw [q7]
          first | (go_simp; done) | (go_simp; rfl) | rfl
        · refine RU.ObT.silent rfl (fun a W k0 V hO hf hp hk => ?_)
          have hg : a.eval (.tmp 11) = .bool true := hp 3 11 rfl
          have hO' : Below wr.heap.size wr W := hO
          have e12 : a.eval (.tmp 12) = .agg (bv xs).toArray := hp 4 12 rfl
          have e13 : a.eval (.tmp 13) = .int .i64 (k : Int) := hp 5 13 rfl
          refine RU.ob_call (g := 60) (args := #[.agg (bv xs).toArray, .int .i64 (k : Int)]) rfl (RU.wanted_some rfl rfl rfl hg) (fun ev he hc => ?_) ((HBA.out W).mono ?_)
          · have h12 := (he (.tmp 12)).trans e12
            have h13 := (he (.tmp 13)).trans e13
            have hfn := he (.func 60)
            simp only [List.getElem_toArray, List.getElem_cons_succ, List.getElem_cons_zero, execOp, Option.map_some, Option.map_none]
            simp only [resolve, invoke, Sem.run_bind, Sem.run_pure, Result.andThen_ok, List.map_toArray, List.map_cons, List.map_nil, h12, h13, hfn, Act.eval, hc]
            rfl
          · rintro e' W2 ⟨rfl, hb2⟩
            exact ⟨_, rfl, rfl, (hO'.trans (hb2.mono hO'.size) : Below wr.heap.size wr W2)⟩
        · refine RU.ObT.silent rfl (fun a W k0 V hO hf hp hk => ?_)
          have hg : a.eval (.tmp 11) = .bool true := hp 3 11 rfl
          have hO' : Below wr.heap.size wr W := hO
          have q4 : a.eval (.tmp 4) = .pointer (some ⟨D + 1, 0, none⟩) := hf 4 rfl
          exact RU.ob_op rfl (RU.wanted_some rfl rfl rfl hg) (wp_load_mid 31 (.tmp 4) rfl (D + 1) (0) q4 (bv ys) _ (range_below RY.out hO' hDY.out) Tryd.underlying31 rfl (size_l32 HY.out) ⟨rfl, hO⟩)
        · refine RU.ObT.silent rfl (fun a W k0 V hO hf hp hk => ?_)
          have hg : a.eval (.tmp 11) = .bool true := hp 3 11 rfl
          refine RU.ob_val rfl (RU.wanted_some rfl rfl rfl hg) (fun ev he hc => ?_) ⟨rfl, hO⟩
          have q7 : ev (.tmp 7) = .int .i64 (k : Int) := (he (.tmp 7)).trans (hf 7 rfl)
          simp only [List.getElem_toArray, List.getElem_cons_succ, List.getElem_cons_zero, execOp, Option.map_some, Option.map_none]; rw [q7]
          first | (go_simp; done) | (go_simp; rfl) | rfl
        · refine RU.ObT.silent rfl (fun a W k0 V hO hf hp hk => ?_)
          have hg : a.eval (.tmp 11) = .bool true := hp 3 11 rfl
          have hO' : Below wr.heap.size wr W := hO
          have e15 : a.eval (.tmp 15) = .agg (bv ys).toArray := hp 7 15 rfl
          have e16 : a.eval (.tmp 16) = .int .i64 (k : Int) := hp 8 16 rfl
          refine RU.ob_call (g := 60) (args := #[.agg (bv ys).toArray, .int .i64 (k : Int)]) rfl (RU.wanted_some rfl rfl rfl hg) (fun ev he hc => ?_) ((HBB.out W).mono ?_)
          · have h15 := (he (.tmp 15)).trans e15
            have h16 := (he (.tmp 16)).trans e16
            have hfn := he (.func 60)
            simp only [List.getElem_toArray, List.getElem_cons_succ, List.getElem_cons_zero, execOp, Option.map_some, Option.map_none]
            simp only [resolve, invoke, Sem.run_bind, Sem.run_pure, Result.andThen_ok, List.map_toArray, List.map_cons, List.map_nil, h15, h16, hfn, Act.eval, hc]
            rfl
          · rintro e' W2 ⟨rfl, hb2⟩
            exact ⟨_, rfl, rfl, (hO'.trans (hb2.mono hO'.size) : Below wr.heap.size wr W2)⟩
        · refine RU.ObT.silent rfl (fun a W k0 V hO hf hp hk => ?_)
          have hg : a.eval (.tmp 11) = .bool true := hp 3 11 rfl
          refine RU.ob_val rfl (RU.wanted_some rfl rfl rfl hg) (fun ev he hc => ?_) ⟨rfl, hO⟩
          have q14 : ev (.tmp 14) = .int .u8 (za : Int) := (he (.tmp 14)).trans (hp 6 14 rfl)
          have q17 : ev (.tmp 17) = .int .u8 (zb : Int) := (he (.tmp 17)).trans (hp 9 17 rfl)
          simp only [List.getElem_toArray, List.getElem_cons_succ, List.getElem_cons_zero, execOp, Option.map_some, Option.map_none]; rw [q14, q17]
          first | (go_simp; done) | (go_simp; rfl) | rfl
        · refine RU.ObT.pure rfl rfl rfl (fun a V hf hp ev he hc W => ?_)
          have q11 : ev (.tmp 11) = .bool true := (he (.tmp 11)).trans (hp 3 11 rfl)
          have q18 : ev (.tmp 18) = .bool (decide ((za : Int) = (zb : Int))) := (he (.tmp 18)).trans (hp 10 18 rfl)
          simp only [List.getElem_toArray, List.getElem_cons_succ, List.getElem_cons_zero, execOp, Option.map_some, Option.map_none]; rw [q11, q18]
          try simp only [hc]
          first | (go_simp; done) | (go_simp; rfl) | rfl
      intro W1 VW1 hOW1
      have BW1 : Hid (Below wr.heap.size wr W1) := hOW1
      clear hOW1
      simp only [RU.lay, RU.val, RU.at', cmr1f, Act.put]
      simp only [List.setIfInBounds_toArray, List.set_cons_succ, List.set_cons_zero]
      by_cases he : za = zb
      · subst he
        go_wp2_with fail
        exact ⟨⟨k + 1, by omega, by go_num, fun i hi => by
          rcases Nat.lt_succ_iff_lt_or_eq.1 hi with q | rfl
          · exact HSH.out i q
          · rw [HEQ.out.1, HEQ.out.2], H4.out.trans (BW1.out.mono H4.out.size)⟩, by simp [intOf]; omega⟩
      · have he' : ¬ (za : Int) = (zb : Int) := by omega
        have E : Hid (cm xs ys m = k) := cm_uniq (by omega) HSH.out (fun _ => by rw [HEQ.out.1, HEQ.out.2]; exact he)
        go_wp2_with fail
        go_ret
        exact ⟨by rw [E.out]; rfl, BU.out.trans ((H4.out.trans (BW1.out.mono H4.out.size)).mono BU.out.size)⟩
    · obtain rfl : k = m := by omega
      have E : Hid (cm xs ys k = k) := cm_uniq (Nat.le_refl _) HSH.out (fun h => absurd h (Nat.lt_irrefl _))
      go_wp2_with fail
      refine RU.wp_rgn' [] (cmr2f xs ys k k 0 0) (fun _ => 0) (gΩ wr) (by kernel_rfl) (by kernel_rfl) (show Below wr.heap.size wr _ from (Below.refl _ _).drew) ?_ ?_
      · refine ⟨?_, ?_, ?_, ?_, ?_, ?_, ?_, ?_, ?_, ?_, ?_, ?_, trivial⟩
        · refine RU.ObT.pure rfl rfl rfl (fun a V hf hp ev he hc W => ?_)
          have q7 : ev (.tmp 7) = .int .i64 (k : Int) := (he (.tmp 7)).trans (hf 7 rfl)
          simp only [List.getElem_toArray, List.getElem_cons_succ, List.getElem_cons_zero, execOp, Option.map_some, Option.map_none]; rw [q7]
          first | (go_simp; done) | (go_simp; rfl) | rfl
        · refine RU.ObT.pure rfl rfl rfl (fun a V hf hp ev he hc W => ?_)
          have q2 : ev (.tmp 2) = .int .i64 (k : Int) := (he (.tmp 2)).trans (hf 2 rfl)
          simp only [List.getElem_toArray, List.getElem_cons_succ, List.getElem_cons_zero, execOp, Option.map_some, Option.map_none]; rw [q2]
          first | (go_simp; done) | (go_simp; rfl) | rfl
        · refine RU.ObT.pure rfl rfl rfl (fun a V hf hp ev he hc W => ?_)
          have q8 : ev (.tmp 8) = .int .i64 (k : Int) := (he (.tmp 8)).trans (hp 0 8 rfl)
          have q9 : ev (.tmp 9) = .int .i64 (k : Int) := (he (.tmp 9)).trans (hp 1 9 rfl)
          simp only [List.getElem_toArray, List.getElem_cons_succ, List.getElem_cons_zero, execOp, Option.map_some, Option.map_none]; rw [q8, q9]
          have hkm : ¬ (k : Int) < (k : Int) := by omega
          have hkm2 : ¬ k < k := by omega
          first | (go_simp; done) | (go_simp; rfl) | rfl
        · refine RU.ObT.pure rfl rfl rfl (fun a V hf hp ev he hc W => ?_)
          have q10 : ev (.tmp 10) = .bool false := (he (.tmp 10)).trans (hp 2 10 rfl)
          simp only [List.getElem_toArray, List.getElem_cons_succ, List.getElem_cons_zero, execOp, Option.map_some, Option.map_none]; rw [q10]
          first | (go_simp; done) | (go_simp; rfl) | rfl
        · exact RU.ObT.skip (g := 3) (d := 11) rfl rfl rfl rfl rfl rfl (fun U h => by cases h) rfl
        · exact RU.ObT.skip (g := 3) (d := 11) rfl rfl rfl rfl rfl rfl (fun U h => by cases h) rfl
        · exact RU.ObT.skip (g := 3) (d := 11) rfl rfl rfl rfl rfl rfl (fun U h => by cases h) rfl
        · exact RU.ObT.skip (g := 3) (d := 11) rfl rfl rfl rfl rfl rfl (fun U h => by cases h) rfl
        · exact RU.ObT.skip (g := 3) (d := 11) rfl rfl rfl rfl rfl rfl (fun U h => by cases h) rfl
        · exact RU.ObT.skip (g := 3) (d := 11) rfl rfl rfl rfl rfl rfl (fun U h => by cases h) rfl
        · exact RU.ObT.skip (g := 3) (d := 11) rfl rfl rfl rfl rfl rfl (fun U h => by cases h) rfl
        · refine RU.ObT.pure rfl rfl rfl (fun a V hf hp ev he hc W => ?_)
          have q11 : ev (.tmp 11) = .bool false := (he (.tmp 11)).trans (hp 3 11 rfl)
          have q18 : ev (.tmp 18) = undef := (he (.tmp 18)).trans (hp 10 18 rfl)
          simp only [List.getElem_toArray, List.getElem_cons_succ, List.getElem_cons_zero, execOp, Option.map_some, Option.map_none]; rw [q11, q18]
          try simp only [hc]
          first | (go_simp; done) | (go_simp; rfl) | rfl
      intro W1 VW1 hOW1
      have BW1 : Hid (Below wr.heap.size wr W1) := hOW1
      clear hOW1
      simp only [RU.lay, RU.val, RU.at', cmr2f, Act.put]
      simp only [List.setIfInBounds_toArray, List.set_cons_succ, List.set_cons_zero]
      go_wp2_with fail
      go_ret
      exact ⟨by rw [E.out]; rfl, BU.out.trans ((H4.out.trans (BW1.out.mono H4.out.size)).mono BU.out.size)⟩
end Go.Proofs.YtpojalbpekbfdaaDoor
