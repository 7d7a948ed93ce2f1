/- Rows of nodes of a call's own: made, appended to; leaves that come in. -/
import Derived.Test.YtpojalbpekbfdaaDoorTrcC
import Derived.Great.BuildSlice
namespace Go.Proofs.YtpojalbpekbfdaaDoor
open Go Go.RowKit
set_option linter.unusedSimpArgs false
set_option linter.unusedVariables false
set_option maxRecDepth 100000

/-- Nodes in a row of the call's own, from the block B on. -/
def NO (B : Nat) (w : World) (v : Value) (l : List Nd) : Prop := w.ownsRow B 44 65 v l.length (ncs l) ∧ (∀ x ∈ l, x.Ok) ∧ B ≤ w.heap.size
theorem NO.ns {B : Nat} {w : World} {v : Value} {l : List Nd} (h : NO B w v l) : NS w v l := ns_row h.2.1 h.1
theorem NO.alloc {B : Nat} {w : World} {v : Value} {l : List Nd} (h : NO B w v l) (o : Obj) : NO B (w.alloc o) v l := ⟨h.1.alloc o, h.2.1, by have := h.2.2; simp; omega⟩
theorem NO.nil (w : World) : NO w.heap.size w (.slice none 0 0) [] := ⟨World.ownsRow_nil _ _ _ _, (fun x hx => by cases hx), Nat.le_refl _⟩
theorem NO.nil' {B : Nat} {w : World} (hB : B ≤ w.heap.size) : NO B w (.slice none 0 0) [] := ⟨World.ownsRow_nil _ _ _ _, (fun x hx => by cases hx), hB⟩
theorem own_keep {B : Nat} {e : TypeId} {s n : Nat} {xs : List Value} {w w' : World} {v : Value} (h : w.ownsRow B e s v n xs) (hb : Below w.heap.size w w') : w'.ownsRow B e s v n xs :=
  h.kept (row := none) ⟨hb.os, hb.tape, hb.output, hb.size, fun k hk _ => hb.block k hk⟩ (by
    cases hq : v.ownBlock with
    | none => exact .inl rfl
    | some b => exact .inr (by simp))
theorem NO.below {B : Nat} {w w' : World} {v : Value} {l : List Nd} (h : NO B w v l) (hb : Below w.heap.size w w') : NO B w' v l := ⟨own_keep h.1 hb, h.2.1, Nat.le_trans h.2.2 hb.size⟩
theorem ncs_app (l m : List Nd) : ncs (l ++ m) = ncs l ++ ncs m := by simp [ncs]
/-- Nodes behind nodes of the call's own. -/
theorem app_own {B : Nat} {w : World} {v u : Value} {l m : List Nd} (h : NO B w v l) (hkm : ∀ x ∈ m, x.Ok) (hu : NS w u m) (hlen : l.length + m.length ≤ 3000000000000) :
    ∃ v' w', (Builtin.append_ #[24, 24] 24 #[v, u]).run Tryd.prog w = .ok v' w' ∧ NO B w' v' (l ++ m) ∧ Below B w w' ∧ w.grownBy w' v.ownBlock := by
  obtain ⟨i, z, hi, hz, hs, hb, hzs⟩ := info_nd
  obtain ⟨ho, hkl, hB⟩ := h
  have hkk : ∀ x ∈ l ++ m, x.Ok := fun x hx => by
    rcases List.mem_append.1 hx with q | q
    · exact hkl x q
    · exact hkm x q
  have hbytes : ((l.length + m.length) + (l.length + m.length) / 4 + 192) * 72 ≤ 281474976710656 := Nat.le_trans (Nat.mul_le_mul_right 72 (show (l.length + m.length) + (l.length + m.length) / 4 + 192 ≤ 3750000000192 by omega)) (by decide)
  have fin : ∀ w', w.grownBy w' v.ownBlock → Below B w w' := fun w' g => (Below.refl B w).grown g hB (fun k e => (ho.lt k e).1)
  obtain ⟨ad, cap, rfl, hc, ⟨rfl, hn⟩ | ⟨b, o, rfl, hlt, hm⟩⟩ := hu
  · cases ad with
    | none =>
      obtain rfl := hn rfl
      refine ⟨_, _, run_append_owned_none (P := Tryd.prog) w B _ _ _ i 65 Tryd.underlying24 hi _ _ _ ho, ?_, Below.refl _ _, ⟨rfl, rfl, rfl, Nat.le_refl _, fun _ _ _ => rfl⟩⟩
      rw [List.append_nil]; exact ⟨ho, hkl, hB⟩
    | some A =>
      obtain ⟨v', w', hr, h2, h3, -⟩ := run_append_own_wide (P := Tryd.prog) w B 24 24 44 i z 65 72 Tryd.underlying24 hi hz hs hb hzs (by decide) _ _ _ ho A 0 cap [] rfl (fun j u hu => by simp at hu) (fun _ h => by cases h) (by unfold maxLen; simp at hlen ⊢; omega) (by simpa using hbytes) hB
      rw [Nat.add_zero, List.append_nil] at h2
      refine ⟨v', w', hr, ?_, fin w' h3, h3⟩
      rw [List.append_nil]
      exact ⟨h2, hkl, Nat.le_trans hB h3.size⟩
  · obtain ⟨v', w', hr, h2, h3, -⟩ := run_append_own_wide (P := Tryd.prog) w B 24 24 44 i z 65 72 Tryd.underlying24 hi hz hs hb hzs (by decide) _ _ _ ho ⟨b, o, none⟩ m.length cap (ncs m) (ncs_length hkm) (fun j u hu => by rw [addr_add0]; exact ncs_at hkm hm j u hu) (ncs_one m) (by unfold maxLen; omega) hbytes hB
    refine ⟨v', w', hr, ⟨?_, hkk, Nat.le_trans hB h3.size⟩, fin w' h3, h3⟩
    rw [List.length_append, ncs_app]; exact h2
theorem make_own (w : World) (n : Nat) (hn : n ≤ 3000000000000) :
    ∃ w', (Instr.makeSlice 24 (.int .i64 0) (.int .i64 (n : Int))).run Tryd.prog w = .ok (.slice (some ⟨w.heap.size, 0, none⟩) 0 n) w' ∧ NO w.heap.size w' (.slice (some ⟨w.heap.size, 0, none⟩) 0 n) [] ∧ Below w.heap.size w w' := by
  obtain ⟨i, z, hi, hz, hs, hb, hzs⟩ := info_nd
  obtain ⟨w', hr, h1, h2⟩ := run_make_own (P := Tryd.prog) w w.heap.size 24 44 i z 65 Tryd.underlying24 hi hz hs .i64 .i64 n (by rw [hb]; omega) (by unfold maxLen; omega) (Nat.le_refl _)
  exact ⟨w', hr, ⟨h1, (fun x hx => by cases hx), h2.size⟩, (Below.refl _ w).grown h2 (Nat.le_refl _) (fun k e => by cases e)⟩
theorem zero_cells_nd : ∃ i, Tryd.prog.info? 44 = some i ∧ i.zero = some (.agg (nc ndz).toArray) ∧ i.size = 65 := by
  have h1 : (Tryd.prog.info? 44).map (·.size) = some 65 := by kernel_rfl
  have h2 : (Tryd.prog.info? 44).bind (·.zero) = some (.agg (nc ndz).toArray) := by kernel_rfl
  cases hq : Tryd.prog.info? 44 with
  | none => rw [hq] at h1; cases h1
  | some i => rw [hq] at h1 h2; exact ⟨i, rfl, h2, Option.some.inj h1⟩
theorem run_onen (w : World) {x : Nd} (hx : x.Ok) : (Instr.buildSlice 24 1 #[(0, .agg (nc x).toArray)]).run Tryd.prog w = .ok (.slice (some ⟨w.heap.size, 0, none⟩) 1 1) (w.alloc (.cells (nc x).toArray 44)) := by
  obtain ⟨i, hi, hz, hs⟩ := zero_cells_nd
  have h1 := nc_length hx
  have hb : i.bytes = 72 := by
    obtain ⟨i', z', hi', -, -, hb, -⟩ := info_nd
    rw [hi] at hi'; cases hi'; exact hb
  refine run_buildSlice w 24 44 1 _ (nc x).toArray i _ Tryd.underlying24 hi hz (by omega) (by omega) ?_
  have := _root_.Go.Great.fill_whole (s := i.size) (by omega) [.agg (nc x).toArray] ((Array.range (1 * i.size)).map ((Value.agg (nc ndz).toArray).cells[· % (Value.agg (nc ndz).toArray).cells.size]!)) (by intro v hv; simp at hv; subst hv; simp [Value.cells, hs, h1]) (by simp)
  simpa [Value.cells] using this
theorem wpList_onen {ops : Array Oper} {rest : List Oper} {o : Oper} {a : Act} {w : World} {Q : Exit → Act → World → Prop} (hg : o.guard = none) (y : Operand) (ho : o.op = .buildSlice 24 1 #[(0, y)]) (x : Nd) (hx : x.Ok) (hy : a.eval y = .agg (nc x).toArray)
    (h : wpList Tryd.prog ops Q rest (a.put o.dst (.slice (some ⟨w.heap.size, 0, none⟩) 1 1)) (w.alloc (.cells (nc x).toArray 44))) : wpList Tryd.prog ops Q (o :: rest) a w := by
  refine wpList_plain hg fun K hK => ?_
  have hr := run_onen w hx
  unfold Oper.wp
  simp only [execOp, ho, List.map_toArray, List.map_cons, List.map_nil, hy, Sem.run_bind, hr, Result.andThen_ok, Sem.run_pure]
  exact hK _ _ h
theorem ns_one (w : World) (x : Nd) (t : TypeId) : NS (w.alloc (.cells (nc x).toArray t)) (.slice (some ⟨w.heap.size, 0, none⟩) 1 1) [x] :=
  ⟨_, 1, rfl, Nat.le_refl _, .inr ⟨w.heap.size, 0, rfl, by simp, fun i z hi => by
    cases i with
    | zero => simp at hi; subst hi; exact range_alloc w (nc x) t (0, 0)
    | succ i => simp at hi⟩⟩
/-- append of nodes onto a row of the call's own, within a walk. -/
theorem wp_appn {ops : Array Oper} {rest : List Oper} {o : Oper} {a : Act} {w : World} {Q : Exit → Act → World → Prop} (hgd : o.guard = none) (s x : Operand) (ho : o.op = .call { callee := .builtin .append, args := #[s, x], argTypes := #[24, 24] }) (hT : o.type = 24)
    (B : Nat) (v u : Value) (l m : List Nd) (hs : a.eval s = v) (hx : a.eval x = u) (h0 : NO B w v l) (hkm : ∀ x ∈ m, x.Ok) (hu : NS w u m) (hlen : l.length + m.length ≤ 3000000000000)
    (h : ∀ v' w', NO B w' v' (l ++ m) → Below B w w' → wpList Tryd.prog ops Q rest (a.put o.dst v') w') : wpList Tryd.prog ops Q (o :: rest) a w := by
  obtain ⟨v', w', hr, h1, h2, -⟩ := app_own h0 hkm hu hlen
  exact wp_app_run hgd s x 24 ho 24 hT v u v' w' hs hx hr (h v' w' h1 h2)
theorem wp_appg {ops : Array Oper} {rest : List Oper} {o : Oper} {a : Act} {w : World} {Q : Exit → Act → World → Prop} (hgd : o.guard = none) (s x : Operand) (ho : o.op = .call { callee := .builtin .append, args := #[s, x], argTypes := #[24, 24] }) (hT : o.type = 24)
    (B : Nat) (v u : Value) (l m : List Nd) (hs : a.eval s = v) (hx : a.eval x = u) (h0 : NO B w v l) (hkm : ∀ x ∈ m, x.Ok) (hu : NS w u m) (hlen : l.length + m.length ≤ 3000000000000)
    (h : ∀ v' w', NO B w' v' (l ++ m) → Below B w w' → w.grownBy w' v.ownBlock → wpList Tryd.prog ops Q rest (a.put o.dst v') w') : wpList Tryd.prog ops Q (o :: rest) a w := by
  obtain ⟨v', w', hr, h1, h2, h3⟩ := app_own h0 hkm hu hlen
  exact wp_app_run hgd s x 24 ho 24 hT v u v' w' hs hx hr (h v' w' h1 h2 h3)
/-- A leaf. -/
structure Lf where
  p : List Int
  q : List Int
structure Lf.Ok (x : Lf) : Prop where
  p : L32 x.p
  q : L32 x.q
def lfc (x : Lf) : List Value := lf x.p x.q
theorem lfc_length {x : Lf} (h : x.Ok) : (lfc x).length = 64 := lf_length h.p h.q
/-- A leaf's node. -/
def ln (x : Lf) : Nd := lnd x.p x.q
theorem ln_ok {x : Lf} (h : x.Ok) : (ln x).Ok := ⟨h.p, hs_l32 _⟩
theorem ln_gd {x : Lf} (h : x.Ok) : gd (ln x) = true := gd_iff.2 ⟨by show (0 : Int) ≤ 256; omega, by show (256 : Int) ≤ 256; omega, fb_full h.p⟩
/-- A slice that holds these leaves. -/
def LS (w : World) (v : Value) (l : List Lf) : Prop := ∃ ad cap, v = .slice ad l.length cap ∧ l.length ≤ cap ∧ ((l = [] ∧ (ad = none → cap = 0)) ∨ ∃ b o, ad = some ⟨b, o, none⟩ ∧ b < w.heap.size ∧ ∀ (i : Nat) (x : Lf), l[i]? = some x → w.rangeAt b (o + i * 64) (lfc x))
theorem LS.below {w w' : World} {v : Value} {l : List Lf} (h : LS w v l) (hb : Below w.heap.size w w') : LS w' v l := by
  obtain ⟨ad, cap, rfl, hc, h⟩ := h
  refine ⟨ad, cap, rfl, hc, ?_⟩
  rcases h with h | ⟨b, o, rfl, hlt, hm⟩
  · exact .inl h
  · exact .inr ⟨b, o, rfl, Nat.lt_of_lt_of_le hlt hb.size, fun i x hi => range_below (hm i x hi) hb hlt⟩
def lfz : Lf := ⟨z32, z32⟩
theorem lfz_ok : lfz.Ok := ⟨z32_l32, z32_l32⟩
theorem zero_lf (w : World) : (zeroValue 46).run Tryd.prog w = .ok (.agg (lfc lfz).toArray) w := by kernel_rfl
theorem size_lf' : (Tryd.prog.info? 46).map (·.size) = some 64 := by kernel_rfl
theorem size_lfc {x : Lf} (h : x.Ok) : (Tryd.prog.info? 46).map (·.size) = some (lfc x).length := by rw [lfc_length h]; exact size_lf'
theorem lfc_one (x : Lf) : (lfc x).toArray.all (·.oneCell') = true := all_oneCell_toArray (fun u hu => by
  unfold lfc lf at hu
  rcases List.mem_append.1 hu with hu | hu
  · exact bv_one _ u hu
  · exact bv_one _ u hu)
end Go.Proofs.YtpojalbpekbfdaaDoor
/- Leaves that come in. -/
namespace Go.Proofs.YtpojalbpekbfdaaDoor
open Go Go.RowKit
set_option linter.unusedSimpArgs false
set_option linter.unusedVariables false

theorem itemL {H : Type} {enc : TypeId × Value → H} {W : World} {fuel : Nat} {cs : List Value} {y : DataW H × List MemPlace} (h : DataW.trod enc Tryd.prog W 0 (fun _ => true) true fuel 46 cs = some y) :
    ∃ x : Lf, cs = lfc x ∧ x.Ok := by
  obtain ⟨xs, n, _, _, hl, hlen, hx⟩ := DataW.trod_struct Tryd.underlying46 h
  rw [show Tryd.prog.cellsOf 46 = 64 by kernel_rfl] at hl
  have g : ∀ i, i < 2 → ∃ y, xs[i]? = some y := fun i hi => ⟨xs[i]'(by rw [hlen]; exact hi), List.getElem?_eq_getElem _⟩
  obtain ⟨y1, e1⟩ := g 0 (by omega)
  obtain ⟨y2, e2⟩ := g 1 (by omega)
  have k1 : DataW.trod enc Tryd.prog W 0 (fun _ => true) true n 31 ((cs.drop 0).take (Tryd.prog.cellsOf 31)) = some y1 := (hx 0 _ rfl).trans e1
  have k2 : DataW.trod enc Tryd.prog W 0 (fun _ => true) true n 31 ((cs.drop 32).take (Tryd.prog.cellsOf 31)) = some y2 := (hx 1 _ rfl).trans e2
  obtain ⟨x1, c1, l1, b1⟩ := open_arr Tryd.underlying31 (by kernel_rfl) k1
  obtain ⟨x2, c2, l2, b2⟩ := open_arr Tryd.underlying31 (by kernel_rfl) k2
  have q32 : Tryd.prog.cellsOf 31 = 32 := by kernel_rfl
  have d1 : (cs.drop 0).take 32 = bv x1 := by rw [q32] at c1; exact c1
  have d2 : (cs.drop 32).take 32 = bv x2 := by rw [q32] at c2; exact c2
  refine ⟨⟨x1, x2⟩, ?_, ⟨⟨l1, b1⟩, ⟨l2, b2⟩⟩⟩
  have s0 := taken d1
  rw [List.drop_zero, Nat.zero_add] at s0
  rw [s0, taken d2, List.drop_of_length_le (by omega)]
  simp [lfc, lf]
theorem open_leaves {H : Type} {enc : TypeId × Value → H} {W : World} {a : Option Addr} {l c : Nat} {d : DataW H} {p : List MemPlace}
    (h : DataW.Trod enc Tryd.prog W 0 (fun _ => true) true 22 (.slice a l c) d p) (hw : ∀ n ∈ d.weights Tryd.prog 22, n ≤ reachBytes) :
    ∃ m : List Lf, LS W (.slice a l c) m ∧ (∀ x ∈ m, x.Ok) ∧ m.length ≤ 2500000000000 := by
  obtain ⟨fuel, hf⟩ := h
  rcases DataW.trod_slice Tryd.underlying22 hf with ⟨hcs, hx⟩ | ⟨a', l', c', elems, rest, n, _, hcs, hx, hb, hl, hm, hlen, hel, hsp, _⟩
  · simp [Value.cells] at hcs
    obtain ⟨rfl, rfl, rfl⟩ := hcs
    exact ⟨[], ⟨none, 0, rfl, Nat.le_refl _, .inl ⟨rfl, fun _ => rfl⟩⟩, (fun x hx => by cases hx), by simp⟩
  · simp [Value.cells] at hcs
    obtain ⟨rfl, rfl, rfl⟩ := hcs
    have hce : Tryd.prog.cellsOf 46 = 64 := by kernel_rfl
    have hd : d = .slice (elems.map (·.1)) (rest.map (·.1)) := congrArg Prod.fst hx
    have hlen64 : l * 64 ≤ 140737488351232 := by
      have := hw (((elems.map (·.1)).length + (rest.map (·.1)).length) * Tryd.prog.bytesOf 46) (by
        rw [hd]
        simp only [DataW.weights, Tryd.underlying22]
        exact List.mem_cons_self)
      rw [show Tryd.prog.bytesOf 46 = 64 by kernel_rfl, List.length_map, List.length_map] at this
      have hr : reachBytes = 140737488351232 := rfl
      omega
    have each : ∀ i, ∃ o : Lf, i < l → (∀ j, j < 64 → W.cell? ((a'.add (i * 64)).add j) = (lfc o)[j]?) ∧ o.Ok := by
      intro i
      by_cases hi : i < l
      · have he := hel i hi
        have hge : elems[i]? = some elems[i] := List.getElem?_eq_getElem (by omega)
        rw [hge, hce, Option.bind_eq_some_iff] at he
        obtain ⟨cs, h1, h2⟩ := he
        obtain ⟨o, rfl, hok⟩ := itemL h2
        exact ⟨o, fun _ => ⟨(World.cells?_some h1).2.2, hok⟩⟩
      · exact ⟨lfz, fun h => absurd h hi⟩
    obtain ⟨f, hf⟩ := Classical.axiomOfChoice each
    have hml : ((List.range l).map f).length = l := by simp
    refine ⟨(List.range l).map f, ⟨some a', c, by rw [hml], by rw [hml]; exact hl, ?_⟩, fun x hx => ?_, by rw [hml]; omega⟩
    · by_cases h0 : l = 0
      · exact .inl ⟨by subst h0; rfl, fun h => by cases h⟩
      · have hc0 := (hf 0 (by omega)).1 0 (by omega)
        obtain ⟨u0, hu0⟩ : ∃ u, (lfc (f 0))[0]? = some u := ⟨_, List.getElem?_eq_getElem (by rw [lfc_length (hf 0 (by omega)).2]; omega)⟩
        have hc1 := hc0.trans hu0
        obtain ⟨hs, hlt⟩ := addr_of_cell hc1
        obtain ⟨b, off, sp⟩ := a'
        have hs' : sp = none := by
          cases sp with
          | none => rfl
          | some q => simp [Addr.add] at hs
        subst hs'
        refine .inr ⟨b, off, rfl, by simpa [Addr.add] using hlt, fun i x hi j u hu => ?_⟩
        rw [List.getElem?_map] at hi
        obtain ⟨q, hq, rfl⟩ := Option.map_eq_some_iff.1 hi
        obtain ⟨hil, rfl⟩ := List.getElem?_eq_some_iff.1 hq
        rw [List.getElem_range] at hu
        have hil' : i < l := by simpa using hil
        have hj : j < 64 := by have := (List.getElem?_eq_some_iff.1 hu).1; rw [lfc_length (hf i hil').2] at this; exact this
        have := (hf i hil').1 j hj
        rw [addr_add0, addr_add0, hu] at this
        exact this
    · obtain ⟨i, hi, rfl⟩ := List.mem_map.1 hx
      exact (hf i (List.mem_range.1 hi)).2
end Go.Proofs.YtpojalbpekbfdaaDoor
/- Leaves that come in, counted by the bulk (the second form). -/
namespace Go.Proofs.YtpojalbpekbfdaaDoor
open Go Go.RowKit
set_option linter.unusedSimpArgs false
set_option linter.unusedVariables false

theorem bulk_one {H : Type} (d : DataW H) : 1 ≤ Rows.uptoBulk d := by
  cases d <;> first | (simp only [Rows.uptoBulk]; omega) | (rename_i l; cases l <;> simp only [Rows.uptoBulk] <;> omega)
theorem bulk_len {H : Type} : ∀ es : List (DataW H), es.length ≤ Rows.uptoBulkAll es
  | [] => Nat.zero_le _
  | d :: r => by
    have h1 := bulk_one d
    have h2 := bulk_len r
    simp only [Rows.uptoBulkAll, List.length_cons]
    omega
theorem open_leavesU {H : Type} {enc : TypeId × Value → H} {W : World} {a : Option Addr} {l c : Nat} {d : DataW H} {p : List MemPlace}
    (h : DataW.Trod enc Tryd.prog W 0 (fun _ => true) true 22 (.slice a l c) d p) (hw : ∀ n ∈ d.weights Tryd.prog 22, n ≤ reachBytes) :
    ∃ m : List Lf, LS W (.slice a l c) m ∧ (∀ x ∈ m, x.Ok) ∧ m.length ≤ Rows.uptoBulk d := by
  obtain ⟨fuel, hf⟩ := h
  rcases DataW.trod_slice Tryd.underlying22 hf with ⟨hcs, hx⟩ | ⟨a', l', c', elems, rest, n, _, hcs, hx, hb, hl, hm, hlen, hel, hsp, _⟩
  · simp [Value.cells] at hcs
    obtain ⟨rfl, rfl, rfl⟩ := hcs
    exact ⟨[], ⟨none, 0, rfl, Nat.le_refl _, .inl ⟨rfl, fun _ => rfl⟩⟩, (fun x hx => by cases hx), Nat.zero_le _⟩
  · simp [Value.cells] at hcs
    obtain ⟨rfl, rfl, rfl⟩ := hcs
    have hce : Tryd.prog.cellsOf 46 = 64 := by kernel_rfl
    have hd : d = .slice (elems.map (·.1)) (rest.map (·.1)) := congrArg Prod.fst hx
    have hlen64 : l * 64 ≤ 140737488351232 := by
      have := hw (((elems.map (·.1)).length + (rest.map (·.1)).length) * Tryd.prog.bytesOf 46) (by
        rw [hd]
        simp only [DataW.weights, Tryd.underlying22]
        exact List.mem_cons_self)
      rw [show Tryd.prog.bytesOf 46 = 64 by kernel_rfl, List.length_map, List.length_map] at this
      have hr : reachBytes = 140737488351232 := rfl
      omega
    have each : ∀ i, ∃ o : Lf, i < l → (∀ j, j < 64 → W.cell? ((a'.add (i * 64)).add j) = (lfc o)[j]?) ∧ o.Ok := by
      intro i
      by_cases hi : i < l
      · have he := hel i hi
        have hge : elems[i]? = some elems[i] := List.getElem?_eq_getElem (by omega)
        rw [hge, hce, Option.bind_eq_some_iff] at he
        obtain ⟨cs, h1, h2⟩ := he
        obtain ⟨o, rfl, hok⟩ := itemL h2
        exact ⟨o, fun _ => ⟨(World.cells?_some h1).2.2, hok⟩⟩
      · exact ⟨lfz, fun h => absurd h hi⟩
    obtain ⟨f, hf⟩ := Classical.axiomOfChoice each
    have hml : ((List.range l).map f).length = l := by simp
    refine ⟨(List.range l).map f, ⟨some a', c, by rw [hml], by rw [hml]; exact hl, ?_⟩, fun x hx => ?_, by rw [hml, hd]; have h9 := bulk_len (elems.map (·.1)); rw [List.length_map] at h9; simp only [Rows.uptoBulk]; omega⟩
    · by_cases h0 : l = 0
      · exact .inl ⟨by subst h0; rfl, fun h => by cases h⟩
      · have hc0 := (hf 0 (by omega)).1 0 (by omega)
        obtain ⟨u0, hu0⟩ : ∃ u, (lfc (f 0))[0]? = some u := ⟨_, List.getElem?_eq_getElem (by rw [lfc_length (hf 0 (by omega)).2]; omega)⟩
        have hc1 := hc0.trans hu0
        obtain ⟨hs, hlt⟩ := addr_of_cell hc1
        obtain ⟨b, off, sp⟩ := a'
        have hs' : sp = none := by
          cases sp with
          | none => rfl
          | some q => simp [Addr.add] at hs
        subst hs'
        refine .inr ⟨b, off, rfl, by simpa [Addr.add] using hlt, fun i x hi j u hu => ?_⟩
        rw [List.getElem?_map] at hi
        obtain ⟨q, hq, rfl⟩ := Option.map_eq_some_iff.1 hi
        obtain ⟨hil, rfl⟩ := List.getElem?_eq_some_iff.1 hq
        rw [List.getElem_range] at hu
        have hil' : i < l := by simpa using hil
        have hj : j < 64 := by have := (List.getElem?_eq_some_iff.1 hu).1; rw [lfc_length (hf i hil').2] at this; exact this
        have := (hf i hil').1 j hj
        rw [addr_add0, addr_add0, hu] at this
        exact this
    · obtain ⟨i, hi, rfl⟩ := List.mem_map.1 hx
      exact (hf i (List.mem_range.1 hi)).2
end Go.Proofs.YtpojalbpekbfdaaDoor
