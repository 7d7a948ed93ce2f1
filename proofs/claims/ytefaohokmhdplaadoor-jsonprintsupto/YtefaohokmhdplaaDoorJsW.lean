/- Package json: one part of an object; objects. -/
import Derived.Test.YtefaohokmhdplaaDoorJsV
namespace Go.Proofs.YtefaohokmhdplaaDoor
open Go Go.RowKit
set_option linter.unusedSimpArgs false
set_option linter.unusedVariables false
set_option maxRecDepth 100000

theorem run_onemem (w : World) (t : ByteArray) {v : Value} (h1 : IsI v) : (Instr.buildSlice 73 1 #[(0, .agg #[.string t, v])]).run Tryd.prog w = .ok (.slice (some ⟨w.heap.size, 0, none⟩) 1 1) (w.alloc (.cells #[.string t, v] 75)) := by
  obtain ⟨i, hi, hz, hs, hb⟩ := info_mem
  refine run_buildSlice w 73 75 1 _ #[.string t, v] i _ Tryd.underlying73 hi hz (by omega) (by omega) ?_
  have := _root_.Go.Great.fill_whole (s := i.size) (by omega) [.agg #[.string t, v]] ((Array.range (1 * i.size)).map ((Value.agg #[.string ⟨#[]⟩, .nilIface]).cells[· % (Value.agg #[.string ⟨#[]⟩, .nilIface]).cells.size]!)) (by intro x hx; simp at hx; subst hx; simp [Value.cells, hs]) (by simp)
  simpa [Value.cells] using this
theorem bs_mem {ops : Array Oper} {rest : List Oper} {o : Oper} {a : Act} {w : World} {Q : Exit → Act → World → Prop} (hg : o.guard = none) (y : Operand) (ho : o.op = .buildSlice 73 1 #[(0, y)]) (t : ByteArray) (v : Value) (h1 : IsI v) (hy : a.eval y = .agg #[.string t, v])
    (h : wpList Tryd.prog ops Q rest (a.put o.dst (.slice (some ⟨w.heap.size, 0, none⟩) 1 1)) (w.alloc (.cells #[.string t, v] 75))) : wpList Tryd.prog ops Q (o :: rest) a w := by
  refine wpList_plain hg fun K hK => ?_
  have hr := run_onemem w t h1
  unfold Oper.wp
  simp only [execOp, ho, List.map_toArray, List.map_cons, List.map_nil, hy, Sem.run_bind, hr, Result.andThen_ok, Sem.run_pure]
  exact hK _ _ h
set_option maxHeartbeats 8000000 in
theorem obj1_walk {W : World} {g B bx bo n : Nat} {sv : Value} {ms : List (ByteArray × Value)} {c : Int} {Pst : ByteArray → Value → World → Prop}
    (hx : W.heap[bx]? = some (.cells #[.pointer (some ⟨g, 0, none⟩)] 91 (0, 0))) (ho : W.heap[bo]? = some (.cells #[sv] 73 (0, 0)))
    (hV : Calls Tryd.prog 80 #[.pointer (some ⟨g, 0, none⟩), sv] W fun e W2 => ∃ t v, e = .returned (.tuple #[.agg #[.string t, v], .int .i64 c]) ∧ IsI v ∧ Cg g W W2 ∧ Pst t v W2)
    (hr : W.ownsRow B 75 2 sv n (mcs ms)) (hn : n ≤ 10000) (hg : g < B) (hgo : bo ≠ g) (hB : B ≤ W.heap.size) :
    Calls Tryd.prog 79 #[.pointer (some ⟨bx, 0, none⟩), .pointer (some ⟨bo, 0, none⟩)] W fun e W5 => ∃ t v W2 sv', e = .returned (.int .i64 c) ∧ Pst t v W2 ∧ Cg g W W2 ∧ W5.heap[bo]? = some (.cells #[sv'] 73 (0, 0)) ∧
      W5.ownsRow B 75 2 sv' (n + 1) (mcs (ms ++ [(t, v)])) ∧ (sv'.ownBlock = sv.ownBlock ∨ ∃ N, sv'.ownBlock = some N ∧ W2.heap.size ≤ N) ∧ Chg (fun b => b = bo ∨ sv.ownBlock = some b) W2 W5 := by
  have hbo : bo < W.heap.size := (Array.getElem?_eq_some_iff.1 ho).1
  obtain ⟨cx, -⟩ := cell_of hx
  obtain ⟨co', -⟩ := cell_of ho
  have HO : Hid (W.heap[bo]? = some (.cells #[sv] 73 (0, 0))) := ho
  have HR : Hid (W.ownsRow B 75 2 sv n (mcs ms)) := hr
  obtain ⟨sa, sn, sc, rfl⟩ := own_slice hr
  clear hx ho hr
  go_enter Tryd.func79, Tryd.ntmps79
  go_wp2_with fail
  refine hV.mono ?_
  rintro e W2 ⟨t, v, rfl, h1, hc, hp⟩
  have hO2 : W2.heap[bo]? = some (.cells #[.slice sa sn sc] 73 (0, 0)) := (hc.other bo hbo hgo).trans HO.out
  have HO2 : Hid (W2.heap[bo]? = some (.cells #[.slice sa sn sc] 73 (0, 0))) := hO2
  have HR2 : Hid (W2.ownsRow B 75 2 (.slice sa sn sc) n (mcs ms)) := own_keep HR.out (fun b e => hc.other b (own_lt HR.out b e).2 (by have := (own_lt HR.out b e).1; omega))
  have HC : Hid (Cg g W W2) := hc
  have HP : Hid (Pst t v W2) := hp
  have HB2 : Hid (B ≤ W2.heap.size) := Nat.le_trans hB hc.size
  have hb2 : bo < W2.heap.size := Nat.lt_of_lt_of_le hbo hc.size
  clear hc hp hO2 hV cx co'
  have HM1 : Hid (IsI v) := h1
  have hO3 : (W2.alloc (.cells #[.string t, v] 75)).heap[bo]? = some (.cells #[.slice sa sn sc] 73 (0, 0)) := (heap_alloc_old _ _ hb2).trans HO2.out
  obtain ⟨c3, f3⟩ := cell_of hO3
  obtain ⟨m0, m1, -, -⟩ := cell_of2 (heap_alloc_new W2 (.cells #[.string t, v] 75))
  have hb3 : bo < (W2.alloc (.cells #[.string t, v] 75)).heap.size := by simp; omega
  obtain ⟨W3, hW3⟩ : ∃ W3, W2.alloc (.cells #[.string t, v] 75) = W3 := ⟨_, rfl⟩
  have HW3 : Hid (W2.alloc (.cells #[.string t, v] 75) = W3) := hW3
  have HC3 : Hid (Chg (fun b => b = bo ∨ (Value.slice sa sn sc).ownBlock = some b) W2 W3) := by show Chg _ _ _; rw [← hW3]; exact (Chg.refl _ _).alloc _
  have HR3 : Hid (W3.ownsRow B 75 2 (.slice sa sn sc) n (mcs ms)) := by show World.ownsRow _ _ _ _ _ _ _; rw [← hW3]; exact World.ownsRow.alloc HR2.out _
  have hz3 : W3.heap.size = W2.heap.size + 1 := by rw [← hW3]; simp
  rw [hW3] at hO3 hb3
  have cN : (W3.alloc (.cells #[.string t, v] 75)).cell? ⟨W3.heap.size, 0, none⟩ = some (.string t) := cell_alloc W3 #[.string t, v] _ _ 0
  have cM : (W3.alloc (.cells #[.string t, v] 75)).cell? ⟨W3.heap.size, 1, none⟩ = some v := cell_alloc W3 #[.string t, v] _ _ 1
  have HRN : Hid ((W3.alloc (.cells #[.string t, v] 75)).ownsRow B 75 2 (.slice sa sn sc) n (mcs ms)) := World.ownsRow.alloc HR3.out _
  have HBN : Hid (B ≤ (W3.alloc (.cells #[.string t, v] 75)).heap.size) := by show _ ≤ _; have := HB2.out; simp; omega
  have HCN : Hid (Chg (fun b => b = bo ∨ (Value.slice sa sn sc).ownBlock = some b) W2 (W3.alloc (.cells #[.string t, v] 75))) := HC3.out.alloc _
  have HON : Hid ((W3.alloc (.cells #[.string t, v] 75)).heap[bo]? = some (.cells #[.slice sa sn sc] 73 (0, 0))) := (heap_alloc_old _ _ hb3).trans hO3
  have HNE : Hid ((Value.slice sa sn sc).ownBlock ≠ some bo) := own_ne HR2.out HO2.out (by decide)
  obtain ⟨WN, hWN⟩ : ∃ WN, W3.alloc (.cells #[.string t, v] 75) = WN := ⟨_, rfl⟩
  have HWN : Hid (W3.alloc (.cells #[.string t, v] 75) = WN) := hWN
  rw [hWN] at cN cM HRN HBN HCN HON
  have hn9 : n ≤ 1000000000 := by omega
  have HSN : Hid (W2.heap.size ≤ WN.heap.size) := HCN.out.size
  have hv1 : v.oneCell' = true := h1.one
  clear hWN hO3 hW3
  rcases h1 with ⟨vt, vp, rfl⟩ | rfl
  all_goals (
    go_wp2_with (first
      | (refine bs_mem rfl (.tmp 12) rfl t _ HM1.out rfl ?_; rw [HW3.out, HWN.out])
      | (at_builtin; refine app_mem rfl (.tmp 11) (.tmp 13) rfl (.slice sa sn sc) n (mcs ms) rfl HRN.out W3.heap.size t _ rfl cN cM hv1 hn9 HBN.out ?_
         intro sv' W4 o1 o2 o3
         obtain ⟨ad', nn, cc, hsl⟩ := own_slice o1
         subst hsl
         have HR4 : Hid (W4.ownsRow B 75 2 (.slice ad' nn cc) (n + 1) (mcs ms ++ [.string t, _])) := o1
         have HG4 : Hid (WN.grownBy W4 (Value.slice sa sn sc).ownBlock) := o2
         have HX4 : Hid ((Value.slice ad' nn cc).ownBlock = (Value.slice sa sn sc).ownBlock ∨ (Value.slice ad' nn cc).ownBlock = some WN.heap.size) := o3
         have HO4 : Hid (W4.heap[bo]? = some (.cells #[.slice sa sn sc] 73 (0, 0))) := (o2.block bo (Nat.lt_of_lt_of_le hb2 HSN.out) (fun e => HNE.out e.symm)).trans HON.out
         obtain ⟨c4, f4⟩ := cell_of HO4.out
         clear o1 o2 o3))
    go_ret
    have hne : (Value.slice ad' nn cc).ownBlock ≠ some bo := own_ne HR4.out HO4.out (by decide)
    refine ⟨t, _, W2, .slice ad' nn cc, rfl, HP.out, HC.out, heap_setCell_same HO4.out _, ?_, ?_, ?_⟩
    · rw [show ∀ y, mcs (ms ++ [(t, y)]) = mcs ms ++ [.string t, y] by intro y; simp [mcs]]
      exact own_keep HR4.out (fun b e => Below.heap_setCell _ _ _ _ (fun q => hne (by rw [e]; exact congrArg some q)))
    · rcases HX4.out with e | e
      · exact .inl e
      · exact .inr ⟨_, e, HSN.out⟩
    · refine Chg.setCell (HCN.out.trans ⟨HG4.out.os, HG4.out.tape, HG4.out.output, HG4.out.size, fun b hb hf => HG4.out.block b hb (fun e => hf (.inr e.symm))⟩) (.inl rfl))
/-- An object's memory: the box of the parser, the variable of the object, its row. -/
def IO (g B : Nat) (ev : Value) (W : World) (a : List (ByteArray × JV)) : Prop :=
  EV W ev ∧ B + 2 < W.heap.size ∧ W.heap[B]? = some (.cells #[.pointer (some ⟨g, 0, none⟩)] 91 (0, 0)) ∧
    ∃ sv ms, W.heap[B + 2]? = some (.cells #[sv] 73 (0, 0)) ∧ W.ownsRow (B + 1) 75 2 sv a.length (mcs ms) ∧ MS (fun b => B + 3 ≤ b ∧ sv.ownBlock ≠ some b) W ms a
theorem IO.stay {g B : Nat} {ev : Value} {W W' : World} {a : List (ByteArray × JV)} (h : IO g B ev W a) (hg : g < B) (hg0 : g ≠ 0) (hc : Cg g W W') : IO g B ev W' a := by
  obtain ⟨h1, h2, h3, sv, vs, h4, h5, h6⟩ := h
  refine ⟨h1.chg hc hg0, Nat.lt_of_lt_of_le h2 hc.size, (hc.other B (by omega) (by omega)).trans h3, sv, vs, (hc.other (B + 2) h2 (by omega)).trans h4, own_keep h5 (fun b e => hc.other b (own_lt h5 b e).2 (by have := (own_lt h5 b e).1; omega)), h6.keep (fun b hb hlt => ⟨hb, hc.other b hlt (by have := hb.1; omega)⟩) hc.size⟩
theorem IO.err {g B : Nat} {ev : Value} {W : World} {a : List (ByteArray × JV)} (h : IO g B ev W a) : EL B 73 W := by
  obtain ⟨_, _, _, sv, vs, h4, h5, _⟩ := h
  obtain ⟨_, _, _, rfl⟩ := own_slice h5
  exact ⟨_, _, _, h4⟩
theorem MS.one {A : Nat → Prop} {w : World} {ms : List (ByteArray × Value)} {l : List (ByteArray × JV)} (h : MS A w ms l) : ∀ m ∈ ms, m.2.oneCell' = true := fun m hm => by
  obtain ⟨i, hi, rfl⟩ := List.getElem_of_mem hm
  exact (h.2.2 i _ (l[i]'(by rw [← h.1]; exact hi)) (List.getElem?_eq_getElem hi) (List.getElem?_eq_getElem _)).one
theorem obj1_any {g B d k : Nat} {s : ByteArray} {ev : Value} (hs : s.size ≤ 8192) (hg : g < B) (hg0 : g ≠ 0) (hd : d + k = 16) (HV : VC g s ev k) :
    PH 79 g s d B #[.pointer (some ⟨B, 0, none⟩), .pointer (some ⟨B + 2, 0, none⟩)] (membr s (val s k)) (IO g B ev) (EL B 73) := by
  refine ⟨fun W a i hI hp hi hal => ?_, fun W W' a hI hc => hI.stay hg hg0 hc, fun W a hI => hI.err, fun a i hi => membr_in (fun i hi => val_in s k i hi) a i hi⟩
  obtain ⟨h1, h2, h3, sv, ms, h4, h5, h6⟩ := hI
  have hml : ms.length = a.length := h6.1
  have hV := member_any (ms := ms) (a := a) (A := fun b => sv.ownBlock = some b) hp hi hs h1 hg0 hd HV (own_rv h5 (fun b e => e)) (fun b e => by have := (own_lt h5 b e).1; omega) h6.one (by omega) hml h6.2.1
  have hBs : B + 1 ≤ W.heap.size := by omega
  have keepB : ∀ {W2 W5 : World} {x : Value}, Chg (fun b => b = B + 2 ∨ sv.ownBlock = some b) W2 W5 → W.heap.size ≤ W2.heap.size → (∀ b, b < W2.heap.size → b ≠ B + 2 → sv.ownBlock ≠ some b → W5.heap[b]? = W2.heap[b]?) := fun hc _ b hb h h' => hc.other b hb (fun q => q.elim h h')
  have hcB : ∀ {W2 W5 : World}, Cg g W W2 → Chg (fun b => b = B + 2 ∨ sv.ownBlock = some b) W2 W5 → CgB g B W W5 := fun c1 c2 => Chg.trans (Cg.toB c1) (Chg.mono c2 (fun b q => .inr (q.elim (by omega) (fun e => by have := (own_lt h5 b e).1; omega))))
  have hpb : ∀ {W2 W5 : World} {j d' : Nat}, PB W2 g s j d' → Chg (fun b => b = B + 2 ∨ sv.ownBlock = some b) W2 W5 → PB W5 g s j d' := fun p c => p.keep (c.other g p.lt (fun q => q.elim (by omega) (fun e => by have := (own_lt h5 g e).1; omega)))
  cases ho : membr s (val s k) a i with
  | bad j =>
    rw [ho] at hV
    refine (obj1_walk (c := 2) (Pst := fun t v w' => ∃ d', PB w' g s j d') h3 h4 (hV.mono (by rintro e w' ⟨t, v, q1, q2, q3, q4⟩; exact ⟨t, v, q1, q2, q4, q3⟩)) h5 (by omega) (by omega : g < B + 1) (by omega) hBs).mono ?_
    rintro e W5 ⟨t, v, W2, sv', rfl, ⟨d', hp2⟩, c2, o5, r5, x5, c5⟩
    obtain ⟨_, _, _, rfl⟩ := own_slice r5
    exact ⟨rfl, ⟨d', hpb hp2 c5⟩, ⟨_, _, _, o5⟩, hcB c2 c5⟩
  | big j =>
    rw [ho] at hV
    refine (obj1_walk (c := 6) (Pst := fun t v w' => ∃ d', PB w' g s j d') h3 h4 (hV.mono (by rintro e w' ⟨t, v, q1, q2, q3, q4⟩; exact ⟨t, v, q1, q2, q4, q3⟩)) h5 (by omega) (by omega : g < B + 1) (by omega) hBs).mono ?_
    rintro e W5 ⟨t, v, W2, sv', rfl, ⟨d', hp2⟩, c2, o5, r5, x5, c5⟩
    obtain ⟨_, _, _, rfl⟩ := own_slice r5
    exact ⟨rfl, ⟨d', hpb hp2 c5⟩, ⟨_, _, _, o5⟩, hcB c2 c5⟩
  | ok jv j =>
    rw [ho] at hV
    refine (obj1_walk (c := 0) (Pst := fun t v w' => t = jv.1 ∧ PB w' g s j d ∧ VJ (fun b => W.heap.size ≤ b) w' v jv.2) h3 h4 (hV.mono (by rintro e w' ⟨v, q1, q2, q3, q4⟩; exact ⟨jv.1, v, q1, q4.isI, q3, rfl, q2, q4⟩)) h5 (by omega) (by omega : g < B + 1) (by omega) hBs).mono ?_
    rintro e W5 ⟨t, v, W2, sv', rfl, ⟨rfl, hp2, hv2⟩, c2, o5, r5, x5, c5⟩
    have hs25 := c5.size
    have hsW := c2.size
    have hnb : ∀ b, b < W2.heap.size → sv.ownBlock ≠ some b → sv'.ownBlock ≠ some b := fun b hb h e => by
      rcases x5 with x | ⟨N, x, hN⟩
      · exact h (x ▸ e)
      · rw [x] at e; cases e; omega
    refine ⟨rfl, hpb hp2 c5, ⟨?_, by omega, ?_, sv', ms ++ [(jv.1, v)], o5, by rw [List.length_append]; exact r5, ?_⟩, hcB c2 c5⟩
    · have e2 := h1.chg c2 hg0
      refine ⟨?_, h1.2⟩
      have hlt := Lib.lt_of_cell h1.1
      have hB0 : 0 < W2.heap.size := Lib.lt_of_cell e2.1
      have hb := c5.other 0 hB0 (fun q => q.elim (by omega) (fun e => by have := (own_lt h5 _ e).1; omega))
      have e3 := e2.1
      simp only [World.cell?] at e3 ⊢
      rw [hb]; exact e3
    · refine (c5.other B (by omega) (fun q => q.elim (by omega) (fun e => by have := (own_lt h5 B e).1; omega))).trans ((c2.other B (by omega) (by omega)).trans h3)
    · refine MS.push ?_ ?_
      · refine (h6.keep (A' := fun b => B + 3 ≤ b ∧ sv.ownBlock ≠ some b) (fun b hb hlt => ⟨hb, c2.other b hlt (by have := hb.1; omega)⟩) hsW).keep (fun b hb hlt => ⟨⟨hb.1, hnb b hlt hb.2⟩, keepB (x := v) c5 hsW b hlt (by have := hb.1; omega) hb.2⟩) hs25
      · refine hv2.keep (fun b hb hlt => ?_) hs25
        have hne : sv.ownBlock ≠ some b := fun e => by have := (own_lt h5 b e).2; have hb' : W.heap.size ≤ b := hb; omega
        have hb' : W.heap.size ≤ b := hb
        exact ⟨⟨by omega, hnb b hlt hne⟩, keepB (x := v) c5 hsW b hlt (by omega) hne⟩
set_option maxHeartbeats 4000000 in
theorem obj_walk {w : World} {g : Nat} {Pst : Int → Value → World → Prop}
    (hP : Calls Tryd.prog 78 #[.pointer (some ⟨g, 0, none⟩), .int .u8 125, .func (.func 79) #[] #[.pointer (some ⟨w.heap.size, 0, none⟩), .pointer (some ⟨w.heap.size + 2, 0, none⟩)]] (lw0 w g 75 73) fun e W' => ∃ c ad m cc, e = .returned (.int .i64 c) ∧ W'.heap[w.heap.size + 2]? = some (.cells #[.slice ad m cc] 73 (0, 0)) ∧ Pst c (.slice ad m cc) W') :
    Calls Tryd.prog 68 #[.pointer (some ⟨g, 0, none⟩)] w fun e w' => ∃ c x, e = .returned (.tuple #[.iface 73 x, .int .i64 c]) ∧ Pst c x w' := by
  go_enter Tryd.func68, Tryd.ntmps68
  go_wp2_with fail
  refine Calls.mono hP ?_
  rintro e W2 ⟨c, ad, m, cc, rfl, h1, h2⟩
  obtain ⟨c1, f1⟩ := cell_of h1
  clear h1 hP
  go_wp2
  go_ret2
  exact ⟨c, _, rfl, h2⟩
theorem obj_any {w : World} {g i d k : Nat} {s : ByteArray} {ev : Value} (h : PB w g s i d) (hi : i < s.size) (hs : s.size ≤ 8192) (hv : EV w ev) (hg0 : g ≠ 0) (hd : d + 1 + k = 16) (HV : VC g s ev k) :
    Calls Tryd.prog 68 #[.pointer (some ⟨g, 0, none⟩)] w fun e w' => VP g s d w (wrapO (open' s 125 (membr s (val s k)) i)) e w' := by
  have hg := h.lt
  obtain ⟨a1, a2, a3, a4⟩ := lw0_at w g 75 73
  have hsz := lw0_size w g 75 73
  have hPB : PB (lw0 w g 75 73) g s i d := h.keep (a4.block g hg)
  have hI : IO g w.heap.size ev (lw0 w g 75 73) [] := ⟨hv.below a4, by omega, a1, _, [], a3, ⟨rfl, .inr ⟨w.heap.size + 1, 0, #[], rfl, Nat.le_refl _, a2, Nat.le_refl _, by decide, rfl, rfl⟩⟩, ⟨rfl, fun i m j hm => by simp at hm, fun i m j hm => by simp at hm⟩⟩
  have hp := parts_obj (B := w.heap.size) hPB hi hs (by omega) (obj1_any hs hg hg0 hd HV) hI
  have out : ∀ {W'}, CgB g w.heap.size (lw0 w g 75 73) W' → Cg g w W' := fun hc =>
    ⟨hc.os.trans a4.os, hc.tape.trans a4.tape, hc.output.trans a4.output, Nat.le_trans a4.size hc.size, fun b hb hf => (hc.other b (by omega) (fun q => q.elim hf (by omega))).trans (a4.block b hb)⟩
  cases hR : open' s 125 (membr s (val s k)) i with
  | ok l j =>
    rw [hR] at hp
    refine (obj_walk (Pst := fun c x w' => c = 0 ∧ PB w' g s j d ∧ Cg g w w' ∧ VJ (fun b => w.heap.size ≤ b) w' (.iface 73 x) (.obj l)) (hp.mono ?_)).mono ?_
    · rintro e W' ⟨rfl, q1, ⟨r1, r2, r3, sv, ms, r4, r5, r6⟩, q3⟩
      obtain ⟨ad, m, cc, rfl⟩ := own_slice r5
      exact ⟨0, ad, m, cc, rfl, r4, rfl, q1, out q3, .obj _ ms l (own_rv r5 (fun b e => by have := (own_lt r5 b e).1; show _ ≤ _; omega)) r6.1 r6.2.1 (fun i x j hx hj => (r6.2.2 i x j hx hj).keep (fun b hb hlt => ⟨by have := hb.1; show _ ≤ _; omega, rfl⟩) (Nat.le_refl _))⟩
    · rintro e w' ⟨c, x, rfl, rfl, q1, q2, q3⟩
      exact ⟨_, rfl, q1, q2, q3⟩
  | bad j =>
    rw [hR] at hp
    refine (obj_walk (Pst := fun c x w' => c = 2 ∧ (∃ d', PB w' g s j d') ∧ Cg g w w') (hp.mono ?_)).mono ?_
    · rintro e W' ⟨rfl, q1, ⟨ad, m, cc, q2⟩, q3⟩
      exact ⟨2, ad, m, cc, rfl, q2, rfl, q1, out q3⟩
    · rintro e w' ⟨c, x, rfl, rfl, q1, q2⟩
      exact ⟨_, rfl, .inl ⟨_, _, rfl⟩, q1, q2⟩
  | big j =>
    rw [hR] at hp
    refine (obj_walk (Pst := fun c x w' => c = 6 ∧ (∃ d', PB w' g s j d') ∧ Cg g w w') (hp.mono ?_)).mono ?_
    · rintro e W' ⟨rfl, q1, ⟨ad, m, cc, q2⟩, q3⟩
      exact ⟨6, ad, m, cc, rfl, q2, rfl, q1, out q3⟩
    · rintro e w' ⟨c, x, rfl, rfl, q1, q2⟩
      exact ⟨_, rfl, .inl ⟨_, _, rfl⟩, q1, q2⟩
theorem obj_big {w : World} {g i : Nat} {s : ByteArray} (h : PB w g s i 16) :
    Calls Tryd.prog 68 #[.pointer (some ⟨g, 0, none⟩)] w fun e w' => VP g s 16 w (.big i) e w' := by
  have hg := h.lt
  obtain ⟨a1, a2, a3, a4⟩ := lw0_at w g 75 73
  have hPB : PB (lw0 w g 75 73) g s i 16 := h.keep (a4.block g hg)
  refine (obj_walk (Pst := fun c x w' => c = 6 ∧ (∃ d', PB w' g s i d') ∧ Cg g w w') ((big_obj hPB).mono ?_)).mono ?_
  · rintro e W' ⟨rfl, rfl⟩
    exact ⟨6, _, _, _, rfl, a3, rfl, ⟨_, hPB⟩, Chg.ofBelow a4⟩
  · rintro e w' ⟨c, x, rfl, rfl, q1, q2⟩
    exact ⟨_, rfl, .inl ⟨_, _, rfl⟩, q1, q2⟩
end Go.Proofs.YtefaohokmhdplaaDoor
