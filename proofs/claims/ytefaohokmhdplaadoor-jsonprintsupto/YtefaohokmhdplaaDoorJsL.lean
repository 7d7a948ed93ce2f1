/- Package json: one part of a list; lists. -/
import Derived.Test.YtefaohokmhdplaaDoorJsK
import Derived.Great.BuildSlice
namespace Go.Proofs.YtefaohokmhdplaaDoor
open Go Go.RowKit
set_option linter.unusedSimpArgs false
set_option linter.unusedVariables false
set_option maxRecDepth 100000

/-- An interface's value. -/
def IsI (v : Value) : Prop := (∃ t p, v = .iface t p) ∨ v = .nilIface
theorem IsI.one {v : Value} (h : IsI v) : v.oneCell' = true := by rcases h with ⟨t, p, rfl⟩ | rfl <;> rfl
theorem VJ.isI {A : Nat → Prop} {w : World} {v : Value} {j : JV} (h : VJ A w v j) : IsI v := by cases h <;> exact .inl ⟨_, _, rfl⟩
/-- What a value's reading answers. -/
def VP (g : Nat) (s : ByteArray) (d : Nat) (w : World) : Out JV → Ending → World → Prop
  | .ok jv j, e, w' => ∃ v, e = .returned (.tuple #[v, .int .i64 0]) ∧ PB w' g s j d ∧ Cg g w w' ∧ VJ (fun b => w.heap.size ≤ b) w' v jv
  | .bad j, e, w' => ∃ v, e = .returned (.tuple #[v, .int .i64 2]) ∧ IsI v ∧ (∃ d', PB w' g s j d') ∧ Cg g w w'
  | .big j, e, w' => ∃ v, e = .returned (.tuple #[v, .int .i64 6]) ∧ IsI v ∧ (∃ d', PB w' g s j d') ∧ Cg g w w'
/-- The reading of values, k more lists and objects in one another. -/
def VC (g : Nat) (s : ByteArray) (ev : Value) (k : Nat) : Prop := ∀ (w : World) (i d : Nat), PB w g s i d → i ≤ s.size → d + k = 16 → EV w ev →
  Calls Tryd.prog 53 #[.pointer (some ⟨g, 0, none⟩)] w fun e w' => VP g s d w (val s k i) e w'
theorem cell_of {w : World} {b : Nat} {x : Value} {t : TypeId} (h : w.heap[b]? = some (.cells #[x] t (0, 0))) : w.cell? ⟨b, 0, none⟩ = some x ∧ w.frozen? ⟨b, 0, none⟩ = false := by
  constructor
  · simp only [World.cell?, h]; simp
  · simp [World.frozen?, h]
theorem cell_alloc (w : World) (cs : Array Value) (t : TypeId) (f : Nat × Nat) (j : Nat) : (w.alloc (.cells cs t f)).cell? ⟨w.heap.size, j, none⟩ = cs[j]? := by
  have : (w.alloc (.cells cs t f)).heap[w.heap.size]? = some (.cells cs t f) := by show (w.heap.push _)[w.heap.size]? = _; simp
  unfold World.cell?; rw [this]; rfl
theorem cells_one {v : Value} (h : v.oneCell' = true) : v.cells = #[v] := by cases v <;> first | rfl | (simp [Value.oneCell'] at h)
theorem run_oneval (w : World) {v : Value} (h1 : v.oneCell' = true) : (Instr.buildSlice 49 1 #[(0, v)]).run Tryd.prog w = .ok (.slice (some ⟨w.heap.size, 0, none⟩) 1 1) (w.alloc (.cells #[v] 31)) := by
  obtain ⟨i, hi, hz, hs, hb⟩ := info_val
  refine run_buildSlice w 49 31 1 _ #[v] i _ Tryd.underlying49 hi hz (by omega) (by omega) ?_
  have hc := cells_one h1
  have := _root_.Go.Great.fill_whole (s := i.size) (by omega) [v] ((Array.range (1 * i.size)).map ((Value.nilIface).cells[· % (Value.nilIface).cells.size]!)) (by intro x hx; simp at hx; subst hx; simp [hc, hs]) (by simp)
  cases v <;> first
    | (simp [Value.oneCell'] at h1; done)
    | simpa [Value.cells] using this
theorem bs_val {ops : Array Oper} {rest : List Oper} {o : Oper} {a : Act} {w : World} {Q : Exit → Act → World → Prop} (hg : o.guard = none) (y : Operand) (ho : o.op = .buildSlice 49 1 #[(0, y)]) (v : Value) (h1 : v.oneCell' = true) (hy : a.eval y = v)
    (h : wpList Tryd.prog ops Q rest (a.put o.dst (.slice (some ⟨w.heap.size, 0, none⟩) 1 1)) (w.alloc (.cells #[v] 31))) : wpList Tryd.prog ops Q (o :: rest) a w := by
  refine wpList_plain hg fun K hK => ?_
  have hr := run_oneval w h1
  unfold Oper.wp
  simp only [execOp, ho, List.map_toArray, List.map_cons, List.map_nil, hy, Sem.run_bind, hr, Result.andThen_ok, Sem.run_pure]
  exact hK _ _ h
theorem own_slice {B0 : Nat} {w : World} {e : TypeId} {k : Nat} {v : Value} {n : Nat} {cs : List Value} (h : w.ownsRow B0 e k v n cs) : ∃ ad m c, v = .slice ad m c := by
  rcases h.2 with ⟨rfl, _⟩ | ⟨g, cap, cur, rfl, _⟩
  · exact ⟨_, _, _, rfl⟩
  · exact ⟨_, _, _, rfl⟩
set_option maxHeartbeats 8000000 in
theorem list1_walk {W : World} {g B bx bo n : Nat} {sv : Value} {vs : List Value} {c : Int} {Pst : Value → World → Prop}
    (hx : W.heap[bx]? = some (.cells #[.pointer (some ⟨g, 0, none⟩)] 91 (0, 0))) (ho : W.heap[bo]? = some (.cells #[sv] 49 (0, 0)))
    (hV : Calls Tryd.prog 53 #[.pointer (some ⟨g, 0, none⟩)] W fun e W2 => ∃ v, e = .returned (.tuple #[v, .int .i64 c]) ∧ v.oneCell' = true ∧ Cg g W W2 ∧ Pst v W2)
    (hr : W.ownsRow B 31 1 sv n vs) (hn : n ≤ 10000) (hg : g < B) (hgo : bo ≠ g) (hB : B ≤ W.heap.size) :
    Calls Tryd.prog 81 #[.pointer (some ⟨bx, 0, none⟩), .pointer (some ⟨bo, 0, none⟩)] W fun e W5 => ∃ v W2 sv', e = .returned (.int .i64 c) ∧ Pst v W2 ∧ Cg g W W2 ∧ W5.heap[bo]? = some (.cells #[sv'] 49 (0, 0)) ∧
      W5.ownsRow B 31 1 sv' (n + 1) (vs ++ [v]) ∧ (sv'.ownBlock = sv.ownBlock ∨ ∃ N, sv'.ownBlock = some N ∧ W2.heap.size ≤ N) ∧ Chg (fun b => b = bo ∨ sv.ownBlock = some b) W2 W5 := by

  have hbo : bo < W.heap.size := (Array.getElem?_eq_some_iff.1 ho).1
  obtain ⟨cx, -⟩ := cell_of hx
  have HO : Hid (W.heap[bo]? = some (.cells #[sv] 49 (0, 0))) := ho
  have HR : Hid (W.ownsRow B 31 1 sv n vs) := hr
  clear hx ho hr
  go_enter Tryd.func81, Tryd.ntmps81
  go_wp2_with fail
  refine hV.mono ?_
  rintro e W2 ⟨v, rfl, h1, hc, hp⟩
  have hO2 : W2.heap[bo]? = some (.cells #[sv] 49 (0, 0)) := (hc.other bo hbo hgo).trans HO.out
  have HO2 : Hid (W2.heap[bo]? = some (.cells #[sv] 49 (0, 0))) := hO2
  have HR2 : Hid (W2.ownsRow B 31 1 sv n vs) := own_keep HR.out (fun b e => hc.other b (own_lt HR.out b e).2 (by have := (own_lt HR.out b e).1; omega))
  obtain ⟨co, fo⟩ := cell_of hO2
  have HC : Hid (Cg g W W2) := hc
  have HP : Hid (Pst v W2) := hp
  have HB2 : Hid (B ≤ W2.heap.size) := Nat.le_trans hB hc.size
  have hb2 : bo < W2.heap.size := Nat.lt_of_lt_of_le hbo hc.size
  clear hc hp hO2 hV
  have cN : (W2.alloc (.cells #[v] 31)).cell? ⟨W2.heap.size, 0, none⟩ = some v := cell_alloc W2 #[v] _ _ 0
  have HRN : Hid ((W2.alloc (.cells #[v] 31)).ownsRow B 31 1 sv n vs) := World.ownsRow.alloc HR2.out _
  have HBN : Hid (B ≤ (W2.alloc (.cells #[v] 31)).heap.size) := by show _ ≤ _; have := HB2.out; simp; omega
  have HCN : Hid (Chg (fun b => b = bo ∨ sv.ownBlock = some b) W2 (W2.alloc (.cells #[v] 31))) := (Chg.refl _ _).alloc _
  have HON : Hid ((W2.alloc (.cells #[v] 31)).heap[bo]? = some (.cells #[sv] 49 (0, 0))) := (heap_alloc_old _ _ hb2).trans HO2.out
  have HNE : Hid (sv.ownBlock ≠ some bo) := own_ne HR2.out HO2.out (by decide)
  obtain ⟨WN, hWN⟩ : ∃ WN, W2.alloc (.cells #[v] 31) = WN := ⟨_, rfl⟩
  have HWN : Hid (W2.alloc (.cells #[v] 31) = WN) := hWN
  rw [hWN] at cN HRN HBN HCN HON
  have hn9 : n ≤ 1000000000 := by omega
  have HSN : Hid (W2.heap.size ≤ WN.heap.size) := HCN.out.size
  clear hWN
  go_wp2_with (first
    | (refine bs_val rfl (.tmp 11) rfl v h1 rfl ?_; rw [HWN.out])
    | (at_builtin; refine app_val rfl (.tmp 10) (.tmp 12) rfl sv n vs rfl HRN.out W2.heap.size v rfl cN h1 hn9 HBN.out ?_
       intro sv' W4 o1 o2 o3
       obtain ⟨ad', nn, cc, hsl⟩ := own_slice o1
       subst hsl
       have HR4 : Hid (W4.ownsRow B 31 1 (.slice ad' nn cc) (n + 1) (vs ++ [v])) := o1
       have HG4 : Hid (WN.grownBy W4 sv.ownBlock) := o2
       have HX4 : Hid ((Value.slice ad' nn cc).ownBlock = sv.ownBlock ∨ (Value.slice ad' nn cc).ownBlock = some WN.heap.size) := o3
       have HO4 : Hid (W4.heap[bo]? = some (.cells #[sv] 49 (0, 0))) := (o2.block bo (Nat.lt_of_lt_of_le hb2 HSN.out) (fun e => HNE.out e.symm)).trans HON.out
       obtain ⟨c4, f4⟩ := cell_of HO4.out
       clear o1 o2 o3))
  go_ret
  have hne : (Value.slice ad' nn cc).ownBlock ≠ some bo := own_ne HR4.out HO4.out (by decide)
  refine ⟨v, W2, .slice ad' nn cc, rfl, HP.out, HC.out, heap_setCell_same HO4.out _, own_keep HR4.out (fun b e => Below.heap_setCell _ _ _ _ (fun q => hne (by rw [e]; exact congrArg some q))), ?_, ?_⟩
  · rcases HX4.out with e | e
    · exact .inl e
    · exact .inr ⟨_, e, HSN.out⟩
  · refine Chg.setCell (HCN.out.trans ⟨HG4.out.os, HG4.out.tape, HG4.out.output, HG4.out.size, fun b hb hf => HG4.out.block b hb (fun e => hf (.inr e.symm))⟩) (.inl rfl)
/-- A list's memory: the box of the parser, the variable of the list, its row. -/
def IL (g B : Nat) (ev : Value) (W : World) (a : List JV) : Prop :=
  EV W ev ∧ B + 2 < W.heap.size ∧ W.heap[B]? = some (.cells #[.pointer (some ⟨g, 0, none⟩)] 91 (0, 0)) ∧
    ∃ sv vs, W.heap[B + 2]? = some (.cells #[sv] 49 (0, 0)) ∧ W.ownsRow (B + 1) 31 1 sv a.length vs ∧ VS (fun b => B + 3 ≤ b ∧ sv.ownBlock ≠ some b) W vs a
def EL (B : Nat) (T : TypeId) (W : World) : Prop := ∃ ad m c, W.heap[B + 2]? = some (.cells #[.slice ad m c] T (0, 0))
theorem IL.stay {g B : Nat} {ev : Value} {W W' : World} {a : List JV} (h : IL g B ev W a) (hg : g < B) (hg0 : g ≠ 0) (hc : Cg g W W') : IL g B ev W' a := by
  obtain ⟨h1, h2, h3, sv, vs, h4, h5, h6⟩ := h
  refine ⟨h1.chg hc hg0, Nat.lt_of_lt_of_le h2 hc.size, (hc.other B (by omega) (by omega)).trans h3, sv, vs, (hc.other (B + 2) h2 (by omega)).trans h4, own_keep h5 (fun b e => hc.other b (own_lt h5 b e).2 (by have := (own_lt h5 b e).1; omega)), h6.keep (fun b hb hlt => ⟨hb, hc.other b hlt (by have := hb.1; omega)⟩) hc.size⟩
theorem IL.err {g B : Nat} {ev : Value} {W : World} {a : List JV} (h : IL g B ev W a) : EL B 49 W := by
  obtain ⟨_, _, _, sv, vs, h4, h5, _⟩ := h
  obtain ⟨_, _, _, rfl⟩ := own_slice h5
  exact ⟨_, _, _, h4⟩
theorem VC.one {g : Nat} {s : ByteArray} {d : Nat} {w : World} {o : Out JV} {e : Ending} {w' : World} (h : VP g s d w o e w') : ∃ v c, e = .returned (.tuple #[v, .int .i64 c]) ∧ IsI v ∧ Cg g w w' := by
  cases o with
  | ok jv j => obtain ⟨v, h1, _, h3, h4⟩ := h; exact ⟨v, 0, h1, h4.isI, h3⟩
  | bad j => obtain ⟨v, h1, h2, _, h4⟩ := h; exact ⟨v, 2, h1, h2, h4⟩
  | big j => obtain ⟨v, h1, h2, _, h4⟩ := h; exact ⟨v, 6, h1, h2, h4⟩
theorem list1_any {g B d k : Nat} {s : ByteArray} {ev : Value} (hs : s.size ≤ 8192) (hg : g < B) (hg0 : g ≠ 0) (hd : d + k = 16) (HV : VC g s ev k) :
    PH 81 g s d B #[.pointer (some ⟨B, 0, none⟩), .pointer (some ⟨B + 2, 0, none⟩)] (fun _ => val s k) (IL g B ev) (EL B 49) := by
  refine ⟨fun W a i hI hp hi hal => ?_, fun W W' a hI hc => hI.stay hg hg0 hc, fun W a hI => hI.err, fun a i hi => val_in s k i hi⟩
  have hV := HV W i d hp hi hd hI.1
  obtain ⟨h1, h2, h3, sv, vs, h4, h5, h6⟩ := hI
  have hBs : B + 1 ≤ W.heap.size := by omega
  have keepB : ∀ {W2 W5 : World} {x : Value}, Chg (fun b => b = B + 2 ∨ sv.ownBlock = some b) W2 W5 → W.heap.size ≤ W2.heap.size → (∀ b, b < W2.heap.size → b ≠ B + 2 → sv.ownBlock ≠ some b → W5.heap[b]? = W2.heap[b]?) := fun hc _ b hb h h' => hc.other b hb (fun q => q.elim h h')
  have hcB : ∀ {W2 W5 : World}, Cg g W W2 → Chg (fun b => b = B + 2 ∨ sv.ownBlock = some b) W2 W5 → CgB g B W W5 := fun c1 c2 => Chg.trans (Cg.toB c1) (Chg.mono c2 (fun b q => .inr (q.elim (by omega) (fun e => by have := (own_lt h5 b e).1; omega))))
  have hpb : ∀ {W2 W5 : World} {j d' : Nat}, PB W2 g s j d' → Chg (fun b => b = B + 2 ∨ sv.ownBlock = some b) W2 W5 → PB W5 g s j d' := fun p c => p.keep (c.other g p.lt (fun q => q.elim (by omega) (fun e => by have := (own_lt h5 g e).1; omega)))
  cases ho : val s k i with
  | bad j =>
    rw [ho] at hV
    refine (list1_walk (c := 2) (Pst := fun v w' => ∃ d', PB w' g s j d') h3 h4 (hV.mono (by rintro e w' ⟨v, q1, q2, q3, q4⟩; exact ⟨v, q1, q2.one, q4, q3⟩)) h5 (by omega) (by omega : g < B + 1) (by omega) hBs).mono ?_
    rintro e W5 ⟨v, W2, sv', rfl, ⟨d', hp2⟩, c2, o5, r5, x5, c5⟩
    obtain ⟨_, _, _, rfl⟩ := own_slice r5
    exact ⟨rfl, ⟨d', hpb hp2 c5⟩, ⟨_, _, _, o5⟩, hcB c2 c5⟩
  | big j =>
    rw [ho] at hV
    refine (list1_walk (c := 6) (Pst := fun v w' => ∃ d', PB w' g s j d') h3 h4 (hV.mono (by rintro e w' ⟨v, q1, q2, q3, q4⟩; exact ⟨v, q1, q2.one, q4, q3⟩)) h5 (by omega) (by omega : g < B + 1) (by omega) hBs).mono ?_
    rintro e W5 ⟨v, W2, sv', rfl, ⟨d', hp2⟩, c2, o5, r5, x5, c5⟩
    obtain ⟨_, _, _, rfl⟩ := own_slice r5
    exact ⟨rfl, ⟨d', hpb hp2 c5⟩, ⟨_, _, _, o5⟩, hcB c2 c5⟩
  | ok jv j =>
    rw [ho] at hV
    refine (list1_walk (c := 0) (Pst := fun v w' => PB w' g s j d ∧ VJ (fun b => W.heap.size ≤ b) w' v jv) h3 h4 (hV.mono (by rintro e w' ⟨v, q1, q2, q3, q4⟩; exact ⟨v, q1, q4.one, q3, q2, q4⟩)) h5 (by omega) (by omega : g < B + 1) (by omega) hBs).mono ?_
    rintro e W5 ⟨v, W2, sv', rfl, ⟨hp2, hv2⟩, c2, o5, r5, x5, c5⟩
    have hs25 := c5.size
    have hsW := c2.size
    have hnb : ∀ b, b < W2.heap.size → sv.ownBlock ≠ some b → sv'.ownBlock ≠ some b := fun b hb h e => by
      rcases x5 with x | ⟨N, x, hN⟩
      · exact h (x ▸ e)
      · rw [x] at e; cases e; omega
    refine ⟨rfl, hpb hp2 c5, ⟨?_, by omega, ?_, sv', vs ++ [v], o5, by rw [List.length_append]; exact r5, ?_⟩, hcB c2 c5⟩
    · have e2 := h1.chg c2 hg0
      refine ⟨?_, h1.2⟩
      have hlt := Lib.lt_of_cell h1.1
      have hB0 : 0 < W2.heap.size := Lib.lt_of_cell e2.1
      have hb := c5.other 0 hB0 (fun q => q.elim (by omega) (fun e => by have := (own_lt h5 _ e).1; omega))
      have e3 := e2.1
      simp only [World.cell?] at e3 ⊢
      rw [hb]; exact e3
    · refine (c5.other B (by omega) (fun q => q.elim (by omega) (fun e => by have := (own_lt h5 B e).1; omega))).trans ((c2.other B (by omega) (by omega)).trans h3)
    · refine VS.push ?_ ?_
      · refine (h6.keep (A' := fun b => B + 3 ≤ b ∧ sv.ownBlock ≠ some b) (fun b hb hlt => ⟨hb, c2.other b hlt (by have := hb.1; omega)⟩) hsW).keep (fun b hb hlt => ⟨⟨hb.1, hnb b hlt hb.2⟩, keepB (x := v) c5 hsW b hlt (by have := hb.1; omega) hb.2⟩) hs25
      · refine hv2.keep (fun b hb hlt => ?_) hs25
        have hne : sv.ownBlock ≠ some b := fun e => by have := (own_lt h5 b e).2; have hb' : W.heap.size ≤ b := hb; omega
        have hb' : W.heap.size ≤ b := hb
        exact ⟨⟨by omega, hnb b hlt hne⟩, keepB (x := v) c5 hsW b hlt (by omega) hne⟩
/-- A list's beginning. -/
def lw0 (w : World) (g : Nat) (T1 T2 : TypeId) : World := ((w.alloc (.cells #[.pointer (some ⟨g, 0, none⟩)] 91)).alloc (.cells #[] T1)).alloc (.cells #[.slice (some ⟨w.heap.size + 1, 0, none⟩) 0 0] T2)
theorem lw0_size (w : World) (g : Nat) (T1 T2 : TypeId) : (lw0 w g T1 T2).heap.size = w.heap.size + 3 := by simp [lw0]
theorem lw0_at (w : World) (g : Nat) (T1 T2 : TypeId) : (lw0 w g T1 T2).heap[w.heap.size]? = some (.cells #[.pointer (some ⟨g, 0, none⟩)] 91 (0, 0)) ∧ (lw0 w g T1 T2).heap[w.heap.size + 1]? = some (.cells #[] T1 (0, 0)) ∧ (lw0 w g T1 T2).heap[w.heap.size + 2]? = some (.cells #[.slice (some ⟨w.heap.size + 1, 0, none⟩) 0 0] T2 (0, 0)) ∧ Below w.heap.size w (lw0 w g T1 T2) := by
  refine ⟨?_, ?_, ?_, ?_⟩
  · have h1 := heap_alloc_new w (.cells #[.pointer (some ⟨g, 0, none⟩)] 91)
    unfold lw0
    rw [heap_alloc_old _ _ (by simp; omega), heap_alloc_old _ _ (by simp)]; exact h1
  · have h1 := heap_alloc_new (w.alloc (.cells #[.pointer (some ⟨g, 0, none⟩)] 91)) (.cells #[] T1)
    rw [show (w.alloc (.cells #[.pointer (some ⟨g, 0, none⟩)] 91)).heap.size = w.heap.size + 1 by simp] at h1
    unfold lw0
    rw [heap_alloc_old _ _ (by simp)]; exact h1
  · have h1 := heap_alloc_new ((w.alloc (.cells #[.pointer (some ⟨g, 0, none⟩)] 91)).alloc (.cells #[] T1)) (.cells #[.slice (some ⟨w.heap.size + 1, 0, none⟩) 0 0] T2)
    rw [show ((w.alloc (.cells #[.pointer (some ⟨g, 0, none⟩)] 91)).alloc (.cells #[] T1)).heap.size = w.heap.size + 2 by simp] at h1
    exact h1
  · exact ((((Below.refl _ w).alloc (Nat.le_refl _) _).alloc (by simp) _).alloc (by simp; omega) _)
set_option maxHeartbeats 4000000 in
theorem list_walk {w : World} {g : Nat} {Pst : Int → Value → World → Prop}
    (hP : Calls Tryd.prog 78 #[.pointer (some ⟨g, 0, none⟩), .int .u8 93, .func (.func 81) #[] #[.pointer (some ⟨w.heap.size, 0, none⟩), .pointer (some ⟨w.heap.size + 2, 0, none⟩)]] (lw0 w g 31 49) fun e W' => ∃ c ad m cc, e = .returned (.int .i64 c) ∧ W'.heap[w.heap.size + 2]? = some (.cells #[.slice ad m cc] 49 (0, 0)) ∧ Pst c (.slice ad m cc) W') :
    Calls Tryd.prog 69 #[.pointer (some ⟨g, 0, none⟩)] w fun e w' => ∃ c x, e = .returned (.tuple #[.iface 49 x, .int .i64 c]) ∧ Pst c x w' := by
  go_enter Tryd.func69, Tryd.ntmps69
  go_wp2_with fail
  refine Calls.mono hP ?_
  rintro e W2 ⟨c, ad, m, cc, rfl, h1, h2⟩
  obtain ⟨c1, f1⟩ := cell_of h1
  clear h1 hP
  go_wp2
  go_ret2
  exact ⟨c, _, rfl, h2⟩
theorem list_any {w : World} {g i d k : Nat} {s : ByteArray} {ev : Value} (h : PB w g s i d) (hi : i < s.size) (hs : s.size ≤ 8192) (hv : EV w ev) (hg0 : g ≠ 0) (hd : d + 1 + k = 16) (HV : VC g s ev k) :
    Calls Tryd.prog 69 #[.pointer (some ⟨g, 0, none⟩)] w fun e w' => VP g s d w (wrapL (open' s 93 (fun _ => val s k) i)) e w' := by
  have hg := h.lt
  obtain ⟨a1, a2, a3, a4⟩ := lw0_at w g 31 49
  have hsz := lw0_size w g 31 49
  have hPB : PB (lw0 w g 31 49) g s i d := h.keep (a4.block g hg)
  have hI : IL g w.heap.size ev (lw0 w g 31 49) [] := ⟨hv.below a4, by omega, a1, _, [], a3, ⟨rfl, .inr ⟨w.heap.size + 1, 0, #[], rfl, Nat.le_refl _, a2, Nat.le_refl _, by decide, rfl, rfl⟩⟩, rfl, fun i x j hx => by simp at hx⟩
  have hp := parts_lst (B := w.heap.size) hPB hi hs (by omega) (list1_any hs hg hg0 hd HV) hI
  have out : ∀ {W'}, CgB g w.heap.size (lw0 w g 31 49) W' → Cg g w W' := fun hc =>
    ⟨hc.os.trans a4.os, hc.tape.trans a4.tape, hc.output.trans a4.output, Nat.le_trans a4.size hc.size, fun b hb hf => (hc.other b (by omega) (fun q => q.elim hf (by omega))).trans (a4.block b hb)⟩
  cases hR : open' s 93 (fun _ => val s k) i with
  | ok l j =>
    rw [hR] at hp
    refine (list_walk (Pst := fun c x w' => c = 0 ∧ PB w' g s j d ∧ Cg g w w' ∧ VJ (fun b => w.heap.size ≤ b) w' (.iface 49 x) (.lst l)) (hp.mono ?_)).mono ?_
    · rintro e W' ⟨rfl, q1, ⟨r1, r2, r3, sv, vs, r4, r5, r6⟩, q3⟩
      obtain ⟨ad, m, cc, rfl⟩ := own_slice r5
      exact ⟨0, ad, m, cc, rfl, r4, rfl, q1, out q3, .lst _ vs l (own_rv r5 (fun b e => by have := (own_lt r5 b e).1; show _ ≤ _; omega)) r6.1 (fun i x j hx hj => (r6.2 i x j hx hj).keep (fun b hb hlt => ⟨by have := hb.1; show _ ≤ _; omega, rfl⟩) (Nat.le_refl _))⟩
    · rintro e w' ⟨c, x, rfl, rfl, q1, q2, q3⟩
      exact ⟨_, rfl, q1, q2, q3⟩
  | bad j =>
    rw [hR] at hp
    refine (list_walk (Pst := fun c x w' => c = 2 ∧ (∃ d', PB w' g s j d') ∧ Cg g w w') (hp.mono ?_)).mono ?_
    · rintro e W' ⟨rfl, q1, ⟨ad, m, cc, q2⟩, q3⟩
      exact ⟨2, ad, m, cc, rfl, q2, rfl, q1, out q3⟩
    · rintro e w' ⟨c, x, rfl, rfl, q1, q2⟩
      exact ⟨_, rfl, .inl ⟨_, _, rfl⟩, q1, q2⟩
  | big j =>
    rw [hR] at hp
    refine (list_walk (Pst := fun c x w' => c = 6 ∧ (∃ d', PB w' g s j d') ∧ Cg g w w') (hp.mono ?_)).mono ?_
    · rintro e W' ⟨rfl, q1, ⟨ad, m, cc, q2⟩, q3⟩
      exact ⟨6, ad, m, cc, rfl, q2, rfl, q1, out q3⟩
    · rintro e w' ⟨c, x, rfl, rfl, q1, q2⟩
      exact ⟨_, rfl, .inl ⟨_, _, rfl⟩, q1, q2⟩
theorem list_big {w : World} {g i : Nat} {s : ByteArray} (h : PB w g s i 16) :
    Calls Tryd.prog 69 #[.pointer (some ⟨g, 0, none⟩)] w fun e w' => VP g s 16 w (.big i) e w' := by
  have hg := h.lt
  obtain ⟨a1, a2, a3, a4⟩ := lw0_at w g 31 49
  have hPB : PB (lw0 w g 31 49) g s i 16 := h.keep (a4.block g hg)
  refine (list_walk (Pst := fun c x w' => c = 6 ∧ (∃ d', PB w' g s i d') ∧ Cg g w w') ((big_lst hPB).mono ?_)).mono ?_
  · rintro e W' ⟨rfl, rfl⟩
    exact ⟨6, _, _, _, rfl, a3, rfl, ⟨_, hPB⟩, Chg.ofBelow a4⟩
  · rintro e w' ⟨c, x, rfl, rfl, q1, q2⟩
    exact ⟨_, rfl, .inl ⟨_, _, rfl⟩, q1, q2⟩
end Go.Proofs.YtefaohokmhdplaaDoor
