/- Package json: Parse. -/
import Derived.Test.YtefaohokmhdplaaDoorJsY
namespace Go.Proofs.YtefaohokmhdplaaDoor
open Go Go.RowKit
set_option linter.unusedSimpArgs false
set_option linter.unusedVariables false
set_option maxRecDepth 100000

/-- What the whole text's reading answers, the parser standing at the fault. -/
def AP (g : Nat) (s : ByteArray) (w : World) : Res → Ending → World → Prop
  | .val jv, e, w' => ∃ v j, e = .returned (.tuple #[v, .int .i64 0]) ∧ PB w' g s j 0 ∧ Cg g w w' ∧ VJ (fun b => w.heap.size ≤ b) w' v jv
  | .err j l, e, w' => e = .returned (.tuple #[.nilIface, .int .i64 (if l then 6 else 2)]) ∧ (∃ d', PB w' g s j d') ∧ Cg g w w'
/-- The whole text, but for its length. -/
def whole' (s : ByteArray) : Res := match val s 16 (sk s 0) with
    | .ok v j => if sk s j < s.size then .err (sk s j) false else .val v
    | .bad j => .err j false
    | .big j => .err j true
theorem Cg.drawn {g : Nat} {w w' : World} (h : Cg g w w') (n : Nat) : Cg g w (w'.drewN n) := Chg.drew h n
set_option maxHeartbeats 8000000 in
theorem all_any {w : World} {g : Nat} {s : ByteArray} {ev : Value} (h : PB w g s 0 0) (hs : s.size ≤ 8192) (hv : EV w ev) (hg0 : g ≠ 0) :
    Calls Tryd.prog 27 #[.pointer (some ⟨g, 0, none⟩)] w fun e w' => AP g s w (whole' s) e w' := by
  have HS : Hid (s.size ≤ 8192) := hs
  have H : Hid (PB w g s 0 0) := h
  have HV : Hid (EV w ev) := hv
  have HVC : Hid (VC g s ev 16) := value_any hs hg0 16
  obtain ⟨R, hR⟩ : ∃ R, whole' s = R := ⟨_, rfl⟩
  have HR : Hid ((match val s 16 (sk s 0) with
    | .ok v j => if sk s j < s.size then Res.err (sk s j) false else .val v
    | .bad j => .err j false
    | .big j => .err j true) = R) := hR
  rw [hR]
  clear h hs hv hR
  go_enter Tryd.func27, Tryd.ntmps27
  go_wp2_with fail
  refine (blanks_any H.out (Nat.zero_le _) HS.out).mono ?_
  rintro e W2 ⟨rfl, p, c⟩
  have hi := sk_le (s := s) (i := 0) (Nat.zero_le _)
  obtain ⟨i, hii⟩ : ∃ i, sk s 0 = i := ⟨_, rfl⟩
  rw [hii] at p hi HR
  have HP2 : Hid (PB W2 g s i 0) := p
  have HC2 : Hid (Cg g w W2) := c
  have HV2 : Hid (EV W2 ev) := HV.out.chg c hg0
  clear p c hii
  go_wp2_with fail
  refine (HVC.out W2 i 0 HP2.out hi rfl HV2.out).mono ?_
  intro e W3 hvp
  cases ho : val s 16 i with
  | bad j =>
    rw [ho] at hvp
    obtain ⟨v, rfl, h1, ⟨d', p⟩, c⟩ := hvp
    have HR2 : Hid (R = .err j false) := by show _ = _; rw [← HR.out, ho]
    have HC3 : Hid (Cg g w W3) := HC2.out.trans c
    have HP3 : Hid (PB W3 g s j d') := p
    clear p c h1
    go_wp2
    go_ret2
    rw [HR2.out]
    exact ⟨rfl, ⟨_, HP3.out⟩, HC3.out⟩
  | big j =>
    rw [ho] at hvp
    obtain ⟨v, rfl, h1, ⟨d', p⟩, c⟩ := hvp
    have HR2 : Hid (R = .err j true) := by show _ = _; rw [← HR.out, ho]
    have HC3 : Hid (Cg g w W3) := HC2.out.trans c
    have HP3 : Hid (PB W3 g s j d') := p
    clear p c h1
    go_wp2
    go_ret2
    rw [HR2.out]
    exact ⟨rfl, ⟨_, HP3.out⟩, HC3.out⟩
  | ok jv j =>
    rw [ho] at hvp
    obtain ⟨v, rfl, p, c, hvj⟩ := hvp
    have hin := val_in s 16 i hi
    rw [ho] at hin
    have HR2 : Hid (R = if sk s j < s.size then Res.err (sk s j) false else .val jv) := by show _ = _; rw [← HR.out, ho]
    have HC3 : Hid (Cg g w W3) := HC2.out.trans c
    have HP3 : Hid (PB W3 g s j 0) := p
    have HW23 : Hid (w.heap.size ≤ W2.heap.size) := HC2.out.size
    have HVJ : Hid (VJ (fun b => W2.heap.size ≤ b) W3 v jv) := hvj
    have hj := hin.2
    clear p c hin hvj ho HR
    go_wp2_with fail
    refine (blanks_any HP3.out hj HS.out).mono ?_
    rintro e W4 ⟨rfl, p, c⟩
    have hm := sk_le (s := s) (i := j) hj
    obtain ⟨m, hmm⟩ : ∃ m, sk s j = m := ⟨_, rfl⟩
    rw [hmm] at p hm HR2
    have HP4 : Hid (PB W4 g s m 0) := p
    have HC4 : Hid (Cg g w W4) := HC3.out.trans c
    have HVJ4 : Hid (VJ (fun b => w.heap.size ≤ b) W4 v jv) := HVJ.out.keep (fun b hb hlt => ⟨Nat.le_trans HW23.out hb, c.other b hlt (by have h1 : W2.heap.size ≤ b := hb; have := HP2.out.lt; omega)⟩) c.size
    obtain ⟨q0, q1, q2⟩ := HP4.out.cells
    clear p c hmm HVJ HP3 HC3
    by_cases hlt : m < s.size
    · have hlt' : (m : Int) < (s.size : Int) := by omega
      have HR3 : Hid (R = .err m false) := by show _ = _; rw [HR2.out, if_pos hlt]
      go_wp2
      go_quiet (fail)
      go_wp2
      go_ret2
      rw [HR3.out]
      exact ⟨rfl, ⟨_, HP4.out.drew _⟩, HC4.out.drawn _⟩
    · have hlt' : ¬ (m : Int) < (s.size : Int) := by omega
      have HR3 : Hid (R = .val jv) := by show _ = _; rw [HR2.out, if_neg hlt]
      go_wp2
      go_quiet (fail)
      go_wp2
      go_ret2
      rw [HR3.out]
      exact ⟨_, _, rfl, HP4.out.drew _, HC4.out.drawn _, HVJ4.out.keep (fun b hb hlt => ⟨hb, rfl⟩) (Nat.le_refl _)⟩
/-- What Parse answers. -/
def RP (w : World) : Res → Ending → World → Prop
  | .val jv, e, w' => ∃ v, e = .returned (.tuple #[v, .int .i64 0, .int .i64 0]) ∧ VJ (fun b => w.heap.size ≤ b) w' v jv ∧ Below w.heap.size w w'
  | .err j l, e, w' => e = .returned (.tuple #[.nilIface, .int .i64 (j : Int), .int .i64 (if l then 6 else 2)]) ∧ Below w.heap.size w w'
theorem out_cg {w w' : World} {o : Obj} (h : Cg w.heap.size (w.alloc o) w') : Below w.heap.size w w' :=
  ⟨h.os, h.tape, h.output, Nat.le_trans (by simp) h.size, fun b hb => (h.other b (by simp; omega) (by omega)).trans (heap_alloc_old _ _ hb)⟩
set_option maxHeartbeats 8000000 in
theorem parse_any {w : World} {s : ByteArray} {ev : Value} (hs : s.size ≤ 9223372036854775807) (hv : EV w ev) :
    Calls Tryd.prog 11 #[.string s] w fun e w' => RP w (whole s) e w' := by
  by_cases hl : 8192 < s.size
  · have hl' : (8192 : Int) < (s.size : Int) := by omega
    have HR : Hid (whole s = .err 0 true) := by show _ = _; unfold whole; rw [if_pos hl]
    go_enter Tryd.func11, Tryd.ntmps11
    go_wp2
    go_ret3
    rw [HR.out]
    exact ⟨rfl, Below.refl _ _⟩
  · have hl' : ¬ (8192 : Int) < (s.size : Int) := by omega
    have HR : Hid (whole s = whole' s) := by show _ = _; unfold whole; rw [if_neg hl]; rfl
    have hg0 : w.heap.size ≠ 0 := by have := Lib.lt_of_cell hv.1; intro e; rw [e] at this; exact absurd this (by decide)
    have HPB : Hid (PB (w.alloc (.cells #[.string s, .int .i64 0, .int .i64 0] 64)) w.heap.size s 0 0) := heap_alloc_new _ _
    have HEV : Hid (EV (w.alloc (.cells #[.string s, .int .i64 0, .int .i64 0] 64)) ev) := hv.below ((Below.refl _ _).alloc (Nat.le_refl _) _)
    have hA := @all_any (w.alloc (.cells #[.string s, .int .i64 0, .int .i64 0] 64)) w.heap.size s ev HPB.out (by omega) HEV.out hg0
    rw [HR.out]
    obtain ⟨R, hR⟩ : ∃ R, whole' s = R := ⟨_, rfl⟩
    rw [hR] at hA ⊢
    clear hR HR HEV HPB hv hs hl
    go_enter Tryd.func11, Tryd.ntmps11
    go_wp2_with fail
    refine hA.mono ?_
    intro e W2 hap
    cases R with
    | val jv =>
      obtain ⟨v, j, rfl, p, c, hvj⟩ := hap
      have HVJ : Hid (VJ (fun b => w.heap.size ≤ b) W2 v jv) := hvj.keep (fun b hb hlt => ⟨Nat.le_trans (by simp) hb, rfl⟩) (Nat.le_refl _)
      have HB : Hid (Below w.heap.size w W2) := out_cg c
      clear p c hvj hA
      go_wp2
      go_ret3
      exact ⟨_, rfl, HVJ.out, HB.out⟩
    | err j l =>
      obtain ⟨rfl, ⟨d', p⟩, c⟩ := hap
      have HB : Hid (Below w.heap.size w W2) := out_cg c
      obtain ⟨q0, q1, q2⟩ := p.cells
      clear p c hA
      cases l with
      | true =>
        simp only [if_true]
        go_wp2
        go_quiet (fail)
        go_wp2
        go_ret3
        exact ⟨rfl, below_drewN HB.out _⟩
      | false =>
        simp only [Bool.false_eq_true, if_false]
        go_wp2
        go_quiet (fail)
        go_wp2
        go_ret3
        exact ⟨rfl, below_drewN HB.out _⟩
end Go.Proofs.YtefaohokmhdplaaDoor
