/- What is signed of a root: RootBytes, and the reference's. -/
import Derived.Test.YtfnmdeekenjlgaaRgnR
import Derived.Test.YtfnmdeekenjlgaaWirH
namespace Go.Proofs.Ytfnmdeekenjlgaa
open Go Go.RowKit
set_option linter.unusedSimpArgs false
set_option linter.unusedVariables false
set_option maxRecDepth 100000

def rbval (R : Rt) (h : Nat) : Nat → Value
  | 2 => .pointer (some ⟨h, 0, none⟩)
  | 3 => .int .u64 R.ep
  | 5 => .pointer (some ⟨h, 1, none⟩)
  | 6 => .int .u64 R.kd
  | 8 => .pointer (some ⟨h, 2, none⟩)
  | 9 => .int .u64 R.gn
  | 11 => .pointer (some ⟨h, 3, none⟩)
  | 12 => .slice (some ⟨h, 3, none⟩) 32 32
  | 13 => .pointer (some ⟨h, 35, none⟩)
  | 14 => .slice (some ⟨h, 35, none⟩) 32 32
  | 15 => .pointer (some ⟨h, 67, none⟩)
  | 16 => .slice (some ⟨h, 67, none⟩) 32 32
  | _ => .int .i64 (encE R.list)
/-- What each operation yields. -/
structure RB (R : Rt) (h B : Nat) (i : Nat) (v : Value) (w : World) : Prop where
  val : (i ≠ 0 ∧ i ≠ 1 ∧ i ≠ 4 ∧ i ≠ 7 ∧ i ≠ 10 ∧ i ≠ 17 ∧ i ≠ 18 ∧ i ≠ 19 ∧ i ≠ 20 ∧ i ≠ 22) → v = rbval R h i
  wrd : i = 0 → ∃ g n, v = .slice (some ⟨g, 0, none⟩) 4 4 ∧ B ≤ g ∧ g < w.heap.size ∧ w.shape? g = some (5, n) ∧ Sl w v [114, 111, 111, 116]
  one : i = 1 → Sl w v [114, 111, 111, 116]
  ep : i = 4 → Sl w v (be 8 R.ep)
  kd : i = 7 → Sl w v (be 8 R.kd)
  gn : i = 10 → Sl w v (be 8 R.gn)
  lst : i = 17 → LL w v R.list
  enc : i = 18 ∨ i = 19 → ∃ v', v = .tuple #[v', .int .i64 (encE R.list)] ∧ Sl w v' (encB R.list)
  res : i = 20 ∨ i = 22 → Sl w v (encB R.list)
theorem RB.stays {R : Rt} {h B : Nat} (i : Nat) (v : Value) (w w' : World) (k : RB R h B i v w) (m : Mk B w w') : RB R h B i v w' :=
  ⟨k.val, fun e => by
    obtain ⟨g, n, h1, h2, h3, h4, h5⟩ := k.wrd e
    exact ⟨g, n, h1, h2, Nat.lt_of_lt_of_le h3 m.size, (m.shape g h3).trans h4, h5.mk m⟩, fun e => (k.one e).mk m, fun e => (k.ep e).mk m, fun e => (k.kd e).mk m, fun e => (k.gn e).mk m, fun e => (k.lst e).mk m, fun e => by
    obtain ⟨v', h1, h2⟩ := k.enc e
    exact ⟨v', h1, h2.mk m⟩, fun e => (k.res e).mk m⟩
theorem RB.ofVal {R : Rt} {h B i : Nat} {w : World} (hi : i ≠ 0 ∧ i ≠ 1 ∧ i ≠ 4 ∧ i ≠ 7 ∧ i ≠ 10 ∧ i ≠ 17 ∧ i ≠ 18 ∧ i ≠ 19 ∧ i ≠ 20 ∧ i ≠ 22) : RB R h B i (rbval R h i) w :=
  ⟨fun _ => rfl, fun e => absurd e (by omega), fun e => absurd e (by omega), fun e => absurd e (by omega), fun e => absurd e (by omega), fun e => absurd e (by omega), fun e => absurd e (by omega), fun e => absurd e (by omega), fun e => absurd e (by omega)⟩
theorem hpB {ops : Array Oper} {φ : Nat → Value → World → Prop} {a : Act} {w : World} {i : Nat} (hp : ∀ p ∈ RR.preds ops i, φ p.1 (a.eval (.tmp p.2)) w) (k d : Nat) (h : (RR.preds ops i).contains (k, d) = true) : φ k (a.eval (.tmp d)) w :=
  hp (k, d) (List.contains_iff_mem.1 h)
theorem Rt.lens {R : Rt} (h : R.Ok) : Lens R.list ∧ R.list.length = 7 := by
  refine ⟨fun i hi => ?_, rfl⟩
  have hi' : i < 7 := hi
  have h1 := h.pr.1; have h2 := h.hs.1; have h3 := h.lk.1
  rcases (show i = 0 ∨ i = 1 ∨ i = 2 ∨ i = 3 ∨ i = 4 ∨ i = 5 ∨ i = 6 by omega) with rfl | rfl | rfl | rfl | rfl | rfl | rfl <;> simp [mi, Rt.list, be_length, h1, h2, h3]
theorem Rt.size {R : Rt} (h : R.Ok) : R.cells.length = 163 := by
  simp [Rt.cells, bv_length, h.pr.1, h.hs.1, h.lk.1, h.sg.1]
theorem cells_at (R : Rt) (h : R.Ok) : (∀ j, j < 32 → R.cells[3 + j]? = some (.int .u8 (gi R.pr j))) ∧ (∀ j, j < 32 → R.cells[35 + j]? = some (.int .u8 (gi R.hs j))) ∧ (∀ j, j < 32 → R.cells[67 + j]? = some (.int .u8 (gi R.lk j))) ∧ (∀ j, j < 64 → R.cells[99 + j]? = some (.int .u8 (gi R.sg j))) := by
  have e1 : (bv R.pr).length = 32 := by rw [bv_length, h.pr.1]
  have e2 : (bv R.hs).length = 32 := by rw [bv_length, h.hs.1]
  have e3 : (bv R.lk).length = 32 := by rw [bv_length, h.lk.1]
  unfold Rt.cells
  refine ⟨fun j hj => ?_, fun j hj => ?_, fun j hj => ?_, fun j hj => ?_⟩
  · rw [List.getElem?_append_right (by simp <;> omega), List.getElem?_append_left (by rw [e1]; simp <;> omega)]
    simpa using bv_get R.pr (by rw [h.pr.1]; exact hj)
  · rw [List.getElem?_append_right (by simp <;> omega), List.getElem?_append_right (by rw [e1]; simp <;> omega), List.getElem?_append_left (by rw [e1, e2]; simp <;> omega), e1]
    have := bv_get R.hs (i := j) (by rw [h.hs.1]; exact hj)
    rw [show 35 + j - [Value.int .u64 R.ep, .int .u64 R.kd, .int .u64 R.gn].length - 32 = j by simp; omega]; exact this
  · rw [List.getElem?_append_right (by simp <;> omega), List.getElem?_append_right (by rw [e1]; simp <;> omega), List.getElem?_append_right (by rw [e1, e2]; simp <;> omega), List.getElem?_append_left (by rw [e1, e2, e3]; simp <;> omega), e1, e2]
    have := bv_get R.lk (i := j) (by rw [h.lk.1]; exact hj)
    rw [show 67 + j - [Value.int .u64 R.ep, .int .u64 R.kd, .int .u64 R.gn].length - 32 - 32 = j by simp; omega]; exact this
  · rw [List.getElem?_append_right (by simp <;> omega), List.getElem?_append_right (by rw [e1]; simp <;> omega), List.getElem?_append_right (by rw [e1, e2]; simp <;> omega), List.getElem?_append_right (by rw [e1, e2, e3]; simp <;> omega), e1, e2, e3]
    have := bv_get R.sg (i := j) (by rw [h.sg.1]; exact hj)
    rw [show 99 + j - [Value.int .u64 R.ep, .int .u64 R.kd, .int .u64 R.gn].length - 32 - 32 - 32 = j by simp; omega]; exact this
theorem shape_new (w : World) (cs : Array Value) (t : TypeId) : (w.alloc (.cells cs t)).shape? w.heap.size = some (t, cs.size) := by
  have : (w.alloc (.cells cs t)).heap[w.heap.size]? = some (.cells cs t) := by show (w.heap.push _)[w.heap.size]? = _; simp
  unfold World.shape?
  rw [this]
set_option maxHeartbeats 2000000 in
theorem rootBytes_any (R : Rt) (w : World) (hR : R.Ok) :
    Calls Try.prog 56 #[.agg R.cells.toArray] w fun e w' => ∃ v', e = .returned v' ∧ Sl w' v' (encB R.list) ∧ Below w.heap.size w w' := by
  have HR : Hid R.Ok := hR
  have hsz : R.cells.toArray.size = 163 := by simpa using Rt.size hR
  obtain ⟨A, hA⟩ : ∃ A, R.cells.toArray = A := ⟨_, rfl⟩
  have HA : Hid (R.cells.toArray = A) := hA
  rw [hA] at hsz ⊢
  clear hA hR
  go_enter Try.func56, Try.ntmps56
  go_wp2
  have HW : Hid (∀ j, (w.alloc (Obj.cells A 26)).cell? ⟨w.heap.size, j, none⟩ = A[j]?) := fun j => cell_alloc w A _ _ j
  have HZ : Hid (Below w.heap.size w (w.alloc (Obj.cells A 26))) := (Below.refl _ w).alloc (Nat.le_refl _) _
  have hs0 : (w.alloc (Obj.cells A 26)).heap.size = w.heap.size + 1 := by simp
  have HS : Hid ((w.alloc (Obj.cells A 26)).heap.size = w.heap.size + 1) := hs0
  clear hs0
  obtain ⟨W0, hW0⟩ : ∃ W0, w.alloc (Obj.cells A 26) = W0 := ⟨_, rfl⟩
  rw [hW0] at HW HZ HS ⊢
  obtain ⟨h, hh⟩ : ∃ h, w.heap.size = h := ⟨_, rfl⟩
  have HH : Hid (w.heap.size = h) := hh
  rw [hh] at HW HS ⊢
  clear hW0 hh
  have C : Hid (∀ W, Mk (h + 1) W0 W → ∀ j, W.cell? ⟨h, j, none⟩ = A[j]?) := fun W m j => (m.cell h j (by rw [HS.out]; omega)).trans (HW.out j)
  have hA0 : ∀ j, A[j]? = R.cells[j]? := fun j => by rw [← HA.out, List.getElem?_toArray]
  have CA := cells_at R HR.out
  have RW : ∀ W, Mk (h + 1) W0 W → Sl W (.slice (some ⟨h, 3, none⟩) 32 32) R.pr ∧ Sl W (.slice (some ⟨h, 35, none⟩) 32 32) R.hs ∧ Sl W (.slice (some ⟨h, 67, none⟩) 32 32) R.lk := fun W m => by
    have hl : h < W.heap.size := by have := m.size; rw [HS.out] at this; omega
    have r1 := HR.out.pr.1; have r2 := HR.out.hs.1; have r3 := HR.out.lk.1
    exact ⟨⟨_, 32, by rw [r1], by rw [r1]; omega, .inr ⟨h, 3, rfl, hl, fun i hi => by rw [C.out W m, hA0]; exact CA.1 i (by rw [r1] at hi; exact hi)⟩⟩,
      ⟨_, 32, by rw [r2], by rw [r2]; omega, .inr ⟨h, 35, rfl, hl, fun i hi => by rw [C.out W m, hA0]; exact CA.2.1 i (by rw [r2] at hi; exact hi)⟩⟩,
      ⟨_, 32, by rw [r3], by rw [r3]; omega, .inr ⟨h, 67, rfl, hl, fun i hi => by rw [C.out W m, hA0]; exact CA.2.2.1 i (by rw [r3] at hi; exact hi)⟩⟩⟩
  have c0 : A[0]? = some (.int .u64 R.ep) := by rw [hA0]; rfl
  have c1 : A[1]? = some (.int .u64 R.kd) := by rw [hA0]; rfl
  have c2 : A[2]? = some (.int .u64 R.gn) := by rw [hA0]; rfl
  have HZ1 : Hid (∀ W, Mk (h + 1) W0 W → h + 1 ≤ W.heap.size) := fun W m => by have := m.size; rw [HS.out] at this; exact this
  refine RR.wp_rgn (RB R h (h + 1)) (Mk (h + 1)) (Mk.draw _ _) (fun _ _ _ => Mk.trans) (by kernel_rfl) (by decide) (by kernel_rfl) (by kernel_rfl) RB.stays ?_ ?_
  · refine ⟨?_, ?_, ?_, ?_, ?_, ?_, ?_, ?_, ?_, ?_, ?_, ?_, ?_, ?_, ?_, ?_, ?_, ?_, ?_, ?_, ?_, ?_, ?_, ?_, trivial⟩
    · intro a W hb hf hp
      refine RR.ob_run (w' := W.alloc (.cells #[.int .u8 114, .int .u8 111, .int .u8 111, .int .u8 116] 5)) (v := .slice (some ⟨W.heap.size, 0, none⟩) 4 4) rfl (RR.wanted_none rfl) (fun ev h hc => by simp only [List.getElem_toArray, List.getElem_cons_succ, List.getElem_cons_zero, execOp]; simp [hc]; go_simp) ?_ (Mk.of ((Below.refl _ W).alloc (Nat.le_refl _) _) (HZ1.out W hb))
      have hsl : Sl (W.alloc (.cells #[.int .u8 114, .int .u8 111, .int .u8 111, .int .u8 116] 5)) (.slice (some ⟨W.heap.size, 0, none⟩) 4 4) [114, 111, 111, 116] := (Ow.lit W [114, 111, 111, 116] _ 4 rfl rfl (by simp)).sl
      exact ⟨fun e => absurd rfl e.1, fun _ => ⟨W.heap.size, 4, rfl, HZ1.out W hb, by simp, shape_new W _ _, hsl⟩, fun e => absurd e (by decide), fun e => absurd e (by decide), fun e => absurd e (by decide), fun e => absurd e (by decide), fun e => absurd e (by decide), fun e => absurd e (by decide), fun e => absurd e (by decide)⟩
    · intro a W hb hf hp
      obtain ⟨g, n, h1, h2, h3, h4, h5⟩ := (hpB hp 0 6 (by kernel_rfl)).wrd rfl
      refine RR.ob_run (w' := W.freeze ⟨g, n, none⟩ 1) (v := .slice (some ⟨g, 0, none⟩) 4 4) rfl (RR.wanted_none rfl) (fun ev h hc => by have q := (h (.tmp 6)).trans h1; simp only [List.getElem_toArray, List.getElem_cons_succ, List.getElem_cons_zero, execOp]; rw [q]; simp [conv_mark g 4 4 _ n W h4]) ?_ (Mk.freeze h2)
      rw [h1] at h5
      exact ⟨fun e => absurd rfl e.2.1, fun e => absurd e (by decide), fun _ => h5.mk (Mk.freeze (B := h + 1) h2), fun e => absurd e (by decide), fun e => absurd e (by decide), fun e => absurd e (by decide), fun e => absurd e (by decide), fun e => absurd e (by decide), fun e => absurd e (by decide)⟩
    · intro a W hb hf hp
      have f1 : a.eval (.tmp 1) = .pointer (some ⟨h, 0, none⟩) := hf 1 (by kernel_rfl)
      exact RR.ob_val (Mk.refl _) rfl (RR.wanted_none rfl) (fun ev h hc => by have q := (h (.tmp 1)).trans f1; simp only [List.getElem_toArray, List.getElem_cons_succ, List.getElem_cons_zero, execOp]; rw [q]; go_simp <;> (first | rfl | simp [rbval])) (RB.ofVal (by decide))
    · intro a W hb hf hp
      have e0 : a.eval (.tmp 8) = rbval R h 2 := (hpB hp 2 8 (by kernel_rfl)).val (by decide)
      have hc0 := (C.out W hb 0).trans c0
      exact RR.ob_val (Mk.refl _) rfl (RR.wanted_none rfl) (fun ev h hc => by have q := (h (.tmp 8)).trans e0; simp only [List.getElem_toArray, List.getElem_cons_succ, List.getElem_cons_zero, execOp]; rw [q]; simp only [rbval]; go_simp <;> (first | rfl | simp [rbval])) (RB.ofVal (by decide))
    · intro a W hb hf hp
      have e0 : a.eval (.tmp 9) = .int .u64 R.ep := (hpB hp 3 9 (by kernel_rfl)).val (by decide)
      refine RR.ob_call (f := 20) (args := #[.int .u64 R.ep]) rfl (RR.wanted_none rfl) (fun ev h hc => by have hfn := h (.func 20); have q := (h (.tmp 9)).trans e0; simp [execOp, resolve, q, hfn, hc, go_sem]) ((num_any R.ep W HR.out.ep.1 HR.out.ep.2).mono ?_)
      rintro e w6 ⟨v6, rfl, h6, h7⟩
      exact ⟨v6, rfl, ⟨fun e => absurd rfl e.2.2.1, fun e => absurd e (by decide), fun e => absurd e (by decide), fun _ => h6.sl, fun e => absurd e (by decide), fun e => absurd e (by decide), fun e => absurd e (by decide), fun e => absurd e (by decide), fun e => absurd e (by decide)⟩, Mk.of h7 (HZ1.out W hb)⟩
    · intro a W hb hf hp
      have f1 : a.eval (.tmp 1) = .pointer (some ⟨h, 0, none⟩) := hf 1 (by kernel_rfl)
      exact RR.ob_val (Mk.refl _) rfl (RR.wanted_none rfl) (fun ev h hc => by have q := (h (.tmp 1)).trans f1; simp only [List.getElem_toArray, List.getElem_cons_succ, List.getElem_cons_zero, execOp]; rw [q]; go_simp <;> (first | rfl | simp [rbval])) (RB.ofVal (by decide))
    · intro a W hb hf hp
      have e0 : a.eval (.tmp 11) = rbval R h 5 := (hpB hp 5 11 (by kernel_rfl)).val (by decide)
      have hc0 := (C.out W hb 1).trans c1
      exact RR.ob_val (Mk.refl _) rfl (RR.wanted_none rfl) (fun ev h hc => by have q := (h (.tmp 11)).trans e0; simp only [List.getElem_toArray, List.getElem_cons_succ, List.getElem_cons_zero, execOp]; rw [q]; simp only [rbval]; go_simp <;> (first | rfl | simp [rbval])) (RB.ofVal (by decide))
    · intro a W hb hf hp
      have e0 : a.eval (.tmp 12) = .int .u64 R.kd := (hpB hp 6 12 (by kernel_rfl)).val (by decide)
      refine RR.ob_call (f := 20) (args := #[.int .u64 R.kd]) rfl (RR.wanted_none rfl) (fun ev h hc => by have hfn := h (.func 20); have q := (h (.tmp 12)).trans e0; simp [execOp, resolve, q, hfn, hc, go_sem]) ((num_any R.kd W HR.out.kd.1 HR.out.kd.2).mono ?_)
      rintro e w6 ⟨v6, rfl, h6, h7⟩
      exact ⟨v6, rfl, ⟨fun e => absurd rfl e.2.2.2.1, fun e => absurd e (by decide), fun e => absurd e (by decide), fun e => absurd e (by decide), fun _ => h6.sl, fun e => absurd e (by decide), fun e => absurd e (by decide), fun e => absurd e (by decide), fun e => absurd e (by decide)⟩, Mk.of h7 (HZ1.out W hb)⟩
    · intro a W hb hf hp
      have f1 : a.eval (.tmp 1) = .pointer (some ⟨h, 0, none⟩) := hf 1 (by kernel_rfl)
      exact RR.ob_val (Mk.refl _) rfl (RR.wanted_none rfl) (fun ev h hc => by have q := (h (.tmp 1)).trans f1; simp only [List.getElem_toArray, List.getElem_cons_succ, List.getElem_cons_zero, execOp]; rw [q]; go_simp <;> (first | rfl | simp [rbval])) (RB.ofVal (by decide))
    · intro a W hb hf hp
      have e0 : a.eval (.tmp 14) = rbval R h 8 := (hpB hp 8 14 (by kernel_rfl)).val (by decide)
      have hc0 := (C.out W hb 2).trans c2
      exact RR.ob_val (Mk.refl _) rfl (RR.wanted_none rfl) (fun ev h hc => by have q := (h (.tmp 14)).trans e0; simp only [List.getElem_toArray, List.getElem_cons_succ, List.getElem_cons_zero, execOp]; rw [q]; simp only [rbval]; go_simp <;> (first | rfl | simp [rbval])) (RB.ofVal (by decide))
    · intro a W hb hf hp
      have e0 : a.eval (.tmp 15) = .int .u64 R.gn := (hpB hp 9 15 (by kernel_rfl)).val (by decide)
      refine RR.ob_call (f := 20) (args := #[.int .u64 R.gn]) rfl (RR.wanted_none rfl) (fun ev h hc => by have hfn := h (.func 20); have q := (h (.tmp 15)).trans e0; simp [execOp, resolve, q, hfn, hc, go_sem]) ((num_any R.gn W HR.out.gn.1 HR.out.gn.2).mono ?_)
      rintro e w6 ⟨v6, rfl, h6, h7⟩
      exact ⟨v6, rfl, ⟨fun e => absurd rfl e.2.2.2.2.1, fun e => absurd e (by decide), fun e => absurd e (by decide), fun e => absurd e (by decide), fun e => absurd e (by decide), fun _ => h6.sl, fun e => absurd e (by decide), fun e => absurd e (by decide), fun e => absurd e (by decide)⟩, Mk.of h7 (HZ1.out W hb)⟩
    · intro a W hb hf hp
      have f1 : a.eval (.tmp 1) = .pointer (some ⟨h, 0, none⟩) := hf 1 (by kernel_rfl)
      exact RR.ob_val (Mk.refl _) rfl (RR.wanted_none rfl) (fun ev h hc => by have q := (h (.tmp 1)).trans f1; simp only [List.getElem_toArray, List.getElem_cons_succ, List.getElem_cons_zero, execOp]; rw [q]; go_simp <;> (first | rfl | simp [rbval])) (RB.ofVal (by decide))
    · intro a W hb hf hp
      have e0 : a.eval (.tmp 17) = rbval R h 11 := (hpB hp 11 17 (by kernel_rfl)).val (by decide)
      exact RR.ob_val (Mk.refl _) rfl (RR.wanted_none rfl) (fun ev h hc => by have q := (h (.tmp 17)).trans e0; simp only [List.getElem_toArray, List.getElem_cons_succ, List.getElem_cons_zero, execOp]; rw [q]; simp only [rbval]; go_simp <;> (first | rfl | simp [rbval])) (RB.ofVal (by decide))
    · intro a W hb hf hp
      have f1 : a.eval (.tmp 1) = .pointer (some ⟨h, 0, none⟩) := hf 1 (by kernel_rfl)
      exact RR.ob_val (Mk.refl _) rfl (RR.wanted_none rfl) (fun ev h hc => by have q := (h (.tmp 1)).trans f1; simp only [List.getElem_toArray, List.getElem_cons_succ, List.getElem_cons_zero, execOp]; rw [q]; go_simp <;> (first | rfl | simp [rbval])) (RB.ofVal (by decide))
    · intro a W hb hf hp
      have e0 : a.eval (.tmp 19) = rbval R h 13 := (hpB hp 13 19 (by kernel_rfl)).val (by decide)
      exact RR.ob_val (Mk.refl _) rfl (RR.wanted_none rfl) (fun ev h hc => by have q := (h (.tmp 19)).trans e0; simp only [List.getElem_toArray, List.getElem_cons_succ, List.getElem_cons_zero, execOp]; rw [q]; simp only [rbval]; go_simp <;> (first | rfl | simp [rbval])) (RB.ofVal (by decide))
    · intro a W hb hf hp
      have f1 : a.eval (.tmp 1) = .pointer (some ⟨h, 0, none⟩) := hf 1 (by kernel_rfl)
      exact RR.ob_val (Mk.refl _) rfl (RR.wanted_none rfl) (fun ev h hc => by have q := (h (.tmp 1)).trans f1; simp only [List.getElem_toArray, List.getElem_cons_succ, List.getElem_cons_zero, execOp]; rw [q]; go_simp <;> (first | rfl | simp [rbval])) (RB.ofVal (by decide))
    · intro a W hb hf hp
      have e0 : a.eval (.tmp 21) = rbval R h 15 := (hpB hp 15 21 (by kernel_rfl)).val (by decide)
      exact RR.ob_val (Mk.refl _) rfl (RR.wanted_none rfl) (fun ev h hc => by have q := (h (.tmp 21)).trans e0; simp only [List.getElem_toArray, List.getElem_cons_succ, List.getElem_cons_zero, execOp]; rw [q]; simp only [rbval]; go_simp <;> (first | rfl | simp [rbval])) (RB.ofVal (by decide))
    · intro a W hb hf hp
      obtain ⟨r1, r2, r3⟩ := RW W hb
      have u0 := (hpB hp 1 7 (by kernel_rfl)).one rfl
      have u1 := (hpB hp 4 10 (by kernel_rfl)).ep rfl
      have u2 := (hpB hp 7 13 (by kernel_rfl)).kd rfl
      have u3 := (hpB hp 10 16 (by kernel_rfl)).gn rfl
      have e4 : a.eval (.tmp 18) = rbval R h 12 := (hpB hp 12 18 (by kernel_rfl)).val (by decide)
      have e5 : a.eval (.tmp 20) = rbval R h 14 := (hpB hp 14 20 (by kernel_rfl)).val (by decide)
      have e6 : a.eval (.tmp 22) = rbval R h 16 := (hpB hp 16 22 (by kernel_rfl)).val (by decide)
      have U0 := u0
      obtain ⟨a0, k0, q0, -, -⟩ := u0
      rw [q0] at U0
      have U1 := u1
      obtain ⟨a1, k1, q1, -, -⟩ := u1
      rw [be_length] at q1
      rw [q1] at U1
      have U2 := u2
      obtain ⟨a2, k2, q2, -, -⟩ := u2
      rw [be_length] at q2
      rw [q2] at U2
      have U3 := u3
      obtain ⟨a3, k3, q3, -, -⟩ := u3
      rw [be_length] at q3
      rw [q3] at U3
      have hbl : Below W.heap.size W (W.alloc (.cells #[.slice a0 4 k0, .slice a1 8 k1, .slice a2 8 k2, .slice a3 8 k3, .slice (some ⟨h, 3, none⟩) 32 32, .slice (some ⟨h, 35, none⟩) 32 32, .slice (some ⟨h, 67, none⟩) 32 32] 34)) := (Below.refl _ W).alloc (Nat.le_refl _) _
      refine RR.ob_run (w' := W.alloc (.cells #[.slice a0 4 k0, .slice a1 8 k1, .slice a2 8 k2, .slice a3 8 k3, .slice (some ⟨h, 3, none⟩) 32 32, .slice (some ⟨h, 35, none⟩) 32 32, .slice (some ⟨h, 67, none⟩) 32 32] 34)) (v := .slice (some ⟨W.heap.size, 0, none⟩) 7 7) rfl (RR.wanted_none rfl) (fun ev h hc => by have p0 := (h (.tmp 7)).trans q0; have p1 := (h (.tmp 10)).trans q1; have p2 := (h (.tmp 13)).trans q2; have p3 := (h (.tmp 16)).trans q3; have p4 := (h (.tmp 18)).trans e4; have p5 := (h (.tmp 20)).trans e5; have p6 := (h (.tmp 22)).trans e6; simp only [rbval] at p4 p5 p6; simp only [List.getElem_toArray, List.getElem_cons_succ, List.getElem_cons_zero, execOp]; simp [p0, p1, p2, p3, p4, p5, p6]; go_simp) ?_ (Mk.of hbl (HZ1.out W hb))
      refine ⟨fun e => absurd rfl e.2.2.2.2.2.1, fun e => absurd e (by decide), fun e => absurd e (by decide), fun e => absurd e (by decide), fun e => absurd e (by decide), fun e => absurd e (by decide), fun _ => ?_, fun e => absurd e (by decide), fun e => absurd e (by decide)⟩
      refine ⟨_, 7, rfl, Nat.le_refl _, .inr ⟨W.heap.size, 0, rfl, by simp, fun i hi => ?_⟩⟩
      have hi7 : i < 7 := hi
      rw [Nat.zero_add, cell_alloc]
      rcases (show i = 0 ∨ i = 1 ∨ i = 2 ∨ i = 3 ∨ i = 4 ∨ i = 5 ∨ i = 6 by omega) with rfl | rfl | rfl | rfl | rfl | rfl | rfl
      · exact ⟨_, rfl, U0.below hbl (Nat.le_refl _)⟩
      · exact ⟨_, rfl, U1.below hbl (Nat.le_refl _)⟩
      · exact ⟨_, rfl, U2.below hbl (Nat.le_refl _)⟩
      · exact ⟨_, rfl, U3.below hbl (Nat.le_refl _)⟩
      · exact ⟨_, rfl, r1.below hbl (Nat.le_refl _)⟩
      · exact ⟨_, rfl, r2.below hbl (Nat.le_refl _)⟩
      · exact ⟨_, rfl, r3.below hbl (Nat.le_refl _)⟩
    · intro a W hb hf hp
      have e0 := (hpB hp 17 23 (by kernel_rfl)).lst rfl
      refine RR.ob_call (f := 16) (args := #[a.eval (.tmp 23)]) rfl (RR.wanted_none rfl) (fun ev h hc => by have hfn := h (.func 16); have q := h (.tmp 23); simp only [List.getElem_toArray, List.getElem_cons_succ, List.getElem_cons_zero, execOp, resolve]; simp [q, hfn, hc, go_sem]) ((encode_any R.list _ W e0 (Rt.lens HR.out).1 (by rw [(Rt.lens HR.out).2]; omega)).mono ?_)
      rintro e w6 ⟨v6, rfl, h6, h7⟩
      exact ⟨_, rfl, ⟨fun e => absurd rfl e.2.2.2.2.2.2.1, fun e => absurd e (by decide), fun e => absurd e (by decide), fun e => absurd e (by decide), fun e => absurd e (by decide), fun e => absurd e (by decide), fun e => absurd e (by decide), fun _ => ⟨v6, rfl, h6.sl⟩, fun e => absurd e (by decide)⟩, Mk.of h7 (HZ1.out W hb)⟩
    · intro a W hb hf hp
      obtain ⟨v6, h6, h7⟩ := (hpB hp 18 24 (by kernel_rfl)).enc (.inl rfl)
      exact RR.ob_val (Mk.refl _) rfl (RR.wanted_none rfl) (fun ev h hc => by have q := (h (.tmp 24)).trans h6; simp [execOp, q, hc, go_sem]) ⟨fun e => absurd rfl e.2.2.2.2.2.2.2.1, fun e => absurd e (by decide), fun e => absurd e (by decide), fun e => absurd e (by decide), fun e => absurd e (by decide), fun e => absurd e (by decide), fun e => absurd e (by decide), fun _ => ⟨v6, rfl, h7⟩, fun e => absurd e (by decide)⟩
    · intro a W hb hf hp
      obtain ⟨v6, h6, h7⟩ := (hpB hp 19 5 (by kernel_rfl)).enc (.inr rfl)
      exact RR.ob_val (Mk.refl _) rfl (RR.wanted_none rfl) (fun ev h hc => by have q := (h (.tmp 5)).trans h6; simp [execOp, q, hc, go_sem]) (⟨fun e => absurd rfl e.2.2.2.2.2.2.2.2.1, fun e => absurd e (by decide), fun e => absurd e (by decide), fun e => absurd e (by decide), fun e => absurd e (by decide), fun e => absurd e (by decide), fun e => absurd e (by decide), fun e => absurd e (by decide), fun _ => h7⟩)
    · intro a W hb hf hp
      obtain ⟨v6, h6, h7⟩ := (hpB hp 19 5 (by kernel_rfl)).enc (.inr rfl)
      exact RR.ob_val (Mk.refl _) rfl (RR.wanted_none rfl) (fun ev h hc => by have q := (h (.tmp 5)).trans h6; simp [execOp, q, hc, go_sem]; rfl) (RB.ofVal (by decide))
    · intro a W hb hf hp
      have h7 := (hpB hp 20 25 (by kernel_rfl)).res (.inl rfl)
      exact RR.ob_val (Mk.refl _) rfl (RR.wanted_none rfl) (fun ev h hc => by have q := h (.tmp 25); simp only [List.getElem_toArray, List.getElem_cons_succ, List.getElem_cons_zero, execOp]; rw [q]; rfl) ⟨fun e => absurd rfl e.2.2.2.2.2.2.2.2.2, fun e => absurd e (by decide), fun e => absurd e (by decide), fun e => absurd e (by decide), fun e => absurd e (by decide), fun e => absurd e (by decide), fun e => absurd e (by decide), fun e => absurd e (by decide), fun _ => h7⟩
    · intro a W hb hf hp
      have e0 : a.eval (.tmp 26) = rbval R h 21 := (hpB hp 21 26 (by kernel_rfl)).val (by decide)
      exact RR.ob_val (Mk.refl _) rfl (RR.wanted_none rfl) (fun ev h hc => by have q := (h (.tmp 26)).trans e0; simp [execOp, q, hc, go_sem]; rfl) (RB.ofVal (by decide))
  · intro a W h1 h2 h3 h4 h5
    have hres : Sl W (a.eval (.tmp 3)) (encB R.list) := (h5 22 _ 3 rfl rfl).res (.inr rfl)
    have HD : Hid (Below w.heap.size w W) := HZ.out.trans (h3.below.mono (by rw [HH.out]; omega))
    obtain ⟨t, df⟩ := a
    simp only at h1 h2
    subst h2
    obtain ⟨l, rfl⟩ : ∃ l : List Value, t = l.toArray := ⟨t.toList, by simp⟩
    have hl28 : l.length = 28 := by simpa using h1
    clear h1 h3 h4 h5
    match l, hl28, hres with
    | [x0, x1, x2, x3, x4, x5, x6, x7, x8, x9, x10, x11, x12, x13, x14, x15, x16, x17, x18, x19, x20, x21, x22, x23, x24, x25, x26, x27], _, hres =>
      have HRS : Hid (Sl W x3 (encB R.list)) := hres
      clear hres
      go_wp2
      go_ret
      exact ⟨_, rfl, HRS.out, HD.out⟩
set_option maxHeartbeats 2000000 in
theorem rrootBytes_any (R : Rt) (w : World) (hR : R.Ok) :
    Calls Try.prog 59 #[.agg R.cells.toArray] w fun e w' => ∃ v', e = .returned v' ∧ Sl w' v' (encB R.list) ∧ Below w.heap.size w w' := by
  have HR : Hid R.Ok := hR
  have hsz : R.cells.toArray.size = 163 := by simpa using Rt.size hR
  obtain ⟨A, hA⟩ : ∃ A, R.cells.toArray = A := ⟨_, rfl⟩
  have HA : Hid (R.cells.toArray = A) := hA
  rw [hA] at hsz ⊢
  clear hA hR
  go_enter Try.func59, Try.ntmps59
  go_wp2
  have HW : Hid (∀ j, (w.alloc (Obj.cells A 26)).cell? ⟨w.heap.size, j, none⟩ = A[j]?) := fun j => cell_alloc w A _ _ j
  have HZ : Hid (Below w.heap.size w (w.alloc (Obj.cells A 26))) := (Below.refl _ w).alloc (Nat.le_refl _) _
  have hs0 : (w.alloc (Obj.cells A 26)).heap.size = w.heap.size + 1 := by simp
  have HS : Hid ((w.alloc (Obj.cells A 26)).heap.size = w.heap.size + 1) := hs0
  clear hs0
  obtain ⟨W0, hW0⟩ : ∃ W0, w.alloc (Obj.cells A 26) = W0 := ⟨_, rfl⟩
  rw [hW0] at HW HZ HS ⊢
  obtain ⟨h, hh⟩ : ∃ h, w.heap.size = h := ⟨_, rfl⟩
  have HH : Hid (w.heap.size = h) := hh
  rw [hh] at HW HS ⊢
  clear hW0 hh
  have C : Hid (∀ W, Mk (h + 1) W0 W → ∀ j, W.cell? ⟨h, j, none⟩ = A[j]?) := fun W m j => (m.cell h j (by rw [HS.out]; omega)).trans (HW.out j)
  have hA0 : ∀ j, A[j]? = R.cells[j]? := fun j => by rw [← HA.out, List.getElem?_toArray]
  have CA := cells_at R HR.out
  have RW : ∀ W, Mk (h + 1) W0 W → Sl W (.slice (some ⟨h, 3, none⟩) 32 32) R.pr ∧ Sl W (.slice (some ⟨h, 35, none⟩) 32 32) R.hs ∧ Sl W (.slice (some ⟨h, 67, none⟩) 32 32) R.lk := fun W m => by
    have hl : h < W.heap.size := by have := m.size; rw [HS.out] at this; omega
    have r1 := HR.out.pr.1; have r2 := HR.out.hs.1; have r3 := HR.out.lk.1
    exact ⟨⟨_, 32, by rw [r1], by rw [r1]; omega, .inr ⟨h, 3, rfl, hl, fun i hi => by rw [C.out W m, hA0]; exact CA.1 i (by rw [r1] at hi; exact hi)⟩⟩,
      ⟨_, 32, by rw [r2], by rw [r2]; omega, .inr ⟨h, 35, rfl, hl, fun i hi => by rw [C.out W m, hA0]; exact CA.2.1 i (by rw [r2] at hi; exact hi)⟩⟩,
      ⟨_, 32, by rw [r3], by rw [r3]; omega, .inr ⟨h, 67, rfl, hl, fun i hi => by rw [C.out W m, hA0]; exact CA.2.2.1 i (by rw [r3] at hi; exact hi)⟩⟩⟩
  have c0 : A[0]? = some (.int .u64 R.ep) := by rw [hA0]; rfl
  have c1 : A[1]? = some (.int .u64 R.kd) := by rw [hA0]; rfl
  have c2 : A[2]? = some (.int .u64 R.gn) := by rw [hA0]; rfl
  have HZ1 : Hid (∀ W, Mk (h + 1) W0 W → h + 1 ≤ W.heap.size) := fun W m => by have := m.size; rw [HS.out] at this; exact this
  refine RR.wp_rgn (RB R h (h + 1)) (Mk (h + 1)) (Mk.draw _ _) (fun _ _ _ => Mk.trans) (by kernel_rfl) (by decide) (by kernel_rfl) (by kernel_rfl) RB.stays ?_ ?_
  · refine ⟨?_, ?_, ?_, ?_, ?_, ?_, ?_, ?_, ?_, ?_, ?_, ?_, ?_, ?_, ?_, ?_, ?_, ?_, ?_, ?_, ?_, ?_, ?_, ?_, trivial⟩
    · intro a W hb hf hp
      refine RR.ob_run (w' := W.alloc (.cells #[.int .u8 114, .int .u8 111, .int .u8 111, .int .u8 116] 5)) (v := .slice (some ⟨W.heap.size, 0, none⟩) 4 4) rfl (RR.wanted_none rfl) (fun ev h hc => by simp only [List.getElem_toArray, List.getElem_cons_succ, List.getElem_cons_zero, execOp]; simp [hc]; go_simp) ?_ (Mk.of ((Below.refl _ W).alloc (Nat.le_refl _) _) (HZ1.out W hb))
      have hsl : Sl (W.alloc (.cells #[.int .u8 114, .int .u8 111, .int .u8 111, .int .u8 116] 5)) (.slice (some ⟨W.heap.size, 0, none⟩) 4 4) [114, 111, 111, 116] := (Ow.lit W [114, 111, 111, 116] _ 4 rfl rfl (by simp)).sl
      exact ⟨fun e => absurd rfl e.1, fun _ => ⟨W.heap.size, 4, rfl, HZ1.out W hb, by simp, shape_new W _ _, hsl⟩, fun e => absurd e (by decide), fun e => absurd e (by decide), fun e => absurd e (by decide), fun e => absurd e (by decide), fun e => absurd e (by decide), fun e => absurd e (by decide), fun e => absurd e (by decide)⟩
    · intro a W hb hf hp
      obtain ⟨g, n, h1, h2, h3, h4, h5⟩ := (hpB hp 0 6 (by kernel_rfl)).wrd rfl
      refine RR.ob_run (w' := W.freeze ⟨g, n, none⟩ 1) (v := .slice (some ⟨g, 0, none⟩) 4 4) rfl (RR.wanted_none rfl) (fun ev h hc => by have q := (h (.tmp 6)).trans h1; simp only [List.getElem_toArray, List.getElem_cons_succ, List.getElem_cons_zero, execOp]; rw [q]; simp [conv_mark g 4 4 _ n W h4]) ?_ (Mk.freeze h2)
      rw [h1] at h5
      exact ⟨fun e => absurd rfl e.2.1, fun e => absurd e (by decide), fun _ => h5.mk (Mk.freeze (B := h + 1) h2), fun e => absurd e (by decide), fun e => absurd e (by decide), fun e => absurd e (by decide), fun e => absurd e (by decide), fun e => absurd e (by decide), fun e => absurd e (by decide)⟩
    · intro a W hb hf hp
      have f1 : a.eval (.tmp 1) = .pointer (some ⟨h, 0, none⟩) := hf 1 (by kernel_rfl)
      exact RR.ob_val (Mk.refl _) rfl (RR.wanted_none rfl) (fun ev h hc => by have q := (h (.tmp 1)).trans f1; simp only [List.getElem_toArray, List.getElem_cons_succ, List.getElem_cons_zero, execOp]; rw [q]; go_simp <;> (first | rfl | simp [rbval])) (RB.ofVal (by decide))
    · intro a W hb hf hp
      have e0 : a.eval (.tmp 8) = rbval R h 2 := (hpB hp 2 8 (by kernel_rfl)).val (by decide)
      have hc0 := (C.out W hb 0).trans c0
      exact RR.ob_val (Mk.refl _) rfl (RR.wanted_none rfl) (fun ev h hc => by have q := (h (.tmp 8)).trans e0; simp only [List.getElem_toArray, List.getElem_cons_succ, List.getElem_cons_zero, execOp]; rw [q]; simp only [rbval]; go_simp <;> (first | rfl | simp [rbval])) (RB.ofVal (by decide))
    · intro a W hb hf hp
      have e0 : a.eval (.tmp 9) = .int .u64 R.ep := (hpB hp 3 9 (by kernel_rfl)).val (by decide)
      refine RR.ob_call (f := 26) (args := #[.int .u64 R.ep]) rfl (RR.wanted_none rfl) (fun ev h hc => by have hfn := h (.func 26); have q := (h (.tmp 9)).trans e0; simp [execOp, resolve, q, hfn, hc, go_sem]) ((rnum_any R.ep W HR.out.ep.1 HR.out.ep.2).mono ?_)
      rintro e w6 ⟨v6, rfl, h6, h7⟩
      exact ⟨v6, rfl, ⟨fun e => absurd rfl e.2.2.1, fun e => absurd e (by decide), fun e => absurd e (by decide), fun _ => h6.sl, fun e => absurd e (by decide), fun e => absurd e (by decide), fun e => absurd e (by decide), fun e => absurd e (by decide), fun e => absurd e (by decide)⟩, Mk.of h7 (HZ1.out W hb)⟩
    · intro a W hb hf hp
      have f1 : a.eval (.tmp 1) = .pointer (some ⟨h, 0, none⟩) := hf 1 (by kernel_rfl)
      exact RR.ob_val (Mk.refl _) rfl (RR.wanted_none rfl) (fun ev h hc => by have q := (h (.tmp 1)).trans f1; simp only [List.getElem_toArray, List.getElem_cons_succ, List.getElem_cons_zero, execOp]; rw [q]; go_simp <;> (first | rfl | simp [rbval])) (RB.ofVal (by decide))
    · intro a W hb hf hp
      have e0 : a.eval (.tmp 11) = rbval R h 5 := (hpB hp 5 11 (by kernel_rfl)).val (by decide)
      have hc0 := (C.out W hb 1).trans c1
      exact RR.ob_val (Mk.refl _) rfl (RR.wanted_none rfl) (fun ev h hc => by have q := (h (.tmp 11)).trans e0; simp only [List.getElem_toArray, List.getElem_cons_succ, List.getElem_cons_zero, execOp]; rw [q]; simp only [rbval]; go_simp <;> (first | rfl | simp [rbval])) (RB.ofVal (by decide))
    · intro a W hb hf hp
      have e0 : a.eval (.tmp 12) = .int .u64 R.kd := (hpB hp 6 12 (by kernel_rfl)).val (by decide)
      refine RR.ob_call (f := 26) (args := #[.int .u64 R.kd]) rfl (RR.wanted_none rfl) (fun ev h hc => by have hfn := h (.func 26); have q := (h (.tmp 12)).trans e0; simp [execOp, resolve, q, hfn, hc, go_sem]) ((rnum_any R.kd W HR.out.kd.1 HR.out.kd.2).mono ?_)
      rintro e w6 ⟨v6, rfl, h6, h7⟩
      exact ⟨v6, rfl, ⟨fun e => absurd rfl e.2.2.2.1, fun e => absurd e (by decide), fun e => absurd e (by decide), fun e => absurd e (by decide), fun _ => h6.sl, fun e => absurd e (by decide), fun e => absurd e (by decide), fun e => absurd e (by decide), fun e => absurd e (by decide)⟩, Mk.of h7 (HZ1.out W hb)⟩
    · intro a W hb hf hp
      have f1 : a.eval (.tmp 1) = .pointer (some ⟨h, 0, none⟩) := hf 1 (by kernel_rfl)
      exact RR.ob_val (Mk.refl _) rfl (RR.wanted_none rfl) (fun ev h hc => by have q := (h (.tmp 1)).trans f1; simp only [List.getElem_toArray, List.getElem_cons_succ, List.getElem_cons_zero, execOp]; rw [q]; go_simp <;> (first | rfl | simp [rbval])) (RB.ofVal (by decide))
    · intro a W hb hf hp
      have e0 : a.eval (.tmp 14) = rbval R h 8 := (hpB hp 8 14 (by kernel_rfl)).val (by decide)
      have hc0 := (C.out W hb 2).trans c2
      exact RR.ob_val (Mk.refl _) rfl (RR.wanted_none rfl) (fun ev h hc => by have q := (h (.tmp 14)).trans e0; simp only [List.getElem_toArray, List.getElem_cons_succ, List.getElem_cons_zero, execOp]; rw [q]; simp only [rbval]; go_simp <;> (first | rfl | simp [rbval])) (RB.ofVal (by decide))
    · intro a W hb hf hp
      have e0 : a.eval (.tmp 15) = .int .u64 R.gn := (hpB hp 9 15 (by kernel_rfl)).val (by decide)
      refine RR.ob_call (f := 26) (args := #[.int .u64 R.gn]) rfl (RR.wanted_none rfl) (fun ev h hc => by have hfn := h (.func 26); have q := (h (.tmp 15)).trans e0; simp [execOp, resolve, q, hfn, hc, go_sem]) ((rnum_any R.gn W HR.out.gn.1 HR.out.gn.2).mono ?_)
      rintro e w6 ⟨v6, rfl, h6, h7⟩
      exact ⟨v6, rfl, ⟨fun e => absurd rfl e.2.2.2.2.1, fun e => absurd e (by decide), fun e => absurd e (by decide), fun e => absurd e (by decide), fun e => absurd e (by decide), fun _ => h6.sl, fun e => absurd e (by decide), fun e => absurd e (by decide), fun e => absurd e (by decide)⟩, Mk.of h7 (HZ1.out W hb)⟩
    · intro a W hb hf hp
      have f1 : a.eval (.tmp 1) = .pointer (some ⟨h, 0, none⟩) := hf 1 (by kernel_rfl)
      exact RR.ob_val (Mk.refl _) rfl (RR.wanted_none rfl) (fun ev h hc => by have q := (h (.tmp 1)).trans f1; simp only [List.getElem_toArray, List.getElem_cons_succ, List.getElem_cons_zero, execOp]; rw [q]; go_simp <;> (first | rfl | simp [rbval])) (RB.ofVal (by decide))
    · intro a W hb hf hp
      have e0 : a.eval (.tmp 17) = rbval R h 11 := (hpB hp 11 17 (by kernel_rfl)).val (by decide)
      exact RR.ob_val (Mk.refl _) rfl (RR.wanted_none rfl) (fun ev h hc => by have q := (h (.tmp 17)).trans e0; simp only [List.getElem_toArray, List.getElem_cons_succ, List.getElem_cons_zero, execOp]; rw [q]; simp only [rbval]; go_simp <;> (first | rfl | simp [rbval])) (RB.ofVal (by decide))
    · intro a W hb hf hp
      have f1 : a.eval (.tmp 1) = .pointer (some ⟨h, 0, none⟩) := hf 1 (by kernel_rfl)
      exact RR.ob_val (Mk.refl _) rfl (RR.wanted_none rfl) (fun ev h hc => by have q := (h (.tmp 1)).trans f1; simp only [List.getElem_toArray, List.getElem_cons_succ, List.getElem_cons_zero, execOp]; rw [q]; go_simp <;> (first | rfl | simp [rbval])) (RB.ofVal (by decide))
    · intro a W hb hf hp
      have e0 : a.eval (.tmp 19) = rbval R h 13 := (hpB hp 13 19 (by kernel_rfl)).val (by decide)
      exact RR.ob_val (Mk.refl _) rfl (RR.wanted_none rfl) (fun ev h hc => by have q := (h (.tmp 19)).trans e0; simp only [List.getElem_toArray, List.getElem_cons_succ, List.getElem_cons_zero, execOp]; rw [q]; simp only [rbval]; go_simp <;> (first | rfl | simp [rbval])) (RB.ofVal (by decide))
    · intro a W hb hf hp
      have f1 : a.eval (.tmp 1) = .pointer (some ⟨h, 0, none⟩) := hf 1 (by kernel_rfl)
      exact RR.ob_val (Mk.refl _) rfl (RR.wanted_none rfl) (fun ev h hc => by have q := (h (.tmp 1)).trans f1; simp only [List.getElem_toArray, List.getElem_cons_succ, List.getElem_cons_zero, execOp]; rw [q]; go_simp <;> (first | rfl | simp [rbval])) (RB.ofVal (by decide))
    · intro a W hb hf hp
      have e0 : a.eval (.tmp 21) = rbval R h 15 := (hpB hp 15 21 (by kernel_rfl)).val (by decide)
      exact RR.ob_val (Mk.refl _) rfl (RR.wanted_none rfl) (fun ev h hc => by have q := (h (.tmp 21)).trans e0; simp only [List.getElem_toArray, List.getElem_cons_succ, List.getElem_cons_zero, execOp]; rw [q]; simp only [rbval]; go_simp <;> (first | rfl | simp [rbval])) (RB.ofVal (by decide))
    · intro a W hb hf hp
      obtain ⟨r1, r2, r3⟩ := RW W hb
      have u0 := (hpB hp 1 7 (by kernel_rfl)).one rfl
      have u1 := (hpB hp 4 10 (by kernel_rfl)).ep rfl
      have u2 := (hpB hp 7 13 (by kernel_rfl)).kd rfl
      have u3 := (hpB hp 10 16 (by kernel_rfl)).gn rfl
      have e4 : a.eval (.tmp 18) = rbval R h 12 := (hpB hp 12 18 (by kernel_rfl)).val (by decide)
      have e5 : a.eval (.tmp 20) = rbval R h 14 := (hpB hp 14 20 (by kernel_rfl)).val (by decide)
      have e6 : a.eval (.tmp 22) = rbval R h 16 := (hpB hp 16 22 (by kernel_rfl)).val (by decide)
      have U0 := u0
      obtain ⟨a0, k0, q0, -, -⟩ := u0
      rw [q0] at U0
      have U1 := u1
      obtain ⟨a1, k1, q1, -, -⟩ := u1
      rw [be_length] at q1
      rw [q1] at U1
      have U2 := u2
      obtain ⟨a2, k2, q2, -, -⟩ := u2
      rw [be_length] at q2
      rw [q2] at U2
      have U3 := u3
      obtain ⟨a3, k3, q3, -, -⟩ := u3
      rw [be_length] at q3
      rw [q3] at U3
      have hbl : Below W.heap.size W (W.alloc (.cells #[.slice a0 4 k0, .slice a1 8 k1, .slice a2 8 k2, .slice a3 8 k3, .slice (some ⟨h, 3, none⟩) 32 32, .slice (some ⟨h, 35, none⟩) 32 32, .slice (some ⟨h, 67, none⟩) 32 32] 34)) := (Below.refl _ W).alloc (Nat.le_refl _) _
      refine RR.ob_run (w' := W.alloc (.cells #[.slice a0 4 k0, .slice a1 8 k1, .slice a2 8 k2, .slice a3 8 k3, .slice (some ⟨h, 3, none⟩) 32 32, .slice (some ⟨h, 35, none⟩) 32 32, .slice (some ⟨h, 67, none⟩) 32 32] 34)) (v := .slice (some ⟨W.heap.size, 0, none⟩) 7 7) rfl (RR.wanted_none rfl) (fun ev h hc => by have p0 := (h (.tmp 7)).trans q0; have p1 := (h (.tmp 10)).trans q1; have p2 := (h (.tmp 13)).trans q2; have p3 := (h (.tmp 16)).trans q3; have p4 := (h (.tmp 18)).trans e4; have p5 := (h (.tmp 20)).trans e5; have p6 := (h (.tmp 22)).trans e6; simp only [rbval] at p4 p5 p6; simp only [List.getElem_toArray, List.getElem_cons_succ, List.getElem_cons_zero, execOp]; simp [p0, p1, p2, p3, p4, p5, p6]; go_simp) ?_ (Mk.of hbl (HZ1.out W hb))
      refine ⟨fun e => absurd rfl e.2.2.2.2.2.1, fun e => absurd e (by decide), fun e => absurd e (by decide), fun e => absurd e (by decide), fun e => absurd e (by decide), fun e => absurd e (by decide), fun _ => ?_, fun e => absurd e (by decide), fun e => absurd e (by decide)⟩
      refine ⟨_, 7, rfl, Nat.le_refl _, .inr ⟨W.heap.size, 0, rfl, by simp, fun i hi => ?_⟩⟩
      have hi7 : i < 7 := hi
      rw [Nat.zero_add, cell_alloc]
      rcases (show i = 0 ∨ i = 1 ∨ i = 2 ∨ i = 3 ∨ i = 4 ∨ i = 5 ∨ i = 6 by omega) with rfl | rfl | rfl | rfl | rfl | rfl | rfl
      · exact ⟨_, rfl, U0.below hbl (Nat.le_refl _)⟩
      · exact ⟨_, rfl, U1.below hbl (Nat.le_refl _)⟩
      · exact ⟨_, rfl, U2.below hbl (Nat.le_refl _)⟩
      · exact ⟨_, rfl, U3.below hbl (Nat.le_refl _)⟩
      · exact ⟨_, rfl, r1.below hbl (Nat.le_refl _)⟩
      · exact ⟨_, rfl, r2.below hbl (Nat.le_refl _)⟩
      · exact ⟨_, rfl, r3.below hbl (Nat.le_refl _)⟩
    · intro a W hb hf hp
      have e0 := (hpB hp 17 23 (by kernel_rfl)).lst rfl
      refine RR.ob_call (f := 24) (args := #[a.eval (.tmp 23)]) rfl (RR.wanted_none rfl) (fun ev h hc => by have hfn := h (.func 24); have q := h (.tmp 23); simp only [List.getElem_toArray, List.getElem_cons_succ, List.getElem_cons_zero, execOp, resolve]; simp [q, hfn, hc, go_sem]) ((rencode_any R.list _ W e0 (Rt.lens HR.out).1 (by rw [(Rt.lens HR.out).2]; omega)).mono ?_)
      rintro e w6 ⟨v6, rfl, h6, h7⟩
      exact ⟨_, rfl, ⟨fun e => absurd rfl e.2.2.2.2.2.2.1, fun e => absurd e (by decide), fun e => absurd e (by decide), fun e => absurd e (by decide), fun e => absurd e (by decide), fun e => absurd e (by decide), fun e => absurd e (by decide), fun _ => ⟨v6, rfl, h6.sl⟩, fun e => absurd e (by decide)⟩, Mk.of h7 (HZ1.out W hb)⟩
    · intro a W hb hf hp
      obtain ⟨v6, h6, h7⟩ := (hpB hp 18 24 (by kernel_rfl)).enc (.inl rfl)
      exact RR.ob_val (Mk.refl _) rfl (RR.wanted_none rfl) (fun ev h hc => by have q := (h (.tmp 24)).trans h6; simp [execOp, q, hc, go_sem]) ⟨fun e => absurd rfl e.2.2.2.2.2.2.2.1, fun e => absurd e (by decide), fun e => absurd e (by decide), fun e => absurd e (by decide), fun e => absurd e (by decide), fun e => absurd e (by decide), fun e => absurd e (by decide), fun _ => ⟨v6, rfl, h7⟩, fun e => absurd e (by decide)⟩
    · intro a W hb hf hp
      obtain ⟨v6, h6, h7⟩ := (hpB hp 19 5 (by kernel_rfl)).enc (.inr rfl)
      exact RR.ob_val (Mk.refl _) rfl (RR.wanted_none rfl) (fun ev h hc => by have q := (h (.tmp 5)).trans h6; simp [execOp, q, hc, go_sem]) (⟨fun e => absurd rfl e.2.2.2.2.2.2.2.2.1, fun e => absurd e (by decide), fun e => absurd e (by decide), fun e => absurd e (by decide), fun e => absurd e (by decide), fun e => absurd e (by decide), fun e => absurd e (by decide), fun e => absurd e (by decide), fun _ => h7⟩)
    · intro a W hb hf hp
      obtain ⟨v6, h6, h7⟩ := (hpB hp 19 5 (by kernel_rfl)).enc (.inr rfl)
      exact RR.ob_val (Mk.refl _) rfl (RR.wanted_none rfl) (fun ev h hc => by have q := (h (.tmp 5)).trans h6; simp [execOp, q, hc, go_sem]; rfl) (RB.ofVal (by decide))
    · intro a W hb hf hp
      have h7 := (hpB hp 20 25 (by kernel_rfl)).res (.inl rfl)
      exact RR.ob_val (Mk.refl _) rfl (RR.wanted_none rfl) (fun ev h hc => by have q := h (.tmp 25); simp only [List.getElem_toArray, List.getElem_cons_succ, List.getElem_cons_zero, execOp]; rw [q]; rfl) ⟨fun e => absurd rfl e.2.2.2.2.2.2.2.2.2, fun e => absurd e (by decide), fun e => absurd e (by decide), fun e => absurd e (by decide), fun e => absurd e (by decide), fun e => absurd e (by decide), fun e => absurd e (by decide), fun e => absurd e (by decide), fun _ => h7⟩
    · intro a W hb hf hp
      have e0 : a.eval (.tmp 26) = rbval R h 21 := (hpB hp 21 26 (by kernel_rfl)).val (by decide)
      exact RR.ob_val (Mk.refl _) rfl (RR.wanted_none rfl) (fun ev h hc => by have q := (h (.tmp 26)).trans e0; simp [execOp, q, hc, go_sem]; rfl) (RB.ofVal (by decide))
  · intro a W h1 h2 h3 h4 h5
    have hres : Sl W (a.eval (.tmp 3)) (encB R.list) := (h5 22 _ 3 rfl rfl).res (.inr rfl)
    have HD : Hid (Below w.heap.size w W) := HZ.out.trans (h3.below.mono (by rw [HH.out]; omega))
    obtain ⟨t, df⟩ := a
    simp only at h1 h2
    subst h2
    obtain ⟨l, rfl⟩ : ∃ l : List Value, t = l.toArray := ⟨t.toList, by simp⟩
    have hl28 : l.length = 28 := by simpa using h1
    clear h1 h3 h4 h5
    match l, hl28, hres with
    | [x0, x1, x2, x3, x4, x5, x6, x7, x8, x9, x10, x11, x12, x13, x14, x15, x16, x17, x18, x19, x20, x21, x22, x23, x24, x25, x26, x27], _, hres =>
      have HRS : Hid (Sl W x3 (encB R.list)) := hres
      clear hres
      go_wp2
      go_ret
      exact ⟨_, rfl, HRS.out, HD.out⟩
end Go.Proofs.Ytfnmdeekenjlgaa
