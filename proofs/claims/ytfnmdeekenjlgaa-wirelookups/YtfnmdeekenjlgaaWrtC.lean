/- A root's bytes: EncodeRoot, and the reference's. -/
import Derived.Test.YtfnmdeekenjlgaaWrtB
namespace Go.Proofs.Ytfnmdeekenjlgaa
open Go Go.RowKit
set_option linter.unusedSimpArgs false
set_option linter.unusedVariables false
set_option maxRecDepth 100000

def Rt.all (R : Rt) : List (List Int) := [[115, 105, 103, 110, 101, 100], encB R.list, R.sg]
def rcval (R : Rt) (h : Nat) : Nat → Value
  | 2 => .agg R.cells.toArray
  | 4 => .pointer (some ⟨h, 99, none⟩)
  | 5 => .slice (some ⟨h, 99, none⟩) 64 64
  | _ => .int .i64 (encE R.all)
structure RC (R : Rt) (h B : Nat) (i : Nat) (v : Value) (w : World) : Prop where
  val : (i ≠ 0 ∧ i ≠ 1 ∧ i ≠ 3 ∧ i ≠ 6 ∧ i ≠ 7 ∧ i ≠ 8 ∧ i ≠ 9 ∧ i ≠ 11) → v = rcval R h i
  wrd : i = 0 → ∃ g n, v = .slice (some ⟨g, 0, none⟩) 6 6 ∧ B ≤ g ∧ g < w.heap.size ∧ w.shape? g = some (5, n) ∧ Sl w v [115, 105, 103, 110, 101, 100]
  one : i = 1 → Sl w v [115, 105, 103, 110, 101, 100]
  rb : i = 3 → Sl w v (encB R.list)
  lst : i = 6 → LL w v R.all
  enc : i = 7 ∨ i = 8 → ∃ v', v = .tuple #[v', .int .i64 (encE R.all)] ∧ Sl w v' (encB R.all)
  res : i = 9 ∨ i = 11 → Sl w v (encB R.all)
theorem RC.stays {R : Rt} {h B : Nat} (i : Nat) (v : Value) (w w' : World) (k : RC R h B i v w) (m : Mk B w w') : RC R h B i v w' :=
  ⟨k.val, fun e => by
    obtain ⟨g, n, h1, h2, h3, h4, h5⟩ := k.wrd e
    exact ⟨g, n, h1, h2, Nat.lt_of_lt_of_le h3 m.size, (m.shape g h3).trans h4, h5.mk m⟩, fun e => (k.one e).mk m, fun e => (k.rb e).mk m, fun e => (k.lst e).mk m, fun e => by
    obtain ⟨v', h1, h2⟩ := k.enc e
    exact ⟨v', h1, h2.mk m⟩, fun e => (k.res e).mk m⟩
theorem RC.ofVal {R : Rt} {h B i : Nat} {w : World} (hi : i ≠ 0 ∧ i ≠ 1 ∧ i ≠ 3 ∧ i ≠ 6 ∧ i ≠ 7 ∧ i ≠ 8 ∧ i ≠ 9 ∧ i ≠ 11) : RC R h B i (rcval R h i) w :=
  ⟨fun _ => rfl, fun e => absurd e (by omega), fun e => absurd e (by omega), fun e => absurd e (by omega), fun e => absurd e (by omega), fun e => absurd e (by omega), fun e => absurd e (by omega)⟩
theorem encB_small (xss : List (List Int)) : (encB xss).length ≤ 1048576 := by
  cases hb : big xss with
  | true => rw [(encE_big hb).2]; simp
  | false => rw [(encE_ok hb).2, encK_length]; exact (small_of hb).2
theorem Rt.lens2 {R : Rt} (h : R.Ok) : Lens R.all ∧ R.all.length = 3 := by
  refine ⟨fun i hi => ?_, rfl⟩
  have hi' : i < 3 := hi
  have h1 := h.sg.1
  have h2 := encB_small R.list
  rcases (show i = 0 ∨ i = 1 ∨ i = 2 by omega) with rfl | rfl | rfl
  · simp [mi, Rt.all]
  · simp [mi, Rt.all]; omega
  · simp [mi, Rt.all, h1]
set_option maxHeartbeats 2000000 in
theorem encodeRoot_any (R : Rt) (w : World) (hR : R.Ok) :
    Calls Try.prog 19 #[.agg R.cells.toArray] w fun e w' => ∃ v', e = .returned v' ∧ Sl w' v' (encB R.all) ∧ Below w.heap.size w w' := by
  have HR : Hid R.Ok := hR
  have hsz : R.cells.toArray.size = 163 := by simpa using Rt.size hR
  obtain ⟨A, hA⟩ : ∃ A, R.cells.toArray = A := ⟨_, rfl⟩
  have HA : Hid (R.cells.toArray = A) := hA
  rw [hA] at hsz ⊢
  clear hA hR
  go_enter Try.func19, Try.ntmps19
  go_wp2
  have HW : Hid (∀ j, (w.alloc (Obj.cells A 26)).cell? ⟨w.heap.size, j, none⟩ = A[j]?) := fun j => cell_alloc w A _ _ j
  have HZ : Hid (Below w.heap.size w (w.alloc (Obj.cells A 26))) := (Below.refl _ w).alloc (Nat.le_refl _) _
  have hs0 : (w.alloc (Obj.cells A 26)).heap.size = w.heap.size + 1 := by simp
  have HS : Hid ((w.alloc (Obj.cells A 26)).heap.size = w.heap.size + 1) := hs0
  clear hs0
  obtain ⟨W0, hW0⟩ : ∃ W0, w.alloc (Obj.cells A 26) = W0 := ⟨_, rfl⟩
  rw [hW0] at HW HZ HS ⊢
  obtain ⟨h, hh⟩ : ∃ h, w.heap.size = h := ⟨_, rfl⟩
  have HH : Hid (w.heap.size = h) := hh
  rw [hh] at HW HS ⊢
  clear hW0 hh
  have C : Hid (∀ W, Mk (h + 1) W0 W → ∀ j, W.cell? ⟨h, j, none⟩ = A[j]?) := fun W m j => (m.cell h j (by rw [HS.out]; omega)).trans (HW.out j)
  have hA0 : ∀ j, A[j]? = R.cells[j]? := fun j => by rw [← HA.out, List.getElem?_toArray]
  have CA := cells_at R HR.out
  have RW : ∀ W, Mk (h + 1) W0 W → Sl W (.slice (some ⟨h, 99, none⟩) 64 64) R.sg ∧ W.rangeAt h 0 R.cells := fun W m => by
    have hl : h < W.heap.size := by have := m.size; rw [HS.out] at this; omega
    have r1 := HR.out.sg.1
    exact ⟨⟨_, 64, by rw [r1], by rw [r1]; omega, .inr ⟨h, 99, rfl, hl, fun i hi => by rw [C.out W m, hA0]; exact CA.2.2.2 i (by rw [r1] at hi; exact hi)⟩⟩, fun j u hu => by rw [Nat.zero_add, C.out W m, hA0]; exact hu⟩
  have HZ1 : Hid (∀ W, Mk (h + 1) W0 W → h + 1 ≤ W.heap.size) := fun W m => by have := m.size; rw [HS.out] at this; exact this
  refine RR.wp_rgn (RC R h (h + 1)) (Mk (h + 1)) (Mk.draw _ _) (fun _ _ _ => Mk.trans) (by kernel_rfl) (by decide) (by kernel_rfl) (by kernel_rfl) RC.stays ?_ ?_
  · refine ⟨?_, ?_, ?_, ?_, ?_, ?_, ?_, ?_, ?_, ?_, ?_, ?_, ?_, trivial⟩
    · intro a W hb hf hp
      refine RR.ob_run (w' := W.alloc (.cells #[.int .u8 115, .int .u8 105, .int .u8 103, .int .u8 110, .int .u8 101, .int .u8 100] 5)) (v := .slice (some ⟨W.heap.size, 0, none⟩) 6 6) rfl (RR.wanted_none rfl) (fun ev h hc => by simp only [List.getElem_toArray, List.getElem_cons_succ, List.getElem_cons_zero, execOp]; simp [hc]; go_simp) ?_ (Mk.of ((Below.refl _ W).alloc (Nat.le_refl _) _) (HZ1.out W hb))
      have hsl : Sl (W.alloc (.cells #[.int .u8 115, .int .u8 105, .int .u8 103, .int .u8 110, .int .u8 101, .int .u8 100] 5)) (.slice (some ⟨W.heap.size, 0, none⟩) 6 6) [115, 105, 103, 110, 101, 100] := (Ow.lit W [115, 105, 103, 110, 101, 100] _ 6 rfl rfl (by simp)).sl
      exact ⟨fun e => absurd rfl e.1, fun _ => ⟨W.heap.size, 6, rfl, HZ1.out W hb, by simp, shape_new W _ _, hsl⟩, fun e => absurd e (by decide), fun e => absurd e (by decide), fun e => absurd e (by decide), fun e => absurd e (by decide), fun e => absurd e (by decide)⟩
    · intro a W hb hf hp
      obtain ⟨g, n, h1, h2, h3, h4, h5⟩ := (hpB hp 0 6 (by kernel_rfl)).wrd rfl
      refine RR.ob_run (w' := W.freeze ⟨g, n, none⟩ 1) (v := .slice (some ⟨g, 0, none⟩) 6 6) rfl (RR.wanted_none rfl) (fun ev h hc => by have q := (h (.tmp 6)).trans h1; simp only [List.getElem_toArray, List.getElem_cons_succ, List.getElem_cons_zero, execOp]; rw [q]; simp [conv_mark g 6 6 _ n W h4]) ?_ (Mk.freeze h2)
      rw [h1] at h5
      exact ⟨fun e => absurd rfl e.2.1, fun e => absurd e (by decide), fun _ => h5.mk (Mk.freeze (B := h + 1) h2), fun e => absurd e (by decide), fun e => absurd e (by decide), fun e => absurd e (by decide), fun e => absurd e (by decide)⟩
    · intro a W hb hf hp
      have f1 : a.eval (.tmp 1) = .pointer (some ⟨h, 0, none⟩) := hf 1 (by kernel_rfl)
      exact RR.ob_val (Mk.refl _) rfl (RR.wanted_none rfl) (fun ev h hc => by have hld := run_loadAt_mid (P := Try.prog) W _ 0 26 R.cells _ (RW W hb).2 Try.underlying26 rfl (by rw [Rt.size HR.out]; kernel_rfl); have q := (h (.tmp 1)).trans f1; simp only [List.getElem_toArray, List.getElem_cons_succ, List.getElem_cons_zero, execOp]; rw [q]; simp [hld, rcval]) (RC.ofVal (by decide))
    · intro a W hb hf hp
      have e0 : a.eval (.tmp 8) = .agg R.cells.toArray := (hpB hp 2 8 (by kernel_rfl)).val (by decide)
      refine RR.ob_call (f := 56) (args := #[.agg R.cells.toArray]) rfl (RR.wanted_none rfl) (fun ev h hc => by have hfn := h (.func 56); have q := (h (.tmp 8)).trans e0; simp only [List.getElem_toArray, List.getElem_cons_succ, List.getElem_cons_zero, execOp, resolve]; simp [q, hfn, hc, go_sem]) ((rootBytes_any R W HR.out).mono ?_)
      rintro e w6 ⟨v6, rfl, h6, h7⟩
      exact ⟨v6, rfl, ⟨fun e => absurd rfl e.2.2.1, fun e => absurd e (by decide), fun e => absurd e (by decide), fun _ => h6, fun e => absurd e (by decide), fun e => absurd e (by decide), fun e => absurd e (by decide)⟩, Mk.of h7 (HZ1.out W hb)⟩
    · intro a W hb hf hp
      have f1 : a.eval (.tmp 1) = .pointer (some ⟨h, 0, none⟩) := hf 1 (by kernel_rfl)
      exact RR.ob_val (Mk.refl _) rfl (RR.wanted_none rfl) (fun ev h hc => by have q := (h (.tmp 1)).trans f1; simp only [List.getElem_toArray, List.getElem_cons_succ, List.getElem_cons_zero, execOp]; rw [q]; go_simp <;> (first | rfl | simp [rcval])) (RC.ofVal (by decide))
    · intro a W hb hf hp
      have e0 : a.eval (.tmp 10) = rcval R h 4 := (hpB hp 4 10 (by kernel_rfl)).val (by decide)
      exact RR.ob_val (Mk.refl _) rfl (RR.wanted_none rfl) (fun ev h hc => by have q := (h (.tmp 10)).trans e0; simp only [List.getElem_toArray, List.getElem_cons_succ, List.getElem_cons_zero, execOp]; rw [q]; simp only [rcval]; go_simp <;> (first | rfl | simp [rcval])) (RC.ofVal (by decide))
    · intro a W hb hf hp
      obtain ⟨r1, -⟩ := RW W hb
      have u0 := (hpB hp 1 7 (by kernel_rfl)).one rfl
      have u1 := (hpB hp 3 9 (by kernel_rfl)).rb rfl
      have e2 : a.eval (.tmp 11) = rcval R h 5 := (hpB hp 5 11 (by kernel_rfl)).val (by decide)
      have U0 := u0
      have U1 := u1
      obtain ⟨a0, k0, q0, -, -⟩ := u0
      obtain ⟨a1, k1, q1, -, -⟩ := u1
      rw [q0] at U0
      rw [q1] at U1
      have hbl : Below W.heap.size W (W.alloc (.cells #[.slice a0 6 k0, .slice a1 (encB R.list).length k1, .slice (some ⟨h, 99, none⟩) 64 64] 34)) := (Below.refl _ W).alloc (Nat.le_refl _) _
      refine RR.ob_run (w' := W.alloc (.cells #[.slice a0 6 k0, .slice a1 (encB R.list).length k1, .slice (some ⟨h, 99, none⟩) 64 64] 34)) (v := .slice (some ⟨W.heap.size, 0, none⟩) 3 3) rfl (RR.wanted_none rfl) (fun ev h hc => by have p0 := (h (.tmp 7)).trans q0; have p1 := (h (.tmp 9)).trans q1; have p2 := (h (.tmp 11)).trans e2; simp only [rcval] at p2; simp only [List.getElem_toArray, List.getElem_cons_succ, List.getElem_cons_zero, execOp]; simp [p0, p1, p2]; go_simp) ?_ (Mk.of hbl (HZ1.out W hb))
      refine ⟨fun e => absurd rfl e.2.2.2.1, fun e => absurd e (by decide), fun e => absurd e (by decide), fun e => absurd e (by decide), fun _ => ?_, fun e => absurd e (by decide), fun e => absurd e (by decide)⟩
      refine ⟨_, 3, rfl, Nat.le_refl _, .inr ⟨W.heap.size, 0, rfl, by simp, fun i hi => ?_⟩⟩
      have hi3 : i < 3 := hi
      rw [Nat.zero_add, cell_alloc]
      rcases (show i = 0 ∨ i = 1 ∨ i = 2 by omega) with rfl | rfl | rfl
      · exact ⟨_, rfl, U0.below hbl (Nat.le_refl _)⟩
      · exact ⟨_, rfl, U1.below hbl (Nat.le_refl _)⟩
      · exact ⟨_, rfl, r1.below hbl (Nat.le_refl _)⟩
    · intro a W hb hf hp
      have e0 := (hpB hp 6 12 (by kernel_rfl)).lst rfl
      refine RR.ob_call (f := 16) (args := #[a.eval (.tmp 12)]) rfl (RR.wanted_none rfl) (fun ev h hc => by have hfn := h (.func 16); have q := h (.tmp 12); simp only [List.getElem_toArray, List.getElem_cons_succ, List.getElem_cons_zero, execOp, resolve]; simp [q, hfn, hc, go_sem]) ((encode_any R.all _ W e0 (Rt.lens2 HR.out).1 (by rw [(Rt.lens2 HR.out).2]; omega)).mono ?_)
      rintro e w6 ⟨v6, rfl, h6, h7⟩
      exact ⟨_, rfl, ⟨fun e => absurd rfl e.2.2.2.2.1, fun e => absurd e (by decide), fun e => absurd e (by decide), fun e => absurd e (by decide), fun e => absurd e (by decide), fun _ => ⟨v6, rfl, h6.sl⟩, fun e => absurd e (by decide)⟩, Mk.of h7 (HZ1.out W hb)⟩
    · intro a W hb hf hp
      obtain ⟨v6, h6, h7⟩ := (hpB hp 7 13 (by kernel_rfl)).enc (.inl rfl)
      exact RR.ob_val (Mk.refl _) rfl (RR.wanted_none rfl) (fun ev h hc => by have q := (h (.tmp 13)).trans h6; simp [execOp, q, hc, go_sem]) ⟨fun e => absurd rfl e.2.2.2.2.2.1, fun e => absurd e (by decide), fun e => absurd e (by decide), fun e => absurd e (by decide), fun e => absurd e (by decide), fun _ => ⟨v6, rfl, h7⟩, fun e => absurd e (by decide)⟩
    · intro a W hb hf hp
      obtain ⟨v6, h6, h7⟩ := (hpB hp 8 5 (by kernel_rfl)).enc (.inr rfl)
      exact RR.ob_val (Mk.refl _) rfl (RR.wanted_none rfl) (fun ev h hc => by have q := (h (.tmp 5)).trans h6; simp [execOp, q, hc, go_sem]) (⟨fun e => absurd rfl e.2.2.2.2.2.2.1, fun e => absurd e (by decide), fun e => absurd e (by decide), fun e => absurd e (by decide), fun e => absurd e (by decide), fun e => absurd e (by decide), fun _ => h7⟩)
    · intro a W hb hf hp
      obtain ⟨v6, h6, h7⟩ := (hpB hp 8 5 (by kernel_rfl)).enc (.inr rfl)
      exact RR.ob_val (Mk.refl _) rfl (RR.wanted_none rfl) (fun ev h hc => by have q := (h (.tmp 5)).trans h6; simp [execOp, q, hc, go_sem]; rfl) (RC.ofVal (by decide))
    · intro a W hb hf hp
      have h7 := (hpB hp 9 14 (by kernel_rfl)).res (.inl rfl)
      exact RR.ob_val (Mk.refl _) rfl (RR.wanted_none rfl) (fun ev h hc => by have q := h (.tmp 14); simp only [List.getElem_toArray, List.getElem_cons_succ, List.getElem_cons_zero, execOp]; rw [q]; rfl) ⟨fun e => absurd rfl e.2.2.2.2.2.2.2, fun e => absurd e (by decide), fun e => absurd e (by decide), fun e => absurd e (by decide), fun e => absurd e (by decide), fun e => absurd e (by decide), fun _ => h7⟩
    · intro a W hb hf hp
      have e0 : a.eval (.tmp 15) = rcval R h 10 := (hpB hp 10 15 (by kernel_rfl)).val (by decide)
      exact RR.ob_val (Mk.refl _) rfl (RR.wanted_none rfl) (fun ev h hc => by have q := (h (.tmp 15)).trans e0; simp [execOp, q, hc, go_sem]; rfl) (RC.ofVal (by decide))
  · intro a W h1 h2 h3 h4 h5
    have hres : Sl W (a.eval (.tmp 3)) (encB R.all) := (h5 11 _ 3 rfl rfl).res (.inr rfl)
    have HD : Hid (Below w.heap.size w W) := HZ.out.trans (h3.below.mono (by rw [HH.out]; omega))
    obtain ⟨t, df⟩ := a
    simp only at h1 h2
    subst h2
    obtain ⟨l, rfl⟩ : ∃ l : List Value, t = l.toArray := ⟨t.toList, by simp⟩
    have hl17 : l.length = 17 := by simpa using h1
    clear h1 h3 h4 h5
    match l, hl17, hres with
    | [x0, x1, x2, x3, x4, x5, x6, x7, x8, x9, x10, x11, x12, x13, x14, x15, x16], _, hres =>
      have HRS : Hid (Sl W x3 (encB R.all)) := hres
      clear hres
      go_wp2
      go_ret
      exact ⟨_, rfl, HRS.out, HD.out⟩
set_option maxHeartbeats 2000000 in
theorem rencodeRoot_any (R : Rt) (w : World) (hR : R.Ok) :
    Calls Try.prog 25 #[.agg R.cells.toArray] w fun e w' => ∃ v', e = .returned v' ∧ Sl w' v' (encB R.all) ∧ Below w.heap.size w w' := by
  have HR : Hid R.Ok := hR
  have hsz : R.cells.toArray.size = 163 := by simpa using Rt.size hR
  obtain ⟨A, hA⟩ : ∃ A, R.cells.toArray = A := ⟨_, rfl⟩
  have HA : Hid (R.cells.toArray = A) := hA
  rw [hA] at hsz ⊢
  clear hA hR
  go_enter Try.func25, Try.ntmps25
  go_wp2
  have HW : Hid (∀ j, (w.alloc (Obj.cells A 26)).cell? ⟨w.heap.size, j, none⟩ = A[j]?) := fun j => cell_alloc w A _ _ j
  have HZ : Hid (Below w.heap.size w (w.alloc (Obj.cells A 26))) := (Below.refl _ w).alloc (Nat.le_refl _) _
  have hs0 : (w.alloc (Obj.cells A 26)).heap.size = w.heap.size + 1 := by simp
  have HS : Hid ((w.alloc (Obj.cells A 26)).heap.size = w.heap.size + 1) := hs0
  clear hs0
  obtain ⟨W0, hW0⟩ : ∃ W0, w.alloc (Obj.cells A 26) = W0 := ⟨_, rfl⟩
  rw [hW0] at HW HZ HS ⊢
  obtain ⟨h, hh⟩ : ∃ h, w.heap.size = h := ⟨_, rfl⟩
  have HH : Hid (w.heap.size = h) := hh
  rw [hh] at HW HS ⊢
  clear hW0 hh
  have C : Hid (∀ W, Mk (h + 1) W0 W → ∀ j, W.cell? ⟨h, j, none⟩ = A[j]?) := fun W m j => (m.cell h j (by rw [HS.out]; omega)).trans (HW.out j)
  have hA0 : ∀ j, A[j]? = R.cells[j]? := fun j => by rw [← HA.out, List.getElem?_toArray]
  have CA := cells_at R HR.out
  have RW : ∀ W, Mk (h + 1) W0 W → Sl W (.slice (some ⟨h, 99, none⟩) 64 64) R.sg ∧ W.rangeAt h 0 R.cells := fun W m => by
    have hl : h < W.heap.size := by have := m.size; rw [HS.out] at this; omega
    have r1 := HR.out.sg.1
    exact ⟨⟨_, 64, by rw [r1], by rw [r1]; omega, .inr ⟨h, 99, rfl, hl, fun i hi => by rw [C.out W m, hA0]; exact CA.2.2.2 i (by rw [r1] at hi; exact hi)⟩⟩, fun j u hu => by rw [Nat.zero_add, C.out W m, hA0]; exact hu⟩
  have HZ1 : Hid (∀ W, Mk (h + 1) W0 W → h + 1 ≤ W.heap.size) := fun W m => by have := m.size; rw [HS.out] at this; exact this
  refine RR.wp_rgn (RC R h (h + 1)) (Mk (h + 1)) (Mk.draw _ _) (fun _ _ _ => Mk.trans) (by kernel_rfl) (by decide) (by kernel_rfl) (by kernel_rfl) RC.stays ?_ ?_
  · refine ⟨?_, ?_, ?_, ?_, ?_, ?_, ?_, ?_, ?_, ?_, ?_, ?_, ?_, trivial⟩
    · intro a W hb hf hp
      refine RR.ob_run (w' := W.alloc (.cells #[.int .u8 115, .int .u8 105, .int .u8 103, .int .u8 110, .int .u8 101, .int .u8 100] 5)) (v := .slice (some ⟨W.heap.size, 0, none⟩) 6 6) rfl (RR.wanted_none rfl) (fun ev h hc => by simp only [List.getElem_toArray, List.getElem_cons_succ, List.getElem_cons_zero, execOp]; simp [hc]; go_simp) ?_ (Mk.of ((Below.refl _ W).alloc (Nat.le_refl _) _) (HZ1.out W hb))
      have hsl : Sl (W.alloc (.cells #[.int .u8 115, .int .u8 105, .int .u8 103, .int .u8 110, .int .u8 101, .int .u8 100] 5)) (.slice (some ⟨W.heap.size, 0, none⟩) 6 6) [115, 105, 103, 110, 101, 100] := (Ow.lit W [115, 105, 103, 110, 101, 100] _ 6 rfl rfl (by simp)).sl
      exact ⟨fun e => absurd rfl e.1, fun _ => ⟨W.heap.size, 6, rfl, HZ1.out W hb, by simp, shape_new W _ _, hsl⟩, fun e => absurd e (by decide), fun e => absurd e (by decide), fun e => absurd e (by decide), fun e => absurd e (by decide), fun e => absurd e (by decide)⟩
    · intro a W hb hf hp
      obtain ⟨g, n, h1, h2, h3, h4, h5⟩ := (hpB hp 0 6 (by kernel_rfl)).wrd rfl
      refine RR.ob_run (w' := W.freeze ⟨g, n, none⟩ 1) (v := .slice (some ⟨g, 0, none⟩) 6 6) rfl (RR.wanted_none rfl) (fun ev h hc => by have q := (h (.tmp 6)).trans h1; simp only [List.getElem_toArray, List.getElem_cons_succ, List.getElem_cons_zero, execOp]; rw [q]; simp [conv_mark g 6 6 _ n W h4]) ?_ (Mk.freeze h2)
      rw [h1] at h5
      exact ⟨fun e => absurd rfl e.2.1, fun e => absurd e (by decide), fun _ => h5.mk (Mk.freeze (B := h + 1) h2), fun e => absurd e (by decide), fun e => absurd e (by decide), fun e => absurd e (by decide), fun e => absurd e (by decide)⟩
    · intro a W hb hf hp
      have f1 : a.eval (.tmp 1) = .pointer (some ⟨h, 0, none⟩) := hf 1 (by kernel_rfl)
      exact RR.ob_val (Mk.refl _) rfl (RR.wanted_none rfl) (fun ev h hc => by have hld := run_loadAt_mid (P := Try.prog) W _ 0 26 R.cells _ (RW W hb).2 Try.underlying26 rfl (by rw [Rt.size HR.out]; kernel_rfl); have q := (h (.tmp 1)).trans f1; simp only [List.getElem_toArray, List.getElem_cons_succ, List.getElem_cons_zero, execOp]; rw [q]; simp [hld, rcval]) (RC.ofVal (by decide))
    · intro a W hb hf hp
      have e0 : a.eval (.tmp 8) = .agg R.cells.toArray := (hpB hp 2 8 (by kernel_rfl)).val (by decide)
      refine RR.ob_call (f := 59) (args := #[.agg R.cells.toArray]) rfl (RR.wanted_none rfl) (fun ev h hc => by have hfn := h (.func 59); have q := (h (.tmp 8)).trans e0; simp only [List.getElem_toArray, List.getElem_cons_succ, List.getElem_cons_zero, execOp, resolve]; simp [q, hfn, hc, go_sem]) ((rrootBytes_any R W HR.out).mono ?_)
      rintro e w6 ⟨v6, rfl, h6, h7⟩
      exact ⟨v6, rfl, ⟨fun e => absurd rfl e.2.2.1, fun e => absurd e (by decide), fun e => absurd e (by decide), fun _ => h6, fun e => absurd e (by decide), fun e => absurd e (by decide), fun e => absurd e (by decide)⟩, Mk.of h7 (HZ1.out W hb)⟩
    · intro a W hb hf hp
      have f1 : a.eval (.tmp 1) = .pointer (some ⟨h, 0, none⟩) := hf 1 (by kernel_rfl)
      exact RR.ob_val (Mk.refl _) rfl (RR.wanted_none rfl) (fun ev h hc => by have q := (h (.tmp 1)).trans f1; simp only [List.getElem_toArray, List.getElem_cons_succ, List.getElem_cons_zero, execOp]; rw [q]; go_simp <;> (first | rfl | simp [rcval])) (RC.ofVal (by decide))
    · intro a W hb hf hp
      have e0 : a.eval (.tmp 10) = rcval R h 4 := (hpB hp 4 10 (by kernel_rfl)).val (by decide)
      exact RR.ob_val (Mk.refl _) rfl (RR.wanted_none rfl) (fun ev h hc => by have q := (h (.tmp 10)).trans e0; simp only [List.getElem_toArray, List.getElem_cons_succ, List.getElem_cons_zero, execOp]; rw [q]; simp only [rcval]; go_simp <;> (first | rfl | simp [rcval])) (RC.ofVal (by decide))
    · intro a W hb hf hp
      obtain ⟨r1, -⟩ := RW W hb
      have u0 := (hpB hp 1 7 (by kernel_rfl)).one rfl
      have u1 := (hpB hp 3 9 (by kernel_rfl)).rb rfl
      have e2 : a.eval (.tmp 11) = rcval R h 5 := (hpB hp 5 11 (by kernel_rfl)).val (by decide)
      have U0 := u0
      have U1 := u1
      obtain ⟨a0, k0, q0, -, -⟩ := u0
      obtain ⟨a1, k1, q1, -, -⟩ := u1
      rw [q0] at U0
      rw [q1] at U1
      have hbl : Below W.heap.size W (W.alloc (.cells #[.slice a0 6 k0, .slice a1 (encB R.list).length k1, .slice (some ⟨h, 99, none⟩) 64 64] 34)) := (Below.refl _ W).alloc (Nat.le_refl _) _
      refine RR.ob_run (w' := W.alloc (.cells #[.slice a0 6 k0, .slice a1 (encB R.list).length k1, .slice (some ⟨h, 99, none⟩) 64 64] 34)) (v := .slice (some ⟨W.heap.size, 0, none⟩) 3 3) rfl (RR.wanted_none rfl) (fun ev h hc => by have p0 := (h (.tmp 7)).trans q0; have p1 := (h (.tmp 9)).trans q1; have p2 := (h (.tmp 11)).trans e2; simp only [rcval] at p2; simp only [List.getElem_toArray, List.getElem_cons_succ, List.getElem_cons_zero, execOp]; simp [p0, p1, p2]; go_simp) ?_ (Mk.of hbl (HZ1.out W hb))
      refine ⟨fun e => absurd rfl e.2.2.2.1, fun e => absurd e (by decide), fun e => absurd e (by decide), fun e => absurd e (by decide), fun _ => ?_, fun e => absurd e (by decide), fun e => absurd e (by decide)⟩
      refine ⟨_, 3, rfl, Nat.le_refl _, .inr ⟨W.heap.size, 0, rfl, by simp, fun i hi => ?_⟩⟩
      have hi3 : i < 3 := hi
      rw [Nat.zero_add, cell_alloc]
      rcases (show i = 0 ∨ i = 1 ∨ i = 2 by omega) with rfl | rfl | rfl
      · exact ⟨_, rfl, U0.below hbl (Nat.le_refl _)⟩
      · exact ⟨_, rfl, U1.below hbl (Nat.le_refl _)⟩
      · exact ⟨_, rfl, r1.below hbl (Nat.le_refl _)⟩
    · intro a W hb hf hp
      have e0 := (hpB hp 6 12 (by kernel_rfl)).lst rfl
      refine RR.ob_call (f := 24) (args := #[a.eval (.tmp 12)]) rfl (RR.wanted_none rfl) (fun ev h hc => by have hfn := h (.func 24); have q := h (.tmp 12); simp only [List.getElem_toArray, List.getElem_cons_succ, List.getElem_cons_zero, execOp, resolve]; simp [q, hfn, hc, go_sem]) ((rencode_any R.all _ W e0 (Rt.lens2 HR.out).1 (by rw [(Rt.lens2 HR.out).2]; omega)).mono ?_)
      rintro e w6 ⟨v6, rfl, h6, h7⟩
      exact ⟨_, rfl, ⟨fun e => absurd rfl e.2.2.2.2.1, fun e => absurd e (by decide), fun e => absurd e (by decide), fun e => absurd e (by decide), fun e => absurd e (by decide), fun _ => ⟨v6, rfl, h6.sl⟩, fun e => absurd e (by decide)⟩, Mk.of h7 (HZ1.out W hb)⟩
    · intro a W hb hf hp
      obtain ⟨v6, h6, h7⟩ := (hpB hp 7 13 (by kernel_rfl)).enc (.inl rfl)
      exact RR.ob_val (Mk.refl _) rfl (RR.wanted_none rfl) (fun ev h hc => by have q := (h (.tmp 13)).trans h6; simp [execOp, q, hc, go_sem]) ⟨fun e => absurd rfl e.2.2.2.2.2.1, fun e => absurd e (by decide), fun e => absurd e (by decide), fun e => absurd e (by decide), fun e => absurd e (by decide), fun _ => ⟨v6, rfl, h7⟩, fun e => absurd e (by decide)⟩
    · intro a W hb hf hp
      obtain ⟨v6, h6, h7⟩ := (hpB hp 8 5 (by kernel_rfl)).enc (.inr rfl)
      exact RR.ob_val (Mk.refl _) rfl (RR.wanted_none rfl) (fun ev h hc => by have q := (h (.tmp 5)).trans h6; simp [execOp, q, hc, go_sem]) (⟨fun e => absurd rfl e.2.2.2.2.2.2.1, fun e => absurd e (by decide), fun e => absurd e (by decide), fun e => absurd e (by decide), fun e => absurd e (by decide), fun e => absurd e (by decide), fun _ => h7⟩)
    · intro a W hb hf hp
      obtain ⟨v6, h6, h7⟩ := (hpB hp 8 5 (by kernel_rfl)).enc (.inr rfl)
      exact RR.ob_val (Mk.refl _) rfl (RR.wanted_none rfl) (fun ev h hc => by have q := (h (.tmp 5)).trans h6; simp [execOp, q, hc, go_sem]; rfl) (RC.ofVal (by decide))
    · intro a W hb hf hp
      have h7 := (hpB hp 9 14 (by kernel_rfl)).res (.inl rfl)
      exact RR.ob_val (Mk.refl _) rfl (RR.wanted_none rfl) (fun ev h hc => by have q := h (.tmp 14); simp only [List.getElem_toArray, List.getElem_cons_succ, List.getElem_cons_zero, execOp]; rw [q]; rfl) ⟨fun e => absurd rfl e.2.2.2.2.2.2.2, fun e => absurd e (by decide), fun e => absurd e (by decide), fun e => absurd e (by decide), fun e => absurd e (by decide), fun e => absurd e (by decide), fun _ => h7⟩
    · intro a W hb hf hp
      have e0 : a.eval (.tmp 15) = rcval R h 10 := (hpB hp 10 15 (by kernel_rfl)).val (by decide)
      exact RR.ob_val (Mk.refl _) rfl (RR.wanted_none rfl) (fun ev h hc => by have q := (h (.tmp 15)).trans e0; simp [execOp, q, hc, go_sem]; rfl) (RC.ofVal (by decide))
  · intro a W h1 h2 h3 h4 h5
    have hres : Sl W (a.eval (.tmp 3)) (encB R.all) := (h5 11 _ 3 rfl rfl).res (.inr rfl)
    have HD : Hid (Below w.heap.size w W) := HZ.out.trans (h3.below.mono (by rw [HH.out]; omega))
    obtain ⟨t, df⟩ := a
    simp only at h1 h2
    subst h2
    obtain ⟨l, rfl⟩ : ∃ l : List Value, t = l.toArray := ⟨t.toList, by simp⟩
    have hl17 : l.length = 17 := by simpa using h1
    clear h1 h3 h4 h5
    match l, hl17, hres with
    | [x0, x1, x2, x3, x4, x5, x6, x7, x8, x9, x10, x11, x12, x13, x14, x15, x16], _, hres =>
      have HRS : Hid (Sl W x3 (encB R.all)) := hres
      clear hres
      go_wp2
      go_ret
      exact ⟨_, rfl, HRS.out, HD.out⟩
end Go.Proofs.Ytfnmdeekenjlgaa
