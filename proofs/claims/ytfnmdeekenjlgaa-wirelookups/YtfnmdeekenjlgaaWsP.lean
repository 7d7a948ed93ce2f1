/- Steps: EncodeStep, and the reference's. -/
import Derived.Test.YtfnmdeekenjlgaaWsO
import Derived.Test.YtfnmdeekenjlgaaWrtK
import Derived.Test.YtfnmdeekenjlgaaWsG
namespace Go.Proofs.Ytfnmdeekenjlgaa
open Go Go.RowKit
set_option linter.unusedSimpArgs false
set_option linter.unusedVariables false
set_option maxRecDepth 100000

/-- A step. -/
structure Sp where
  R : Rt
  ns : List Nd
  ls : List Lf
  ks : List Lk
structure Sp.Ok (S : Sp) : Prop where
  R : S.R.Ok
  ns : ∀ x ∈ S.ns, x.Ok
  ls : ∀ x ∈ S.ls, x.Ok
  ks : ∀ x ∈ S.ks, x.Ok
  nl : S.ns.length * 72 ≤ 140737488351232
  ll : S.ls.length * 64 ≤ 140737488351232
  kl : S.ks.length * 96 ≤ 140737488351232
def Sp.list (S : Sp) : List (List Int) := [[115, 116, 101, 112], encB S.R.all, S.ns.flatMap ndb, S.ls.flatMap lfb, S.ks.flatMap lkb]
def lokb (ns : List Nd) : Bool := ns.all (fun x => decide (0 ≤ x.n ∧ x.n ≤ 256))
theorem lokb_iff (ns : List Nd) : lokb ns = true ↔ lok ns := by
  unfold lokb lok
  rw [List.all_eq_true]
  exact ⟨fun h x hx => of_decide_eq_true (h x hx), fun h x hx => decide_eq_true (h x hx)⟩
def seE (S : Sp) : Int := match lokb S.ns with | true => encE S.list | false => 1
def seB (S : Sp) : List Int := match lokb S.ns with | true => encB S.list | false => []
theorem se_yes {S : Sp} (h : lokb S.ns = true) : seE S = encE S.list ∧ seB S = encB S.list := by unfold seE seB; rw [h]; exact ⟨rfl, rfl⟩
theorem se_no {S : Sp} (h : lokb S.ns = false) : seE S = 1 ∧ seB S = [] := by unfold seE seB; rw [h]; exact ⟨rfl, rfl⟩
/-- A step's cells. -/
def sc (R : Rt) (nv av kv : Value) : List Value := R.cells ++ [nv, av, kv]
theorem sc_length {R : Rt} (h : R.Ok) (nv av kv : Value) : (sc R nv av kv).length = 166 := by simp [sc, Rt.size h]
def SV (w : World) (A : List Value) (S : Sp) : Prop := ∃ nv av kv, A = sc S.R nv av kv ∧ NS w nv S.ns ∧ LS w av S.ls ∧ KS w kv S.ks
theorem SV.below {w w' : World} {A : List Value} {S : Sp} (h : SV w A S) (hb : Below w.heap.size w w') : SV w' A S := by
  obtain ⟨nv, av, kv, e, h1, h2, h3⟩ := h
  exact ⟨nv, av, kv, e, h1.below hb, h2.below hb, h3.below hb⟩
theorem sc_at {R : Rt} (hR : R.Ok) (nv av kv : Value) : (sc R nv av kv)[163]? = some nv ∧ (sc R nv av kv)[164]? = some av ∧ (sc R nv av kv)[165]? = some kv := by
  have hl := Rt.size hR
  unfold sc
  refine ⟨?_, ?_, ?_⟩ <;> rw [List.getElem?_append_right (by omega), hl] <;> rfl
theorem sc_root {w : World} {b : Nat} {R : Rt} {nv av kv : Value} (hR : R.Ok) (h : ∀ j, w.cell? ⟨b, j, none⟩ = (sc R nv av kv)[j]?) : w.rangeAt b 0 R.cells := fun j u hu => by
  rw [Nat.zero_add, h]
  unfold sc
  rw [List.getElem?_append_left (List.getElem?_eq_some_iff.1 hu).1]; exact hu
theorem Sp.lens {S : Sp} (h : S.Ok) : Lens S.list ∧ S.list.length = 5 := by
  refine ⟨fun i hi => ?_, rfl⟩
  have hi' : i < 5 := hi
  have h1 := encB_small S.R.all
  have h2 := fm_len ndb 66 (fun x hx => ndb_len (h.ns x hx))
  have h3 := fm_len lfb 64 (fun x hx => lfb_len (h.ls x hx))
  have h4 := fm_len lkb 96 (fun x hx => lkb_len (h.ks x hx))
  have h5 := h.nl
  have h6 := h.ll
  have h7 := h.kl
  rcases (show i = 0 ∨ i = 1 ∨ i = 2 ∨ i = 3 ∨ i = 4 by omega) with rfl | rfl | rfl | rfl | rfl
  · simp [mi, Sp.list]
  · show (encB S.R.all).length ≤ _; omega
  · show (S.ns.flatMap ndb).length ≤ _; rw [h2]; omega
  · show (S.ls.flatMap lfb).length ≤ _; rw [h3]; omega
  · show (S.ks.flatMap lkb).length ≤ _; rw [h4]; omega
def eSp (S : Sp) (h : Nat) (nv av kv v4 : Value) (B : Nat) : Nat → Value → World → Prop
  | 0, v, w => ∃ g n, v = .slice (some ⟨g, 0, none⟩) 4 4 ∧ B ≤ g ∧ g < w.heap.size ∧ w.shape? g = some (5, n) ∧ Sl w v [115, 116, 101, 112]
  | 1, v, w => Sl w v [115, 116, 101, 112]
  | 2, v, w => v = .pointer (some ⟨h, 0, none⟩)
  | 3, v, w => v = .agg S.R.cells.toArray
  | 4, v, w => Sl w v (encB S.R.all)
  | 5, v, w => v = .pointer (some ⟨h, 163, none⟩)
  | 6, v, w => v = nv
  | 7, v, w => Sl w v (S.ns.flatMap ndb)
  | 8, v, w => v = .pointer (some ⟨h, 164, none⟩)
  | 9, v, w => v = av
  | 10, v, w => Sl w v (S.ls.flatMap lfb)
  | 11, v, w => v = .pointer (some ⟨h, 165, none⟩)
  | 12, v, w => v = kv
  | 13, v, w => Sl w v (S.ks.flatMap lkb)
  | 14, v, w => LL w v S.list
  | 15, v, w => ∃ v', v = .tuple #[v', .int .i64 (encE S.list)] ∧ Sl w v' (encB S.list)
  | 16, v, w => Sl w v (encB S.list)
  | 17, v, w => v = .int .i64 (encE S.list)
  | 18, v, w => Sl w v (encB S.list)
  | 19, v, w => v = .int .i64 (encE S.list)
  | _ + 20, _, _ => True
theorem eSp.stays {S : Sp} {h : Nat} {nv av kv v4 : Value} {B : Nat} : ∀ (i : Nat) (v : Value) (w w' : World), eSp S h nv av kv v4 B i v w → Mk B w w' → eSp S h nv av kv v4 B i v w'
  | 0, v, w, w', k, m => by
    obtain ⟨g, n, h1, h2, h3, h4, h5⟩ := k
    exact ⟨g, n, h1, h2, Nat.lt_of_lt_of_le h3 m.size, (m.shape g h3).trans h4, h5.mk m⟩
  | 1, v, w, w', k, m => Sl.mk k m
  | 2, v, w, w', k, m => k
  | 3, v, w, w', k, m => k
  | 4, v, w, w', k, m => Sl.mk k m
  | 5, v, w, w', k, m => k
  | 6, v, w, w', k, m => k
  | 7, v, w, w', k, m => Sl.mk k m
  | 8, v, w, w', k, m => k
  | 9, v, w, w', k, m => k
  | 10, v, w, w', k, m => Sl.mk k m
  | 11, v, w, w', k, m => k
  | 12, v, w, w', k, m => k
  | 13, v, w, w', k, m => Sl.mk k m
  | 14, v, w, w', k, m => LL.mk k m
  | 15, v, w, w', k, m => by
    obtain ⟨v', h1, h2⟩ := k
    exact ⟨v', h1, h2.mk m⟩
  | 16, v, w, w', k, m => Sl.mk k m
  | 17, v, w, w', k, m => k
  | 18, v, w, w', k, m => Sl.mk k m
  | 19, v, w, w', k, m => k
  | _ + 20, _, _, _, _, _ => trivial
set_option maxHeartbeats 4000000 in
theorem encodeStep_any (S : Sp) (hS : S.Ok) (A : List Value) (w : World) (hA : SV w A S) :
    Calls Try.prog 11 #[.agg A.toArray] w fun e w' => ∃ v', e = .returned (.tuple #[v', .int .i64 (seE S)]) ∧ Sl w' v' (seB S) ∧ Below w.heap.size w w' := by
  have HS : Hid S.Ok := hS
  obtain ⟨nv, av, kv, rfl, h1, h2, h3⟩ := hA
  have HV0 : Hid (NS w nv S.ns ∧ LS w av S.ls ∧ KS w kv S.ks) := ⟨h1, h2, h3⟩
  have hsz : (sc S.R nv av kv).toArray.size = 166 := by rw [List.size_toArray]; exact sc_length hS.R _ _ _
  obtain ⟨A, hA⟩ : ∃ A, (sc S.R nv av kv).toArray = A := ⟨_, rfl⟩
  have HA : Hid (∀ j, A[j]? = (sc S.R nv av kv)[j]?) := fun j => by rw [← hA, List.getElem?_toArray]
  rw [hA] at hsz ⊢
  clear hA hS h1 h2 h3
  have hcn : (w.alloc (Obj.cells A 46)).cell? ⟨w.heap.size, 163, none⟩ = some nv := (cell_alloc w A _ _ _).trans ((HA.out 163).trans (sc_at HS.out.R nv av kv).1)
  have HW0 : Hid (∀ j, (w.alloc (Obj.cells A 46)).cell? ⟨w.heap.size, j, none⟩ = (sc S.R nv av kv)[j]?) := fun j => (cell_alloc w A _ _ j).trans (HA.out j)
  have HB0 : Hid (Below w.heap.size w (w.alloc (Obj.cells A 46)) ∧ w.heap.size < (w.alloc (Obj.cells A 46)).heap.size) := ⟨(Below.refl _ w).alloc (Nat.le_refl _) _, by simp⟩
  have HN0 : Hid (NS (w.alloc (Obj.cells A 46)) nv S.ns) := HV0.out.1.below HB0.out.1
  have HCL : Hid (Calls Try.prog 18 #[nv] (w.alloc (Obj.cells A 46)) fun e w' => ∃ ok, e = .returned (.bool ok) ∧ (ok = true ↔ lok S.ns) ∧ Below (w.alloc (Obj.cells A 46)).heap.size (w.alloc (Obj.cells A 46)) w') := lensHold_any S.ns HS.out.ns (by have := HS.out.nl; omega) nv _ HN0.out
  go_enter Try.func11, Try.ntmps11
  go_wp2_with (go_at_call 18; refine HCL.out.mono ?_; rintro e w1 ⟨ok, rfl, g1, g2⟩; have G1 : Hid (ok = true ↔ lok S.ns) := g1; have G2 : Hid (Below (w.alloc (Obj.cells A 46)).heap.size (w.alloc (Obj.cells A 46)) w1) := g2; clear g1 g2; cases ok)
  · have hno : lokb S.ns = false := by
      cases hq : lokb S.ns with
      | false => rfl
      | true => exact absurd (G1.out.2 ((lokb_iff _).1 hq)) (by decide)
    have E : Hid (seE S = 1 ∧ seB S = []) := se_no hno
    have BE : Hid (Below w.heap.size w w1) := HB0.out.1.trans (G2.out.mono HB0.out.1.size)
    go_wp2_with fail
    go_ret2
    rw [E.out.1, E.out.2]
    exact ⟨_, rfl, ⟨none, 0, rfl, Nat.le_refl _, .inl ⟨rfl, fun _ => rfl⟩⟩, BE.out⟩
  · have HLK : Hid (lok S.ns) := G1.out.1 (by simp)
    have E : Hid (seE S = encE S.list ∧ seB S = encB S.list) := se_yes ((lokb_iff _).2 HLK.out)
    have BE : Hid (Below w.heap.size w w1) := HB0.out.1.trans (G2.out.mono HB0.out.1.size)
    have HV1 : Hid (NS w1 nv S.ns ∧ LS w1 av S.ls ∧ KS w1 kv S.ks) := ⟨HV0.out.1.below BE.out, HV0.out.2.1.below BE.out, HV0.out.2.2.below BE.out⟩
    have HC1 : Hid (∀ j, w1.cell? ⟨w.heap.size, j, none⟩ = (sc S.R nv av kv)[j]?) := fun j => (G2.out.cell (p := ⟨w.heap.size, j, none⟩) HB0.out.2).trans (HW0.out j)
    have HL1 : Hid (w.heap.size < w1.heap.size) := Nat.lt_of_lt_of_le HB0.out.2 G2.out.size
    obtain ⟨h, hh⟩ : ∃ h, w.heap.size = h := ⟨_, rfl⟩
    have HH : Hid (w.heap.size = h) := hh
    rw [hh] at HC1 HL1
    clear hcn
    go_upto_region 3 with (fail)
    rw [hh]
    clear hh
    obtain ⟨B, hB⟩ : ∃ B, w1.heap.size = B := ⟨_, rfl⟩
    have HB : Hid (w1.heap.size = B) := hB
    have HC : Hid (∀ W, Mk B w1 W → ∀ j, W.cell? ⟨h, j, none⟩ = (sc S.R nv av kv)[j]?) := fun W m j => (m.cell h j HL1.out).trans (HC1.out j)
    have HV : Hid (∀ W, Mk B w1 W → NS W nv S.ns ∧ LS W av S.ls ∧ KS W kv S.ks) := fun W m => by
      have mb := m.below
      rw [← hB] at mb
      exact ⟨HV1.out.1.below mb, HV1.out.2.1.below mb, HV1.out.2.2.below mb⟩
    have HZ1 : Hid (∀ W, Mk B w1 W → B ≤ W.heap.size) := fun W m => by have := m.size; rw [hB] at this; exact this
    clear hB
    refine RR.wp_rgn (eSp S h nv av kv undef B) (Mk B) (Mk.draw _ _) (fun _ _ _ => Mk.trans) (by kernel_rfl) (by decide) (by kernel_rfl) (by kernel_rfl) eSp.stays ?_ ?_
    · refine ⟨?_, ?_, ?_, ?_, ?_, ?_, ?_, ?_, ?_, ?_, ?_, ?_, ?_, ?_, ?_, ?_, ?_, ?_, ?_, ?_, trivial⟩
      · intro a W hb hf hp
        refine RR.ob_run (w' := W.alloc (.cells #[.int .u8 115, .int .u8 116, .int .u8 101, .int .u8 112] 5)) (v := .slice (some ⟨W.heap.size, 0, none⟩) 4 4) rfl (RR.wanted_none rfl) (fun ev hE hc => by simp only [List.getElem_toArray, List.getElem_cons_succ, List.getElem_cons_zero, execOp]; simp [hc]; go_simp) ?_ (Mk.of ((Below.refl _ W).alloc (Nat.le_refl _) _) (HZ1.out W hb))
        have hsl : Sl (W.alloc (.cells #[.int .u8 115, .int .u8 116, .int .u8 101, .int .u8 112] 5)) (.slice (some ⟨W.heap.size, 0, none⟩) 4 4) [115, 116, 101, 112] := (Ow.lit W [115, 116, 101, 112] _ 4 rfl rfl (by simp)).sl
        exact ⟨W.heap.size, 4, rfl, HZ1.out W hb, by simp, shape_new W _ _, hsl⟩
      · intro a W hb hf hp
        obtain ⟨g, n, h1, h2, h3, h4, h5⟩ : ∃ g n, a.eval (.tmp 8) = .slice (some ⟨g, 0, none⟩) 4 4 ∧ B ≤ g ∧ g < W.heap.size ∧ W.shape? g = some (5, n) ∧ Sl W (a.eval (.tmp 8)) [115, 116, 101, 112] := hpB hp 0 8 (by kernel_rfl)
        refine RR.ob_run (w' := W.freeze ⟨g, n, none⟩ 1) (v := .slice (some ⟨g, 0, none⟩) 4 4) rfl (RR.wanted_none rfl) (fun ev hE hc => by have q := (hE (.tmp 8)).trans h1; simp only [List.getElem_toArray, List.getElem_cons_succ, List.getElem_cons_zero, execOp]; rw [q]; simp [conv_mark g 4 4 _ n W h4]) ?_ (Mk.freeze h2)
        rw [h1] at h5
        exact h5.mk (Mk.freeze (B := B) h2)
      · intro a W hb hf hp
        have f1 : a.eval (.tmp 1) = .pointer (some ⟨h, 0, none⟩) := hf 1 (by kernel_rfl)
        exact RR.ob_val (Mk.refl _) rfl (RR.wanted_none rfl) (fun ev hE hc => by have q1 := (hE (.tmp 1)).trans f1; simp only [List.getElem_toArray, List.getElem_cons_succ, List.getElem_cons_zero, execOp]; rw [q1]; first | (go_simp; done) | (go_simp; rfl) | rfl) rfl
      · intro a W hb hf hp
        have f1 : a.eval (.tmp 10) = .pointer (some ⟨h, 0, none⟩) := hpB hp 2 10 (by kernel_rfl)
        exact RR.ob_val (Mk.refl _) rfl (RR.wanted_none rfl) (fun ev hE hc => by have hld := run_loadAt_mid (P := Try.prog) W h 0 26 (S.R.cells) _ (sc_root HS.out.R (HC.out W hb)) Try.underlying26 rfl (by rw [Rt.size HS.out.R]; kernel_rfl); have q := (hE (.tmp 10)).trans f1; simp only [List.getElem_toArray, List.getElem_cons_succ, List.getElem_cons_zero, execOp]; rw [q]; simp [hld]) rfl
      · intro a W hb hf hp
        have e0 : a.eval (.tmp 11) = .agg S.R.cells.toArray := hpB hp 3 11 (by kernel_rfl)
        refine RR.ob_call (f := 19) (args := #[.agg S.R.cells.toArray]) rfl (RR.wanted_none rfl) (fun ev hE hc => by have hfn := hE (.func 19); have q := (hE (.tmp 11)).trans e0; simp only [List.getElem_toArray, List.getElem_cons_succ, List.getElem_cons_zero, execOp, resolve]; simp [q, hfn, hc, go_sem]) ((encodeRoot_any S.R W HS.out.R).mono ?_)
        rintro e w6 ⟨v6, rfl, h6, h7⟩
        exact ⟨v6, rfl, h6, Mk.of h7 (HZ1.out W hb)⟩
      · intro a W hb hf hp
        have f1 : a.eval (.tmp 1) = .pointer (some ⟨h, 0, none⟩) := hf 1 (by kernel_rfl)
        exact RR.ob_val (Mk.refl _) rfl (RR.wanted_none rfl) (fun ev hE hc => by have q1 := (hE (.tmp 1)).trans f1; simp only [List.getElem_toArray, List.getElem_cons_succ, List.getElem_cons_zero, execOp]; rw [q1]; first | (go_simp; done) | (go_simp; rfl) | rfl) rfl
      · intro a W hb hf hp
        have f1 : a.eval (.tmp 13) = .pointer (some ⟨h, 163, none⟩) := hpB hp 5 13 (by kernel_rfl)
        have hcl := (HC.out W hb 163).trans (sc_at HS.out.R nv av kv).1
        exact RR.ob_val (Mk.refl _) rfl (RR.wanted_none rfl) (fun ev hE hc => by have q := (hE (.tmp 13)).trans f1; simp only [List.getElem_toArray, List.getElem_cons_succ, List.getElem_cons_zero, execOp]; rw [q]; first | (go_simp; done) | (go_simp; rfl)) rfl
      · intro a W hb hf hp
        have e0 : a.eval (.tmp 14) = nv := hpB hp 6 14 (by kernel_rfl)
        refine RR.ob_call (f := 22) (args := #[nv]) rfl (RR.wanted_none rfl) (fun ev hE hc => by have hfn := hE (.func 22); have q := (hE (.tmp 14)).trans e0; simp only [List.getElem_toArray, List.getElem_cons_succ, List.getElem_cons_zero, execOp, resolve]; simp [q, hfn, hc, go_sem]) ((nodesBytes_any S.ns HS.out.ns HLK.out (by have := HS.out.nl; omega) nv W (HV.out W hb).1).mono ?_)
        rintro e w6 ⟨v6, rfl, h6, h7⟩
        exact ⟨v6, rfl, h6.sl, Mk.of h7 (HZ1.out W hb)⟩
      · intro a W hb hf hp
        have f1 : a.eval (.tmp 1) = .pointer (some ⟨h, 0, none⟩) := hf 1 (by kernel_rfl)
        exact RR.ob_val (Mk.refl _) rfl (RR.wanted_none rfl) (fun ev hE hc => by have q1 := (hE (.tmp 1)).trans f1; simp only [List.getElem_toArray, List.getElem_cons_succ, List.getElem_cons_zero, execOp]; rw [q1]; first | (go_simp; done) | (go_simp; rfl) | rfl) rfl
      · intro a W hb hf hp
        have f1 : a.eval (.tmp 16) = .pointer (some ⟨h, 164, none⟩) := hpB hp 8 16 (by kernel_rfl)
        have hcl := (HC.out W hb 164).trans (sc_at HS.out.R nv av kv).2.1
        exact RR.ob_val (Mk.refl _) rfl (RR.wanted_none rfl) (fun ev hE hc => by have q := (hE (.tmp 16)).trans f1; simp only [List.getElem_toArray, List.getElem_cons_succ, List.getElem_cons_zero, execOp]; rw [q]; first | (go_simp; done) | (go_simp; rfl)) rfl
      · intro a W hb hf hp
        have e0 : a.eval (.tmp 17) = av := hpB hp 9 17 (by kernel_rfl)
        refine RR.ob_call (f := 40) (args := #[av]) rfl (RR.wanted_none rfl) (fun ev hE hc => by have hfn := hE (.func 40); have q := (hE (.tmp 17)).trans e0; simp only [List.getElem_toArray, List.getElem_cons_succ, List.getElem_cons_zero, execOp, resolve]; simp [q, hfn, hc, go_sem]) ((leavesBytes_any S.ls HS.out.ls HS.out.ll av W (HV.out W hb).2.1).mono ?_)
        rintro e w6 ⟨v6, rfl, h6, h7⟩
        exact ⟨v6, rfl, h6.sl, Mk.of h7 (HZ1.out W hb)⟩
      · intro a W hb hf hp
        have f1 : a.eval (.tmp 1) = .pointer (some ⟨h, 0, none⟩) := hf 1 (by kernel_rfl)
        exact RR.ob_val (Mk.refl _) rfl (RR.wanted_none rfl) (fun ev hE hc => by have q1 := (hE (.tmp 1)).trans f1; simp only [List.getElem_toArray, List.getElem_cons_succ, List.getElem_cons_zero, execOp]; rw [q1]; first | (go_simp; done) | (go_simp; rfl) | rfl) rfl
      · intro a W hb hf hp
        have f1 : a.eval (.tmp 19) = .pointer (some ⟨h, 165, none⟩) := hpB hp 11 19 (by kernel_rfl)
        have hcl := (HC.out W hb 165).trans (sc_at HS.out.R nv av kv).2.2
        exact RR.ob_val (Mk.refl _) rfl (RR.wanted_none rfl) (fun ev hE hc => by have q := (hE (.tmp 19)).trans f1; simp only [List.getElem_toArray, List.getElem_cons_succ, List.getElem_cons_zero, execOp]; rw [q]; first | (go_simp; done) | (go_simp; rfl)) rfl
      · intro a W hb hf hp
        have e0 : a.eval (.tmp 20) = kv := hpB hp 12 20 (by kernel_rfl)
        refine RR.ob_call (f := 41) (args := #[kv]) rfl (RR.wanted_none rfl) (fun ev hE hc => by have hfn := hE (.func 41); have q := (hE (.tmp 20)).trans e0; simp only [List.getElem_toArray, List.getElem_cons_succ, List.getElem_cons_zero, execOp, resolve]; simp [q, hfn, hc, go_sem]) ((linksBytes_any S.ks HS.out.ks HS.out.kl kv W (HV.out W hb).2.2).mono ?_)
        rintro e w6 ⟨v6, rfl, h6, h7⟩
        exact ⟨v6, rfl, h6.sl, Mk.of h7 (HZ1.out W hb)⟩
      · intro a W hb hf hp
        have u0 : Sl W (a.eval (.tmp 9)) ([115, 116, 101, 112]) := hpB hp 1 9 (by kernel_rfl)
        have u1 : Sl W (a.eval (.tmp 12)) ((encB S.R.all)) := hpB hp 4 12 (by kernel_rfl)
        have u2 : Sl W (a.eval (.tmp 15)) ((S.ns.flatMap ndb)) := hpB hp 7 15 (by kernel_rfl)
        have u3 : Sl W (a.eval (.tmp 18)) ((S.ls.flatMap lfb)) := hpB hp 10 18 (by kernel_rfl)
        have u4 : Sl W (a.eval (.tmp 21)) ((S.ks.flatMap lkb)) := hpB hp 13 21 (by kernel_rfl)
        have U0 := u0
        obtain ⟨a0, k0, q0, -, -⟩ := u0
        rw [q0] at U0
        have U1 := u1
        obtain ⟨a1, k1, q1, -, -⟩ := u1
        rw [q1] at U1
        have U2 := u2
        obtain ⟨a2, k2, q2, -, -⟩ := u2
        rw [q2] at U2
        have U3 := u3
        obtain ⟨a3, k3, q3, -, -⟩ := u3
        rw [q3] at U3
        have U4 := u4
        obtain ⟨a4, k4, q4, -, -⟩ := u4
        rw [q4] at U4
        obtain ⟨l0, hl0⟩ : ∃ l, List.length ([115, 116, 101, 112] : List Int) = l := ⟨_, rfl⟩
        rw [hl0] at q0 U0
        obtain ⟨l1, hl1⟩ : ∃ l, List.length ((encB S.R.all) : List Int) = l := ⟨_, rfl⟩
        rw [hl1] at q1 U1
        obtain ⟨l2, hl2⟩ : ∃ l, List.length ((S.ns.flatMap ndb) : List Int) = l := ⟨_, rfl⟩
        rw [hl2] at q2 U2
        obtain ⟨l3, hl3⟩ : ∃ l, List.length ((S.ls.flatMap lfb) : List Int) = l := ⟨_, rfl⟩
        rw [hl3] at q3 U3
        obtain ⟨l4, hl4⟩ : ∃ l, List.length ((S.ks.flatMap lkb) : List Int) = l := ⟨_, rfl⟩
        rw [hl4] at q4 U4
        have hbl : Below W.heap.size W (W.alloc (.cells #[.slice a0 l0 k0, .slice a1 l1 k1, .slice a2 l2 k2, .slice a3 l3 k3, .slice a4 l4 k4] 34)) := (Below.refl _ W).alloc (Nat.le_refl _) _
        refine RR.ob_run (w' := W.alloc (.cells #[.slice a0 l0 k0, .slice a1 l1 k1, .slice a2 l2 k2, .slice a3 l3 k3, .slice a4 l4 k4] 34)) (v := .slice (some ⟨W.heap.size, 0, none⟩) 5 5) rfl (RR.wanted_none rfl) (fun ev hE hc => by have p0 := (hE (.tmp 9)).trans q0; have p1 := (hE (.tmp 12)).trans q1; have p2 := (hE (.tmp 15)).trans q2; have p3 := (hE (.tmp 18)).trans q3; have p4 := (hE (.tmp 21)).trans q4; simp only [List.getElem_toArray, List.getElem_cons_succ, List.getElem_cons_zero, execOp]; simp [p0, p1, p2, p3, p4]; go_simp) ?_ (Mk.of hbl (HZ1.out W hb))
        refine ⟨_, 5, rfl, Nat.le_refl _, .inr ⟨W.heap.size, 0, rfl, by simp, fun i hi => ?_⟩⟩
        have hi3 : i < 5 := hi
        rw [Nat.zero_add, cell_alloc]
        rcases (show i = 0 ∨ i = 1 ∨ i = 2 ∨ i = 3 ∨ i = 4 by omega) with rfl | rfl | rfl | rfl | rfl
        · exact ⟨_, rfl, U0.below hbl (Nat.le_refl _)⟩
        · exact ⟨_, rfl, U1.below hbl (Nat.le_refl _)⟩
        · exact ⟨_, rfl, U2.below hbl (Nat.le_refl _)⟩
        · exact ⟨_, rfl, U3.below hbl (Nat.le_refl _)⟩
        · exact ⟨_, rfl, U4.below hbl (Nat.le_refl _)⟩
      · intro a W hb hf hp
        have e0 : LL W (a.eval (.tmp 22)) S.list := hpB hp 14 22 (by kernel_rfl)
        refine RR.ob_call (f := 16) (args := #[a.eval (.tmp 22)]) rfl (RR.wanted_none rfl) (fun ev hE hc => by have hfn := hE (.func 16); have q := hE (.tmp 22); simp only [List.getElem_toArray, List.getElem_cons_succ, List.getElem_cons_zero, execOp, resolve]; simp [q, hfn, hc, go_sem]) ((encode_any S.list _ W e0 (Sp.lens HS.out).1 (by rw [(Sp.lens HS.out).2]; omega)).mono ?_)
        rintro e w6 ⟨v6, rfl, h6, h7⟩
        exact ⟨_, rfl, ⟨v6, rfl, h6.sl⟩, Mk.of h7 (HZ1.out W hb)⟩
      · intro a W hb hf hp
        obtain ⟨v6, h6, h7⟩ : ∃ v', a.eval (.tmp 23) = .tuple #[v', .int .i64 (encE S.list)] ∧ Sl W v' (encB S.list) := hpB hp 15 23 (by kernel_rfl)
        exact RR.ob_val (Mk.refl _) rfl (RR.wanted_none rfl) (fun ev hE hc => by have q := (hE (.tmp 23)).trans h6; simp [execOp, q, hc, go_sem]) h7
      · intro a W hb hf hp
        obtain ⟨v6, h6, h7⟩ : ∃ v', a.eval (.tmp 23) = .tuple #[v', .int .i64 (encE S.list)] ∧ Sl W v' (encB S.list) := hpB hp 15 23 (by kernel_rfl)
        exact RR.ob_val (Mk.refl _) rfl (RR.wanted_none rfl) (fun ev hE hc => by have q := (hE (.tmp 23)).trans h6; simp [execOp, q, hc, go_sem]) rfl
      · intro a W hb hf hp
        have h7 : Sl W (a.eval (.tmp 24)) (encB S.list) := hpB hp 16 24 (by kernel_rfl)
        exact RR.ob_val (Mk.refl _) rfl (RR.wanted_none rfl) (fun ev hE hc => by have q := hE (.tmp 24); simp only [List.getElem_toArray, List.getElem_cons_succ, List.getElem_cons_zero, execOp]; rw [q]; rfl) h7
      · intro a W hb hf hp
        have e0 : a.eval (.tmp 25) = .int .i64 (encE S.list) := hpB hp 17 25 (by kernel_rfl)
        exact RR.ob_val (Mk.refl _) rfl (RR.wanted_none rfl) (fun ev hE hc => by have q := (hE (.tmp 25)).trans e0; simp [execOp, q, hc, go_sem]) rfl
    · intro a W g1 g2 g3 g4 g5
      have hres : Sl W (a.eval (.tmp 2)) (encB S.list) := g5 18 _ 2 rfl rfl
      have her : a.eval (.tmp 3) = .int .i64 (encE S.list) := g5 19 _ 3 rfl rfl
      have HD : Hid (Below w.heap.size w W) := BE.out.trans (g3.below.mono (by rw [← HB.out]; exact BE.out.size))
      obtain ⟨t, df⟩ := a
      simp only at g1 g2
      subst g2
      obtain ⟨l, rfl⟩ : ∃ l : List Value, t = l.toArray := ⟨t.toList, by simp⟩
      have hl17 : l.length = 26 := by simpa using g1
      clear g1 g3 g4 g5
      match l, hl17, hres, her with
      | [x0, x1, x2, x3, x4, x5, x6, x7, x8, x9, x10, x11, x12, x13, x14, x15, x16, x17, x18, x19, x20, x21, x22, x23, x24, x25], _, hres, her =>
        have HRS : Hid (Sl W x2 (encB S.list)) := hres
        have HER : Hid (x3 = .int .i64 (encE S.list)) := her
        clear hres her
        go_wp2
        go_ret2
        rw [E.out.1, E.out.2, HER.out]
        exact ⟨_, rfl, HRS.out, HD.out⟩
def eSr (S : Sp) (h : Nat) (nv av kv v4 : Value) (B : Nat) : Nat → Value → World → Prop
  | 0, v, w => ∃ g n, v = .slice (some ⟨g, 0, none⟩) 4 4 ∧ B ≤ g ∧ g < w.heap.size ∧ w.shape? g = some (5, n) ∧ Sl w v [115, 116, 101, 112]
  | 1, v, w => Sl w v [115, 116, 101, 112]
  | 2, v, w => v = .pointer (some ⟨h, 0, none⟩)
  | 3, v, w => v = .agg S.R.cells.toArray
  | 4, v, w => Sl w v (encB S.R.all)
  | 5, v, w => Sl w v (S.ns.flatMap ndb)
  | 6, v, w => v = .pointer (some ⟨h, 164, none⟩)
  | 7, v, w => v = av
  | 8, v, w => Sl w v (S.ls.flatMap lfb)
  | 9, v, w => v = .pointer (some ⟨h, 165, none⟩)
  | 10, v, w => v = kv
  | 11, v, w => Sl w v (S.ks.flatMap lkb)
  | 12, v, w => LL w v S.list
  | 13, v, w => ∃ v', v = .tuple #[v', .int .i64 (encE S.list)] ∧ Sl w v' (encB S.list)
  | 14, v, w => Sl w v (encB S.list)
  | 15, v, w => v = .int .i64 (encE S.list)
  | 16, v, w => Sl w v (encB S.list)
  | 17, v, w => v = .int .i64 (encE S.list)
  | _ + 18, _, _ => True
theorem eSr.stays {S : Sp} {h : Nat} {nv av kv v4 : Value} {B : Nat} : ∀ (i : Nat) (v : Value) (w w' : World), eSr S h nv av kv v4 B i v w → Mk B w w' → eSr S h nv av kv v4 B i v w'
  | 0, v, w, w', k, m => by
    obtain ⟨g, n, h1, h2, h3, h4, h5⟩ := k
    exact ⟨g, n, h1, h2, Nat.lt_of_lt_of_le h3 m.size, (m.shape g h3).trans h4, h5.mk m⟩
  | 1, v, w, w', k, m => Sl.mk k m
  | 2, v, w, w', k, m => k
  | 3, v, w, w', k, m => k
  | 4, v, w, w', k, m => Sl.mk k m
  | 5, v, w, w', k, m => Sl.mk k m
  | 6, v, w, w', k, m => k
  | 7, v, w, w', k, m => k
  | 8, v, w, w', k, m => Sl.mk k m
  | 9, v, w, w', k, m => k
  | 10, v, w, w', k, m => k
  | 11, v, w, w', k, m => Sl.mk k m
  | 12, v, w, w', k, m => LL.mk k m
  | 13, v, w, w', k, m => by
    obtain ⟨v', h1, h2⟩ := k
    exact ⟨v', h1, h2.mk m⟩
  | 14, v, w, w', k, m => Sl.mk k m
  | 15, v, w, w', k, m => k
  | 16, v, w, w', k, m => Sl.mk k m
  | 17, v, w, w', k, m => k
  | _ + 18, _, _, _, _, _ => trivial
set_option maxHeartbeats 4000000 in
theorem rencodeStep_any (S : Sp) (hS : S.Ok) (A : List Value) (w : World) (hA : SV w A S) :
    Calls Try.prog 12 #[.agg A.toArray] w fun e w' => ∃ v', e = .returned (.tuple #[v', .int .i64 (seE S)]) ∧ Sl w' v' (seB S) ∧ Below w.heap.size w w' := by
  have HS : Hid S.Ok := hS
  obtain ⟨nv, av, kv, rfl, h1, h2, h3⟩ := hA
  have HV0 : Hid (NS w nv S.ns ∧ LS w av S.ls ∧ KS w kv S.ks) := ⟨h1, h2, h3⟩
  have hsz : (sc S.R nv av kv).toArray.size = 166 := by rw [List.size_toArray]; exact sc_length hS.R _ _ _
  obtain ⟨A, hA⟩ : ∃ A, (sc S.R nv av kv).toArray = A := ⟨_, rfl⟩
  have HA : Hid (∀ j, A[j]? = (sc S.R nv av kv)[j]?) := fun j => by rw [← hA, List.getElem?_toArray]
  rw [hA] at hsz ⊢
  clear hA hS h1 h2 h3
  have hcn : (w.alloc (Obj.cells A 46)).cell? ⟨w.heap.size, 163, none⟩ = some nv := (cell_alloc w A _ _ _).trans ((HA.out 163).trans (sc_at HS.out.R nv av kv).1)
  have HW0 : Hid (∀ j, (w.alloc (Obj.cells A 46)).cell? ⟨w.heap.size, j, none⟩ = (sc S.R nv av kv)[j]?) := fun j => (cell_alloc w A _ _ j).trans (HA.out j)
  have HB0 : Hid (Below w.heap.size w (w.alloc (Obj.cells A 46)) ∧ w.heap.size < (w.alloc (Obj.cells A 46)).heap.size) := ⟨(Below.refl _ w).alloc (Nat.le_refl _) _, by simp⟩
  have HN0 : Hid (NS (w.alloc (Obj.cells A 46)) nv S.ns) := HV0.out.1.below HB0.out.1
  have HCL : Hid (Calls Try.prog 23 #[nv] (w.alloc (Obj.cells A 46)) fun e w' => ∃ v' ok, e = .returned (.tuple #[v', .bool ok]) ∧ RNb (w.alloc (Obj.cells A 46)).heap.size S.ns v' ok w' ∧ Below (w.alloc (Obj.cells A 46)).heap.size (w.alloc (Obj.cells A 46)) w') := rnodes_any S.ns HS.out.ns (by have := HS.out.nl; omega) nv _ HN0.out
  go_enter Try.func12, Try.ntmps12
  go_wp2_with (go_at_call 23; refine HCL.out.mono ?_; rintro e w1 ⟨v4, ok, rfl, g1, g2⟩; have G1 : Hid (RNb (w.alloc (Obj.cells A 46)).heap.size S.ns v4 ok w1) := g1; have G2 : Hid (Below (w.alloc (Obj.cells A 46)).heap.size (w.alloc (Obj.cells A 46)) w1) := g2; clear g1 g2; cases ok)
  · have hno : lokb S.ns = false := by
      cases hq : lokb S.ns with
      | false => rfl
      | true => exact (by
        rcases G1.out with ⟨_, e, _⟩ | ⟨hn, _⟩
        · cases e
        · exact absurd ((lokb_iff _).1 hq) hn)
    have E : Hid (seE S = 1 ∧ seB S = []) := se_no hno
    have BE : Hid (Below w.heap.size w w1) := HB0.out.1.trans (G2.out.mono HB0.out.1.size)
    go_wp2_with fail
    go_ret2
    rw [E.out.1, E.out.2]
    exact ⟨_, rfl, ⟨none, 0, rfl, Nat.le_refl _, .inl ⟨rfl, fun _ => rfl⟩⟩, BE.out⟩
  · have HLK : Hid (lok S.ns) := (by
      rcases G1.out with ⟨hy, _⟩ | ⟨_, e, _⟩
      · exact hy
      · cases e)
    have E : Hid (seE S = encE S.list ∧ seB S = encB S.list) := se_yes ((lokb_iff _).2 HLK.out)
    have BE : Hid (Below w.heap.size w w1) := HB0.out.1.trans (G2.out.mono HB0.out.1.size)
    have HV1 : Hid (NS w1 nv S.ns ∧ LS w1 av S.ls ∧ KS w1 kv S.ks) := ⟨HV0.out.1.below BE.out, HV0.out.2.1.below BE.out, HV0.out.2.2.below BE.out⟩
    have HC1 : Hid (∀ j, w1.cell? ⟨w.heap.size, j, none⟩ = (sc S.R nv av kv)[j]?) := fun j => (G2.out.cell (p := ⟨w.heap.size, j, none⟩) HB0.out.2).trans (HW0.out j)
    have HL1 : Hid (w.heap.size < w1.heap.size) := Nat.lt_of_lt_of_le HB0.out.2 G2.out.size
    have HF1 : Hid (Sl w1 v4 (S.ns.flatMap ndb)) := by
      rcases G1.out with ⟨_, _, hq⟩ | ⟨_, e, _⟩
      · exact hq.sl
      · cases e
    obtain ⟨h, hh⟩ : ∃ h, w.heap.size = h := ⟨_, rfl⟩
    have HH : Hid (w.heap.size = h) := hh
    rw [hh] at HC1 HL1
    clear hcn
    go_upto_region 4 with (fail)
    rw [hh]
    clear hh
    obtain ⟨B, hB⟩ : ∃ B, w1.heap.size = B := ⟨_, rfl⟩
    have HB : Hid (w1.heap.size = B) := hB
    have HC : Hid (∀ W, Mk B w1 W → ∀ j, W.cell? ⟨h, j, none⟩ = (sc S.R nv av kv)[j]?) := fun W m j => (m.cell h j HL1.out).trans (HC1.out j)
    have HV : Hid (∀ W, Mk B w1 W → NS W nv S.ns ∧ LS W av S.ls ∧ KS W kv S.ks) := fun W m => by
      have mb := m.below
      rw [← hB] at mb
      exact ⟨HV1.out.1.below mb, HV1.out.2.1.below mb, HV1.out.2.2.below mb⟩
    have HF : Hid (∀ W, Mk B w1 W → Sl W v4 (S.ns.flatMap ndb)) := fun W m => HF1.out.mk m
    have HZ1 : Hid (∀ W, Mk B w1 W → B ≤ W.heap.size) := fun W m => by have := m.size; rw [hB] at this; exact this
    clear hB
    refine RR.wp_rgn (eSr S h nv av kv v4 B) (Mk B) (Mk.draw _ _) (fun _ _ _ => Mk.trans) (by kernel_rfl) (by decide) (by kernel_rfl) (by kernel_rfl) eSr.stays ?_ ?_
    · refine ⟨?_, ?_, ?_, ?_, ?_, ?_, ?_, ?_, ?_, ?_, ?_, ?_, ?_, ?_, ?_, ?_, ?_, ?_, trivial⟩
      · intro a W hb hf hp
        refine RR.ob_run (w' := W.alloc (.cells #[.int .u8 115, .int .u8 116, .int .u8 101, .int .u8 112] 5)) (v := .slice (some ⟨W.heap.size, 0, none⟩) 4 4) rfl (RR.wanted_none rfl) (fun ev hE hc => by simp only [List.getElem_toArray, List.getElem_cons_succ, List.getElem_cons_zero, execOp]; simp [hc]; go_simp) ?_ (Mk.of ((Below.refl _ W).alloc (Nat.le_refl _) _) (HZ1.out W hb))
        have hsl : Sl (W.alloc (.cells #[.int .u8 115, .int .u8 116, .int .u8 101, .int .u8 112] 5)) (.slice (some ⟨W.heap.size, 0, none⟩) 4 4) [115, 116, 101, 112] := (Ow.lit W [115, 116, 101, 112] _ 4 rfl rfl (by simp)).sl
        exact ⟨W.heap.size, 4, rfl, HZ1.out W hb, by simp, shape_new W _ _, hsl⟩
      · intro a W hb hf hp
        obtain ⟨g, n, h1, h2, h3, h4, h5⟩ : ∃ g n, a.eval (.tmp 14) = .slice (some ⟨g, 0, none⟩) 4 4 ∧ B ≤ g ∧ g < W.heap.size ∧ W.shape? g = some (5, n) ∧ Sl W (a.eval (.tmp 14)) [115, 116, 101, 112] := hpB hp 0 14 (by kernel_rfl)
        refine RR.ob_run (w' := W.freeze ⟨g, n, none⟩ 1) (v := .slice (some ⟨g, 0, none⟩) 4 4) rfl (RR.wanted_none rfl) (fun ev hE hc => by have q := (hE (.tmp 14)).trans h1; simp only [List.getElem_toArray, List.getElem_cons_succ, List.getElem_cons_zero, execOp]; rw [q]; simp [conv_mark g 4 4 _ n W h4]) ?_ (Mk.freeze h2)
        rw [h1] at h5
        exact h5.mk (Mk.freeze (B := B) h2)
      · intro a W hb hf hp
        have f1 : a.eval (.tmp 1) = .pointer (some ⟨h, 0, none⟩) := hf 1 (by kernel_rfl)
        exact RR.ob_val (Mk.refl _) rfl (RR.wanted_none rfl) (fun ev hE hc => by have q1 := (hE (.tmp 1)).trans f1; simp only [List.getElem_toArray, List.getElem_cons_succ, List.getElem_cons_zero, execOp]; rw [q1]; first | (go_simp; done) | (go_simp; rfl) | rfl) rfl
      · intro a W hb hf hp
        have f1 : a.eval (.tmp 16) = .pointer (some ⟨h, 0, none⟩) := hpB hp 2 16 (by kernel_rfl)
        exact RR.ob_val (Mk.refl _) rfl (RR.wanted_none rfl) (fun ev hE hc => by have hld := run_loadAt_mid (P := Try.prog) W h 0 26 (S.R.cells) _ (sc_root HS.out.R (HC.out W hb)) Try.underlying26 rfl (by rw [Rt.size HS.out.R]; kernel_rfl); have q := (hE (.tmp 16)).trans f1; simp only [List.getElem_toArray, List.getElem_cons_succ, List.getElem_cons_zero, execOp]; rw [q]; simp [hld]) rfl
      · intro a W hb hf hp
        have e0 : a.eval (.tmp 17) = .agg S.R.cells.toArray := hpB hp 3 17 (by kernel_rfl)
        refine RR.ob_call (f := 25) (args := #[.agg S.R.cells.toArray]) rfl (RR.wanted_none rfl) (fun ev hE hc => by have hfn := hE (.func 25); have q := (hE (.tmp 17)).trans e0; simp only [List.getElem_toArray, List.getElem_cons_succ, List.getElem_cons_zero, execOp, resolve]; simp [q, hfn, hc, go_sem]) ((rencodeRoot_any S.R W HS.out.R).mono ?_)
        rintro e w6 ⟨v6, rfl, h6, h7⟩
        exact ⟨v6, rfl, h6, Mk.of h7 (HZ1.out W hb)⟩
      · intro a W hb hf hp
        have hs9 := HF.out W hb
        have f4 : a.eval (.tmp 4) = v4 := hf 4 (by kernel_rfl)
        exact RR.ob_val (Mk.refl _) (v := v4) rfl (RR.wanted_none rfl) (fun ev hE hc => by have q4 := (hE (.tmp 4)).trans f4; simp only [List.getElem_toArray, List.getElem_cons_succ, List.getElem_cons_zero, execOp]; rw [q4]; first | (go_simp; done) | (go_simp; rfl) | rfl) hs9
      · intro a W hb hf hp
        have f1 : a.eval (.tmp 1) = .pointer (some ⟨h, 0, none⟩) := hf 1 (by kernel_rfl)
        exact RR.ob_val (Mk.refl _) rfl (RR.wanted_none rfl) (fun ev hE hc => by have q1 := (hE (.tmp 1)).trans f1; simp only [List.getElem_toArray, List.getElem_cons_succ, List.getElem_cons_zero, execOp]; rw [q1]; first | (go_simp; done) | (go_simp; rfl) | rfl) rfl
      · intro a W hb hf hp
        have f1 : a.eval (.tmp 20) = .pointer (some ⟨h, 164, none⟩) := hpB hp 6 20 (by kernel_rfl)
        have hcl := (HC.out W hb 164).trans (sc_at HS.out.R nv av kv).2.1
        exact RR.ob_val (Mk.refl _) rfl (RR.wanted_none rfl) (fun ev hE hc => by have q := (hE (.tmp 20)).trans f1; simp only [List.getElem_toArray, List.getElem_cons_succ, List.getElem_cons_zero, execOp]; rw [q]; first | (go_simp; done) | (go_simp; rfl)) rfl
      · intro a W hb hf hp
        have e0 : a.eval (.tmp 21) = av := hpB hp 7 21 (by kernel_rfl)
        refine RR.ob_call (f := 42) (args := #[av]) rfl (RR.wanted_none rfl) (fun ev hE hc => by have hfn := hE (.func 42); have q := (hE (.tmp 21)).trans e0; simp only [List.getElem_toArray, List.getElem_cons_succ, List.getElem_cons_zero, execOp, resolve]; simp [q, hfn, hc, go_sem]) ((rLeavesBytes_any S.ls HS.out.ls HS.out.ll av W (HV.out W hb).2.1).mono ?_)
        rintro e w6 ⟨v6, rfl, h6, h7⟩
        exact ⟨v6, rfl, h6.sl, Mk.of h7 (HZ1.out W hb)⟩
      · intro a W hb hf hp
        have f1 : a.eval (.tmp 1) = .pointer (some ⟨h, 0, none⟩) := hf 1 (by kernel_rfl)
        exact RR.ob_val (Mk.refl _) rfl (RR.wanted_none rfl) (fun ev hE hc => by have q1 := (hE (.tmp 1)).trans f1; simp only [List.getElem_toArray, List.getElem_cons_succ, List.getElem_cons_zero, execOp]; rw [q1]; first | (go_simp; done) | (go_simp; rfl) | rfl) rfl
      · intro a W hb hf hp
        have f1 : a.eval (.tmp 23) = .pointer (some ⟨h, 165, none⟩) := hpB hp 9 23 (by kernel_rfl)
        have hcl := (HC.out W hb 165).trans (sc_at HS.out.R nv av kv).2.2
        exact RR.ob_val (Mk.refl _) rfl (RR.wanted_none rfl) (fun ev hE hc => by have q := (hE (.tmp 23)).trans f1; simp only [List.getElem_toArray, List.getElem_cons_succ, List.getElem_cons_zero, execOp]; rw [q]; first | (go_simp; done) | (go_simp; rfl)) rfl
      · intro a W hb hf hp
        have e0 : a.eval (.tmp 24) = kv := hpB hp 10 24 (by kernel_rfl)
        refine RR.ob_call (f := 43) (args := #[kv]) rfl (RR.wanted_none rfl) (fun ev hE hc => by have hfn := hE (.func 43); have q := (hE (.tmp 24)).trans e0; simp only [List.getElem_toArray, List.getElem_cons_succ, List.getElem_cons_zero, execOp, resolve]; simp [q, hfn, hc, go_sem]) ((rLinksBytes_any S.ks HS.out.ks HS.out.kl kv W (HV.out W hb).2.2).mono ?_)
        rintro e w6 ⟨v6, rfl, h6, h7⟩
        exact ⟨v6, rfl, h6.sl, Mk.of h7 (HZ1.out W hb)⟩
      · intro a W hb hf hp
        have u0 : Sl W (a.eval (.tmp 15)) ([115, 116, 101, 112]) := hpB hp 1 15 (by kernel_rfl)
        have u1 : Sl W (a.eval (.tmp 18)) ((encB S.R.all)) := hpB hp 4 18 (by kernel_rfl)
        have u2 : Sl W (a.eval (.tmp 19)) ((S.ns.flatMap ndb)) := hpB hp 5 19 (by kernel_rfl)
        have u3 : Sl W (a.eval (.tmp 22)) ((S.ls.flatMap lfb)) := hpB hp 8 22 (by kernel_rfl)
        have u4 : Sl W (a.eval (.tmp 25)) ((S.ks.flatMap lkb)) := hpB hp 11 25 (by kernel_rfl)
        have U0 := u0
        obtain ⟨a0, k0, q0, -, -⟩ := u0
        rw [q0] at U0
        have U1 := u1
        obtain ⟨a1, k1, q1, -, -⟩ := u1
        rw [q1] at U1
        have U2 := u2
        obtain ⟨a2, k2, q2, -, -⟩ := u2
        rw [q2] at U2
        have U3 := u3
        obtain ⟨a3, k3, q3, -, -⟩ := u3
        rw [q3] at U3
        have U4 := u4
        obtain ⟨a4, k4, q4, -, -⟩ := u4
        rw [q4] at U4
        obtain ⟨l0, hl0⟩ : ∃ l, List.length ([115, 116, 101, 112] : List Int) = l := ⟨_, rfl⟩
        rw [hl0] at q0 U0
        obtain ⟨l1, hl1⟩ : ∃ l, List.length ((encB S.R.all) : List Int) = l := ⟨_, rfl⟩
        rw [hl1] at q1 U1
        obtain ⟨l2, hl2⟩ : ∃ l, List.length ((S.ns.flatMap ndb) : List Int) = l := ⟨_, rfl⟩
        rw [hl2] at q2 U2
        obtain ⟨l3, hl3⟩ : ∃ l, List.length ((S.ls.flatMap lfb) : List Int) = l := ⟨_, rfl⟩
        rw [hl3] at q3 U3
        obtain ⟨l4, hl4⟩ : ∃ l, List.length ((S.ks.flatMap lkb) : List Int) = l := ⟨_, rfl⟩
        rw [hl4] at q4 U4
        have hbl : Below W.heap.size W (W.alloc (.cells #[.slice a0 l0 k0, .slice a1 l1 k1, .slice a2 l2 k2, .slice a3 l3 k3, .slice a4 l4 k4] 34)) := (Below.refl _ W).alloc (Nat.le_refl _) _
        refine RR.ob_run (w' := W.alloc (.cells #[.slice a0 l0 k0, .slice a1 l1 k1, .slice a2 l2 k2, .slice a3 l3 k3, .slice a4 l4 k4] 34)) (v := .slice (some ⟨W.heap.size, 0, none⟩) 5 5) rfl (RR.wanted_none rfl) (fun ev hE hc => by have p0 := (hE (.tmp 15)).trans q0; have p1 := (hE (.tmp 18)).trans q1; have p2 := (hE (.tmp 19)).trans q2; have p3 := (hE (.tmp 22)).trans q3; have p4 := (hE (.tmp 25)).trans q4; simp only [List.getElem_toArray, List.getElem_cons_succ, List.getElem_cons_zero, execOp]; simp [p0, p1, p2, p3, p4]; go_simp) ?_ (Mk.of hbl (HZ1.out W hb))
        refine ⟨_, 5, rfl, Nat.le_refl _, .inr ⟨W.heap.size, 0, rfl, by simp, fun i hi => ?_⟩⟩
        have hi3 : i < 5 := hi
        rw [Nat.zero_add, cell_alloc]
        rcases (show i = 0 ∨ i = 1 ∨ i = 2 ∨ i = 3 ∨ i = 4 by omega) with rfl | rfl | rfl | rfl | rfl
        · exact ⟨_, rfl, U0.below hbl (Nat.le_refl _)⟩
        · exact ⟨_, rfl, U1.below hbl (Nat.le_refl _)⟩
        · exact ⟨_, rfl, U2.below hbl (Nat.le_refl _)⟩
        · exact ⟨_, rfl, U3.below hbl (Nat.le_refl _)⟩
        · exact ⟨_, rfl, U4.below hbl (Nat.le_refl _)⟩
      · intro a W hb hf hp
        have e0 : LL W (a.eval (.tmp 26)) S.list := hpB hp 12 26 (by kernel_rfl)
        refine RR.ob_call (f := 24) (args := #[a.eval (.tmp 26)]) rfl (RR.wanted_none rfl) (fun ev hE hc => by have hfn := hE (.func 24); have q := hE (.tmp 26); simp only [List.getElem_toArray, List.getElem_cons_succ, List.getElem_cons_zero, execOp, resolve]; simp [q, hfn, hc, go_sem]) ((rencode_any S.list _ W e0 (Sp.lens HS.out).1 (by rw [(Sp.lens HS.out).2]; omega)).mono ?_)
        rintro e w6 ⟨v6, rfl, h6, h7⟩
        exact ⟨_, rfl, ⟨v6, rfl, h6.sl⟩, Mk.of h7 (HZ1.out W hb)⟩
      · intro a W hb hf hp
        obtain ⟨v6, h6, h7⟩ : ∃ v', a.eval (.tmp 27) = .tuple #[v', .int .i64 (encE S.list)] ∧ Sl W v' (encB S.list) := hpB hp 13 27 (by kernel_rfl)
        exact RR.ob_val (Mk.refl _) rfl (RR.wanted_none rfl) (fun ev hE hc => by have q := (hE (.tmp 27)).trans h6; simp [execOp, q, hc, go_sem]) h7
      · intro a W hb hf hp
        obtain ⟨v6, h6, h7⟩ : ∃ v', a.eval (.tmp 27) = .tuple #[v', .int .i64 (encE S.list)] ∧ Sl W v' (encB S.list) := hpB hp 13 27 (by kernel_rfl)
        exact RR.ob_val (Mk.refl _) rfl (RR.wanted_none rfl) (fun ev hE hc => by have q := (hE (.tmp 27)).trans h6; simp [execOp, q, hc, go_sem]) rfl
      · intro a W hb hf hp
        have h7 : Sl W (a.eval (.tmp 28)) (encB S.list) := hpB hp 14 28 (by kernel_rfl)
        exact RR.ob_val (Mk.refl _) rfl (RR.wanted_none rfl) (fun ev hE hc => by have q := hE (.tmp 28); simp only [List.getElem_toArray, List.getElem_cons_succ, List.getElem_cons_zero, execOp]; rw [q]; rfl) h7
      · intro a W hb hf hp
        have e0 : a.eval (.tmp 29) = .int .i64 (encE S.list) := hpB hp 15 29 (by kernel_rfl)
        exact RR.ob_val (Mk.refl _) rfl (RR.wanted_none rfl) (fun ev hE hc => by have q := (hE (.tmp 29)).trans e0; simp [execOp, q, hc, go_sem]) rfl
    · intro a W g1 g2 g3 g4 g5
      have hres : Sl W (a.eval (.tmp 2)) (encB S.list) := g5 16 _ 2 rfl rfl
      have her : a.eval (.tmp 3) = .int .i64 (encE S.list) := g5 17 _ 3 rfl rfl
      have HD : Hid (Below w.heap.size w W) := BE.out.trans (g3.below.mono (by rw [← HB.out]; exact BE.out.size))
      obtain ⟨t, df⟩ := a
      simp only at g1 g2
      subst g2
      obtain ⟨l, rfl⟩ : ∃ l : List Value, t = l.toArray := ⟨t.toList, by simp⟩
      have hl17 : l.length = 30 := by simpa using g1
      clear g1 g3 g4 g5
      match l, hl17, hres, her with
      | [x0, x1, x2, x3, x4, x5, x6, x7, x8, x9, x10, x11, x12, x13, x14, x15, x16, x17, x18, x19, x20, x21, x22, x23, x24, x25, x26, x27, x28, x29], _, hres, her =>
        have HRS : Hid (Sl W x2 (encB S.list)) := hres
        have HER : Hid (x3 = .int .i64 (encE S.list)) := her
        clear hres her
        go_wp2
        go_ret2
        rw [E.out.1, E.out.2, HER.out]
        exact ⟨_, rfl, HRS.out, HD.out⟩
end Go.Proofs.Ytfnmdeekenjlgaa
