/- The reference: SameBytes, SameLinks, SameStep, for one thing on both sides. -/
import Derived.Test.YtfnmdeekenjlgaaWsP
namespace Go.Proofs.Ytfnmdeekenjlgaa
open Go Go.RowKit
set_option linter.unusedSimpArgs false
set_option linter.unusedVariables false
set_option maxRecDepth 100000

theorem rsameBytes_any (xs : List Int) (v u : Value) (w : World) (hv : Sl w v xs) (hu : Sl w u xs) :
    Calls Try.prog 49 #[v, u] w fun e w' => e = .returned (.bool true) ∧ Below w.heap.size w w' := by
  have s1 := hv.str
  have s2 := hu.str
  clear hv hu
  go_enter Try.func49, Try.ntmps49
  go_wp2
  go_ret
  exact ⟨by simp, Below.refl _ _⟩
theorem rsameLinks_any (l : List Lk) (hk : ∀ x ∈ l, x.Ok) (hlen : l.length * 96 ≤ 140737488351232) (v u : Value) (w : World) (hv : KS w v l) (hu : KS w u l) :
    Calls Try.prog 50 #[v, u] w fun e w' => e = .returned (.bool true) ∧ Below w.heap.size w w' := by
  have HV : Hid (KS w v l ∧ KS w u l) := ⟨hv, hu⟩
  have HK : Hid ((∀ x ∈ l, x.Ok) ∧ l.length * 96 ≤ 140737488351232) := ⟨hk, hlen⟩
  clear hv hu hk hlen
  go_enter Try.func50, Try.ntmps50
  go_wp2_with fail
  refine (rLinksBytes_any l HK.out.1 HK.out.2 v w HV.out.1).mono ?_
  rintro e w1 ⟨v1, rfl, h1, h2⟩
  have S1 : Hid (Sl w1 v1 (l.flatMap lkb)) := h1.sl
  have B1 : Hid (Below w.heap.size w w1) := h2
  clear h1 h2
  go_wp2_with fail
  refine (rLinksBytes_any l HK.out.1 HK.out.2 u w1 (HV.out.2.below B1.out)).mono ?_
  rintro e w2 ⟨v2, rfl, h1, h2⟩
  have S2 : Hid (Sl w2 v2 (l.flatMap lkb)) := h1.sl
  have T1 : Hid (Sl w2 v1 (l.flatMap lkb)) := S1.out.below h2 (Nat.le_refl _)
  have B2 : Hid (Below w.heap.size w w2) := B1.out.trans (h2.mono B1.out.size)
  clear h1 h2
  go_wp2_with fail
  refine (rsameBytes_any _ v1 v2 w2 T1.out S2.out).mono ?_
  rintro e w3 ⟨rfl, h2⟩
  have B3 : Hid (Below w.heap.size w w3) := B2.out.trans (h2.mono B2.out.size)
  clear h2
  go_wp2_with fail
  go_ret
  exact ⟨rfl, B3.out⟩
theorem eqg_root (op : BinOp) (x y : Operand) (a b : Array Value) (w : World) : (eqGuard op 26 x y (.agg a) (.agg b)).run Try.prog w = .ok () w := by
  have h : Try.prog.eqGuardType Try.prog.depth 26 = false := by kernel_rfl
  unfold eqGuard
  cases op <;> first | (simp [h, Result.andThen]; done) | kernel_rfl
theorem eql_root {R : Rt} (h : R.Ok) (w : World) : (binOp .eql 26 (.agg R.cells.toArray) (.agg R.cells.toArray)).run Try.prog w = .ok (.bool true) w := by
  rw [run_eql_struct, eq_root R h.pr.1 h.hs.1 h.lk.1 h.sg.1 w]; rfl
def sSq (S : Sp) (h h2 : Nat) (nv av kv nv2 av2 kv2 : Value) (B : Nat) : Nat → Value → World → Prop
  | 0, v, w => v = .pointer (some ⟨h, 0, none⟩)
  | 1, v, w => v = .agg S.R.cells.toArray
  | 2, v, w => v = .pointer (some ⟨h2, 0, none⟩)
  | 3, v, w => v = .agg S.R.cells.toArray
  | 4, v, w => v = .bool true
  | 5, v, w => v = .bool true
  | 6, v, w => v = .pointer (some ⟨h, 163, none⟩)
  | 7, v, w => v = nv
  | 8, v, w => v = .pointer (some ⟨h2, 163, none⟩)
  | 9, v, w => v = nv2
  | 10, v, w => v = .bool true
  | 11, v, w => v = .bool true
  | 12, v, w => v = .bool true
  | 13, v, w => v = .pointer (some ⟨h, 164, none⟩)
  | 14, v, w => v = av
  | 15, v, w => Sl w v (S.ls.flatMap lfb)
  | 16, v, w => v = .pointer (some ⟨h2, 164, none⟩)
  | 17, v, w => v = av2
  | 18, v, w => Sl w v (S.ls.flatMap lfb)
  | 19, v, w => v = .bool true
  | 20, v, w => v = .bool true
  | 21, v, w => v = .bool true
  | 22, v, w => v = .pointer (some ⟨h, 165, none⟩)
  | 23, v, w => v = kv
  | 24, v, w => v = .pointer (some ⟨h2, 165, none⟩)
  | 25, v, w => v = kv2
  | 26, v, w => v = .bool true
  | 27, v, w => v = .bool true
  | 28, v, w => v = .bool true
  | _ + 29, _, _ => True
theorem sSq.stays {S : Sp} {h h2 : Nat} {nv av kv nv2 av2 kv2 : Value} {B : Nat} : ∀ (i : Nat) (v : Value) (w w' : World), sSq S h h2 nv av kv nv2 av2 kv2 B i v w → Mk B w w' → sSq S h h2 nv av kv nv2 av2 kv2 B i v w'
  | 0, v, w, w', k, m => k
  | 1, v, w, w', k, m => k
  | 2, v, w, w', k, m => k
  | 3, v, w, w', k, m => k
  | 4, v, w, w', k, m => k
  | 5, v, w, w', k, m => k
  | 6, v, w, w', k, m => k
  | 7, v, w, w', k, m => k
  | 8, v, w, w', k, m => k
  | 9, v, w, w', k, m => k
  | 10, v, w, w', k, m => k
  | 11, v, w, w', k, m => k
  | 12, v, w, w', k, m => k
  | 13, v, w, w', k, m => k
  | 14, v, w, w', k, m => k
  | 15, v, w, w', k, m => Sl.mk k m
  | 16, v, w, w', k, m => k
  | 17, v, w, w', k, m => k
  | 18, v, w, w', k, m => Sl.mk k m
  | 19, v, w, w', k, m => k
  | 20, v, w, w', k, m => k
  | 21, v, w, w', k, m => k
  | 22, v, w, w', k, m => k
  | 23, v, w, w', k, m => k
  | 24, v, w, w', k, m => k
  | 25, v, w, w', k, m => k
  | 26, v, w, w', k, m => k
  | 27, v, w, w', k, m => k
  | 28, v, w, w', k, m => k
  | _ + 29, _, _, _, _, _ => trivial
set_option maxHeartbeats 4000000 in
theorem rsameStep_any (S : Sp) (hS : S.Ok) (A B' : List Value) (w : World) (hA : SV w A S) (hB : SV w B' S) :
    Calls Try.prog 15 #[.agg A.toArray, .agg B'.toArray] w fun e w' => e = .returned (.bool true) ∧ Below w.heap.size w w' := by
  have HS : Hid S.Ok := hS
  obtain ⟨nv, av, kv, rfl, h1, h2, h3⟩ := hA
  obtain ⟨nv2, av2, kv2, rfl, h4, h5, h6⟩ := hB
  have HV0 : Hid (NS w nv S.ns ∧ LS w av S.ls ∧ KS w kv S.ks) := ⟨h1, h2, h3⟩
  have HU0 : Hid (NS w nv2 S.ns ∧ LS w av2 S.ls ∧ KS w kv2 S.ks) := ⟨h4, h5, h6⟩
  have hsz : (sc S.R nv av kv).toArray.size = 166 := by rw [List.size_toArray]; exact sc_length hS.R _ _ _
  have hsz2 : (sc S.R nv2 av2 kv2).toArray.size = 166 := by rw [List.size_toArray]; exact sc_length hS.R _ _ _
  obtain ⟨A, hA⟩ : ∃ A, (sc S.R nv av kv).toArray = A := ⟨_, rfl⟩
  obtain ⟨A2, hA2⟩ : ∃ A, (sc S.R nv2 av2 kv2).toArray = A := ⟨_, rfl⟩
  have HA : Hid (∀ j, A[j]? = (sc S.R nv av kv)[j]?) := fun j => by rw [← hA, List.getElem?_toArray]
  have HA2 : Hid (∀ j, A2[j]? = (sc S.R nv2 av2 kv2)[j]?) := fun j => by rw [← hA2, List.getElem?_toArray]
  rw [hA] at hsz ⊢
  rw [hA2] at hsz2 ⊢
  clear hA hA2 hS h1 h2 h3 h4 h5 h6
  go_enter Try.func15, Try.ntmps15
  go_upto_region 1 with (fail)
  obtain ⟨w1, hw1⟩ : ∃ w1, (w.alloc (Obj.cells A 46)).alloc (Obj.cells A2 46) = w1 := ⟨_, rfl⟩
  rw [hw1]
  have b1 : Below w.heap.size w w1 := by rw [← hw1]; exact ((Below.refl _ w).alloc (Nat.le_refl _) _).alloc (by simp) _
  have c1 : ∀ j, w1.cell? ⟨w.heap.size, j, none⟩ = (sc S.R nv av kv)[j]? := fun j => by
    rw [← hw1]
    exact (((Below.refl _ (w.alloc (Obj.cells A 46))).alloc (Nat.le_refl _) _).cell (p := ⟨w.heap.size, j, none⟩) (by simp)).trans ((cell_alloc w A _ _ j).trans (HA.out j))
  have c2 : ∀ j, w1.cell? ⟨w.heap.size + 1, j, none⟩ = (sc S.R nv2 av2 kv2)[j]? := fun j => by
    rw [← hw1]
    have := cell_alloc (w.alloc (Obj.cells A 46)) A2 46 (0, 0) j
    rw [World.size_alloc] at this
    exact this.trans (HA2.out j)
  have s1 : w1.heap.size = w.heap.size + 2 := by rw [← hw1]; simp
  obtain ⟨h, hh⟩ : ∃ h, w.heap.size = h := ⟨_, rfl⟩
  obtain ⟨h2, hh2⟩ : ∃ h2, h + 1 = h2 := ⟨_, rfl⟩
  rw [hh] at c1 c2 s1
  rw [hh2] at c2
  have BE : Hid (Below w.heap.size w w1) := b1
  obtain ⟨B, hB⟩ : ∃ B, w1.heap.size = B := ⟨_, rfl⟩
  have HB : Hid (w1.heap.size = B) := hB
  have HC1 : Hid (∀ W, Mk B w1 W → ∀ j, W.cell? ⟨h, j, none⟩ = (sc S.R nv av kv)[j]?) := fun W m j => (m.cell h j (by omega)).trans (c1 j)
  have HC2 : Hid (∀ W, Mk B w1 W → ∀ j, W.cell? ⟨h2, j, none⟩ = (sc S.R nv2 av2 kv2)[j]?) := fun W m j => (m.cell h2 j (by omega)).trans (c2 j)
  have HV1 : Hid (∀ W, Mk B w1 W → NS W nv S.ns ∧ LS W av S.ls ∧ KS W kv S.ks) := fun W m => by
    have mb := m.below
    rw [← hB] at mb
    have mm := b1.trans (mb.mono b1.size)
    exact ⟨HV0.out.1.below mm, HV0.out.2.1.below mm, HV0.out.2.2.below mm⟩
  have HV2 : Hid (∀ W, Mk B w1 W → NS W nv2 S.ns ∧ LS W av2 S.ls ∧ KS W kv2 S.ks) := fun W m => by
    have mb := m.below
    rw [← hB] at mb
    have mm := b1.trans (mb.mono b1.size)
    exact ⟨HU0.out.1.below mm, HU0.out.2.1.below mm, HU0.out.2.2.below mm⟩
  have HZ1 : Hid (∀ W, Mk B w1 W → B ≤ W.heap.size) := fun W m => by have := m.size; rw [hB] at this; exact this
  rw [hh, hh2]
  clear hB b1 c1 c2 s1 hh hh2 hw1
  refine RR.wp_rgn (sSq S h h2 nv av kv nv2 av2 kv2 B) (Mk B) (Mk.draw _ _) (fun _ _ _ => Mk.trans) (by kernel_rfl) (by decide) (by kernel_rfl) (by kernel_rfl) sSq.stays ?_ ?_
  · refine ⟨?_, ?_, ?_, ?_, ?_, ?_, ?_, ?_, ?_, ?_, ?_, ?_, ?_, ?_, ?_, ?_, ?_, ?_, ?_, ?_, ?_, ?_, ?_, ?_, ?_, ?_, ?_, ?_, ?_, trivial⟩
    · intro a W hb hf hp
      have f2 : a.eval (.tmp 2) = .pointer (some ⟨h, 0, none⟩) := hf 2 (by kernel_rfl)
      exact RR.ob_val (Mk.refl _) rfl (RR.wanted_none rfl) (fun ev hE hc => by have q2 := (hE (.tmp 2)).trans f2; simp only [List.getElem_toArray, List.getElem_cons_succ, List.getElem_cons_zero, execOp]; rw [q2]; first | (go_simp; done) | (go_simp; rfl) | rfl) rfl
    · intro a W hb hf hp
      have f1 : a.eval (.tmp 5) = .pointer (some ⟨h, 0, none⟩) := hpB hp 0 5 (by kernel_rfl)
      exact RR.ob_val (Mk.refl _) rfl (RR.wanted_none rfl) (fun ev hE hc => by have hld := run_loadAt_mid (P := Try.prog) W h 0 26 (S.R.cells) _ (sc_root HS.out.R (HC1.out W hb)) Try.underlying26 rfl (by rw [Rt.size HS.out.R]; kernel_rfl); have q := (hE (.tmp 5)).trans f1; simp only [List.getElem_toArray, List.getElem_cons_succ, List.getElem_cons_zero, execOp]; rw [q]; simp [hld]) rfl
    · intro a W hb hf hp
      have f3 : a.eval (.tmp 3) = .pointer (some ⟨h2, 0, none⟩) := hf 3 (by kernel_rfl)
      exact RR.ob_val (Mk.refl _) rfl (RR.wanted_none rfl) (fun ev hE hc => by have q3 := (hE (.tmp 3)).trans f3; simp only [List.getElem_toArray, List.getElem_cons_succ, List.getElem_cons_zero, execOp]; rw [q3]; first | (go_simp; done) | (go_simp; rfl) | rfl) rfl
    · intro a W hb hf hp
      have f1 : a.eval (.tmp 7) = .pointer (some ⟨h2, 0, none⟩) := hpB hp 2 7 (by kernel_rfl)
      exact RR.ob_val (Mk.refl _) rfl (RR.wanted_none rfl) (fun ev hE hc => by have hld := run_loadAt_mid (P := Try.prog) W h2 0 26 (S.R.cells) _ (sc_root HS.out.R (HC2.out W hb)) Try.underlying26 rfl (by rw [Rt.size HS.out.R]; kernel_rfl); have q := (hE (.tmp 7)).trans f1; simp only [List.getElem_toArray, List.getElem_cons_succ, List.getElem_cons_zero, execOp]; rw [q]; simp [hld]) rfl
    · intro a W hb hf hp
      have f6 : a.eval (.tmp 6) = .agg S.R.cells.toArray := hpB hp 1 6 (by kernel_rfl)
      have f8 : a.eval (.tmp 8) = .agg S.R.cells.toArray := hpB hp 3 8 (by kernel_rfl)
      exact RR.ob_val (Mk.refl _) rfl (RR.wanted_none rfl) (fun ev hE hc => by have q6 := (hE (.tmp 6)).trans f6; have q8 := (hE (.tmp 8)).trans f8; simp only [List.getElem_toArray, List.getElem_cons_succ, List.getElem_cons_zero, execOp]; rw [q6, q8]; simp only [Sem.run_bind, eqg_root, eql_root HS.out.R, Result.andThen_ok, Sem.run_pure]) rfl
    · intro a W hb hf hp
      have f9 : a.eval (.tmp 9) = .bool true := hpB hp 4 9 (by kernel_rfl)
      exact RR.ob_val (Mk.refl _) rfl (RR.wanted_none rfl) (fun ev hE hc => by have q9 := (hE (.tmp 9)).trans f9; simp only [List.getElem_toArray, List.getElem_cons_succ, List.getElem_cons_zero, execOp]; rw [q9]; first | (go_simp; done) | (go_simp; rfl) | rfl) rfl
    · intro a W hb hf hp
      have hg : a.eval (.tmp 10) = .bool true := hpB hp 5 10 (by kernel_rfl)
      have f2 : a.eval (.tmp 2) = .pointer (some ⟨h, 0, none⟩) := hf 2 (by kernel_rfl)
      exact RR.ob_val (Mk.refl _) rfl (RR.wanted_some rfl rfl rfl hg) (fun ev hE hc => by have q2 := (hE (.tmp 2)).trans f2; simp only [List.getElem_toArray, List.getElem_cons_succ, List.getElem_cons_zero, execOp]; rw [q2]; first | (go_simp; done) | (go_simp; rfl) | rfl) rfl
    · intro a W hb hf hp
      have hg : a.eval (.tmp 10) = .bool true := hpB hp 5 10 (by kernel_rfl)
      have f1 : a.eval (.tmp 11) = .pointer (some ⟨h, 163, none⟩) := hpB hp 6 11 (by kernel_rfl)
      have hcl := (HC1.out W hb 163).trans (sc_at HS.out.R nv av kv).1
      exact RR.ob_val (Mk.refl _) rfl (RR.wanted_some rfl rfl rfl hg) (fun ev hE hc => by have q := (hE (.tmp 11)).trans f1; simp only [List.getElem_toArray, List.getElem_cons_succ, List.getElem_cons_zero, execOp]; rw [q]; first | (go_simp; done) | (go_simp; rfl)) rfl
    · intro a W hb hf hp
      have hg : a.eval (.tmp 10) = .bool true := hpB hp 5 10 (by kernel_rfl)
      have f3 : a.eval (.tmp 3) = .pointer (some ⟨h2, 0, none⟩) := hf 3 (by kernel_rfl)
      exact RR.ob_val (Mk.refl _) rfl (RR.wanted_some rfl rfl rfl hg) (fun ev hE hc => by have q3 := (hE (.tmp 3)).trans f3; simp only [List.getElem_toArray, List.getElem_cons_succ, List.getElem_cons_zero, execOp]; rw [q3]; first | (go_simp; done) | (go_simp; rfl) | rfl) rfl
    · intro a W hb hf hp
      have hg : a.eval (.tmp 10) = .bool true := hpB hp 5 10 (by kernel_rfl)
      have f1 : a.eval (.tmp 13) = .pointer (some ⟨h2, 163, none⟩) := hpB hp 8 13 (by kernel_rfl)
      have hcl := (HC2.out W hb 163).trans (sc_at HS.out.R nv2 av2 kv2).1
      exact RR.ob_val (Mk.refl _) rfl (RR.wanted_some rfl rfl rfl hg) (fun ev hE hc => by have q := (hE (.tmp 13)).trans f1; simp only [List.getElem_toArray, List.getElem_cons_succ, List.getElem_cons_zero, execOp]; rw [q]; first | (go_simp; done) | (go_simp; rfl)) rfl
    · intro a W hb hf hp
      have hg : a.eval (.tmp 10) = .bool true := hpB hp 5 10 (by kernel_rfl)
      have e12 : a.eval (.tmp 12) = nv := hpB hp 7 12 (by kernel_rfl)
      have e14 : a.eval (.tmp 14) = nv2 := hpB hp 9 14 (by kernel_rfl)
      refine RR.ob_call (f := 48) (args := #[nv, nv2]) rfl (RR.wanted_some rfl rfl rfl hg) (fun ev hE hc => by have hfn := hE (.func 48); have q12 := (hE (.tmp 12)).trans e12; have q14 := (hE (.tmp 14)).trans e14; simp only [List.getElem_toArray, List.getElem_cons_succ, List.getElem_cons_zero, execOp, resolve]; simp [q12, q14, hfn, hc, go_sem]) ((sameNodes_any S.ns HS.out.ns (by have := HS.out.nl; omega) nv nv2 W (HV1.out W hb).1 (HV2.out W hb).1).mono ?_)
      rintro e w6 ⟨rfl, h7⟩
      exact ⟨_, rfl, rfl, Mk.of h7 (HZ1.out W hb)⟩
    · intro a W hb hf hp
      have f10 : a.eval (.tmp 10) = .bool true := hpB hp 5 10 (by kernel_rfl)
      have f15 : a.eval (.tmp 15) = .bool true := hpB hp 10 15 (by kernel_rfl)
      exact RR.ob_val (Mk.refl _) rfl (RR.wanted_none rfl) (fun ev hE hc => by have q10 := (hE (.tmp 10)).trans f10; have q15 := (hE (.tmp 15)).trans f15; simp only [List.getElem_toArray, List.getElem_cons_succ, List.getElem_cons_zero, execOp]; simp only [q10, q15, hc]; first | rfl | (go_simp; done) | (go_simp; rfl)) rfl
    · intro a W hb hf hp
      have f16 : a.eval (.tmp 16) = .bool true := hpB hp 11 16 (by kernel_rfl)
      exact RR.ob_val (Mk.refl _) rfl (RR.wanted_none rfl) (fun ev hE hc => by have q16 := (hE (.tmp 16)).trans f16; simp only [List.getElem_toArray, List.getElem_cons_succ, List.getElem_cons_zero, execOp]; rw [q16]; first | (go_simp; done) | (go_simp; rfl) | rfl) rfl
    · intro a W hb hf hp
      have hg : a.eval (.tmp 17) = .bool true := hpB hp 12 17 (by kernel_rfl)
      have f2 : a.eval (.tmp 2) = .pointer (some ⟨h, 0, none⟩) := hf 2 (by kernel_rfl)
      exact RR.ob_val (Mk.refl _) rfl (RR.wanted_some rfl rfl rfl hg) (fun ev hE hc => by have q2 := (hE (.tmp 2)).trans f2; simp only [List.getElem_toArray, List.getElem_cons_succ, List.getElem_cons_zero, execOp]; rw [q2]; first | (go_simp; done) | (go_simp; rfl) | rfl) rfl
    · intro a W hb hf hp
      have hg : a.eval (.tmp 17) = .bool true := hpB hp 12 17 (by kernel_rfl)
      have f1 : a.eval (.tmp 18) = .pointer (some ⟨h, 164, none⟩) := hpB hp 13 18 (by kernel_rfl)
      have hcl := (HC1.out W hb 164).trans (sc_at HS.out.R nv av kv).2.1
      exact RR.ob_val (Mk.refl _) rfl (RR.wanted_some rfl rfl rfl hg) (fun ev hE hc => by have q := (hE (.tmp 18)).trans f1; simp only [List.getElem_toArray, List.getElem_cons_succ, List.getElem_cons_zero, execOp]; rw [q]; first | (go_simp; done) | (go_simp; rfl)) rfl
    · intro a W hb hf hp
      have hg : a.eval (.tmp 17) = .bool true := hpB hp 12 17 (by kernel_rfl)
      have e0 : a.eval (.tmp 19) = av := hpB hp 14 19 (by kernel_rfl)
      refine RR.ob_call (f := 42) (args := #[av]) rfl (RR.wanted_some rfl rfl rfl hg) (fun ev hE hc => by have hfn := hE (.func 42); have q := (hE (.tmp 19)).trans e0; simp only [List.getElem_toArray, List.getElem_cons_succ, List.getElem_cons_zero, execOp, resolve]; simp [q, hfn, hc, go_sem]) ((rLeavesBytes_any S.ls HS.out.ls HS.out.ll av W (HV1.out W hb).2.1).mono ?_)
      rintro e w6 ⟨v6, rfl, h6, h7⟩
      exact ⟨v6, rfl, h6.sl, Mk.of h7 (HZ1.out W hb)⟩
    · intro a W hb hf hp
      have hg : a.eval (.tmp 17) = .bool true := hpB hp 12 17 (by kernel_rfl)
      have f3 : a.eval (.tmp 3) = .pointer (some ⟨h2, 0, none⟩) := hf 3 (by kernel_rfl)
      exact RR.ob_val (Mk.refl _) rfl (RR.wanted_some rfl rfl rfl hg) (fun ev hE hc => by have q3 := (hE (.tmp 3)).trans f3; simp only [List.getElem_toArray, List.getElem_cons_succ, List.getElem_cons_zero, execOp]; rw [q3]; first | (go_simp; done) | (go_simp; rfl) | rfl) rfl
    · intro a W hb hf hp
      have hg : a.eval (.tmp 17) = .bool true := hpB hp 12 17 (by kernel_rfl)
      have f1 : a.eval (.tmp 21) = .pointer (some ⟨h2, 164, none⟩) := hpB hp 16 21 (by kernel_rfl)
      have hcl := (HC2.out W hb 164).trans (sc_at HS.out.R nv2 av2 kv2).2.1
      exact RR.ob_val (Mk.refl _) rfl (RR.wanted_some rfl rfl rfl hg) (fun ev hE hc => by have q := (hE (.tmp 21)).trans f1; simp only [List.getElem_toArray, List.getElem_cons_succ, List.getElem_cons_zero, execOp]; rw [q]; first | (go_simp; done) | (go_simp; rfl)) rfl
    · intro a W hb hf hp
      have hg : a.eval (.tmp 17) = .bool true := hpB hp 12 17 (by kernel_rfl)
      have e0 : a.eval (.tmp 22) = av2 := hpB hp 17 22 (by kernel_rfl)
      refine RR.ob_call (f := 42) (args := #[av2]) rfl (RR.wanted_some rfl rfl rfl hg) (fun ev hE hc => by have hfn := hE (.func 42); have q := (hE (.tmp 22)).trans e0; simp only [List.getElem_toArray, List.getElem_cons_succ, List.getElem_cons_zero, execOp, resolve]; simp [q, hfn, hc, go_sem]) ((rLeavesBytes_any S.ls HS.out.ls HS.out.ll av2 W (HV2.out W hb).2.1).mono ?_)
      rintro e w6 ⟨v6, rfl, h6, h7⟩
      exact ⟨v6, rfl, h6.sl, Mk.of h7 (HZ1.out W hb)⟩
    · intro a W hb hf hp
      have hg : a.eval (.tmp 17) = .bool true := hpB hp 12 17 (by kernel_rfl)
      have u0 : Sl W (a.eval (.tmp 20)) (S.ls.flatMap lfb) := hpB hp 15 20 (by kernel_rfl)
      have u1 : Sl W (a.eval (.tmp 23)) (S.ls.flatMap lfb) := hpB hp 18 23 (by kernel_rfl)
      refine RR.ob_call (f := 49) (args := #[a.eval (.tmp 20), a.eval (.tmp 23)]) rfl (RR.wanted_some rfl rfl rfl hg) (fun ev hE hc => by have hfn := hE (.func 49); have q20 := hE (.tmp 20); have q23 := hE (.tmp 23); simp only [List.getElem_toArray, List.getElem_cons_succ, List.getElem_cons_zero, execOp, resolve]; simp [q20, q23, hfn, hc, go_sem]) ((rsameBytes_any _ _ _ W u0 u1).mono ?_)
      rintro e w6 ⟨rfl, h7⟩
      exact ⟨_, rfl, rfl, Mk.of h7 (HZ1.out W hb)⟩
    · intro a W hb hf hp
      have f17 : a.eval (.tmp 17) = .bool true := hpB hp 12 17 (by kernel_rfl)
      have f24 : a.eval (.tmp 24) = .bool true := hpB hp 19 24 (by kernel_rfl)
      exact RR.ob_val (Mk.refl _) rfl (RR.wanted_none rfl) (fun ev hE hc => by have q17 := (hE (.tmp 17)).trans f17; have q24 := (hE (.tmp 24)).trans f24; simp only [List.getElem_toArray, List.getElem_cons_succ, List.getElem_cons_zero, execOp]; simp only [q17, q24, hc]; first | rfl | (go_simp; done) | (go_simp; rfl)) rfl
    · intro a W hb hf hp
      have f25 : a.eval (.tmp 25) = .bool true := hpB hp 20 25 (by kernel_rfl)
      exact RR.ob_val (Mk.refl _) rfl (RR.wanted_none rfl) (fun ev hE hc => by have q25 := (hE (.tmp 25)).trans f25; simp only [List.getElem_toArray, List.getElem_cons_succ, List.getElem_cons_zero, execOp]; rw [q25]; first | (go_simp; done) | (go_simp; rfl) | rfl) rfl
    · intro a W hb hf hp
      have hg : a.eval (.tmp 26) = .bool true := hpB hp 21 26 (by kernel_rfl)
      have f2 : a.eval (.tmp 2) = .pointer (some ⟨h, 0, none⟩) := hf 2 (by kernel_rfl)
      exact RR.ob_val (Mk.refl _) rfl (RR.wanted_some rfl rfl rfl hg) (fun ev hE hc => by have q2 := (hE (.tmp 2)).trans f2; simp only [List.getElem_toArray, List.getElem_cons_succ, List.getElem_cons_zero, execOp]; rw [q2]; first | (go_simp; done) | (go_simp; rfl) | rfl) rfl
    · intro a W hb hf hp
      have hg : a.eval (.tmp 26) = .bool true := hpB hp 21 26 (by kernel_rfl)
      have f1 : a.eval (.tmp 27) = .pointer (some ⟨h, 165, none⟩) := hpB hp 22 27 (by kernel_rfl)
      have hcl := (HC1.out W hb 165).trans (sc_at HS.out.R nv av kv).2.2
      exact RR.ob_val (Mk.refl _) rfl (RR.wanted_some rfl rfl rfl hg) (fun ev hE hc => by have q := (hE (.tmp 27)).trans f1; simp only [List.getElem_toArray, List.getElem_cons_succ, List.getElem_cons_zero, execOp]; rw [q]; first | (go_simp; done) | (go_simp; rfl)) rfl
    · intro a W hb hf hp
      have hg : a.eval (.tmp 26) = .bool true := hpB hp 21 26 (by kernel_rfl)
      have f3 : a.eval (.tmp 3) = .pointer (some ⟨h2, 0, none⟩) := hf 3 (by kernel_rfl)
      exact RR.ob_val (Mk.refl _) rfl (RR.wanted_some rfl rfl rfl hg) (fun ev hE hc => by have q3 := (hE (.tmp 3)).trans f3; simp only [List.getElem_toArray, List.getElem_cons_succ, List.getElem_cons_zero, execOp]; rw [q3]; first | (go_simp; done) | (go_simp; rfl) | rfl) rfl
    · intro a W hb hf hp
      have hg : a.eval (.tmp 26) = .bool true := hpB hp 21 26 (by kernel_rfl)
      have f1 : a.eval (.tmp 29) = .pointer (some ⟨h2, 165, none⟩) := hpB hp 24 29 (by kernel_rfl)
      have hcl := (HC2.out W hb 165).trans (sc_at HS.out.R nv2 av2 kv2).2.2
      exact RR.ob_val (Mk.refl _) rfl (RR.wanted_some rfl rfl rfl hg) (fun ev hE hc => by have q := (hE (.tmp 29)).trans f1; simp only [List.getElem_toArray, List.getElem_cons_succ, List.getElem_cons_zero, execOp]; rw [q]; first | (go_simp; done) | (go_simp; rfl)) rfl
    · intro a W hb hf hp
      have hg : a.eval (.tmp 26) = .bool true := hpB hp 21 26 (by kernel_rfl)
      have e28 : a.eval (.tmp 28) = kv := hpB hp 23 28 (by kernel_rfl)
      have e30 : a.eval (.tmp 30) = kv2 := hpB hp 25 30 (by kernel_rfl)
      refine RR.ob_call (f := 50) (args := #[kv, kv2]) rfl (RR.wanted_some rfl rfl rfl hg) (fun ev hE hc => by have hfn := hE (.func 50); have q28 := (hE (.tmp 28)).trans e28; have q30 := (hE (.tmp 30)).trans e30; simp only [List.getElem_toArray, List.getElem_cons_succ, List.getElem_cons_zero, execOp, resolve]; simp [q28, q30, hfn, hc, go_sem]) ((rsameLinks_any S.ks HS.out.ks HS.out.kl kv kv2 W (HV1.out W hb).2.2 (HV2.out W hb).2.2).mono ?_)
      rintro e w6 ⟨rfl, h7⟩
      exact ⟨_, rfl, rfl, Mk.of h7 (HZ1.out W hb)⟩
    · intro a W hb hf hp
      have f26 : a.eval (.tmp 26) = .bool true := hpB hp 21 26 (by kernel_rfl)
      have f31 : a.eval (.tmp 31) = .bool true := hpB hp 26 31 (by kernel_rfl)
      exact RR.ob_val (Mk.refl _) rfl (RR.wanted_none rfl) (fun ev hE hc => by have q26 := (hE (.tmp 26)).trans f26; have q31 := (hE (.tmp 31)).trans f31; simp only [List.getElem_toArray, List.getElem_cons_succ, List.getElem_cons_zero, execOp]; simp only [q26, q31, hc]; first | rfl | (go_simp; done) | (go_simp; rfl)) rfl
    · intro a W hb hf hp
      have f32 : a.eval (.tmp 32) = .bool true := hpB hp 27 32 (by kernel_rfl)
      exact RR.ob_val (Mk.refl _) rfl (RR.wanted_none rfl) (fun ev hE hc => by have q32 := (hE (.tmp 32)).trans f32; simp only [List.getElem_toArray, List.getElem_cons_succ, List.getElem_cons_zero, execOp]; rw [q32]; first | (go_simp; done) | (go_simp; rfl) | rfl) rfl
  · intro a W g1 g2 g3 g4 g5
    have her : a.eval (.tmp 4) = .bool true := g5 28 _ 4 rfl rfl
    have HD : Hid (Below w.heap.size w W) := BE.out.trans (g3.below.mono (by rw [← HB.out]; exact BE.out.size))
    obtain ⟨t, df⟩ := a
    simp only at g1 g2
    subst g2
    obtain ⟨l, rfl⟩ : ∃ l : List Value, t = l.toArray := ⟨t.toList, by simp⟩
    have hl17 : l.length = 33 := by simpa using g1
    clear g1 g3 g4 g5
    match l, hl17, her with
    | x0 :: x1 :: x2 :: x3 :: x4 :: x5 :: x6 :: x7 :: x8 :: x9 :: x10 :: x11 :: x12 :: x13 :: x14 :: x15 :: x16 :: x17 :: x18 :: x19 :: x20 :: x21 :: x22 :: x23 :: x24 :: x25 :: x26 :: x27 :: x28 :: x29 :: x30 :: x31 :: x32 :: [], _, her =>
      have HER : Hid (x4 = .bool true) := her
      clear her
      go_wp2
      go_ret
      exact ⟨by rw [HER.out]; rfl, HD.out⟩
end Go.Proofs.Ytfnmdeekenjlgaa
