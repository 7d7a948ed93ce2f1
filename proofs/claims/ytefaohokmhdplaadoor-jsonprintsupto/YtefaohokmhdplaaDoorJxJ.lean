/- The reference for JSON: values. -/
import Derived.Test.YtefaohokmhdplaaDoorJxB
import Derived.Test.YtefaohokmhdplaaDoorJxF
import Derived.Test.YtefaohokmhdplaaDoorJxH
namespace Go.Proofs.YtefaohokmhdplaaDoor
open Go Go.RowKit
set_option linter.unusedSimpArgs false
set_option linter.unusedVariables false
set_option maxRecDepth 100000

variable {w : World} {g : Nat} {s : ByteArray} {i d k : Nat}
def rt0 (w : World) : World := w.alloc (.cells (tcv TN).toArray 26)
theorem rt0_at (w : World) : TC (rt0 w) w.heap.size TN ∧ Below w.heap.size w (rt0 w) := ⟨heap_alloc_new _ _, (Below.refl _ w).alloc (Nat.le_refl _) _⟩
theorem RVP.one {g : Nat} {s : ByteArray} {d : Nat} {w : World} {o : Out JV} {e : Ending} {w' : World} (h : RVP g s d w o e w') : ∃ (x : Tv) (b : Bool), e = .returned (.tuple #[x.val, .bool b]) ∧ Cg g w w' := by
  cases o with
  | ok jv j => obtain ⟨x, h1, _, h3, h4⟩ := h; exact ⟨x, true, h1, h3⟩
  | bad j => obtain ⟨x, h1, _, h3⟩ := h; exact ⟨x, false, h1, h3⟩
  | big j => obtain ⟨x, h1, _, h3⟩ := h; exact ⟨x, false, h1, h3⟩
theorem tv_inj {x y : Tv} {a b : Bool} (h : Ending.returned (.tuple #[x.val, .bool a]) = .returned (.tuple #[y.val, .bool b])) : x = y ∧ a = b := by
  obtain ⟨xk, xb, xt, ⟨xa, xn, xc⟩, ⟨ya, yn, yc⟩⟩ := x
  obtain ⟨xk', xb', xt', ⟨xa', xn', xc'⟩, ⟨ya', yn', yc'⟩⟩ := y
  simp [Tv.val, Sv.v] at h
  obtain ⟨⟨rfl, rfl, rfl, ⟨rfl, rfl, rfl⟩, rfl, rfl, rfl⟩, rfl⟩ := h
  exact ⟨rfl, rfl⟩
/-- The answer laid into the result's variable. -/
theorem RVP.laid {g : Nat} {s : ByteArray} {d M : Nat} {w w0 W : World} {o : Out JV} {x : Tv} {b : Bool} (hM : w.heap.size = M) (hg : g < M) (h0 : Cg g w w0) (h1 : M < w0.heap.size) (h : RVP g s d w0 o (.returned (.tuple #[x.val, .bool b])) W) : RVP g s d w o (.returned (.tuple #[x.val, .bool b])) (set5 W M x) := by
  have cg : Cg g w0 W → Cg g w (set5 W M x) := fun c =>
    ⟨(set5_chg W M x).os.trans (c.os.trans h0.os), (set5_chg W M x).tape.trans (c.tape.trans h0.tape), (set5_chg W M x).output.trans (c.output.trans h0.output), by rw [set5_size]; exact Nat.le_trans h0.size c.size, fun q hq hf => (set5_other W M x (by omega)).trans ((c.other q (by have := h0.size; omega) hf).trans (h0.other q hq hf))⟩
  cases o with
  | ok jv j =>
    obtain ⟨y, e, h2, h3, h4⟩ := h
    obtain ⟨rfl, rfl⟩ := tv_inj e
    exact ⟨x, rfl, h2.keep (set5_other _ _ _ (by omega)), cg h3, h4.keep (fun q hq hlt => ⟨Nat.le_trans h0.size hq, set5_other _ _ _ (by have h5 : w0.heap.size ≤ q := hq; omega)⟩) (by rw [set5_size]; exact Nat.le_refl _)⟩
  | bad j =>
    obtain ⟨y, e, ⟨d', h2⟩, h3⟩ := h
    obtain ⟨rfl, rfl⟩ := tv_inj e
    exact ⟨x, rfl, ⟨d', h2.keep (set5_other _ _ _ (by omega))⟩, cg h3⟩
  | big j =>
    obtain ⟨y, e, ⟨d', h2⟩, h3⟩ := h
    obtain ⟨rfl, rfl⟩ := tv_inj e
    exact ⟨x, rfl, ⟨d', h2.keep (set5_other _ _ _ (by omega))⟩, cg h3⟩
/-- A leaf of the answer: what is built of a word, a number, a text. -/
theorem rvp_leaf {g : Nat} {s : ByteArray} {d M : Nat} {w W : World} {p : Nat × Bool} {x : Tv} {jv : JV} (hM : w.heap.size = M) (hg : g < M) (h0 : Cg g w W) (hp : RB W g s p.1 d false) (hj : p.2 = true → ∀ A W, TJ A W x jv) : RVP g s d w (outOf p jv) (.returned (.tuple #[x.val, .bool p.2])) (set5 W M x) := by
  have cg : Cg g w (set5 W M x) := ⟨(set5_chg W M x).os.trans h0.os, (set5_chg W M x).tape.trans h0.tape, (set5_chg W M x).output.trans h0.output, by rw [set5_size]; exact h0.size, fun q hq hf => (set5_other W M x (by omega)).trans (h0.other q hq hf)⟩
  obtain ⟨j, b⟩ := p
  cases b with
  | true => exact ⟨x, rfl, hp.keep (set5_other _ _ _ (by omega)), cg, hj rfl _ _⟩
  | false => exact ⟨x, rfl, ⟨d, hp.keep (set5_other _ _ _ (by omega))⟩, cg⟩
set_option maxHeartbeats 16000000 in
theorem rvalue_walk {K : Nat} (h : RB w g s i d false) (hi : i ≤ s.size) (hs : s.size ≤ 8192)
    (hO : gb s i = 123 → ∀ W, RB W g s i d false → Calls Tryd.prog 48 #[.pointer (some ⟨g, 0, none⟩)] W fun e w' => RVP g s d W (val s K i) e w')
    (hL : gb s i = 91 → ∀ W, RB W g s i d false → Calls Tryd.prog 47 #[.pointer (some ⟨g, 0, none⟩)] W fun e w' => RVP g s d W (val s K i) e w') :
    Calls Tryd.prog 26 #[.pointer (some ⟨g, 0, none⟩)] w fun e w' => RVP g s d w (val s K i) e w' := by
  have HS : Hid (s.size ≤ 8192) := hs
  have hg := h.lt
  obtain ⟨a1, a2⟩ := rt0_at w
  obtain ⟨M, hM⟩ : ∃ M, w.heap.size = M := ⟨_, rfl⟩
  have HMM : Hid (w.heap.size = M) := hM
  have HP0 : Hid (RB (rt0 w) g s i d false) := h.keep (a2.block g hg)
  rw [hM] at a1 a2
  have HTM : Hid (TC (rt0 w) M TN) := a1
  have HC0 : Hid (Cg g w (rt0 w)) := Chg.ofBelow (by rw [hM]; exact a2)
  have hgM : g < M := by omega
  obtain ⟨U, hU⟩ : ∃ U, rt0 w = U := ⟨_, rfl⟩
  have HU : Hid (w.alloc (.cells #[.int .i64 0, .bool false, .string ⟨#[]⟩, .slice none 0 0, .slice none 0 0] 26) = U) := hU
  rw [hU] at HP0 HTM HC0
  clear h hs a1 a2 hU
  by_cases e91 : gb s i = 91
  · have HCL : Hid (∀ W, RB W g s i d false → Calls Tryd.prog 47 #[.pointer (some ⟨g, 0, none⟩)] W fun e w' => RVP g s d W (val s K i) e w') := hL e91
    clear hO hL
    go_enter Tryd.func26, Tryd.ntmps26
    go_wp2_with fail
    rw [HU.out]
    refine (rhere_at HP0.out (by rfl) hi HS.out).mono ?_
    rintro _ _ ⟨rfl, n, rfl⟩
    go_wp2_with fail
    refine (HCL.out _ (HP0.out.drew n)).mono ?_
    intro e W3 hvp
    obtain ⟨x, b, rfl, cc⟩ := hvp.one
    have HF := hvp.laid (w := w) HMM.out hgM (HC0.out.drawn n) (HTM.out.lt)
    have hM3 : TC W3 M TN := HTM.out.keep (cc.other M HTM.out.lt (by omega))
    have hS3 := set5_at hM3 x
    obtain ⟨y0, y1, y2, y3, y4, yf⟩ := hM3.cells
    have yf0 := yf 0; have yf1 := yf 1; have yf2 := yf 2; have yf3 := yf 3; have yf4 := yf 4
    simp only [TN, SN] at y0 y1 y2 y3 y4
    have HF2 : Hid (TC (set5 W3 M x) M x) := hS3
    have HF3 : Hid (RVP g s d w (val s K i) (.returned (.tuple #[x.val, .bool b])) (set5 W3 M x)) := HF
    obtain ⟨xk, xb, xt, ⟨ka, kn, kc⟩, ⟨pa, pn, pc⟩⟩ := x
    rw [show Tv.val ⟨xk, xb, xt, ⟨ka, kn, kc⟩, ⟨pa, pn, pc⟩⟩ = .agg #[.int .i64 xk, .bool xb, .string xt, .slice ka kn kc, .slice pa pn pc] from rfl]
    clear HF hvp cc hM3 hS3 yf HCL
    go_wp2
    have hf := HF2.out
    have hf3 := HF3.out
    simp only [set5] at hf hf3
    exact tree_res Tryd.results26 (M := M) (x := ⟨xk, xb, xt, ⟨ka, kn, kc⟩, ⟨pa, pn, pc⟩⟩) (b := b) hf rfl rfl hf3
  by_cases e123 : gb s i = 123
  · have HCL : Hid (∀ W, RB W g s i d false → Calls Tryd.prog 48 #[.pointer (some ⟨g, 0, none⟩)] W fun e w' => RVP g s d W (val s K i) e w') := hO e123
    clear hO hL
    go_enter Tryd.func26, Tryd.ntmps26
    go_wp2_with fail
    rw [HU.out]
    refine (rhere_at HP0.out (by rfl) hi HS.out).mono ?_
    rintro _ _ ⟨rfl, n, rfl⟩
    go_wp2_with fail
    refine (HCL.out _ (HP0.out.drew n)).mono ?_
    intro e W3 hvp
    obtain ⟨x, b, rfl, cc⟩ := hvp.one
    have HF := hvp.laid (w := w) HMM.out hgM (HC0.out.drawn n) (HTM.out.lt)
    have hM3 : TC W3 M TN := HTM.out.keep (cc.other M HTM.out.lt (by omega))
    have hS3 := set5_at hM3 x
    obtain ⟨y0, y1, y2, y3, y4, yf⟩ := hM3.cells
    have yf0 := yf 0; have yf1 := yf 1; have yf2 := yf 2; have yf3 := yf 3; have yf4 := yf 4
    simp only [TN, SN] at y0 y1 y2 y3 y4
    have HF2 : Hid (TC (set5 W3 M x) M x) := hS3
    have HF3 : Hid (RVP g s d w (val s K i) (.returned (.tuple #[x.val, .bool b])) (set5 W3 M x)) := HF
    obtain ⟨xk, xb, xt, ⟨ka, kn, kc⟩, ⟨pa, pn, pc⟩⟩ := x
    rw [show Tv.val ⟨xk, xb, xt, ⟨ka, kn, kc⟩, ⟨pa, pn, pc⟩⟩ = .agg #[.int .i64 xk, .bool xb, .string xt, .slice ka kn kc, .slice pa pn pc] from rfl]
    clear HF hvp cc hM3 hS3 yf HCL
    go_wp2
    have hf := HF2.out
    have hf3 := HF3.out
    simp only [set5] at hf hf3
    exact tree_res Tryd.results26 (M := M) (x := ⟨xk, xb, xt, ⟨ka, kn, kc⟩, ⟨pa, pn, pc⟩⟩) (b := b) hf rfl rfl hf3
  clear hO hL
  by_cases e34 : gb s i = 34
  · have hlt := gb_lt (s := s) (i := i) (by omega)
    have HR : Hid (val s K i = if (tx s (i + 1) []).2 = true then .ok (.txt (sb (tx s (i + 1) []).1.1)) (tx s (i + 1) []).1.2 else .bad (tx s (i + 1) []).1.2) := by
      show _ = _; unfold val; rw [if_neg e123, if_neg e91, if_pos e34]
    go_enter Tryd.func26, Tryd.ntmps26
    go_wp2_with fail
    rw [HU.out]
    refine (rhere_at HP0.out (by rfl) hi HS.out).mono ?_
    rintro _ _ ⟨rfl, n, rfl⟩
    go_wp2_with fail
    refine (rtext_any (HP0.out.drew n) hlt e34 HS.out).mono ?_
    obtain ⟨⟨⟨xs, j⟩, ok⟩, hT⟩ : ∃ T, tx s (i + 1) [] = T := ⟨_, rfl⟩
    rw [hT] at HR ⊢
    rintro e W3 ⟨rfl, p, c⟩
    have hM3 : TC W3 M TN := HTM.out.keep (c.other M HTM.out.lt (by omega))
    obtain ⟨t, ht⟩ : ∃ t : ByteArray, (if ok then sb xs else ⟨#[]⟩) = t := ⟨_, rfl⟩
    have hrt : rtV ((xs, j), ok) = .tuple #[.string t, .bool ok] := by cases ok <;> simp [rtV, ← ht]
    rw [hrt]
    have HOUT : Hid (val s K i = outOf (j, ok) (.txt t)) := by show _ = _; rw [HR.out]; cases ok <;> simp [outOf, ← ht]
    have HF3 : Hid (RVP g s d w (outOf (j, ok) (.txt t)) (.returned (.tuple #[Tv.val ⟨3, false, t, SN, SN⟩, .bool ok])) (set5 W3 M ⟨3, false, t, SN, SN⟩)) := rvp_leaf (p := (j, ok)) HMM.out hgM (Chg.trans (HC0.out.drawn n) c) p (fun _ A W => .txt ⟨3, false, t, SN, SN⟩ rfl)
    have HF2 : Hid (TC (set5 W3 M ⟨3, false, t, SN, SN⟩) M ⟨3, false, t, SN, SN⟩) := set5_at hM3 _
    obtain ⟨y0, y1, y2, y3, y4, yf⟩ := hM3.cells
    have yf0 := yf 0; have yf1 := yf 1; have yf2 := yf 2; have yf3 := yf 3; have yf4 := yf 4
    simp only [TN, SN] at y0 y1 y2 y3 y4
    clear p c hM3 yf hT ht hrt HR
    go_wp2
    have hf := HF2.out
    have hf3 := HF3.out
    simp only [set5, SN] at hf hf3
    refine tree_res Tryd.results26 (M := M) (x := ⟨3, false, t, SN, SN⟩) (b := ok) hf rfl rfl ?_
    rw [HOUT.out]
    exact hf3
  by_cases e116 : gb s i = 116
  · have HR : Hid (val s K i = outOf (wd s (lets TRUE) i) (.bool true)) := by
      show _ = _; rw [lets_true]; unfold val; rw [if_neg e123, if_neg e91, if_neg e34, if_pos e116]
    have HWD : Hid (∀ n, Calls Tryd.prog 50 #[.pointer (some ⟨g, 0, none⟩), .string TRUE] (U.drewN n) fun e w' => e = .returned (.bool (wd s (lets TRUE) i).2) ∧ RB w' g s (wd s (lets TRUE) i).1 d false ∧ Cg g (U.drewN n) w') := fun n => rword_any (HP0.out.drew n) hi HS.out TRUE (by decide) (nz_of lets_true (by decide))
    go_enter Tryd.func26, Tryd.ntmps26
    go_wp2_with fail
    rw [HU.out]
    refine (rhere_at HP0.out (by rfl) hi HS.out).mono ?_
    rintro _ _ ⟨rfl, n, rfl⟩
    go_wp2_with fail
    refine (HWD.out n).mono ?_
    obtain ⟨⟨j, ok⟩, hT⟩ : ∃ T, wd s (lets TRUE) i = T := ⟨_, rfl⟩
    rw [hT] at HR ⊢
    rintro e W3 ⟨rfl, p, c⟩
    have hM3 : TC W3 M TN := HTM.out.keep (c.other M HTM.out.lt (by omega))
    have HOUT : Hid (val s K i = outOf (j, ok) (.bool true)) := HR.out
    have HF3 : Hid (RVP g s d w (outOf (j, ok) (.bool true)) (.returned (.tuple #[Tv.val ⟨1, true, ⟨#[]⟩, SN, SN⟩, .bool ok])) (set5 W3 M ⟨1, true, ⟨#[]⟩, SN, SN⟩)) := rvp_leaf (p := (j, ok)) HMM.out hgM (Chg.trans (HC0.out.drawn n) c) p (fun _ A W => .bool ⟨1, true, ⟨#[]⟩, SN, SN⟩ rfl)
    have HF2 : Hid (TC (set5 W3 M ⟨1, true, ⟨#[]⟩, SN, SN⟩) M ⟨1, true, ⟨#[]⟩, SN, SN⟩) := set5_at hM3 _
    obtain ⟨y0, y1, y2, y3, y4, yf⟩ := hM3.cells
    have yf0 := yf 0; have yf1 := yf 1; have yf2 := yf 2; have yf3 := yf 3; have yf4 := yf 4
    simp only [TN, SN] at y0 y1 y2 y3 y4
    clear p c hM3 yf hT HR HWD
    go_wp2
    have hf := HF2.out
    have hf3 := HF3.out
    simp only [set5, SN] at hf hf3
    refine tree_res Tryd.results26 (M := M) (x := ⟨1, true, ⟨#[]⟩, SN, SN⟩) (b := ok) hf rfl rfl ?_
    rw [HOUT.out]
    exact hf3
  by_cases e102 : gb s i = 102
  · have HR : Hid (val s K i = outOf (wd s (lets FALSE) i) (.bool false)) := by
      show _ = _; rw [lets_false]; unfold val; rw [if_neg e123, if_neg e91, if_neg e34, if_neg e116, if_pos e102]
    have HWD : Hid (∀ n, Calls Tryd.prog 50 #[.pointer (some ⟨g, 0, none⟩), .string FALSE] (U.drewN n) fun e w' => e = .returned (.bool (wd s (lets FALSE) i).2) ∧ RB w' g s (wd s (lets FALSE) i).1 d false ∧ Cg g (U.drewN n) w') := fun n => rword_any (HP0.out.drew n) hi HS.out FALSE (by decide) (nz_of lets_false (by decide))
    go_enter Tryd.func26, Tryd.ntmps26
    go_wp2_with fail
    rw [HU.out]
    refine (rhere_at HP0.out (by rfl) hi HS.out).mono ?_
    rintro _ _ ⟨rfl, n, rfl⟩
    go_wp2_with fail
    refine (HWD.out n).mono ?_
    obtain ⟨⟨j, ok⟩, hT⟩ : ∃ T, wd s (lets FALSE) i = T := ⟨_, rfl⟩
    rw [hT] at HR ⊢
    rintro e W3 ⟨rfl, p, c⟩
    have hM3 : TC W3 M TN := HTM.out.keep (c.other M HTM.out.lt (by omega))
    have HOUT : Hid (val s K i = outOf (j, ok) (.bool false)) := HR.out
    have HF3 : Hid (RVP g s d w (outOf (j, ok) (.bool false)) (.returned (.tuple #[Tv.val ⟨1, false, ⟨#[]⟩, SN, SN⟩, .bool ok])) (set5 W3 M ⟨1, false, ⟨#[]⟩, SN, SN⟩)) := rvp_leaf (p := (j, ok)) HMM.out hgM (Chg.trans (HC0.out.drawn n) c) p (fun _ A W => .bool ⟨1, false, ⟨#[]⟩, SN, SN⟩ rfl)
    have HF2 : Hid (TC (set5 W3 M ⟨1, false, ⟨#[]⟩, SN, SN⟩) M ⟨1, false, ⟨#[]⟩, SN, SN⟩) := set5_at hM3 _
    obtain ⟨y0, y1, y2, y3, y4, yf⟩ := hM3.cells
    have yf0 := yf 0; have yf1 := yf 1; have yf2 := yf 2; have yf3 := yf 3; have yf4 := yf 4
    simp only [TN, SN] at y0 y1 y2 y3 y4
    clear p c hM3 yf hT HR HWD
    go_wp2
    have hf := HF2.out
    have hf3 := HF3.out
    simp only [set5, SN] at hf hf3
    refine tree_res Tryd.results26 (M := M) (x := ⟨1, false, ⟨#[]⟩, SN, SN⟩) (b := ok) hf rfl rfl ?_
    rw [HOUT.out]
    exact hf3
  by_cases e110 : gb s i = 110
  · have HR : Hid (val s K i = outOf (wd s (lets NULL) i) .null) := by
      show _ = _; rw [lets_null]; unfold val; rw [if_neg e123, if_neg e91, if_neg e34, if_neg e116, if_neg e102, if_pos e110]
    have HWD : Hid (∀ n, Calls Tryd.prog 50 #[.pointer (some ⟨g, 0, none⟩), .string NULL] (U.drewN n) fun e w' => e = .returned (.bool (wd s (lets NULL) i).2) ∧ RB w' g s (wd s (lets NULL) i).1 d false ∧ Cg g (U.drewN n) w') := fun n => rword_any (HP0.out.drew n) hi HS.out NULL (by decide) (nz_of lets_null (by decide))
    go_enter Tryd.func26, Tryd.ntmps26
    go_wp2_with fail
    rw [HU.out]
    refine (rhere_at HP0.out (by rfl) hi HS.out).mono ?_
    rintro _ _ ⟨rfl, n, rfl⟩
    go_wp2_with fail
    refine (HWD.out n).mono ?_
    obtain ⟨⟨j, ok⟩, hT⟩ : ∃ T, wd s (lets NULL) i = T := ⟨_, rfl⟩
    rw [hT] at HR ⊢
    rintro e W3 ⟨rfl, p, c⟩
    have hM3 : TC W3 M TN := HTM.out.keep (c.other M HTM.out.lt (by omega))
    have HOUT : Hid (val s K i = outOf (j, ok) .null) := HR.out
    have HF3 : Hid (RVP g s d w (outOf (j, ok) .null) (.returned (.tuple #[Tv.val TN, .bool ok])) (set5 W3 M TN)) := rvp_leaf (p := (j, ok)) HMM.out hgM (Chg.trans (HC0.out.drawn n) c) p (fun _ A W => .null TN rfl)
    have HF2 : Hid (TC (set5 W3 M TN) M TN) := set5_at hM3 _
    obtain ⟨y0, y1, y2, y3, y4, yf⟩ := hM3.cells
    have yf0 := yf 0; have yf1 := yf 1; have yf2 := yf 2; have yf3 := yf 3; have yf4 := yf 4
    simp only [TN, SN] at y0 y1 y2 y3 y4
    clear p c hM3 yf hT HR HWD
    go_wp2
    have hf := HF2.out
    have hf3 := HF3.out
    simp only [set5, TN, SN] at hf hf3
    refine tree_res Tryd.results26 (M := M) (x := TN) (b := ok) hf rfl rfl ?_
    rw [HOUT.out]
    exact hf3
  have HR : Hid (val s K i = outOf (nmb s i) (.num (piece s i (nmb s i).1))) := by
    show _ = _; unfold val; rw [if_neg e123, if_neg e91, if_neg e34, if_neg e116, if_neg e102, if_neg e110]
  have HWD : Hid (∀ n, Calls Tryd.prog 51 #[.pointer (some ⟨g, 0, none⟩)] (U.drewN n) fun e w' => e = .returned (nmV s i) ∧ RB w' g s (nmb s i).1 d false ∧ Cg g (U.drewN n) w') := fun n => rnumber_any (HP0.out.drew n) hi HS.out
  go_enter Tryd.func26, Tryd.ntmps26
  go_wp2_with fail
  rw [HU.out]
  refine (rhere_at HP0.out (by rfl) hi HS.out).mono ?_
  rintro _ _ ⟨rfl, n, rfl⟩
  go_wp2_with fail
  refine (HWD.out n).mono ?_
  unfold nmV
  obtain ⟨⟨j, ok⟩, hT⟩ : ∃ T, nmb s i = T := ⟨_, rfl⟩
  rw [hT] at HR ⊢
  rintro e W3 ⟨rfl, p, c⟩
  have hM3 : TC W3 M TN := HTM.out.keep (c.other M HTM.out.lt (by omega))
  obtain ⟨t, ht⟩ : ∃ t : ByteArray, (if ok then s.extract i j else ⟨#[]⟩) = t := ⟨_, rfl⟩
  have hrt : nmW s i (j, ok) = .tuple #[.string t, .bool ok] := by cases ok <;> simp [nmW, ← ht]
  rw [hrt]
  have HOUT : Hid (val s K i = outOf (j, ok) (.num t)) := by show _ = _; rw [HR.out]; cases ok <;> simp [outOf, piece, ← ht]
  have HF3 : Hid (RVP g s d w (outOf (j, ok) (.num t)) (.returned (.tuple #[Tv.val ⟨2, false, t, SN, SN⟩, .bool ok])) (set5 W3 M ⟨2, false, t, SN, SN⟩)) := rvp_leaf (p := (j, ok)) HMM.out hgM (Chg.trans (HC0.out.drawn n) c) p (fun _ A W => .num ⟨2, false, t, SN, SN⟩ rfl)
  have HF2 : Hid (TC (set5 W3 M ⟨2, false, t, SN, SN⟩) M ⟨2, false, t, SN, SN⟩) := set5_at hM3 _
  obtain ⟨y0, y1, y2, y3, y4, yf⟩ := hM3.cells
  have yf0 := yf 0; have yf1 := yf 1; have yf2 := yf 2; have yf3 := yf 3; have yf4 := yf 4
  simp only [TN, SN] at y0 y1 y2 y3 y4
  clear p c hM3 yf hT ht hrt HR HWD
  go_wp2
  have hf := HF2.out
  have hf3 := HF3.out
  simp only [set5, SN] at hf hf3
  refine tree_res Tryd.results26 (M := M) (x := ⟨2, false, t, SN, SN⟩) (b := ok) hf rfl rfl ?_
  rw [HOUT.out]
  exact hf3
set_option maxHeartbeats 4000000 in
theorem rlist_big (h : RB w g s i 16 false) :
    Calls Tryd.prog 47 #[.pointer (some ⟨g, 0, none⟩)] w fun e w' => RVP g s 16 w (.big i) e w' := by
  have hg := h.lt
  obtain ⟨a1, a2, a3⟩ := lt0_at w 4
  obtain ⟨M, hM⟩ : ∃ M, w.heap.size = M := ⟨_, rfl⟩
  have HMM : Hid (w.heap.size = M) := hM
  have HP : Hid (RB (lt0 w 4) g s i 16 false) := h.keep (a3.block g hg)
  have HC : Hid (Cg g w (lt0 w 4)) := Chg.ofBelow a3
  rw [hM] at a1 a2 a3
  have HTM : Hid (TC (lt0 w 4) M TN) := a1
  have HTT : Hid (TC (lt0 w 4) (M + 1) ⟨4, false, ⟨#[]⟩, SN, SN⟩) := a2
  have hopen := ropen_big HP.out
  have hgM : g < M := by omega
  clear h a1 a2 a3
  go_enter Tryd.func47, Tryd.ntmps47
  go_wp2_with fail
  refine Calls.mono hopen ?_
  rintro e W2 ⟨rfl, ⟨d', p⟩, c⟩
  have hM3 : TC W2 M TN := HTM.out.keep (c.other M HTM.out.lt (by omega))
  have hT3 : TC W2 (M + 1) ⟨4, false, ⟨#[]⟩, SN, SN⟩ := HTT.out.keep (c.other (M + 1) HTT.out.lt (by omega))
  have HF : Hid _ := list_no p hM3 hgM ⟨4, false, ⟨#[]⟩, SN, SN⟩ (Cg.toB (Chg.trans HC.out c))
  obtain ⟨y0, y1, y2, y3, y4, yf⟩ := hM3.cells
  have yf0 := yf 0; have yf1 := yf 1; have yf2 := yf 2; have yf3 := yf 3; have yf4 := yf 4
  obtain ⟨z0, z1, z2, z3, z4, zf⟩ := hT3.cells
  simp only [TN, SN] at y0 y1 y2 y3 y4 z0 z1 z2 z3 z4
  clear p c hM3 hT3 yf zf hopen
  go_wp2
  have hf := HF.out
  simp only [set5, SN] at hf
  refine tree_res Tryd.results47 (M := M) (x := ⟨4, false, ⟨#[]⟩, ⟨none, 0, 0⟩, ⟨none, 0, 0⟩⟩) (b := false) hf.2.1 rfl rfl ?_
  exact ⟨_, rfl, ⟨d', hf.1⟩, cgb_cg HMM.out hf.2.2⟩
set_option maxHeartbeats 4000000 in
theorem robject_big (h : RB w g s i 16 false) :
    Calls Tryd.prog 48 #[.pointer (some ⟨g, 0, none⟩)] w fun e w' => RVP g s 16 w (.big i) e w' := by
  have hg := h.lt
  obtain ⟨a1, a2, a3⟩ := lt0_at w 5
  obtain ⟨M, hM⟩ : ∃ M, w.heap.size = M := ⟨_, rfl⟩
  have HMM : Hid (w.heap.size = M) := hM
  have HP : Hid (RB (lt0 w 5) g s i 16 false) := h.keep (a3.block g hg)
  have HC : Hid (Cg g w (lt0 w 5)) := Chg.ofBelow a3
  rw [hM] at a1 a2 a3
  have HTM : Hid (TC (lt0 w 5) M TN) := a1
  have HTT : Hid (TC (lt0 w 5) (M + 1) ⟨5, false, ⟨#[]⟩, SN, SN⟩) := a2
  have hopen := ropen_big HP.out
  have hgM : g < M := by omega
  clear h a1 a2 a3
  go_enter Tryd.func48, Tryd.ntmps48
  go_wp2_with fail
  refine Calls.mono hopen ?_
  rintro e W2 ⟨rfl, ⟨d', p⟩, c⟩
  have hM3 : TC W2 M TN := HTM.out.keep (c.other M HTM.out.lt (by omega))
  have hT3 : TC W2 (M + 1) ⟨5, false, ⟨#[]⟩, SN, SN⟩ := HTT.out.keep (c.other (M + 1) HTT.out.lt (by omega))
  have HF : Hid _ := list_no p hM3 hgM ⟨5, false, ⟨#[]⟩, SN, SN⟩ (Cg.toB (Chg.trans HC.out c))
  obtain ⟨y0, y1, y2, y3, y4, yf⟩ := hM3.cells
  have yf0 := yf 0; have yf1 := yf 1; have yf2 := yf 2; have yf3 := yf 3; have yf4 := yf 4
  obtain ⟨z0, z1, z2, z3, z4, zf⟩ := hT3.cells
  simp only [TN, SN] at y0 y1 y2 y3 y4 z0 z1 z2 z3 z4
  clear p c hM3 hT3 yf zf hopen
  go_wp2
  have hf := HF.out
  simp only [set5, SN] at hf
  refine tree_res Tryd.results48 (M := M) (x := ⟨5, false, ⟨#[]⟩, ⟨none, 0, 0⟩, ⟨none, 0, 0⟩⟩) (b := false) hf.2.1 rfl rfl ?_
  exact ⟨_, rfl, ⟨d', hf.1⟩, cgb_cg HMM.out hf.2.2⟩
/-- The reading of objects. -/
def ROC (g : Nat) (s : ByteArray) : Prop := ∀ (k : Nat) (w : World) (i d : Nat), RB w g s i d false → i < s.size → d + 1 + k = 16 → RVC g s k →
  Calls Tryd.prog 48 #[.pointer (some ⟨g, 0, none⟩)] w fun e w' => RVP g s d w (wrapO (open' s 125 (membr s (val s k)) i)) e w'
theorem rvalue_any {g : Nat} {s : ByteArray} (hs : s.size ≤ 8192) (HO : ROC g s) : ∀ k, RVC g s k := by
  intro k
  induction k with
  | zero =>
    intro w i d h hi hd
    obtain rfl : d = 16 := by omega
    refine rvalue_walk h hi hs (fun e W hp => ?_) (fun e W hp => ?_)
    · rw [show val s 0 i = .big i by unfold val; rw [if_pos e]]
      exact robject_big hp
    · rw [show val s 0 i = .big i by unfold val; rw [if_neg (by omega), if_pos e]]
      exact rlist_big hp
  | succ k ih =>
    intro w i d h hi hd
    refine rvalue_walk h hi hs (fun e W hp => ?_) (fun e W hp => ?_)
    · rw [show val s (k + 1) i = wrapO (open' s 125 (membr s (val s k)) i) by unfold val; rw [if_pos e]]
      exact HO k W i d hp (gb_lt (by omega)) (by omega) ih
    · rw [show val s (k + 1) i = wrapL (open' s 93 (fun _ => val s k) i) by unfold val; rw [if_neg (by omega), if_pos e]]
      exact rlist_any hp (gb_lt (by omega)) hs (by omega) ih
end Go.Proofs.YtefaohokmhdplaaDoor
