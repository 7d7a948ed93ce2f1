/- The reference for JSON: Parse. -/
import Derived.Test.YtefaohokmhdplaaDoorJxJ
import Derived.Test.YtefaohokmhdplaaDoorJsY
namespace Go.Proofs.YtefaohokmhdplaaDoor
open Go Go.RowKit
set_option linter.unusedSimpArgs false
set_option linter.unusedVariables false
set_option maxRecDepth 100000

/-- Three results: the first lies in memory. -/
theorem results_mid_tmp2 {P : Program} {fn : Func} {p q r : Tmp} {ty : TypeId} (h : fn.results = #[.cell p ty, .tmp q, .tmp r]) (tmps : Array Value) (w : World) (b o : Nat) (cs : List Value) (d : TypeDesc) (x y : Value)
    (hp : tmps.getD p undef = .pointer (some ⟨b, o, none⟩)) (hq : tmps.getD q undef = x) (hr : tmps.getD r undef = y) (hc : w.rangeAt b o cs) (hu : P.underlying ty = some d) (hd : d.isRow = true) (hi : (P.info? ty).map (·.size) = some cs.length) :
    (results fn tmps).run P w = .ok (.tuple #[.agg cs.toArray, x, y]) w := by
  have hp' : tmps[p]?.getD undef = .pointer (some ⟨b, o, none⟩) := by simpa using hp
  have hq' : tmps[q]?.getD undef = x := by simpa using hq
  have hr' : tmps[r]?.getD undef = y := by simpa using hr
  simp [results, h, hp', hq', hr', asAddr, run_loadVar_mid w b o ty cs d hc hu hd hi]
theorem tree_res2 {fn : Func} (h : fn.results = #[.cell 2 26, .tmp 3, .tmp 4]) {Q : Ending → World → Prop} {tmps : Array Value} {W : World} {M : Nat} {x : Tv} {b c : Value} (hW : TC W M x) (hp : tmps.getD 2 undef = .pointer (some ⟨M, 0, none⟩)) (hq : tmps.getD 3 undef = b) (hr : tmps.getD 4 undef = c) (hQ : Q (.returned (.tuple #[x.val, b, c])) W) :
    bodyPost Tryd.prog fn Q Exit.ret { tmps := tmps, defers := [] } W := by
  refine bodyPost_ret (v := .tuple #[x.val, b, c]) ?_ rfl hQ
  exact results_mid_tmp2 h _ _ M 0 (tcv x) _ _ _ hp hq hr hW.range Tryd.underlying26 rfl (by kernel_rfl)
/-- What the reference's Parse answers. -/
def RRP (w : World) : Res → Ending → World → Prop
  | .val jv, e, w' => ∃ x : Tv, e = .returned (.tuple #[x.val, .int .i64 0, .int .i64 0]) ∧ TJ (fun b => w.heap.size ≤ b) w' x jv ∧ Below w.heap.size w w'
  | .err j l, e, w' => e = .returned (.tuple #[TN.val, .int .i64 (j : Int), .int .i64 (if l then 6 else 2)]) ∧ Below w.heap.size w w'
theorem Chg.toBelow {F : Nat → Prop} {w w' : World} (h : Chg F w w') (hf : ∀ b, b < w.heap.size → ¬ F b) : Below w.heap.size w w' := ⟨h.os, h.tape, h.output, h.size, fun b hb => h.other b hb (hf b hb)⟩
/-- The answer's variable emptied, in whatever order. -/
def rpΩ (U : World) (M : Nat) : Nat → (Nat → Value) → World → Prop
  | 0, _, W => Below U.heap.size U W
  | _ + 1, _, W => ∃ W0, Below U.heap.size U W0 ∧ W = set5 W0 M TN
theorem rpΩ.rb {U : World} {M k : Nat} {V : Nat → Value} {W : World} {s : ByteArray} {j d : Nat} {l : Bool} (hO : rpΩ U M k V W) (h : RB U (M + 1) s j d l) : RB W (M + 1) s j d l := by
  cases k with
  | zero => exact h.keep (Below.block hO _ h.lt)
  | succ k =>
    obtain ⟨W0, hb, rfl⟩ := hO
    exact (h.keep (hb.block _ h.lt)).keep (set5_other _ _ _ (by omega))
def rpe12 (M j : Nat) : Nat → Value
  | 0 => .agg #[.int .i64 0, .bool false, .string ⟨#[]⟩, .slice none 0 0, .slice none 0 0]
  | 1 => .pointer (some ⟨M + 1, 0, none⟩)
  | 2 => .pointer (some ⟨M + 1, 0, none⟩)
  | 3 => .pointer (some ⟨M + 1, 1, none⟩)
  | 4 => .int .i64 (j : Int)
  | 5 => undef
  | 6 => .int .i64 (j : Int)
  | 7 => .int .i64 2
  | _ => undef
def rpe10 (M j : Nat) : Nat → Value
  | 0 => .agg #[.int .i64 0, .bool false, .string ⟨#[]⟩, .slice none 0 0, .slice none 0 0]
  | 1 => .pointer (some ⟨M + 1, 0, none⟩)
  | 2 => .pointer (some ⟨M + 1, 0, none⟩)
  | 3 => .pointer (some ⟨M + 1, 1, none⟩)
  | 4 => .int .i64 (j : Int)
  | 5 => undef
  | 6 => .int .i64 (j : Int)
  | 7 => .int .i64 6
  | _ => undef
variable {w : World} {s : ByteArray}
set_option maxHeartbeats 16000000 in
theorem rparse_any (hs : s.size ≤ 9223372036854775807) (HO : s.size ≤ 8192 → ∀ g, ROC g s) :
    Calls Tryd.prog 10 #[.string s] w fun e w' => RRP w (whole s) e w' := by
  obtain ⟨a1, a2⟩ := rt0_at w
  obtain ⟨M, hM⟩ : ∃ M, w.heap.size = M := ⟨_, rfl⟩
  have HMM : Hid (w.heap.size = M) := hM
  rw [hM] at a1 a2
  obtain ⟨U, hU⟩ : ∃ U, rt0 w = U := ⟨_, rfl⟩
  rw [hU] at a1 a2
  have HU : Hid (w.alloc (.cells #[.int .i64 0, .bool false, .string ⟨#[]⟩, .slice none 0 0, .slice none 0 0] 26) = U) := hU
  have hus : U.heap.size = M + 1 := by rw [← hU]; simp [rt0, hM]
  by_cases hl : 8192 < s.size
  · have hl' : (8192 : Int) < (s.size : Int) := by omega
    have HR : Hid (whole s = .err 0 true) := by show _ = _; unfold whole; rw [if_pos hl]
    obtain ⟨y0, y1, y2, y3, y4, yf⟩ := a1.cells
    have yf0 := yf 0; have yf1 := yf 1; have yf2 := yf 2; have yf3 := yf 3; have yf4 := yf 4
    simp only [TN, SN] at y0 y1 y2 y3 y4
    have HT : Hid (TC (set5 U M TN) M TN) := set5_at a1 TN
    have HB : Hid (Below w.heap.size w (set5 U M TN)) := Chg.toBelow (F := fun b => b = M) (Chg.trans (Chg.ofBelow (by rw [hM]; exact a2)) (set5_chg U M TN)) (fun b hb e => by omega)
    clear a1 a2 yf hU hl
    go_enter Tryd.func10, Tryd.ntmps10
    go_wp2_with (rw [HU.out])
    have hf := HT.out
    have hb := HB.out
    simp only [set5, TN, SN] at hf hb
    refine tree_res2 Tryd.results10 (M := M) (x := TN) hf rfl rfl rfl ?_
    rw [HR.out]
    exact ⟨rfl, hb⟩
  · have hl' : ¬ (8192 : Int) < (s.size : Int) := by omega
    have HR0 : Hid (whole s = whole' s) := by show _ = _; unfold whole; rw [if_neg hl]; rfl
    have HS : Hid (s.size ≤ 8192) := Nat.le_of_not_lt hl
    have HVC : Hid (RVC (M + 1) s 16) := rvalue_any HS.out (HO HS.out (M + 1)) 16
    obtain ⟨V, hV⟩ : ∃ V, U.alloc (.cells #[.string s, .int .i64 0, .int .i64 0, .bool false] 61) = V := ⟨_, rfl⟩
    have HV : Hid (U.alloc (.cells #[.string s, .int .i64 0, .int .i64 0, .bool false] 61) = V) := hV
    have HP0 : Hid (RB V (M + 1) s 0 0 false) := by rw [← hV, ← hus]; exact heap_alloc_new _ _
    have HT0 : Hid (TC V M TN) := by rw [← hV]; exact a1.keep (heap_alloc_old _ _ a1.lt)
    have HB0 : Hid (Below M w V) := by rw [← hV]; exact a2.alloc (by omega) _
    have hvs : M + 1 < V.heap.size := HP0.out.lt
    obtain ⟨R, hR⟩ : ∃ R, whole' s = R := ⟨_, rfl⟩
    have HR : Hid ((match val s 16 (sk s 0) with
      | .ok v j => if sk s j < s.size then Res.err (sk s j) false else .val v
      | .bad j => .err j false
      | .big j => .err j true) = R) := hR
    rw [HR0.out, hR]
    clear a1 a2 hU hV hR HR0 hs hl HO
    go_enter Tryd.func10, Tryd.ntmps10
    go_wp2_with (rw [HU.out])
    go_wp2_with fail
    rw [HV.out]
    refine (rblanks_any HP0.out (Nat.zero_le _) HS.out).mono ?_
    rintro e W2 ⟨rfl, p, c⟩
    have hi := sk_le (s := s) (i := 0) (Nat.zero_le _)
    obtain ⟨i, hii⟩ : ∃ i, sk s 0 = i := ⟨_, rfl⟩
    rw [hii] at p hi HR
    have HP2 : Hid (RB W2 (M + 1) s i 0 false) := p
    have HC2 : Hid (Chg (fun b => M ≤ b) w W2) := Chg.trans (Chg.ofBelow (by rw [HMM.out]; exact HB0.out)) (c.mono (fun b e => by omega))
    have HT2 : Hid (TC W2 M TN) := HT0.out.keep (c.other M HT0.out.lt (by omega))
    have hv2 : M + 1 < W2.heap.size := p.lt
    clear p c HP0 HT0 HB0 hii hvs
    go_wp2_with fail
    refine (HVC.out W2 i 0 HP2.out hi rfl).mono ?_
    intro e W3 hvp
    have HIN : Hid _ := val_in s 16 i hi
    cases ho : val s 16 i with
    | bad j =>
      rw [ho] at hvp
      obtain ⟨x, rfl, ⟨d', p⟩, c⟩ := hvp
      have HRR : Hid (R = .err j false) := by show _ = _; rw [← HR.out, ho]
      obtain ⟨xk, xb, xt, ⟨ka, kn, kc⟩, ⟨pa, pn, pc⟩⟩ := x
      rw [show Tv.val ⟨xk, xb, xt, ⟨ka, kn, kc⟩, ⟨pa, pn, pc⟩⟩ = .agg #[.int .i64 xk, .bool xb, .string xt, .slice ka kn kc, .slice pa pn pc] from rfl]
      obtain ⟨W4, hW4⟩ : ∃ W4, W3.alloc (.cells #[.int .i64 xk, .bool xb, .string xt, .slice ka kn kc, .slice pa pn pc] 26) = W4 := ⟨_, rfl⟩
      have HW4 : Hid (W3.alloc (.cells #[.int .i64 xk, .bool xb, .string xt, .slice ka kn kc, .slice pa pn pc] 26) = W4) := hW4
      have HP4 : Hid (RB W4 (M + 1) s j d' false) := by rw [← hW4]; exact p.keep (heap_alloc_old _ _ p.lt)
      have hM3 : TC W3 M TN := HT2.out.keep (c.other M HT2.out.lt (by omega))
      have HT4 : Hid (TC W4 M TN) := by rw [← hW4]; exact hM3.keep (heap_alloc_old _ _ hM3.lt)
      have HC4 : Hid (Chg (fun b => M ≤ b) w W4) := by rw [← hW4]; exact Chg.trans HC2.out (Chg.trans (c.mono (fun b e => by omega)) ((Chg.refl _ _).alloc _))
      obtain ⟨r0, r1, r2, r3⟩ := HP4.out.cells
      obtain ⟨y0, y1, y2, y3, y4, yf⟩ := HT4.out.cells
      have yf0 := yf 0; have yf1 := yf 1; have yf2 := yf 2; have yf3 := yf 3; have yf4 := yf 4
      simp only [TN, SN] at y0 y1 y2 y3 y4
      clear p c hM3 yf hW4 ho HR HIN
      go_wp2_with (rw [HW4.out])
      refine RU.wp_rgn' [5] (rpe12 M j) (fun _ => 1) (rpΩ W4 M) (by kernel_rfl) (by kernel_rfl) (show Below W4.heap.size W4 _ from (Below.refl _ _).drew) ?_ ?_
      · refine ⟨?_, ?_, ?_, ?_, ?_, ?_, ?_, ?_, trivial⟩
        · refine RU.ObT.pure rfl rfl rfl (fun a V hf hp ev he hc W => ?_)
          simp only [List.getElem_toArray, List.getElem_cons_succ, List.getElem_cons_zero, execOp, Option.map_some, Option.map_none]
          first | (go_simp; done) | (go_simp; rfl) | rfl
        · refine RU.ObT.pure rfl rfl rfl (fun a V hf hp ev he hc W => ?_)
          have q5 : ev (.tmp 5) = .pointer (some ⟨M + 1, 0, none⟩) := (he (.tmp 5)).trans (hf 5 rfl)
          simp only [List.getElem_toArray, List.getElem_cons_succ, List.getElem_cons_zero, execOp, Option.map_some, Option.map_none]; rw [q5]
          first | (go_simp; done) | (go_simp; rfl) | rfl
        · refine RU.ObT.pure rfl rfl rfl (fun a V hf hp ev he hc W => ?_)
          have q44 : ev (.tmp 44) = .pointer (some ⟨M + 1, 0, none⟩) := (he (.tmp 44)).trans (hp 1 44 rfl)
          simp only [List.getElem_toArray, List.getElem_cons_succ, List.getElem_cons_zero, execOp, Option.map_some, Option.map_none]; rw [q44]
          first | (go_simp; done) | (go_simp; rfl) | rfl
        · refine RU.ObT.pure rfl rfl rfl (fun a V hf hp ev he hc W => ?_)
          have q45 : ev (.tmp 45) = .pointer (some ⟨M + 1, 0, none⟩) := (he (.tmp 45)).trans (hp 2 45 rfl)
          simp only [List.getElem_toArray, List.getElem_cons_succ, List.getElem_cons_zero, execOp, Option.map_some, Option.map_none]; rw [q45]
          first | (go_simp; done) | (go_simp; rfl) | rfl
        · refine RU.ObT.silent rfl (fun a W k0 V hO hf hp hk => ?_)
          have hcell := (rpΩ.rb hO HP4.out).cells.2.1
          refine RU.ob_val rfl (RU.wanted_none rfl) (fun ev he hc => ?_) ⟨rfl, hO⟩
          have q46 : ev (.tmp 46) = .pointer (some ⟨M + 1, 1, none⟩) := (he (.tmp 46)).trans (hp 3 46 rfl)
          simp only [List.getElem_toArray, List.getElem_cons_succ, List.getElem_cons_zero, execOp, Option.map_some, Option.map_none]; rw [q46]
          first | (go_simp; done) | (go_simp; rfl) | rfl
        · refine RU.ObT.loud (j := 0) rfl (fun a W V hO hf hp => ?_)
          have hB : Below W4.heap.size W4 W := hO
          have q1 : a.eval (.tmp 2) = .pointer (some ⟨M, 0, none⟩) := hf 2 rfl
          have q2 : a.eval (.tmp 43) = .agg #[.int .i64 0, .bool false, .string ⟨#[]⟩, .slice none 0 0, .slice none 0 0] := hp 0 43 rfl
          have hT : TC W M TN := HT4.out.keep (hB.block _ HT4.out.lt)
          obtain ⟨y0, y1, y2, y3, y4, yf⟩ := hT.cells
          have yf0 := yf 0; have yf1 := yf 1; have yf2 := yf 2; have yf3 := yf 3; have yf4 := yf 4
          simp only [TN, SN] at y0 y1 y2 y3 y4
          refine RU.ob_skip (w' := set5 W M TN) rfl (RU.wanted_none rfl) (fun ev he hc => ?_) ⟨_, rfl, W, hB, rfl⟩
          have h1 := (he (.tmp 2)).trans q1
          have h2 := (he (.tmp 43)).trans q2
          simp only [List.getElem_toArray, List.getElem_cons_succ, List.getElem_cons_zero, execOp, h1, h2]
          simp only [set5, TN, SN]
          go_simp
        · refine RU.ObT.pure rfl rfl rfl (fun a V hf hp ev he hc W => ?_)
          have q47 : ev (.tmp 47) = .int .i64 (j : Int) := (he (.tmp 47)).trans (hp 4 47 rfl)
          simp only [List.getElem_toArray, List.getElem_cons_succ, List.getElem_cons_zero, execOp, Option.map_some, Option.map_none]; rw [q47]
          first | (go_simp; done) | (go_simp; rfl) | rfl
        · refine RU.ObT.pure rfl rfl rfl (fun a V hf hp ev he hc W => ?_)
          simp only [List.getElem_toArray, List.getElem_cons_succ, List.getElem_cons_zero, execOp, Option.map_some, Option.map_none]
          try simp only [hc]
          first | (go_simp; done) | (go_simp; rfl) | rfl
      intro W6 VW6 hOW6
      have P6 : Hid (∃ W0, Below W4.heap.size W4 W0 ∧ W6 = set5 W0 M TN) := hOW6
      clear hOW6
      simp only [RU.lay, RU.val, show RU.at' [5] 0 = none from rfl, show RU.at' [5] 1 = none from rfl, show RU.at' [5] 2 = none from rfl, show RU.at' [5] 3 = none from rfl, show RU.at' [5] 4 = none from rfl, show RU.at' [5] 5 = some 0 from rfl, show RU.at' [5] 6 = none from rfl, show RU.at' [5] 7 = none from rfl, rpe12, Act.put]
      simp only [List.setIfInBounds_toArray, List.set_cons_succ, List.set_cons_zero]
      obtain ⟨W0, hb, rfl⟩ := P6.out
      go_wp2
      refine tree_res2 Tryd.results10 (M := M) (x := TN) (set5_at (HT4.out.keep (hb.block _ HT4.out.lt)) TN) rfl rfl rfl ?_
      rw [HRR.out]
      exact ⟨rfl, Chg.toBelow (F := fun b => M ≤ b) (Chg.trans HC4.out (Chg.trans (Chg.ofBelow hb) ((set5_chg W0 M TN).mono (fun b e => by omega)))) (fun b hb e => by have := HMM.out; omega)⟩
    | big j =>
      rw [ho] at hvp
      obtain ⟨x, rfl, ⟨d', p⟩, c⟩ := hvp
      have HRR : Hid (R = .err j true) := by show _ = _; rw [← HR.out, ho]
      obtain ⟨xk, xb, xt, ⟨ka, kn, kc⟩, ⟨pa, pn, pc⟩⟩ := x
      rw [show Tv.val ⟨xk, xb, xt, ⟨ka, kn, kc⟩, ⟨pa, pn, pc⟩⟩ = .agg #[.int .i64 xk, .bool xb, .string xt, .slice ka kn kc, .slice pa pn pc] from rfl]
      obtain ⟨W4, hW4⟩ : ∃ W4, W3.alloc (.cells #[.int .i64 xk, .bool xb, .string xt, .slice ka kn kc, .slice pa pn pc] 26) = W4 := ⟨_, rfl⟩
      have HW4 : Hid (W3.alloc (.cells #[.int .i64 xk, .bool xb, .string xt, .slice ka kn kc, .slice pa pn pc] 26) = W4) := hW4
      have HP4 : Hid (RB W4 (M + 1) s j d' true) := by rw [← hW4]; exact p.keep (heap_alloc_old _ _ p.lt)
      have hM3 : TC W3 M TN := HT2.out.keep (c.other M HT2.out.lt (by omega))
      have HT4 : Hid (TC W4 M TN) := by rw [← hW4]; exact hM3.keep (heap_alloc_old _ _ hM3.lt)
      have HC4 : Hid (Chg (fun b => M ≤ b) w W4) := by rw [← hW4]; exact Chg.trans HC2.out (Chg.trans (c.mono (fun b e => by omega)) ((Chg.refl _ _).alloc _))
      obtain ⟨r0, r1, r2, r3⟩ := HP4.out.cells
      obtain ⟨y0, y1, y2, y3, y4, yf⟩ := HT4.out.cells
      have yf0 := yf 0; have yf1 := yf 1; have yf2 := yf 2; have yf3 := yf 3; have yf4 := yf 4
      simp only [TN, SN] at y0 y1 y2 y3 y4
      clear p c hM3 yf hW4 ho HR HIN
      go_wp2_with (rw [HW4.out])
      refine RU.wp_rgn' [5] (rpe10 M j) (fun _ => 1) (rpΩ W4 M) (by kernel_rfl) (by kernel_rfl) (show Below W4.heap.size W4 _ from (Below.refl _ _).drew) ?_ ?_
      · refine ⟨?_, ?_, ?_, ?_, ?_, ?_, ?_, ?_, trivial⟩
        · refine RU.ObT.pure rfl rfl rfl (fun a V hf hp ev he hc W => ?_)
          simp only [List.getElem_toArray, List.getElem_cons_succ, List.getElem_cons_zero, execOp, Option.map_some, Option.map_none]
          first | (go_simp; done) | (go_simp; rfl) | rfl
        · refine RU.ObT.pure rfl rfl rfl (fun a V hf hp ev he hc W => ?_)
          have q5 : ev (.tmp 5) = .pointer (some ⟨M + 1, 0, none⟩) := (he (.tmp 5)).trans (hf 5 rfl)
          simp only [List.getElem_toArray, List.getElem_cons_succ, List.getElem_cons_zero, execOp, Option.map_some, Option.map_none]; rw [q5]
          first | (go_simp; done) | (go_simp; rfl) | rfl
        · refine RU.ObT.pure rfl rfl rfl (fun a V hf hp ev he hc W => ?_)
          have q37 : ev (.tmp 37) = .pointer (some ⟨M + 1, 0, none⟩) := (he (.tmp 37)).trans (hp 1 37 rfl)
          simp only [List.getElem_toArray, List.getElem_cons_succ, List.getElem_cons_zero, execOp, Option.map_some, Option.map_none]; rw [q37]
          first | (go_simp; done) | (go_simp; rfl) | rfl
        · refine RU.ObT.pure rfl rfl rfl (fun a V hf hp ev he hc W => ?_)
          have q38 : ev (.tmp 38) = .pointer (some ⟨M + 1, 0, none⟩) := (he (.tmp 38)).trans (hp 2 38 rfl)
          simp only [List.getElem_toArray, List.getElem_cons_succ, List.getElem_cons_zero, execOp, Option.map_some, Option.map_none]; rw [q38]
          first | (go_simp; done) | (go_simp; rfl) | rfl
        · refine RU.ObT.silent rfl (fun a W k0 V hO hf hp hk => ?_)
          have hcell := (rpΩ.rb hO HP4.out).cells.2.1
          refine RU.ob_val rfl (RU.wanted_none rfl) (fun ev he hc => ?_) ⟨rfl, hO⟩
          have q39 : ev (.tmp 39) = .pointer (some ⟨M + 1, 1, none⟩) := (he (.tmp 39)).trans (hp 3 39 rfl)
          simp only [List.getElem_toArray, List.getElem_cons_succ, List.getElem_cons_zero, execOp, Option.map_some, Option.map_none]; rw [q39]
          first | (go_simp; done) | (go_simp; rfl) | rfl
        · refine RU.ObT.loud (j := 0) rfl (fun a W V hO hf hp => ?_)
          have hB : Below W4.heap.size W4 W := hO
          have q1 : a.eval (.tmp 2) = .pointer (some ⟨M, 0, none⟩) := hf 2 rfl
          have q2 : a.eval (.tmp 36) = .agg #[.int .i64 0, .bool false, .string ⟨#[]⟩, .slice none 0 0, .slice none 0 0] := hp 0 36 rfl
          have hT : TC W M TN := HT4.out.keep (hB.block _ HT4.out.lt)
          obtain ⟨y0, y1, y2, y3, y4, yf⟩ := hT.cells
          have yf0 := yf 0; have yf1 := yf 1; have yf2 := yf 2; have yf3 := yf 3; have yf4 := yf 4
          simp only [TN, SN] at y0 y1 y2 y3 y4
          refine RU.ob_skip (w' := set5 W M TN) rfl (RU.wanted_none rfl) (fun ev he hc => ?_) ⟨_, rfl, W, hB, rfl⟩
          have h1 := (he (.tmp 2)).trans q1
          have h2 := (he (.tmp 36)).trans q2
          simp only [List.getElem_toArray, List.getElem_cons_succ, List.getElem_cons_zero, execOp, h1, h2]
          simp only [set5, TN, SN]
          go_simp
        · refine RU.ObT.pure rfl rfl rfl (fun a V hf hp ev he hc W => ?_)
          have q40 : ev (.tmp 40) = .int .i64 (j : Int) := (he (.tmp 40)).trans (hp 4 40 rfl)
          simp only [List.getElem_toArray, List.getElem_cons_succ, List.getElem_cons_zero, execOp, Option.map_some, Option.map_none]; rw [q40]
          first | (go_simp; done) | (go_simp; rfl) | rfl
        · refine RU.ObT.pure rfl rfl rfl (fun a V hf hp ev he hc W => ?_)
          simp only [List.getElem_toArray, List.getElem_cons_succ, List.getElem_cons_zero, execOp, Option.map_some, Option.map_none]
          try simp only [hc]
          first | (go_simp; done) | (go_simp; rfl) | rfl
      intro W6 VW6 hOW6
      have P6 : Hid (∃ W0, Below W4.heap.size W4 W0 ∧ W6 = set5 W0 M TN) := hOW6
      clear hOW6
      simp only [RU.lay, RU.val, show RU.at' [5] 0 = none from rfl, show RU.at' [5] 1 = none from rfl, show RU.at' [5] 2 = none from rfl, show RU.at' [5] 3 = none from rfl, show RU.at' [5] 4 = none from rfl, show RU.at' [5] 5 = some 0 from rfl, show RU.at' [5] 6 = none from rfl, show RU.at' [5] 7 = none from rfl, rpe10, Act.put]
      simp only [List.setIfInBounds_toArray, List.set_cons_succ, List.set_cons_zero]
      obtain ⟨W0, hb, rfl⟩ := P6.out
      go_wp2
      refine tree_res2 Tryd.results10 (M := M) (x := TN) (set5_at (HT4.out.keep (hb.block _ HT4.out.lt)) TN) rfl rfl rfl ?_
      rw [HRR.out]
      exact ⟨rfl, Chg.toBelow (F := fun b => M ≤ b) (Chg.trans HC4.out (Chg.trans (Chg.ofBelow hb) ((set5_chg W0 M TN).mono (fun b e => by omega)))) (fun b hb e => by have := HMM.out; omega)⟩
    | ok jv q =>
      rw [ho] at hvp
      obtain ⟨x, rfl, p, c, htj⟩ := hvp
      have hq := HIN.out
      rw [ho] at hq
      obtain ⟨hq1, hq2⟩ := hq
      have HR1 : Hid ((if sk s q < s.size then Res.err (sk s q) false else .val jv) = R) := by show _ = _; rw [← HR.out, ho]
      obtain ⟨xk, xb, xt, ⟨ka, kn, kc⟩, ⟨pa, pn, pc⟩⟩ := x
      rw [show Tv.val ⟨xk, xb, xt, ⟨ka, kn, kc⟩, ⟨pa, pn, pc⟩⟩ = .agg #[.int .i64 xk, .bool xb, .string xt, .slice ka kn kc, .slice pa pn pc] from rfl]
      obtain ⟨W4, hW4⟩ : ∃ W4, W3.alloc (.cells #[.int .i64 xk, .bool xb, .string xt, .slice ka kn kc, .slice pa pn pc] 26) = W4 := ⟨_, rfl⟩
      have HW4 : Hid (W3.alloc (.cells #[.int .i64 xk, .bool xb, .string xt, .slice ka kn kc, .slice pa pn pc] 26) = W4) := hW4
      have HP3 : Hid (RB W4 (M + 1) s q 0 false) := by rw [← hW4]; exact p.keep (heap_alloc_old _ _ p.lt)
      have hM3 : TC W3 M TN := HT2.out.keep (c.other M HT2.out.lt (by omega))
      have HT3 : Hid (TC W4 M TN) := by rw [← hW4]; exact hM3.keep (heap_alloc_old _ _ hM3.lt)
      have HC3 : Hid (Chg (fun b => M ≤ b) w W4) := by rw [← hW4]; exact Chg.trans HC2.out (Chg.trans (c.mono (fun b e => by omega)) ((Chg.refl _ _).alloc _))
      have hw3 : W2.heap.size ≤ W3.heap.size := c.size
      obtain ⟨b6, hb6⟩ : ∃ b6, W3.heap.size = b6 := ⟨_, rfl⟩
      have HX3 : Hid (TC W4 b6 ⟨xk, xb, xt, ⟨ka, kn, kc⟩, ⟨pa, pn, pc⟩⟩) := by rw [← hW4, ← hb6]; exact heap_alloc_new _ _
      have HTJ : Hid (TJ (fun b => W2.heap.size ≤ b ∧ b < b6) W4 ⟨xk, xb, xt, ⟨ka, kn, kc⟩, ⟨pa, pn, pc⟩⟩ jv) := htj.keep (fun b hb hlt => ⟨⟨hb, by omega⟩, by rw [← hW4]; exact heap_alloc_old _ _ hlt⟩) (by rw [← hW4]; simp)
      have hM6 : M + 1 < b6 := by omega
      clear p c hM3 hW4 ho HR HIN htj
      go_wp2_with (rw [HW4.out])
      refine (rblanks_any HP3.out hq2 HS.out).mono ?_
      rintro e W5 ⟨rfl, p, c⟩
      have hm := sk_le (s := s) (i := q) hq2
      obtain ⟨m, hmm⟩ : ∃ m, sk s q = m := ⟨_, rfl⟩
      rw [hmm] at p hm HR1
      have HP5 : Hid (RB W5 (M + 1) s m 0 false) := p
      have HT5 : Hid (TC W5 M TN) := HT3.out.keep (c.other M HT3.out.lt (by omega))
      have HX5 : Hid (TC W5 b6 ⟨xk, xb, xt, ⟨ka, kn, kc⟩, ⟨pa, pn, pc⟩⟩) := HX3.out.keep (c.other b6 HX3.out.lt (by omega))
      have HC5 : Hid (Chg (fun b => M ≤ b) w W5) := Chg.trans HC3.out (c.mono (fun b e => by omega))
      have HTJ5 : Hid (TJ (fun b => W2.heap.size ≤ b ∧ b < b6) W5 ⟨xk, xb, xt, ⟨ka, kn, kc⟩, ⟨pa, pn, pc⟩⟩ jv) := HTJ.out.keep (fun b hb hlt => ⟨hb, c.other b hlt (by have h1 := hb.1; omega)⟩) c.size
      obtain ⟨r0, r1, r2, r3⟩ := p.cells
      obtain ⟨y0, y1, y2, y3, y4, yf⟩ := HT5.out.cells
      obtain ⟨z0, z1, z2, z3, z4, zf⟩ := HX5.out.cells
      have yf0 := yf 0; have yf1 := yf 1; have yf2 := yf 2; have yf3 := yf 3; have yf4 := yf 4
      simp only [TN, SN, Sv.v] at y0 y1 y2 y3 y4 z0 z1 z2 z3 z4
      have b0 := HS.out
      clear p c yf zf hmm HTJ HC3 HX3 HT3 HP3 hq1 hq2
      by_cases hlt : m < s.size
      · have hne : ((m : Int) == (s.size : Int)) = false := by simp only [beq_eq_false_iff_ne, ne_eq]; omega
        have HRR : Hid (R = .err m false) := by show _ = _; rw [← HR1.out, if_pos hlt]
        have HP4 : Hid (RB W5 (M + 1) s m 0 false) := HP5
        have HT4 : Hid (TC W5 M TN) := HT5
        have HC4 : Hid (Chg (fun b => M ≤ b) w W5) := HC5
        clear hlt
        go_wp2
        refine RU.wp_rgn' [5] (rpe12 M m) (fun _ => 1) (rpΩ W5 M) (by kernel_rfl) (by kernel_rfl) (show Below W5.heap.size W5 _ from (Below.refl _ _).drew) ?_ ?_
        · refine ⟨?_, ?_, ?_, ?_, ?_, ?_, ?_, ?_, trivial⟩
          · refine RU.ObT.pure rfl rfl rfl (fun a V hf hp ev he hc W => ?_)
            simp only [List.getElem_toArray, List.getElem_cons_succ, List.getElem_cons_zero, execOp, Option.map_some, Option.map_none]
            first | (go_simp; done) | (go_simp; rfl) | rfl
          · refine RU.ObT.pure rfl rfl rfl (fun a V hf hp ev he hc W => ?_)
            have q5 : ev (.tmp 5) = .pointer (some ⟨M + 1, 0, none⟩) := (he (.tmp 5)).trans (hf 5 rfl)
            simp only [List.getElem_toArray, List.getElem_cons_succ, List.getElem_cons_zero, execOp, Option.map_some, Option.map_none]; rw [q5]
            first | (go_simp; done) | (go_simp; rfl) | rfl
          · refine RU.ObT.pure rfl rfl rfl (fun a V hf hp ev he hc W => ?_)
            have q44 : ev (.tmp 44) = .pointer (some ⟨M + 1, 0, none⟩) := (he (.tmp 44)).trans (hp 1 44 rfl)
            simp only [List.getElem_toArray, List.getElem_cons_succ, List.getElem_cons_zero, execOp, Option.map_some, Option.map_none]; rw [q44]
            first | (go_simp; done) | (go_simp; rfl) | rfl
          · refine RU.ObT.pure rfl rfl rfl (fun a V hf hp ev he hc W => ?_)
            have q45 : ev (.tmp 45) = .pointer (some ⟨M + 1, 0, none⟩) := (he (.tmp 45)).trans (hp 2 45 rfl)
            simp only [List.getElem_toArray, List.getElem_cons_succ, List.getElem_cons_zero, execOp, Option.map_some, Option.map_none]; rw [q45]
            first | (go_simp; done) | (go_simp; rfl) | rfl
          · refine RU.ObT.silent rfl (fun a W k0 V hO hf hp hk => ?_)
            have hcell := (rpΩ.rb hO HP4.out).cells.2.1
            refine RU.ob_val rfl (RU.wanted_none rfl) (fun ev he hc => ?_) ⟨rfl, hO⟩
            have q46 : ev (.tmp 46) = .pointer (some ⟨M + 1, 1, none⟩) := (he (.tmp 46)).trans (hp 3 46 rfl)
            simp only [List.getElem_toArray, List.getElem_cons_succ, List.getElem_cons_zero, execOp, Option.map_some, Option.map_none]; rw [q46]
            first | (go_simp; done) | (go_simp; rfl) | rfl
          · refine RU.ObT.loud (j := 0) rfl (fun a W V hO hf hp => ?_)
            have hB : Below W5.heap.size W5 W := hO
            have q1 : a.eval (.tmp 2) = .pointer (some ⟨M, 0, none⟩) := hf 2 rfl
            have q2 : a.eval (.tmp 43) = .agg #[.int .i64 0, .bool false, .string ⟨#[]⟩, .slice none 0 0, .slice none 0 0] := hp 0 43 rfl
            have hT : TC W M TN := HT4.out.keep (hB.block _ HT4.out.lt)
            obtain ⟨y0, y1, y2, y3, y4, yf⟩ := hT.cells
            have yf0 := yf 0; have yf1 := yf 1; have yf2 := yf 2; have yf3 := yf 3; have yf4 := yf 4
            simp only [TN, SN] at y0 y1 y2 y3 y4
            refine RU.ob_skip (w' := set5 W M TN) rfl (RU.wanted_none rfl) (fun ev he hc => ?_) ⟨_, rfl, W, hB, rfl⟩
            have h1 := (he (.tmp 2)).trans q1
            have h2 := (he (.tmp 43)).trans q2
            simp only [List.getElem_toArray, List.getElem_cons_succ, List.getElem_cons_zero, execOp, h1, h2]
            simp only [set5, TN, SN]
            go_simp
          · refine RU.ObT.pure rfl rfl rfl (fun a V hf hp ev he hc W => ?_)
            have q47 : ev (.tmp 47) = .int .i64 (m : Int) := (he (.tmp 47)).trans (hp 4 47 rfl)
            simp only [List.getElem_toArray, List.getElem_cons_succ, List.getElem_cons_zero, execOp, Option.map_some, Option.map_none]; rw [q47]
            first | (go_simp; done) | (go_simp; rfl) | rfl
          · refine RU.ObT.pure rfl rfl rfl (fun a V hf hp ev he hc W => ?_)
            simp only [List.getElem_toArray, List.getElem_cons_succ, List.getElem_cons_zero, execOp, Option.map_some, Option.map_none]
            try simp only [hc]
            first | (go_simp; done) | (go_simp; rfl) | rfl
        intro W6 VW6 hOW6
        have P6 : Hid (∃ W0, Below W5.heap.size W5 W0 ∧ W6 = set5 W0 M TN) := hOW6
        clear hOW6
        simp only [RU.lay, RU.val, show RU.at' [5] 0 = none from rfl, show RU.at' [5] 1 = none from rfl, show RU.at' [5] 2 = none from rfl, show RU.at' [5] 3 = none from rfl, show RU.at' [5] 4 = none from rfl, show RU.at' [5] 5 = some 0 from rfl, show RU.at' [5] 6 = none from rfl, show RU.at' [5] 7 = none from rfl, rpe12, Act.put]
        simp only [List.setIfInBounds_toArray, List.set_cons_succ, List.set_cons_zero]
        obtain ⟨W0, hb, rfl⟩ := P6.out
        go_wp2
        refine tree_res2 Tryd.results10 (M := M) (x := TN) (set5_at (HT4.out.keep (hb.block _ HT4.out.lt)) TN) rfl rfl rfl ?_
        rw [HRR.out]
        exact ⟨rfl, Chg.toBelow (F := fun b => M ≤ b) (Chg.trans HC4.out (Chg.trans (Chg.ofBelow hb) ((set5_chg W0 M TN).mono (fun b e => by omega)))) (fun b hb e => by have := HMM.out; omega)⟩
      · have heq : ((m : Int) == (s.size : Int)) = true := by simp only [beq_iff_eq]; omega
        have HRR : Hid (R = .val jv) := by show _ = _; rw [← HR1.out, if_neg hlt]
        have HFT : Hid (TC (set5 W5 M ⟨xk, xb, xt, ⟨ka, kn, kc⟩, ⟨pa, pn, pc⟩⟩) M ⟨xk, xb, xt, ⟨ka, kn, kc⟩, ⟨pa, pn, pc⟩⟩) := set5_at HT5.out _
        have HFB : Hid (Below w.heap.size w (set5 W5 M ⟨xk, xb, xt, ⟨ka, kn, kc⟩, ⟨pa, pn, pc⟩⟩)) := Chg.toBelow (F := fun b => M ≤ b) (Chg.trans HC5.out ((set5_chg _ _ _).mono (fun b e => by omega))) (fun b hb e => by have := HMM.out; omega)
        have HFJ : Hid (TJ (fun b => w.heap.size ≤ b) (set5 W5 M ⟨xk, xb, xt, ⟨ka, kn, kc⟩, ⟨pa, pn, pc⟩⟩) ⟨xk, xb, xt, ⟨ka, kn, kc⟩, ⟨pa, pn, pc⟩⟩ jv) := HTJ5.out.keep (fun b hb hlt => ⟨by have h1 := hb.1; have h2 := HMM.out; show _ ≤ _; omega, set5_other _ _ _ (by have h1 := hb.1; omega)⟩) (by rw [set5_size]; exact Nat.le_refl _)
        clear hlt
        go_wp2
        have hf := HFT.out
        have hb := HFB.out
        have hj := HFJ.out
        simp only [set5] at hf hb hj
        refine tree_res2 Tryd.results10 (M := M) (x := ⟨xk, xb, xt, ⟨ka, kn, kc⟩, ⟨pa, pn, pc⟩⟩) hf rfl rfl rfl ?_
        rw [HRR.out]
        exact ⟨_, rfl, hj, hb⟩
end Go.Proofs.YtefaohokmhdplaaDoor
