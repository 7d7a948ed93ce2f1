/- Package json: words and numbers. -/
import Derived.Test.YtefaohokmhdplaaDoorJsA
import Derived.Test.YtefaohokmhdplaaDoorJsR
import Derived.Deep.Cut
namespace Go.Proofs.YtefaohokmhdplaaDoor
open Go Go.RowKit
set_option linter.unusedSimpArgs false
set_option linter.unusedVariables false
set_option maxRecDepth 100000

variable {w : World} {g : Nat} {s : ByteArray} {i d : Nat}
def tk (s : ByteArray) (i : Nat) (c : Int) : Nat := if gb s i = c then i + 1 else i
theorem tk_le {s : ByteArray} {i : Nat} {c : Int} (h : i ≤ s.size) (h0 : c ≠ 0) : tk s i c ≤ s.size := by
  unfold tk; split
  · rename_i e; exact gb_lt (by rw [e]; exact h0)
  · exact h
theorem take_any (h : PB w g s i d) (hi : i ≤ s.size) (hs : s.size ≤ 8192) (c : Int) (h0 : c ≠ 0) :
    Calls Tryd.prog 66 #[.pointer (some ⟨g, 0, none⟩), .int .u8 c] w fun e w' => e = .returned (.bool (decide (gb s i = c))) ∧ PB w' g s (tk s i c) d ∧ Cg g w w' := by
  by_cases hc : gb s i = c
  · refine (take_yes h hi hs hc h0).mono ?_
    rintro e w' ⟨rfl, h1, h2⟩
    unfold tk; rw [if_pos hc, decide_eq_true hc]; exact ⟨rfl, h1, h2⟩
  · refine (take_no h hi hs hc).mono ?_
    rintro e w' ⟨rfl, n, rfl⟩
    unfold tk; rw [if_neg hc, decide_eq_false hc]; exact ⟨rfl, h.drew n, (Chg.refl _ _).drew n⟩
/-- A word's letters. -/
def lets (t : ByteArray) : List Int := cutb t 0 t.size
theorem lets_drop (t : ByteArray) {k : Nat} (h : k < t.size) : (lets t).drop k = gb t k :: (lets t).drop (k + 1) := by
  have hl : (lets t).length = t.size := cutb_length _ _ _
  rw [List.drop_eq_getElem_cons (by omega)]
  congr 1
  unfold lets cutb; simp
theorem lets_end (t : ByteArray) {k : Nat} (h : t.size ≤ k) : (lets t).drop k = [] := List.drop_of_length_le (by have : (lets t).length = t.size := cutb_length _ _ _; omega)
def orNil (b : Bool) (v : Value) : Value := if b then v else .nilIface
def okE (b : Bool) : Int := if b then 0 else 2
set_option maxHeartbeats 2000000 in
theorem word_any (h : PB w g s i d) (hi : i ≤ s.size) (hs : s.size ≤ 8192) (t : ByteArray) (v : Value) (ht : t.size ≤ 8192) (hz : ∀ k, k < t.size → gb t k ≠ 0) :
    Calls Tryd.prog 71 #[.pointer (some ⟨g, 0, none⟩), .string t, v] w fun e w' => e = .returned (.tuple #[orNil (wd s (lets t) i).2 v, .int .i64 (okE (wd s (lets t) i).2)]) ∧ PB w' g s (wd s (lets t) i).1 d ∧ Cg g w w' := by
  have H : Hid (PB w g s i d) := h
  have HS : Hid (s.size ≤ 8192) := hs
  have HZ : Hid (∀ k, k < t.size → gb t k ≠ 0) := hz
  have ht' : (t.size : Int) ≤ 8192 := by omega
  clear h hs hz ht
  go_enter Tryd.func71, Tryd.ntmps71
  go_wp2_with fail
  go_loopw [11] (fun q W => ∃ k j : Nat, q = .int .i64 (k : Int) ∧ k ≤ t.size ∧ PB W g s j d ∧ Cg g w W ∧ j ≤ s.size ∧ wd s ((lets t).drop k) j = wd s (lets t) i) (fun q _ => t.size - (intOf q).toNat)
  case atStart => exact ⟨0, i, rfl, Nat.zero_le _, H.out, Chg.refl _ _, hi, rfl⟩
  case round =>
    obtain ⟨k, j, rfl, hk, hp, hc, hj, he⟩ := hrel
    have HP : Hid (PB wr g s j d) := hp
    have HC : Hid (Cg g w wr) := hc
    have HE : Hid (wd s ((lets t).drop k) j = wd s (lets t) i) := he
    clear hp hc he
    by_cases hlt : k < t.size
    · have HD : Hid _ := lets_drop t hlt
      have h0 := HZ.out k hlt
      have hg : Hid _ := idx_gb hlt
      by_cases hgb : gb s j = gb t k
      · have HW : Hid (wd s ((lets t).drop (k + 1)) (j + 1) = wd s (lets t) i) := by
          show (_ : Nat × Bool) = _
          rw [← HE.out, HD.out]; simp only [wd, hgb, if_true]
        go_wp2_with fail
        rw [hg.out]
        refine (take_yes HP.out hj HS.out hgb h0).mono ?_
        rintro e W ⟨rfl, p1, p2⟩
        have P1 : Hid (PB W g s (j + 1) d) := p1
        have P2 : Hid (Cg g w W) := Chg.trans HC.out p2
        have hj' := gb_lt (s := s) (i := j) (by rw [hgb]; exact h0)
        clear p1 p2
        go_wp2
        go_roundw
        case rel => exact ⟨k + 1, j + 1, by go_num, hlt, P1.out, P2.out, hj', HW.out⟩
        case measure => simp [intOf]; omega
      · have HW : Hid ((j, false) = wd s (lets t) i) := by
          show (_ : Nat × Bool) = _
          rw [← HE.out, HD.out]; simp only [wd, hgb, if_false]
        go_wp2_with fail
        rw [hg.out]
        refine (take_no HP.out hj HS.out hgb).mono ?_
        rintro e W ⟨rfl, n, rfl⟩
        go_wp2
        go_ret2
        rw [← HW.out]
        exact ⟨rfl, HP.out.drew n, HC.out.drew n⟩
    · have HW : Hid ((j, true) = wd s (lets t) i) := by rw [← HE.out, lets_end t (by omega)]; rfl
      go_wp2
      go_ret2
      rw [← HW.out]
      exact ⟨rfl, HP.out, HC.out⟩
theorem nmb_tk (s : ByteArray) (i : Nat) : nmb s i = nint s (tk s i 45) := by unfold nmb tk; split <;> rfl
theorem nint_0 {s : ByteArray} {a : Nat} (h : gb s a = 48) : nint s a = nfra s (a + 1) := by unfold nint; rw [if_pos h]
theorem nint_d {s : ByteArray} {a : Nat} (h : gb s a ≠ 48) (k : isDg (gb s a) = true) : nint s a = nfra s (dgs s a) := by unfold nint; rw [if_neg h, if_pos k]
theorem nint_n {s : ByteArray} {a : Nat} (h : gb s a ≠ 48) (k : isDg (gb s a) = false) : nint s a = (a, false) := by unfold nint; rw [if_neg h, k]; rfl
theorem nfra_n {s : ByteArray} {a : Nat} (h : gb s a ≠ 46) : nfra s a = nexp s a := by unfold nfra; rw [if_neg h]
theorem nfra_d {s : ByteArray} {a : Nat} (h : gb s a = 46) (k : isDg (gb s (a + 1)) = true) : nfra s a = nexp s (dgs s (a + 1)) := by unfold nfra; rw [if_pos h, if_pos k]
theorem nfra_x {s : ByteArray} {a : Nat} (h : gb s a = 46) (k : isDg (gb s (a + 1)) = false) : nfra s a = (a + 1, false) := by unfold nfra; rw [if_pos h, k]; rfl
theorem nexp_n {s : ByteArray} {a : Nat} (h : ¬ (gb s a = 101 ∨ gb s a = 69)) : nexp s a = (a, true) := by unfold nexp; rw [if_neg h]
theorem nexp_p {s : ByteArray} {a : Nat} (h : gb s a = 101 ∨ gb s a = 69) (p : gb s (a + 1) = 43) : nexp s a = if isDg (gb s (a + 2)) then (dgs s (a + 2), true) else (a + 2, false) := by
  unfold nexp; rw [if_pos h]; simp only [p, true_or, if_true]
theorem nexp_m {s : ByteArray} {a : Nat} (h : gb s a = 101 ∨ gb s a = 69) (p : gb s (a + 1) ≠ 43) : nexp s a = if isDg (gb s (tk s (a + 1) 45)) then (dgs s (tk s (a + 1) 45), true) else (tk s (a + 1) 45, false) := by
  unfold nexp tk; rw [if_pos h]
  by_cases q : gb s (a + 1) = 45
  · simp only [p, q, or_true, if_true]
  · simp only [p, q, false_or, if_false]
/-- A piece of a text. -/
theorem sl_piece (s : ByteArray) (i j : Nat) : piece s i j = s.extract i j := rfl
def nm12 (g i j : Nat) (s t : ByteArray) : Nat → Value
  | 0 => .pointer (some ⟨g, 0, none⟩)
  | 1 => .pointer (some ⟨g, 0, none⟩)
  | 2 => .pointer (some ⟨g, 0, none⟩)
  | 3 => .string s
  | 4 => .int .i64 (i : Int)
  | 5 => .pointer (some ⟨g, 0, none⟩)
  | 6 => .pointer (some ⟨g, 0, none⟩)
  | 7 => .pointer (some ⟨g, 1, none⟩)
  | 8 => .int .i64 (j : Int)
  | 9 => .string t
  | 10 => .string t
  | 11 => .iface 71 (.string t)
  | 12 => .iface 71 (.string t)
  | 13 => .int .i64 0
  | _ => undef
def nmI (s : ByteArray) (g i d : Nat) (w : World) (a : Act) (W : World) : Prop := ∃ (B : Bool) (j : Nat), nmb s i = (if B then (j, false) else nfra s j) ∧ j ≤ s.size ∧ PB W g s j d ∧ Cg g w W ∧ ∃ (u1 u5 u6 u7 u8 u9 u10 u11 u12 u13 u14 u15 u16 u17 u19 u20 u21 u22 u23 u24 u25 u26 u27 u28 u29 u30 u31 u32 u33 u34 u35 u36 u37 u38 u39 u40 u41 u42 u43 u44 u45 u46 u47 u48 u49 u50 u51 : Value), a = { tmps := #[.pointer (some ⟨g, 0, none⟩), u1, .nilIface, .int .i64 0, .int .i64 (i : Int), u5, u6, u7, u8, u9, u10, u11, u12, u13, u14, u15, u16, u17, .bool B, u19, u20, u21, u22, u23, u24, u25, u26, u27, u28, u29, u30, u31, u32, u33, u34, u35, u36, u37, u38, u39, u40, u41, u42, u43, u44, u45, u46, u47, u48, u49, u50, u51], defers := [] }
def nmF (s : ByteArray) (g i d : Nat) (w : World) (a : Act) (W : World) : Prop := ∃ (B : Bool) (j : Nat), nmb s i = (if B then (j, false) else nexp s j) ∧ j ≤ s.size ∧ PB W g s j d ∧ Cg g w W ∧ ∃ (u1 u5 u6 u7 u8 u9 u10 u11 u12 u13 u14 u15 u16 u17 u18 u19 u20 u21 u22 u23 u24 u26 u27 u28 u29 u30 u31 u32 u33 u34 u35 u36 u37 u38 u39 u40 u41 u42 u43 u44 u45 u46 u47 u48 u49 u50 u51 : Value), a = { tmps := #[.pointer (some ⟨g, 0, none⟩), u1, .nilIface, .int .i64 0, .int .i64 (i : Int), u5, u6, u7, u8, u9, u10, u11, u12, u13, u14, u15, u16, u17, u18, u19, u20, u21, u22, u23, u24, .bool B, u26, u27, u28, u29, u30, u31, u32, u33, u34, u35, u36, u37, u38, u39, u40, u41, u42, u43, u44, u45, u46, u47, u48, u49, u50, u51], defers := [] }
def nmE (s : ByteArray) (g i d : Nat) (w : World) (a : Act) (W : World) : Prop := ∃ (B : Bool) (j : Nat), (if B then (∃ c, j = c + 1 ∧ (gb s c = 101 ∨ gb s c = 69) ∧ nmb s i = nexp s c) else nmb s i = (j, true)) ∧ j ≤ s.size ∧ PB W g s j d ∧ Cg g w W ∧ ∃ (u1 u5 u6 u7 u8 u9 u10 u11 u12 u13 u14 u15 u16 u17 u18 u19 u20 u21 u22 u23 u24 u25 u26 u27 u28 u29 u30 u32 u33 u34 u35 u36 u37 u38 u39 u40 u41 u42 u43 u44 u45 u46 u47 u48 u49 u50 u51 : Value), a = { tmps := #[.pointer (some ⟨g, 0, none⟩), u1, .nilIface, .int .i64 0, .int .i64 (i : Int), u5, u6, u7, u8, u9, u10, u11, u12, u13, u14, u15, u16, u17, u18, u19, u20, u21, u22, u23, u24, u25, u26, u27, u28, u29, u30, .bool B, u32, u33, u34, u35, u36, u37, u38, u39, u40, u41, u42, u43, u44, u45, u46, u47, u48, u49, u50, u51], defers := [] }
set_option maxHeartbeats 8000000 in
theorem number_any (h : PB w g s i d) (hi : i ≤ s.size) (hs : s.size ≤ 8192) :
    Calls Tryd.prog 73 #[.pointer (some ⟨g, 0, none⟩)] w fun e w' => e = .returned (.tuple #[orNil (nmb s i).2 (.iface 71 (.string (piece s i (nmb s i).1))), .int .i64 (okE (nmb s i).2)]) ∧ PB w' g s (nmb s i).1 d ∧ Cg g w w' := by
  have H : Hid (PB w g s i d) := h
  have HS : Hid (s.size ≤ 8192) := hs
  have HIN : Hid _ := @nmb_le s i hi
  obtain ⟨q0, q1, q2⟩ := h.cells
  clear h
  go_enter Tryd.func73, Tryd.ntmps73
  go_wp2_with fail
  refine (take_any H.out hi HS.out 45 (by decide)).mono ?_
  rintro e W1 ⟨rfl, p, q⟩
  have PW1 : Hid (PB W1 g s (tk s i 45) d) := p
  have CW1 : Hid (Cg g w W1) := Chg.trans (Chg.refl _ _) q
  clear p q
  have hj : tk s i 45 ≤ s.size := tk_le hi (by decide)
  have HN : Hid (nmb s i = nint s (tk s i 45)) := nmb_tk s i
  obtain ⟨j, hje⟩ : ∃ j, tk s i 45 = j := ⟨_, rfl⟩
  rw [hje] at HN PW1 hj
  clear hje
  go_upto_region 3 with (fail)
  refine Code.wp_mono (Q := fun e a' W' => e = .normal ∧ nmI s g i d w a' W') ?_ ?_
  · rintro e a9 W ⟨rfl, B, j, hR, hj, hp, hc, u1, u5, u6, u7, u8, u9, u10, u11, u12, u13, u14, u15, u16, u17, u19, u20, u21, u22, u23, u24, u25, u26, u27, u28, u29, u30, u31, u32, u33, u34, u35, u36, u37, u38, u39, u40, u41, u42, u43, u44, u45, u46, u47, u48, u49, u50, u51, rfl⟩
    have HP : Hid (PB W g s j d) := hp
    have HC : Hid (Cg g w W) := hc
    clear hp hc
    cases B with
    | true =>
      have HR : Hid (nmb s i = (j, false)) := hR
      clear hR
      go_wp2
      go_ret2
      rw [HR.out]
      exact ⟨rfl, HP.out, HC.out⟩
    | false =>
      have HN : Hid (nmb s i = nfra s j) := hR
      clear hR
      go_upto_region 5 with (fail)
      refine Code.wp_mono (Q := fun e a' W' => e = .normal ∧ nmF s g i d w a' W') ?_ ?_
      · have HP0 := HP; have HC0 := HC
        clear HP HC hj HN
        rintro e a9 W ⟨rfl, B, j, hR, hj, hp, hc, u1, u5, u6, u7, u8, u9, u10, u11, u12, u13, u14, u15, u16, u17, u18, u19, u20, u21, u22, u23, u24, u26, u27, u28, u29, u30, u31, u32, u33, u34, u35, u36, u37, u38, u39, u40, u41, u42, u43, u44, u45, u46, u47, u48, u49, u50, u51, rfl⟩
        have HP : Hid (PB W g s j d) := hp
        have HC : Hid (Cg g w W) := hc
        clear hp hc
        cases B with
        | true =>
          have HR : Hid (nmb s i = (j, false)) := hR
          clear hR
          go_wp2
          go_ret2
          rw [HR.out]
          exact ⟨rfl, HP.out, HC.out⟩
        | false =>
          have HN : Hid (nmb s i = nexp s j) := hR
          clear hR HP0 HC0
          go_upto_region 7 with (fail)
          refine Code.wp_mono (Q := fun e a' W' => e = .normal ∧ nmE s g i d w a' W') ?_ ?_
          · clear HP HC hj HN
            rintro e a9 W ⟨rfl, B, j, hR, hj, hp, hc, u1, u5, u6, u7, u8, u9, u10, u11, u12, u13, u14, u15, u16, u17, u18, u19, u20, u21, u22, u23, u24, u25, u26, u27, u28, u29, u30, u32, u33, u34, u35, u36, u37, u38, u39, u40, u41, u42, u43, u44, u45, u46, u47, u48, u49, u50, u51, rfl⟩
            have HP : Hid (PB W g s j d) := hp
            have HC : Hid (Cg g w W) := hc
            clear hp hc
            cases B with
            | false =>
              have HR : Hid (nmb s i = (j, true)) := hR
              clear hR
              have HIJ : Hid (i ≤ j) := by have := HIN.out.1; rw [HR.out] at this; exact this
              obtain ⟨U, hUW⟩ : ∃ U, W = U := ⟨_, rfl⟩
              have HPU : Hid (PB U g s j d) := by rw [← hUW]; exact HP.out
              have HCU : Hid (Cg g w U) := by rw [← hUW]; exact HC.out
              rw [hUW]
              clear hUW
              go_upto_region 12 with (fail)
              obtain ⟨t, ht⟩ : ∃ t, s.extract i j = t := ⟨_, rfl⟩
              have HTE : Hid (s.extract i j = t) := ht
              have HT : Hid (t.size ≤ 140737488355328) := by
                show t.size ≤ 140737488355328
                have := HS.out
                rw [← ht, ByteArray.size_extract]; omega
              clear ht
              have HU : Hid (PB U g s j d) := HPU.out
              have hij := HIJ.out
              refine RU.wp_rgn' [] (nm12 g i j s t) (fun _ => 0) (gΩ U) (by kernel_rfl) (by kernel_rfl) (show Below U.heap.size U _ from (Below.refl _ _).drew) ?_ ?_
              · refine ⟨?_, ?_, ?_, ?_, ?_, ?_, ?_, ?_, ?_, ?_, ?_, ?_, ?_, ?_, trivial⟩
                · refine RU.ObT.pure rfl rfl rfl (fun a V hf hp ev he hc W => ?_)
                  have q0 : ev (.tmp 0) = .pointer (some ⟨g, 0, none⟩) := (he (.tmp 0)).trans (hf 0 rfl)
                  simp only [List.getElem_toArray, List.getElem_cons_succ, List.getElem_cons_zero, execOp, Option.map_some, Option.map_none]; rw [q0]
                  first | (go_simp; done) | (go_simp; rfl) | rfl
                · refine RU.ObT.pure rfl rfl rfl (fun a V hf hp ev he hc W => ?_)
                  have q40 : ev (.tmp 40) = .pointer (some ⟨g, 0, none⟩) := (he (.tmp 40)).trans (hp 0 40 rfl)
                  simp only [List.getElem_toArray, List.getElem_cons_succ, List.getElem_cons_zero, execOp, Option.map_some, Option.map_none]; rw [q40]
                  first | (go_simp; done) | (go_simp; rfl) | rfl
                · refine RU.ObT.pure rfl rfl rfl (fun a V hf hp ev he hc W => ?_)
                  have q41 : ev (.tmp 41) = .pointer (some ⟨g, 0, none⟩) := (he (.tmp 41)).trans (hp 1 41 rfl)
                  simp only [List.getElem_toArray, List.getElem_cons_succ, List.getElem_cons_zero, execOp, Option.map_some, Option.map_none]; rw [q41]
                  first | (go_simp; done) | (go_simp; rfl) | rfl
                · refine RU.ObT.silent rfl (fun a W k0 V hO hf hp hk => ?_)
                  have hO' : Below U.heap.size U W := hO
                  have hcell := (HU.out.keep (hO'.block _ HU.out.lt)).cells.1
                  refine RU.ob_val rfl (RU.wanted_none rfl) (fun ev he hc => ?_) ⟨rfl, hO⟩
                  have q42 : ev (.tmp 42) = .pointer (some ⟨g, 0, none⟩) := (he (.tmp 42)).trans (hp 2 42 rfl)
                  simp only [List.getElem_toArray, List.getElem_cons_succ, List.getElem_cons_zero, execOp, Option.map_some, Option.map_none]; rw [q42]
                  first | (go_simp; done) | (go_simp; rfl) | rfl
                · refine RU.ObT.pure rfl rfl rfl (fun a V hf hp ev he hc W => ?_)
                  have q4 : ev (.tmp 4) = .int .i64 (i : Int) := (he (.tmp 4)).trans (hf 4 rfl)
                  simp only [List.getElem_toArray, List.getElem_cons_succ, List.getElem_cons_zero, execOp, Option.map_some, Option.map_none]; rw [q4]
                  first | (go_simp; done) | (go_simp; rfl) | rfl
                · refine RU.ObT.pure rfl rfl rfl (fun a V hf hp ev he hc W => ?_)
                  have q0 : ev (.tmp 0) = .pointer (some ⟨g, 0, none⟩) := (he (.tmp 0)).trans (hf 0 rfl)
                  simp only [List.getElem_toArray, List.getElem_cons_succ, List.getElem_cons_zero, execOp, Option.map_some, Option.map_none]; rw [q0]
                  first | (go_simp; done) | (go_simp; rfl) | rfl
                · refine RU.ObT.pure rfl rfl rfl (fun a V hf hp ev he hc W => ?_)
                  have q45 : ev (.tmp 45) = .pointer (some ⟨g, 0, none⟩) := (he (.tmp 45)).trans (hp 5 45 rfl)
                  simp only [List.getElem_toArray, List.getElem_cons_succ, List.getElem_cons_zero, execOp, Option.map_some, Option.map_none]; rw [q45]
                  first | (go_simp; done) | (go_simp; rfl) | rfl
                · refine RU.ObT.pure rfl rfl rfl (fun a V hf hp ev he hc W => ?_)
                  have q46 : ev (.tmp 46) = .pointer (some ⟨g, 0, none⟩) := (he (.tmp 46)).trans (hp 6 46 rfl)
                  simp only [List.getElem_toArray, List.getElem_cons_succ, List.getElem_cons_zero, execOp, Option.map_some, Option.map_none]; rw [q46]
                  first | (go_simp; done) | (go_simp; rfl) | rfl
                · refine RU.ObT.silent rfl (fun a W k0 V hO hf hp hk => ?_)
                  have hO' : Below U.heap.size U W := hO
                  have hcell := (HU.out.keep (hO'.block _ HU.out.lt)).cells.2.1
                  refine RU.ob_val rfl (RU.wanted_none rfl) (fun ev he hc => ?_) ⟨rfl, hO⟩
                  have q47 : ev (.tmp 47) = .pointer (some ⟨g, 1, none⟩) := (he (.tmp 47)).trans (hp 7 47 rfl)
                  simp only [List.getElem_toArray, List.getElem_cons_succ, List.getElem_cons_zero, execOp, Option.map_some, Option.map_none]; rw [q47]
                  first | (go_simp; done) | (go_simp; rfl) | rfl
                · refine RU.ObT.pure rfl rfl rfl (fun a V hf hp ev he hc W => ?_)
                  have q43 : ev (.tmp 43) = .string s := (he (.tmp 43)).trans (hp 3 43 rfl)
                  have q44 : ev (.tmp 44) = .int .i64 (i : Int) := (he (.tmp 44)).trans (hp 4 44 rfl)
                  have q48 : ev (.tmp 48) = .int .i64 (j : Int) := (he (.tmp 48)).trans (hp 8 48 rfl)
                  simp only [List.getElem_toArray, List.getElem_cons_succ, List.getElem_cons_zero, execOp, Option.map_some, Option.map_none]; rw [q43, q44, q48]
                  rw [← HTE.out]
                  first | (go_simp; done) | (go_simp; rfl) | rfl
                · refine RU.ObT.silent rfl (fun a W k0 V hO hf hp hk => ?_)
                  have hO' : Below U.heap.size U W := hO
                  have e49 : a.eval (.tmp 49) = .string t := hp 9 49 rfl
                  refine RU.ob_call (g := 85) (args := #[.string t]) rfl (RU.wanted_none rfl) (fun ev he hc => ?_) ((sclone_any t HT.out W).mono ?_)
                  · have h49 := (he (.tmp 49)).trans e49
                    have hfn := he (.func 85)
                    simp only [List.getElem_toArray, List.getElem_cons_succ, List.getElem_cons_zero, execOp, Option.map_some, Option.map_none]
                    simp only [resolve, invoke, Sem.run_bind, Sem.run_pure, Result.andThen_ok, List.map_toArray, List.map_cons, List.map_nil, h49, hfn, Act.eval, hc]
                    rfl
                  · rintro e' W2 ⟨rfl, hb2⟩
                    exact ⟨_, rfl, rfl, (hO'.trans (hb2.mono hO'.size) : Below U.heap.size U W2)⟩
                · refine RU.ObT.pure rfl rfl rfl (fun a V hf hp ev he hc W => ?_)
                  have q50 : ev (.tmp 50) = .string t := (he (.tmp 50)).trans (hp 10 50 rfl)
                  simp only [List.getElem_toArray, List.getElem_cons_succ, List.getElem_cons_zero, execOp, Option.map_some, Option.map_none]; rw [q50]
                  first | (go_simp; done) | (go_simp; rfl) | rfl
                · refine RU.ObT.pure rfl rfl rfl (fun a V hf hp ev he hc W => ?_)
                  have q51 : ev (.tmp 51) = .iface 71 (.string t) := (he (.tmp 51)).trans (hp 11 51 rfl)
                  simp only [List.getElem_toArray, List.getElem_cons_succ, List.getElem_cons_zero, execOp, Option.map_some, Option.map_none]; rw [q51]
                  first | (go_simp; done) | (go_simp; rfl) | rfl
                · refine RU.ObT.pure rfl rfl rfl (fun a V hf hp ev he hc W => ?_)
                  simp only [List.getElem_toArray, List.getElem_cons_succ, List.getElem_cons_zero, execOp, Option.map_some, Option.map_none]
                  try simp only [hc]
                  first | (go_simp; done) | (go_simp; rfl) | rfl
              intro W1 VW1 hOW1
              have BW1 : Hid (Below U.heap.size U W1) := hOW1
              clear hOW1
              simp only [RU.lay, RU.val, RU.at', nm12, Act.put]
              simp only [List.setIfInBounds_toArray, List.set_cons_succ, List.set_cons_zero]
              go_wp2
              go_ret2
              rw [HR.out]
              refine ⟨?_, HU.out.keep (BW1.out.block _ HU.out.lt), Chg.trans HCU.out (Chg.ofBelow BW1.out)⟩
              show Ending.returned (.tuple #[.iface 71 (.string t), .int .i64 0]) = .returned (.tuple #[.iface 71 (.string (s.extract i j)), .int .i64 0])
              rw [HTE.out]
            | true =>
              obtain ⟨c, rfl, hee, hnn⟩ : ∃ c, j = c + 1 ∧ (gb s c = 101 ∨ gb s c = 69) ∧ nmb s i = nexp s c := hR
              have HN : Hid (nmb s i = nexp s c) := hnn
              clear hnn
              by_cases e43 : gb s (c + 1) = 43
              · have HX : Hid (nmb s i = if isDg (gb s (c + 2)) then (dgs s (c + 2), true) else (c + 2, false)) := HN.out.trans (nexp_p hee e43)
                have hlt := gb_lt (s := s) (i := c + 1) (by omega)
                go_wp2_with fail
                refine (take_yes HP.out hj HS.out e43 (by decide)).mono ?_
                rintro e W2 ⟨rfl, p, q⟩
                have PW2 : Hid (PB W2 g s (c + 2) d) := p
                have CW2 : Hid (Cg g w W2) := Chg.trans HC.out q
                clear p q
                go_wp2_with fail
                refine (digits_any PW2.out hlt HS.out).mono ?_
                rintro e W3 ⟨rfl, p, q⟩
                have PW3 : Hid (PB W3 g s (dgs s (c + 2)) d) := p
                have CW3 : Hid (Cg g w W3) := Chg.trans CW2.out q
                clear p q
                cases hd : isDg (gb s (c + 2)) with
                | true =>
                  have HR0 : Hid (nmb s i = (dgs s (c + 2), true)) := by
                    have := HX.out
                    rw [hd] at this; exact this
                  obtain ⟨j, hje⟩ : ∃ j, dgs s (c + 2) = j := ⟨_, rfl⟩
                  rw [hje] at HR0 PW3
                  have HR : Hid (nmb s i = (j, true)) := HR0
                  have HIJ : Hid (i ≤ j) := by have := HIN.out.1; rw [HR.out] at this; exact this
                  have hj : j ≤ s.size := by have := HIN.out.2; rw [HR.out] at this; exact this
                  clear hje HR0 HX
                  obtain ⟨U, hUW⟩ : ∃ U, W3 = U := ⟨_, rfl⟩
                  have HPU : Hid (PB U g s j d) := by rw [← hUW]; exact PW3.out
                  have HCU : Hid (Cg g w U) := by rw [← hUW]; exact CW3.out
                  rw [hUW]
                  clear hUW
                  go_upto_region 12 with (fail)
                  obtain ⟨t, ht⟩ : ∃ t, s.extract i j = t := ⟨_, rfl⟩
                  have HTE : Hid (s.extract i j = t) := ht
                  have HT : Hid (t.size ≤ 140737488355328) := by
                    show t.size ≤ 140737488355328
                    have := HS.out
                    rw [← ht, ByteArray.size_extract]; omega
                  clear ht
                  have HU : Hid (PB U g s j d) := HPU.out
                  have hij := HIJ.out
                  refine RU.wp_rgn' [] (nm12 g i j s t) (fun _ => 0) (gΩ U) (by kernel_rfl) (by kernel_rfl) (show Below U.heap.size U _ from (Below.refl _ _).drew) ?_ ?_
                  · refine ⟨?_, ?_, ?_, ?_, ?_, ?_, ?_, ?_, ?_, ?_, ?_, ?_, ?_, ?_, trivial⟩
                    · refine RU.ObT.pure rfl rfl rfl (fun a V hf hp ev he hc W => ?_)
                      have q0 : ev (.tmp 0) = .pointer (some ⟨g, 0, none⟩) := (he (.tmp 0)).trans (hf 0 rfl)
                      simp only [List.getElem_toArray, List.getElem_cons_succ, List.getElem_cons_zero, execOp, Option.map_some, Option.map_none]; rw [q0]
                      first | (go_simp; done) | (go_simp; rfl) | rfl
                    · refine RU.ObT.pure rfl rfl rfl (fun a V hf hp ev he hc W => ?_)
                      have q40 : ev (.tmp 40) = .pointer (some ⟨g, 0, none⟩) := (he (.tmp 40)).trans (hp 0 40 rfl)
                      simp only [List.getElem_toArray, List.getElem_cons_succ, List.getElem_cons_zero, execOp, Option.map_some, Option.map_none]; rw [q40]
                      first | (go_simp; done) | (go_simp; rfl) | rfl
                    · refine RU.ObT.pure rfl rfl rfl (fun a V hf hp ev he hc W => ?_)
                      have q41 : ev (.tmp 41) = .pointer (some ⟨g, 0, none⟩) := (he (.tmp 41)).trans (hp 1 41 rfl)
                      simp only [List.getElem_toArray, List.getElem_cons_succ, List.getElem_cons_zero, execOp, Option.map_some, Option.map_none]; rw [q41]
                      first | (go_simp; done) | (go_simp; rfl) | rfl
                    · refine RU.ObT.silent rfl (fun a W k0 V hO hf hp hk => ?_)
                      have hO' : Below U.heap.size U W := hO
                      have hcell := (HU.out.keep (hO'.block _ HU.out.lt)).cells.1
                      refine RU.ob_val rfl (RU.wanted_none rfl) (fun ev he hc => ?_) ⟨rfl, hO⟩
                      have q42 : ev (.tmp 42) = .pointer (some ⟨g, 0, none⟩) := (he (.tmp 42)).trans (hp 2 42 rfl)
                      simp only [List.getElem_toArray, List.getElem_cons_succ, List.getElem_cons_zero, execOp, Option.map_some, Option.map_none]; rw [q42]
                      first | (go_simp; done) | (go_simp; rfl) | rfl
                    · refine RU.ObT.pure rfl rfl rfl (fun a V hf hp ev he hc W => ?_)
                      have q4 : ev (.tmp 4) = .int .i64 (i : Int) := (he (.tmp 4)).trans (hf 4 rfl)
                      simp only [List.getElem_toArray, List.getElem_cons_succ, List.getElem_cons_zero, execOp, Option.map_some, Option.map_none]; rw [q4]
                      first | (go_simp; done) | (go_simp; rfl) | rfl
                    · refine RU.ObT.pure rfl rfl rfl (fun a V hf hp ev he hc W => ?_)
                      have q0 : ev (.tmp 0) = .pointer (some ⟨g, 0, none⟩) := (he (.tmp 0)).trans (hf 0 rfl)
                      simp only [List.getElem_toArray, List.getElem_cons_succ, List.getElem_cons_zero, execOp, Option.map_some, Option.map_none]; rw [q0]
                      first | (go_simp; done) | (go_simp; rfl) | rfl
                    · refine RU.ObT.pure rfl rfl rfl (fun a V hf hp ev he hc W => ?_)
                      have q45 : ev (.tmp 45) = .pointer (some ⟨g, 0, none⟩) := (he (.tmp 45)).trans (hp 5 45 rfl)
                      simp only [List.getElem_toArray, List.getElem_cons_succ, List.getElem_cons_zero, execOp, Option.map_some, Option.map_none]; rw [q45]
                      first | (go_simp; done) | (go_simp; rfl) | rfl
                    · refine RU.ObT.pure rfl rfl rfl (fun a V hf hp ev he hc W => ?_)
                      have q46 : ev (.tmp 46) = .pointer (some ⟨g, 0, none⟩) := (he (.tmp 46)).trans (hp 6 46 rfl)
                      simp only [List.getElem_toArray, List.getElem_cons_succ, List.getElem_cons_zero, execOp, Option.map_some, Option.map_none]; rw [q46]
                      first | (go_simp; done) | (go_simp; rfl) | rfl
                    · refine RU.ObT.silent rfl (fun a W k0 V hO hf hp hk => ?_)
                      have hO' : Below U.heap.size U W := hO
                      have hcell := (HU.out.keep (hO'.block _ HU.out.lt)).cells.2.1
                      refine RU.ob_val rfl (RU.wanted_none rfl) (fun ev he hc => ?_) ⟨rfl, hO⟩
                      have q47 : ev (.tmp 47) = .pointer (some ⟨g, 1, none⟩) := (he (.tmp 47)).trans (hp 7 47 rfl)
                      simp only [List.getElem_toArray, List.getElem_cons_succ, List.getElem_cons_zero, execOp, Option.map_some, Option.map_none]; rw [q47]
                      first | (go_simp; done) | (go_simp; rfl) | rfl
                    · refine RU.ObT.pure rfl rfl rfl (fun a V hf hp ev he hc W => ?_)
                      have q43 : ev (.tmp 43) = .string s := (he (.tmp 43)).trans (hp 3 43 rfl)
                      have q44 : ev (.tmp 44) = .int .i64 (i : Int) := (he (.tmp 44)).trans (hp 4 44 rfl)
                      have q48 : ev (.tmp 48) = .int .i64 (j : Int) := (he (.tmp 48)).trans (hp 8 48 rfl)
                      simp only [List.getElem_toArray, List.getElem_cons_succ, List.getElem_cons_zero, execOp, Option.map_some, Option.map_none]; rw [q43, q44, q48]
                      rw [← HTE.out]
                      first | (go_simp; done) | (go_simp; rfl) | rfl
                    · refine RU.ObT.silent rfl (fun a W k0 V hO hf hp hk => ?_)
                      have hO' : Below U.heap.size U W := hO
                      have e49 : a.eval (.tmp 49) = .string t := hp 9 49 rfl
                      refine RU.ob_call (g := 85) (args := #[.string t]) rfl (RU.wanted_none rfl) (fun ev he hc => ?_) ((sclone_any t HT.out W).mono ?_)
                      · have h49 := (he (.tmp 49)).trans e49
                        have hfn := he (.func 85)
                        simp only [List.getElem_toArray, List.getElem_cons_succ, List.getElem_cons_zero, execOp, Option.map_some, Option.map_none]
                        simp only [resolve, invoke, Sem.run_bind, Sem.run_pure, Result.andThen_ok, List.map_toArray, List.map_cons, List.map_nil, h49, hfn, Act.eval, hc]
                        rfl
                      · rintro e' W2 ⟨rfl, hb2⟩
                        exact ⟨_, rfl, rfl, (hO'.trans (hb2.mono hO'.size) : Below U.heap.size U W2)⟩
                    · refine RU.ObT.pure rfl rfl rfl (fun a V hf hp ev he hc W => ?_)
                      have q50 : ev (.tmp 50) = .string t := (he (.tmp 50)).trans (hp 10 50 rfl)
                      simp only [List.getElem_toArray, List.getElem_cons_succ, List.getElem_cons_zero, execOp, Option.map_some, Option.map_none]; rw [q50]
                      first | (go_simp; done) | (go_simp; rfl) | rfl
                    · refine RU.ObT.pure rfl rfl rfl (fun a V hf hp ev he hc W => ?_)
                      have q51 : ev (.tmp 51) = .iface 71 (.string t) := (he (.tmp 51)).trans (hp 11 51 rfl)
                      simp only [List.getElem_toArray, List.getElem_cons_succ, List.getElem_cons_zero, execOp, Option.map_some, Option.map_none]; rw [q51]
                      first | (go_simp; done) | (go_simp; rfl) | rfl
                    · refine RU.ObT.pure rfl rfl rfl (fun a V hf hp ev he hc W => ?_)
                      simp only [List.getElem_toArray, List.getElem_cons_succ, List.getElem_cons_zero, execOp, Option.map_some, Option.map_none]
                      try simp only [hc]
                      first | (go_simp; done) | (go_simp; rfl) | rfl
                  intro W1 VW1 hOW1
                  have BW1 : Hid (Below U.heap.size U W1) := hOW1
                  clear hOW1
                  simp only [RU.lay, RU.val, RU.at', nm12, Act.put]
                  simp only [List.setIfInBounds_toArray, List.set_cons_succ, List.set_cons_zero]
                  go_wp2
                  go_ret2
                  rw [HR.out]
                  refine ⟨?_, HU.out.keep (BW1.out.block _ HU.out.lt), Chg.trans HCU.out (Chg.ofBelow BW1.out)⟩
                  show Ending.returned (.tuple #[.iface 71 (.string t), .int .i64 0]) = .returned (.tuple #[.iface 71 (.string (s.extract i j)), .int .i64 0])
                  rw [HTE.out]
                | false =>
                  have hdg : dgs s (c + 2) = c + 2 := rn_stop hd
                  have HR : Hid (nmb s i = (c + 2, false)) := by
                    have := HX.out
                    rw [hd] at this; exact this
                  rw [hdg] at PW3
                  clear hdg HX
                  go_wp2
                  go_ret2
                  rw [HR.out]
                  exact ⟨rfl, PW3.out, CW3.out⟩
              · have HX : Hid (nmb s i = if isDg (gb s (tk s (c + 1) 45)) then (dgs s (tk s (c + 1) 45), true) else (tk s (c + 1) 45, false)) := HN.out.trans (nexp_m hee e43)
                have hk : tk s (c + 1) 45 ≤ s.size := tk_le hj (by decide)
                go_wp2_with fail
                refine (take_no HP.out hj HS.out e43).mono ?_
                rintro e W1' ⟨rfl, n, rfl⟩
                go_wp2_with fail
                refine (take_any (HP.out.drew n) hj HS.out 45 (by decide)).mono ?_
                rintro e W2 ⟨rfl, p, q⟩
                have PW2 : Hid (PB W2 g s (tk s (c + 1) 45) d) := p
                have CW2 : Hid (Cg g w W2) := Chg.trans (HC.out.drew n) q
                clear p q
                obtain ⟨k, hke⟩ : ∃ k, tk s (c + 1) 45 = k := ⟨_, rfl⟩
                rw [hke] at HX PW2 hk
                clear hke
                go_wp2_with fail
                refine (digits_any PW2.out hk HS.out).mono ?_
                rintro e W3 ⟨rfl, p, q⟩
                have PW3 : Hid (PB W3 g s (dgs s k) d) := p
                have CW3 : Hid (Cg g w W3) := Chg.trans CW2.out q
                clear p q
                cases hd : isDg (gb s (k)) with
                | true =>
                  have HR0 : Hid (nmb s i = (dgs s (k), true)) := by
                    have := HX.out
                    rw [hd] at this; exact this
                  obtain ⟨j, hje⟩ : ∃ j, dgs s (k) = j := ⟨_, rfl⟩
                  rw [hje] at HR0 PW3
                  have HR : Hid (nmb s i = (j, true)) := HR0
                  have HIJ : Hid (i ≤ j) := by have := HIN.out.1; rw [HR.out] at this; exact this
                  have hj : j ≤ s.size := by have := HIN.out.2; rw [HR.out] at this; exact this
                  clear hje HR0 HX
                  obtain ⟨U, hUW⟩ : ∃ U, W3 = U := ⟨_, rfl⟩
                  have HPU : Hid (PB U g s j d) := by rw [← hUW]; exact PW3.out
                  have HCU : Hid (Cg g w U) := by rw [← hUW]; exact CW3.out
                  rw [hUW]
                  clear hUW
                  go_upto_region 12 with (fail)
                  obtain ⟨t, ht⟩ : ∃ t, s.extract i j = t := ⟨_, rfl⟩
                  have HTE : Hid (s.extract i j = t) := ht
                  have HT : Hid (t.size ≤ 140737488355328) := by
                    show t.size ≤ 140737488355328
                    have := HS.out
                    rw [← ht, ByteArray.size_extract]; omega
                  clear ht
                  have HU : Hid (PB U g s j d) := HPU.out
                  have hij := HIJ.out
                  refine RU.wp_rgn' [] (nm12 g i j s t) (fun _ => 0) (gΩ U) (by kernel_rfl) (by kernel_rfl) (show Below U.heap.size U _ from (Below.refl _ _).drew) ?_ ?_
                  · refine ⟨?_, ?_, ?_, ?_, ?_, ?_, ?_, ?_, ?_, ?_, ?_, ?_, ?_, ?_, trivial⟩
                    · refine RU.ObT.pure rfl rfl rfl (fun a V hf hp ev he hc W => ?_)
                      have q0 : ev (.tmp 0) = .pointer (some ⟨g, 0, none⟩) := (he (.tmp 0)).trans (hf 0 rfl)
                      simp only [List.getElem_toArray, List.getElem_cons_succ, List.getElem_cons_zero, execOp, Option.map_some, Option.map_none]; rw [q0]
                      first | (go_simp; done) | (go_simp; rfl) | rfl
                    · refine RU.ObT.pure rfl rfl rfl (fun a V hf hp ev he hc W => ?_)
                      have q40 : ev (.tmp 40) = .pointer (some ⟨g, 0, none⟩) := (he (.tmp 40)).trans (hp 0 40 rfl)
                      simp only [List.getElem_toArray, List.getElem_cons_succ, List.getElem_cons_zero, execOp, Option.map_some, Option.map_none]; rw [q40]
                      first | (go_simp; done) | (go_simp; rfl) | rfl
                    · refine RU.ObT.pure rfl rfl rfl (fun a V hf hp ev he hc W => ?_)
                      have q41 : ev (.tmp 41) = .pointer (some ⟨g, 0, none⟩) := (he (.tmp 41)).trans (hp 1 41 rfl)
                      simp only [List.getElem_toArray, List.getElem_cons_succ, List.getElem_cons_zero, execOp, Option.map_some, Option.map_none]; rw [q41]
                      first | (go_simp; done) | (go_simp; rfl) | rfl
                    · refine RU.ObT.silent rfl (fun a W k0 V hO hf hp hk => ?_)
                      have hO' : Below U.heap.size U W := hO
                      have hcell := (HU.out.keep (hO'.block _ HU.out.lt)).cells.1
                      refine RU.ob_val rfl (RU.wanted_none rfl) (fun ev he hc => ?_) ⟨rfl, hO⟩
                      have q42 : ev (.tmp 42) = .pointer (some ⟨g, 0, none⟩) := (he (.tmp 42)).trans (hp 2 42 rfl)
                      simp only [List.getElem_toArray, List.getElem_cons_succ, List.getElem_cons_zero, execOp, Option.map_some, Option.map_none]; rw [q42]
                      first | (go_simp; done) | (go_simp; rfl) | rfl
                    · refine RU.ObT.pure rfl rfl rfl (fun a V hf hp ev he hc W => ?_)
                      have q4 : ev (.tmp 4) = .int .i64 (i : Int) := (he (.tmp 4)).trans (hf 4 rfl)
                      simp only [List.getElem_toArray, List.getElem_cons_succ, List.getElem_cons_zero, execOp, Option.map_some, Option.map_none]; rw [q4]
                      first | (go_simp; done) | (go_simp; rfl) | rfl
                    · refine RU.ObT.pure rfl rfl rfl (fun a V hf hp ev he hc W => ?_)
                      have q0 : ev (.tmp 0) = .pointer (some ⟨g, 0, none⟩) := (he (.tmp 0)).trans (hf 0 rfl)
                      simp only [List.getElem_toArray, List.getElem_cons_succ, List.getElem_cons_zero, execOp, Option.map_some, Option.map_none]; rw [q0]
                      first | (go_simp; done) | (go_simp; rfl) | rfl
                    · refine RU.ObT.pure rfl rfl rfl (fun a V hf hp ev he hc W => ?_)
                      have q45 : ev (.tmp 45) = .pointer (some ⟨g, 0, none⟩) := (he (.tmp 45)).trans (hp 5 45 rfl)
                      simp only [List.getElem_toArray, List.getElem_cons_succ, List.getElem_cons_zero, execOp, Option.map_some, Option.map_none]; rw [q45]
                      first | (go_simp; done) | (go_simp; rfl) | rfl
                    · refine RU.ObT.pure rfl rfl rfl (fun a V hf hp ev he hc W => ?_)
                      have q46 : ev (.tmp 46) = .pointer (some ⟨g, 0, none⟩) := (he (.tmp 46)).trans (hp 6 46 rfl)
                      simp only [List.getElem_toArray, List.getElem_cons_succ, List.getElem_cons_zero, execOp, Option.map_some, Option.map_none]; rw [q46]
                      first | (go_simp; done) | (go_simp; rfl) | rfl
                    · refine RU.ObT.silent rfl (fun a W k0 V hO hf hp hk => ?_)
                      have hO' : Below U.heap.size U W := hO
                      have hcell := (HU.out.keep (hO'.block _ HU.out.lt)).cells.2.1
                      refine RU.ob_val rfl (RU.wanted_none rfl) (fun ev he hc => ?_) ⟨rfl, hO⟩
                      have q47 : ev (.tmp 47) = .pointer (some ⟨g, 1, none⟩) := (he (.tmp 47)).trans (hp 7 47 rfl)
                      simp only [List.getElem_toArray, List.getElem_cons_succ, List.getElem_cons_zero, execOp, Option.map_some, Option.map_none]; rw [q47]
                      first | (go_simp; done) | (go_simp; rfl) | rfl
                    · refine RU.ObT.pure rfl rfl rfl (fun a V hf hp ev he hc W => ?_)
                      have q43 : ev (.tmp 43) = .string s := (he (.tmp 43)).trans (hp 3 43 rfl)
                      have q44 : ev (.tmp 44) = .int .i64 (i : Int) := (he (.tmp 44)).trans (hp 4 44 rfl)
                      have q48 : ev (.tmp 48) = .int .i64 (j : Int) := (he (.tmp 48)).trans (hp 8 48 rfl)
                      simp only [List.getElem_toArray, List.getElem_cons_succ, List.getElem_cons_zero, execOp, Option.map_some, Option.map_none]; rw [q43, q44, q48]
                      rw [← HTE.out]
                      first | (go_simp; done) | (go_simp; rfl) | rfl
                    · refine RU.ObT.silent rfl (fun a W k0 V hO hf hp hk => ?_)
                      have hO' : Below U.heap.size U W := hO
                      have e49 : a.eval (.tmp 49) = .string t := hp 9 49 rfl
                      refine RU.ob_call (g := 85) (args := #[.string t]) rfl (RU.wanted_none rfl) (fun ev he hc => ?_) ((sclone_any t HT.out W).mono ?_)
                      · have h49 := (he (.tmp 49)).trans e49
                        have hfn := he (.func 85)
                        simp only [List.getElem_toArray, List.getElem_cons_succ, List.getElem_cons_zero, execOp, Option.map_some, Option.map_none]
                        simp only [resolve, invoke, Sem.run_bind, Sem.run_pure, Result.andThen_ok, List.map_toArray, List.map_cons, List.map_nil, h49, hfn, Act.eval, hc]
                        rfl
                      · rintro e' W2 ⟨rfl, hb2⟩
                        exact ⟨_, rfl, rfl, (hO'.trans (hb2.mono hO'.size) : Below U.heap.size U W2)⟩
                    · refine RU.ObT.pure rfl rfl rfl (fun a V hf hp ev he hc W => ?_)
                      have q50 : ev (.tmp 50) = .string t := (he (.tmp 50)).trans (hp 10 50 rfl)
                      simp only [List.getElem_toArray, List.getElem_cons_succ, List.getElem_cons_zero, execOp, Option.map_some, Option.map_none]; rw [q50]
                      first | (go_simp; done) | (go_simp; rfl) | rfl
                    · refine RU.ObT.pure rfl rfl rfl (fun a V hf hp ev he hc W => ?_)
                      have q51 : ev (.tmp 51) = .iface 71 (.string t) := (he (.tmp 51)).trans (hp 11 51 rfl)
                      simp only [List.getElem_toArray, List.getElem_cons_succ, List.getElem_cons_zero, execOp, Option.map_some, Option.map_none]; rw [q51]
                      first | (go_simp; done) | (go_simp; rfl) | rfl
                    · refine RU.ObT.pure rfl rfl rfl (fun a V hf hp ev he hc W => ?_)
                      simp only [List.getElem_toArray, List.getElem_cons_succ, List.getElem_cons_zero, execOp, Option.map_some, Option.map_none]
                      try simp only [hc]
                      first | (go_simp; done) | (go_simp; rfl) | rfl
                  intro W1 VW1 hOW1
                  have BW1 : Hid (Below U.heap.size U W1) := hOW1
                  clear hOW1
                  simp only [RU.lay, RU.val, RU.at', nm12, Act.put]
                  simp only [List.setIfInBounds_toArray, List.set_cons_succ, List.set_cons_zero]
                  go_wp2
                  go_ret2
                  rw [HR.out]
                  refine ⟨?_, HU.out.keep (BW1.out.block _ HU.out.lt), Chg.trans HCU.out (Chg.ofBelow BW1.out)⟩
                  show Ending.returned (.tuple #[.iface 71 (.string t), .int .i64 0]) = .returned (.tuple #[.iface 71 (.string (s.extract i j)), .int .i64 0])
                  rw [HTE.out]
                | false =>
                  have hdg : dgs s (k) = k := rn_stop hd
                  have HR : Hid (nmb s i = (k, false)) := by
                    have := HX.out
                    rw [hd] at this; exact this
                  rw [hdg] at PW3
                  clear hdg HX
                  go_wp2
                  go_ret2
                  rw [HR.out]
                  exact ⟨rfl, PW3.out, CW3.out⟩
          · by_cases e101 : gb s j = 101
            · go_wp2_with fail
              refine (take_yes HP.out hj HS.out e101 (by decide)).mono ?_
              rintro e W2 ⟨rfl, p, q⟩
              have PW2 : Hid (PB W2 g s (j + 1) d) := p
              have CW2 : Hid (Cg g w W2) := Chg.trans HC.out q
              clear p q
              go_wp2
              exact ⟨true, j + 1, ⟨j, rfl, .inl e101, HN.out⟩, gb_lt (by omega), PW2.out, CW2.out, _, _, _, _, _, _, _, _, _, _, _, _, _, _, _, _, _, _, _, _, _, _, _, _, _, _, _, _, _, _, _, _, _, _, _, _, _, _, _, _, _, _, _, _, _, _, _, rfl⟩
            · go_wp2_with fail
              refine (take_no HP.out hj HS.out e101).mono ?_
              rintro e W2 ⟨rfl, n, rfl⟩
              by_cases e69 : gb s j = 69
              · go_wp2_with fail
                refine (take_yes (HP.out.drew n) hj HS.out e69 (by decide)).mono ?_
                rintro e W3 ⟨rfl, p, q⟩
                have PW3 : Hid (PB W3 g s (j + 1) d) := p
                have CW3 : Hid (Cg g w W3) := Chg.trans (HC.out.drew n) q
                clear p q
                go_wp2
                exact ⟨true, j + 1, ⟨j, rfl, .inr e69, HN.out⟩, gb_lt (by omega), PW3.out, CW3.out, _, _, _, _, _, _, _, _, _, _, _, _, _, _, _, _, _, _, _, _, _, _, _, _, _, _, _, _, _, _, _, _, _, _, _, _, _, _, _, _, _, _, _, _, _, _, _, rfl⟩
              · go_wp2_with fail
                refine (take_no (HP.out.drew n) hj HS.out e69).mono ?_
                rintro e W3 ⟨rfl, m, rfl⟩
                go_wp2
                exact ⟨false, j, HN.out.trans (nexp_n (by omega)), hj, HP.out.drew _, HC.out.drew _, _, _, _, _, _, _, _, _, _, _, _, _, _, _, _, _, _, _, _, _, _, _, _, _, _, _, _, _, _, _, _, _, _, _, _, _, _, _, _, _, _, _, _, _, _, _, _, rfl⟩
      · by_cases e46 : gb s j = 46
        · have hlt := gb_lt (s := s) (i := j) (by omega)
          go_wp2_with fail
          refine (take_yes HP.out hj HS.out e46 (by decide)).mono ?_
          rintro e W2 ⟨rfl, p, q⟩
          have PW2 : Hid (PB W2 g s (j + 1) d) := p
          have CW2 : Hid (Cg g w W2) := Chg.trans HC.out q
          clear p q
          go_wp2_with fail
          refine (digits_any PW2.out hlt HS.out).mono ?_
          rintro e W3 ⟨rfl, p, q⟩
          have PW3 : Hid (PB W3 g s (dgs s (j + 1)) d) := p
          have CW3 : Hid (Cg g w W3) := Chg.trans CW2.out q
          clear p q
          cases hd : isDg (gb s (j + 1)) with
          | true =>
            go_wp2
            exact ⟨false, dgs s (j + 1), HN.out.trans (nfra_d e46 hd), dgs_le hlt, PW3.out, CW3.out, _, _, _, _, _, _, _, _, _, _, _, _, _, _, _, _, _, _, _, _, _, _, _, _, _, _, _, _, _, _, _, _, _, _, _, _, _, _, _, _, _, _, _, _, _, _, _, rfl⟩
          | false =>
            have hdg : dgs s (j + 1) = j + 1 := rn_stop hd
            go_wp2
            exact ⟨true, j + 1, HN.out.trans (nfra_x e46 hd), hlt, by rw [← hdg]; exact PW3.out, CW3.out, _, _, _, _, _, _, _, _, _, _, _, _, _, _, _, _, _, _, _, _, _, _, _, _, _, _, _, _, _, _, _, _, _, _, _, _, _, _, _, _, _, _, _, _, _, _, _, rfl⟩
        · go_wp2_with fail
          refine (take_no HP.out hj HS.out e46).mono ?_
          rintro e W2 ⟨rfl, n, rfl⟩
          go_wp2
          exact ⟨false, j, HN.out.trans (nfra_n e46), hj, HP.out.drew n, HC.out.drew n, _, _, _, _, _, _, _, _, _, _, _, _, _, _, _, _, _, _, _, _, _, _, _, _, _, _, _, _, _, _, _, _, _, _, _, _, _, _, _, _, _, _, _, _, _, _, _, rfl⟩
  · by_cases e48 : gb s j = 48
    · go_wp2_with fail
      refine (take_yes PW1.out hj HS.out e48 (by decide)).mono ?_
      rintro e W2 ⟨rfl, p, q⟩
      have PW2 : Hid (PB W2 g s (j + 1) d) := p
      have CW2 : Hid (Cg g w W2) := Chg.trans CW1.out q
      clear p q
      go_wp2
      exact ⟨false, j + 1, by rw [HN.out, nint_0 e48]; rfl, gb_lt (by omega), PW2.out, CW2.out, _, _, _, _, _, _, _, _, _, _, _, _, _, _, _, _, _, _, _, _, _, _, _, _, _, _, _, _, _, _, _, _, _, _, _, _, _, _, _, _, _, _, _, _, _, _, _, rfl⟩
    · go_wp2_with fail
      refine (take_no PW1.out hj HS.out e48).mono ?_
      rintro e W2 ⟨rfl, n, rfl⟩
      go_wp2_with fail
      refine (digits_any (PW1.out.drew n) hj HS.out).mono ?_
      rintro e W2 ⟨rfl, p, q⟩
      have PW2 : Hid (PB W2 g s (dgs s j) d) := p
      have CW2 : Hid (Cg g w W2) := Chg.trans (CW1.out.drew n) q
      clear p q
      cases hd : isDg (gb s j) with
      | true =>
        go_wp2
        exact ⟨false, dgs s j, by rw [HN.out, nint_d e48 hd]; rfl, dgs_le hj, PW2.out, CW2.out, _, _, _, _, _, _, _, _, _, _, _, _, _, _, _, _, _, _, _, _, _, _, _, _, _, _, _, _, _, _, _, _, _, _, _, _, _, _, _, _, _, _, _, _, _, _, _, rfl⟩
      | false =>
        have hdg : dgs s j = j := rn_stop hd
        go_wp2
        exact ⟨true, j, by rw [HN.out, nint_n e48 hd]; rfl, hj, by rw [← hdg]; exact PW2.out, CW2.out, _, _, _, _, _, _, _, _, _, _, _, _, _, _, _, _, _, _, _, _, _, _, _, _, _, _, _, _, _, _, _, _, _, _, _, _, _, _, _, _, _, _, _, _, _, _, _, rfl⟩
end Go.Proofs.YtefaohokmhdplaaDoor
