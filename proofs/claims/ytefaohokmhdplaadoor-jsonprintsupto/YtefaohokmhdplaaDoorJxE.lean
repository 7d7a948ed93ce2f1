/- The reference for JSON: escapes. -/
import Derived.Test.YtefaohokmhdplaaDoorJxD
namespace Go.Proofs.YtefaohokmhdplaaDoor
open Go Go.RowKit
set_option linter.unusedSimpArgs false
set_option linter.unusedVariables false
set_option maxRecDepth 100000

variable {w : World} {g : Nat} {s : ByteArray} {i d : Nat} {l : Bool}
theorem piece_one {s : ByteArray} {j : Nat} (h : j < s.size) : s.extract j (j + 1) = sb [gb s j] := by
  have hsz : (s.extract j (j + 1)).size = 1 := by rw [ByteArray.size_extract]; omega
  apply ByteArray.ext_getElem (by rw [hsz]; rfl)
  intro k h1 h2
  obtain rfl : k = 0 := by omega
  rw [gb_in h, ByteArray.getElem_extract]
  show s[j + 0] = UInt8.ofNat (((s[j]'h).toNat : Int)).toNat
  simp
theorem quiet_add {P : Program} {f : FuncId} {args : Array Value} {w : World} {m n : Nat} {v : Value} (h : Calls P f args (w.drewN (m + n)) fun e w' => e = .returned v ∧ w' = w.drewN (m + n)) : Calls P f args (w.drewN (m + n)) fun e w'' => e = .returned v ∧ ∃ k, w'' = w.drewN (m + k) :=
  h.mono fun _ _ ⟨he, hm⟩ => ⟨he, n, hm⟩
/-- What an escape's reading answers. -/
def reV (o : Option (Int × Nat)) : Value := match o with
  | none => .tuple #[.string ⟨#[]⟩, .bool false]
  | some (r, _) => .tuple #[.string (sb (Lib.encodeRuneZ r)), .bool true]
def reN (o : Option (Int × Nat)) : Nat := match o with
  | none => 0
  | some (_, n) => n
set_option maxHeartbeats 16000000 in
theorem rescape_any (h : RB w g s i d l) (hi : i < s.size) (hs : s.size ≤ 8192) :
    Calls Tryd.prog 64 #[.pointer (some ⟨g, 0, none⟩)] w fun e w' => e = .returned (reV (esc s i)) ∧ RB w' g s (i + reN (esc s i)) d l ∧ Cg g w w' := by
  have H : Hid (RB w g s i d l) := h
  have HS : Hid (s.size ≤ 8192) := hs
  obtain ⟨q0, q1, q2, q3⟩ := h.cells
  have f1 := h.froz 1
  have b1 : (i : Int) ≤ 8192 := by omega
  have b2 : (0 : Int) ≤ (i : Int) := by omega
  have hE := esc_eq s i
  obtain ⟨R, hR⟩ : ∃ R, esc s i = R := ⟨_, rfl⟩
  rw [hR] at hE ⊢
  clear h hs hR
  by_cases h2 : s.size < i + 2
  · have HR : Hid (R = none) := by rw [if_pos h2] at hE; exact hE
    have h2' : (s.size : Int) ≤ (i : Int) + 1 := by omega
    clear hE
    go_enter Tryd.func64, Tryd.ntmps64
    go_wp2
    go_quiet (fail)
    go_wp2
    go_ret2
    rw [HR.out]
    exact ⟨rfl, H.out.drew _, Chg.drew (Chg.refl _ _) _⟩
  have h2' : ¬ (s.size : Int) ≤ (i : Int) + 1 := by omega
  have h2'' : (i : Int) + 1 < (s.size : Int) := by omega
  have h3'' : (i : Int) + 2 ≤ (s.size : Int) := by omega
  have hlt : i + 1 < s.size := by omega
  rw [if_neg h2] at hE
  have X0 := idx_gb hlt
  have HP1 : Hid (s.extract (i + 1) (i + 2) = sb [gb s (i + 1)]) := piece_one hlt
  obtain ⟨c, hc⟩ : ∃ c, (s[i + 1]'hlt).toNat = c := ⟨_, rfl⟩
  rw [hc] at X0
  rw [← X0] at hE
  rw [← X0] at HP1
  clear X0
  by_cases e34 : (c : Int) = 34
  · have HR : Hid (R = some (34, 2)) := by show _ = _; rw [hE, if_pos (.inl e34), e34]
    rw [e34] at HP1
    obtain rfl : c = 34 := by omega
    clear hE
    go_enter Tryd.func64, Tryd.ntmps64
    go_wp2
    go_quiet (fail)
    go_wp2
    go_quiet (fail)
    go_wp2
    go_quiet (fail)
    go_wp2
    go_ret2
    rw [HR.out]
    try simp only [World.drewN_drewN]
    exact ⟨by rw [show (s.extract (i + 1) (i + 2)) = _ from HP1.out]; rfl, (H.out.drew _).set1 (i + 2), Chg.setCell (F := fun b => b = g) (Chg.drew (Chg.refl _ _) _) rfl⟩
  by_cases e92 : (c : Int) = 92
  · have HR : Hid (R = some (92, 2)) := by show _ = _; rw [hE, if_pos (.inr (.inl e92)), e92]
    rw [e92] at HP1
    obtain rfl : c = 92 := by omega
    clear hE
    go_enter Tryd.func64, Tryd.ntmps64
    go_wp2
    go_quiet (fail)
    go_wp2
    go_quiet (fail)
    go_wp2
    go_quiet (fail)
    go_wp2
    go_ret2
    rw [HR.out]
    try simp only [World.drewN_drewN]
    exact ⟨by rw [show (s.extract (i + 1) (i + 2)) = _ from HP1.out]; rfl, (H.out.drew _).set1 (i + 2), Chg.setCell (F := fun b => b = g) (Chg.drew (Chg.refl _ _) _) rfl⟩
  by_cases e47 : (c : Int) = 47
  · have HR : Hid (R = some (47, 2)) := by show _ = _; rw [hE, if_pos (.inr (.inr e47)), e47]
    rw [e47] at HP1
    obtain rfl : c = 47 := by omega
    clear hE
    go_enter Tryd.func64, Tryd.ntmps64
    go_wp2
    go_quiet (fail)
    go_wp2
    go_quiet (fail)
    go_wp2
    go_quiet (fail)
    go_wp2
    go_ret2
    rw [HR.out]
    try simp only [World.drewN_drewN]
    exact ⟨by rw [show (s.extract (i + 1) (i + 2)) = _ from HP1.out]; rfl, (H.out.drew _).set1 (i + 2), Chg.setCell (F := fun b => b = g) (Chg.drew (Chg.refl _ _) _) rfl⟩
  by_cases e98 : (c : Int) = 98
  · have HR : Hid (R = some (8, 2)) := by show _ = _; rw [hE, if_neg (by omega), if_pos e98]
    obtain rfl : c = 98 := by omega
    clear hE
    go_enter Tryd.func64, Tryd.ntmps64
    go_wp2
    go_quiet (fail)
    go_wp2
    go_quiet (fail)
    go_wp2
    go_ret2
    rw [HR.out]
    try simp only [World.drewN_drewN]
    exact ⟨rfl, (H.out.drew _).set1 (i + 2), Chg.setCell (F := fun b => b = g) (Chg.drew (Chg.refl _ _) _) rfl⟩
  by_cases e102 : (c : Int) = 102
  · have HR : Hid (R = some (12, 2)) := by show _ = _; rw [hE, if_neg (by omega), if_neg e98, if_pos e102]
    obtain rfl : c = 102 := by omega
    clear hE
    go_enter Tryd.func64, Tryd.ntmps64
    go_wp2
    go_quiet (fail)
    go_wp2
    go_quiet (fail)
    go_wp2
    go_ret2
    rw [HR.out]
    try simp only [World.drewN_drewN]
    exact ⟨rfl, (H.out.drew _).set1 (i + 2), Chg.setCell (F := fun b => b = g) (Chg.drew (Chg.refl _ _) _) rfl⟩
  by_cases e110 : (c : Int) = 110
  · have HR : Hid (R = some (10, 2)) := by show _ = _; rw [hE, if_neg (by omega), if_neg e98, if_neg e102, if_pos e110]
    obtain rfl : c = 110 := by omega
    clear hE
    go_enter Tryd.func64, Tryd.ntmps64
    go_wp2
    go_quiet (fail)
    go_wp2
    go_quiet (fail)
    go_wp2
    go_ret2
    rw [HR.out]
    try simp only [World.drewN_drewN]
    exact ⟨rfl, (H.out.drew _).set1 (i + 2), Chg.setCell (F := fun b => b = g) (Chg.drew (Chg.refl _ _) _) rfl⟩
  by_cases e114 : (c : Int) = 114
  · have HR : Hid (R = some (13, 2)) := by show _ = _; rw [hE, if_neg (by omega), if_neg e98, if_neg e102, if_neg e110, if_pos e114]
    obtain rfl : c = 114 := by omega
    clear hE
    go_enter Tryd.func64, Tryd.ntmps64
    go_wp2
    go_quiet (fail)
    go_wp2
    go_quiet (fail)
    go_wp2
    go_ret2
    rw [HR.out]
    try simp only [World.drewN_drewN]
    exact ⟨rfl, (H.out.drew _).set1 (i + 2), Chg.setCell (F := fun b => b = g) (Chg.drew (Chg.refl _ _) _) rfl⟩
  by_cases e116 : (c : Int) = 116
  · have HR : Hid (R = some (9, 2)) := by show _ = _; rw [hE, if_neg (by omega), if_neg e98, if_neg e102, if_neg e110, if_neg e114, if_pos e116]
    obtain rfl : c = 116 := by omega
    clear hE
    go_enter Tryd.func64, Tryd.ntmps64
    go_wp2
    go_quiet (fail)
    go_wp2
    go_quiet (fail)
    go_wp2
    go_ret2
    rw [HR.out]
    try simp only [World.drewN_drewN]
    exact ⟨rfl, (H.out.drew _).set1 (i + 2), Chg.setCell (F := fun b => b = g) (Chg.drew (Chg.refl _ _) _) rfl⟩
  rw [if_neg (by omega), if_neg e98, if_neg e102, if_neg e110, if_neg e114, if_neg e116] at hE
  by_cases e117 : (c : Int) = 117
  · have HL : Hid (R = lng s i) := by show _ = _; rw [hE, if_pos e117]
    obtain rfl : c = 117 := by omega
    have HL2 := lng_eq s i
    have HB := u4_hi s i
    have HI0 : 0 ≤ u4 s i → i + 6 ≤ s.size := fun k => u4_in k
    have HF : Hid (∀ w, Calls Tryd.prog 76 #[.string s, .int .i64 (i : Int)] w fun e w' => e = .returned (.int .i64 (u4 s i)) ∧ w' = w) := fun w => rfour_any (by omega) HS.out w
    rw [← show R = lng s i from HL.out] at HL2
    have HL3 : Hid (lng s i = R) := HL.out.symm
    obtain ⟨v, hv⟩ : ∃ v, u4 s i = v := ⟨_, rfl⟩
    rw [hv] at HL2 HB HI0 HF
    clear hE e34 e92 e47 e98 e102 e110 e114 e116 e117 HL hv
    by_cases c1 : v < 0 ∨ (56320 ≤ v ∧ v < 57344)
    · rw [if_pos c1] at HL2
      have HR : Hid (R = none) := HL2
      clear HL2 HI0
      rcases c1 with c1 | ⟨c1, c2⟩
      all_goals (
        go_enter Tryd.func64, Tryd.ntmps64
        go_wp2
        go_quiet (fail)
        go_wp2
        go_quiet (fail)
        go_wp2
        go_quiet ((go_at_call 76; exact quiet_add (HF.out _)))
        go_wp2
        go_ret2
        rw [HR.out]
        exact ⟨rfl, H.out.drew _, Chg.drew (Chg.refl _ _) _⟩)
    rw [if_neg c1] at HL2
    by_cases c2 : v < 55296 ∨ 57344 ≤ v
    · rw [if_pos c2] at HL2
      have HR : Hid (R = some (v, 6)) := HL2
      have hv0 : 0 ≤ v := by omega
      have HU : Hid (∀ w, Calls Tryd.prog 59 #[.int .i64 v] w fun e w' => e = .returned (.string (sb (Lib.encodeRuneZ v))) ∧ Below w.heap.size w w') := fun w => rutf_any hv0 (by omega) (by omega) w
      have FIN : Hid (∀ n, RB ((w.drewN n).setCell ⟨g, 1, none⟩ (.int .i64 ((i : Int) + 6))) g s (i + 6) d l ∧ Cg g w ((w.drewN n).setCell ⟨g, 1, none⟩ (.int .i64 ((i : Int) + 6)))) := fun n => ⟨(H.out.drew n).set1 (i + 6), Chg.setCell (F := fun b => b = g) (Chg.drew (Chg.refl _ _) n) rfl⟩
      clear HL2 HI0
      have c3 : (v < 55296) ∨ (57344 ≤ v ∧ ¬ v < 56320) := by omega
      clear c1 c2
      rcases c3 with c3 | ⟨c3, c4⟩
      all_goals (
        go_enter Tryd.func64, Tryd.ntmps64
        go_wp2
        go_quiet (fail)
        go_wp2
        go_quiet (fail)
        go_wp2
        go_quiet ((go_at_call 76; exact quiet_add (HF.out _)))
        go_wp2_with fail
        try simp only [World.drewN_drewN]
        refine (HU.out _).mono ?_
        rintro e W2 ⟨rfl, hb⟩
        have HP2 : Hid (RB W2 g s (i + 6) d l) := (FIN.out _).1.keep (hb.block _ (FIN.out _).1.lt)
        have HC2 : Hid (Cg g w W2) := (FIN.out _).2.then hb (FIN.out _).2.size
        clear hb
        go_wp2
        go_ret2
        rw [HR.out]
        exact ⟨rfl, HP2.out, HC2.out⟩)
    rw [if_neg c2] at HL2
    have b3 : 55296 ≤ v := by omega
    have b4 : v < 56320 := by omega
    have h6 := HI0 (by omega)
    have HF6 : Hid (∀ w, Calls Tryd.prog 76 #[.string s, .int .i64 ((i : Int) + 6)] w fun e w' => e = .returned (.int .i64 (u4 s (i + 6))) ∧ w' = w) := fun w => rfour_any (i := i + 6) h6 HS.out w
    have HB6 := u4_hi s (i + 6)
    obtain ⟨z, hz⟩ : ∃ z, u4 s (i + 6) = z := ⟨_, rfl⟩
    have HI6 : 0 ≤ z → i + 12 ≤ s.size := fun k => by have := u4_in (s := s) (i := i + 6) (by omega); omega
    rw [hz] at HL2 HF6 HB6
    clear c1 c2 hz HI0
    by_cases c3 : z < 56320 ∨ 57344 ≤ z
    · rw [if_pos c3] at HL2
      have HR : Hid (R = none) := HL2
      clear HL2 HI6
      rcases c3 with c3 | c3
      all_goals (
        go_enter Tryd.func64, Tryd.ntmps64
        go_wp2
        go_quiet (fail)
        go_wp2
        go_quiet (fail)
        go_wp2
        go_quiet ((go_at_call 76; exact quiet_add (HF.out _)))
        go_wp2
        go_quiet ((go_at_call 76; exact quiet_add (HF6.out _)))
        go_wp2
        go_ret2
        rw [HR.out]
        exact ⟨rfl, H.out.drew _, Chg.drew (Chg.refl _ _) _⟩)
    rw [if_neg c3] at HL2
    have HR : Hid (R = some (65536 + (v - 55296) * 1024 + (z - 56320), 12)) := HL2
    have b5 : 56320 ≤ z := by omega
    have b6 : z < 57344 := by omega
    have h12 := HI6 (by omega)
    have b7 : (i : Int) + 12 ≤ 8192 := by have := HS.out; omega
    have HU : Hid (∀ w, Calls Tryd.prog 59 #[.int .i64 (65536 + (v - 55296) * 1024 + z - 56320)] w fun e w' => e = .returned (.string (sb (Lib.encodeRuneZ (65536 + (v - 55296) * 1024 + z - 56320)))) ∧ Below w.heap.size w w') := fun w => rutf_any (by omega) (by omega) (by omega) w
    have FIN : Hid (∀ n, RB ((w.drewN n).setCell ⟨g, 1, none⟩ (.int .i64 ((i : Int) + 12))) g s (i + 12) d l ∧ Cg g w ((w.drewN n).setCell ⟨g, 1, none⟩ (.int .i64 ((i : Int) + 12)))) := fun n => ⟨(H.out.drew n).set1 (i + 12), Chg.setCell (F := fun b => b = g) (Chg.drew (Chg.refl _ _) n) rfl⟩
    clear HL2 HI6 c3
    go_enter Tryd.func64, Tryd.ntmps64
    go_wp2
    go_quiet (fail)
    go_wp2
    go_quiet (fail)
    go_wp2
    go_quiet ((go_at_call 76; exact quiet_add (HF.out _)))
    go_wp2
    go_quiet ((go_at_call 76; exact quiet_add (HF6.out _)))
    go_wp2_with fail
    try simp only [World.drewN_drewN]
    refine (HU.out _).mono ?_
    rintro e W2 ⟨rfl, hb⟩
    have HP2 : Hid (RB W2 g s (i + 12) d l) := (FIN.out _).1.keep (hb.block _ (FIN.out _).1.lt)
    have HC2 : Hid (Cg g w W2) := (FIN.out _).2.then hb (FIN.out _).2.size
    clear hb
    go_wp2
    go_ret2
    rw [HR.out]
    refine ⟨?_, HP2.out, HC2.out⟩
    rw [show 65536 + (v - 55296) * 1024 + z - 56320 = 65536 + (v - 55296) * 1024 + (z - 56320) by omega]
    rfl
  · have HR : Hid (R = none) := by show _ = _; rw [hE, if_neg e117]
    clear hE
    go_enter Tryd.func64, Tryd.ntmps64
    go_wp2
    go_quiet (fail)
    go_wp2
    go_quiet (fail)
    go_wp2
    go_ret2
    rw [HR.out]
    exact ⟨rfl, H.out.drew _, Chg.drew (Chg.refl _ _) _⟩
end Go.Proofs.YtefaohokmhdplaaDoor
