/- The reference for JSON: numbers. -/
import Derived.Test.YtefaohokmhdplaaDoorJxA
namespace Go.Proofs.YtefaohokmhdplaaDoor
open Go Go.RowKit
set_option linter.unusedSimpArgs false
set_option linter.unusedVariables false
set_option maxRecDepth 100000

variable {w : World} {g : Nat} {s : ByteArray} {i d : Nat} {l : Bool}
def nmW (s : ByteArray) (i : Nat) : Nat × Bool → Value
  | (e, true) => .tuple #[.string (s.extract i e), .bool true]
  | (_, false) => .tuple #[.string ⟨#[]⟩, .bool false]
def nmV (s : ByteArray) (i : Nat) : Value := nmW s i (nmb s i)
theorem nexp_s {s : ByteArray} {c m : Nat} (h : gb s c = 101 ∨ gb s c = 69) (hm : m = if gb s (c + 1) = 43 ∨ gb s (c + 1) = 45 then c + 2 else c + 1) : nexp s c = if isDg (gb s m) then (dgs s m, true) else (m, false) := by
  unfold nexp; rw [if_pos h, hm]
set_option maxHeartbeats 32000000 in
theorem rnumber_any (h : RB w g s i d l) (hi : i ≤ s.size) (hs : s.size ≤ 8192) :
    Calls Tryd.prog 51 #[.pointer (some ⟨g, 0, none⟩)] w fun e w' => e = .returned (nmV s i) ∧ RB w' g s (nmb s i).1 d l ∧ Cg g w w' := by
  have HP0 : Hid (RB w g s i d l) := h
  have HS : Hid (s.size ≤ 8192) := hs
  have HI : Hid (i ≤ s.size) := hi
  obtain ⟨R, hR⟩ : ∃ R, nmb s i = R := ⟨_, rfl⟩
  have HIN : Hid (i ≤ R.1 ∧ R.1 ≤ s.size) := by rw [← hR]; exact nmb_le hi
  have HN0 : Hid (nmb s i = R) := hR
  unfold nmV
  rw [hR]
  obtain ⟨q0, q1, q2, q3⟩ := h.cells
  have f1 := h.froz 1
  have b1 : (i : Int) ≤ 8192 := by omega
  have b2 : (0 : Int) ≤ (i : Int) := by omega
  clear h hs hR
  go_enter Tryd.func51, Tryd.ntmps51
  go_wp2_with fail
  refine (rhere_at HP0.out (by rfl) hi HS.out).mono ?_
  rintro _ _ ⟨rfl, n, rfl⟩
  by_cases e45 : gb s i = 45
  case' pos =>
    go_wp2_with fail
    have hle : i + 1 ≤ s.size := gb_lt (s := s) (i := i) (by omega)
    have hP : RB ((w.drewN n).setCell ⟨g, 1, none⟩ (.int .i64 ((i : Int) + 1))) g s (i + 1) d l := (HP0.out.drew n).set1 (i + 1)
    have hC : Cg g w ((w.drewN n).setCell ⟨g, 1, none⟩ (.int .i64 ((i : Int) + 1))) := Chg.setCell (F := fun b => b = g) (Chg.drew (Chg.refl _ _) n) rfl
    have hN : nint s (i + 1) = R := by rw [← HN0.out, nmb_tk]; unfold tk; rw [if_pos e45]
    obtain ⟨j2, hj2⟩ : ∃ j2, i + 1 = j2 := ⟨_, rfl⟩
    rw [hj2] at hP hN hle
    obtain ⟨W2, hW2⟩ : ∃ W2, ((w.drewN n).setCell ⟨g, 1, none⟩ (.int .i64 ((i : Int) + 1))) = W2 := ⟨_, rfl⟩
    rw [hW2] at hP hC ⊢
    clear hW2 hj2
    have HP : Hid (RB W2 g s j2 d l) := hP
    have HC : Hid (Cg g w W2) := hC
    have HN : Hid (nint s j2 = R) := hN
    have hjs : j2 ≤ s.size := hle
    obtain ⟨r0, r1, r2, r3⟩ := hP.cells
    have f2 := hP.froz 1
    clear hP hC hN hle e45 q0 q1 q2 q3 f1
  case' neg =>
    go_wp2_with fail
    have hle : i ≤ s.size := HI.out
    have hP : RB (w.drewN n) g s i d l := HP0.out.drew n
    have hC : Cg g w (w.drewN n) := Chg.drew (Chg.refl _ _) n
    have hN : nint s i = R := by rw [← HN0.out, nmb_tk]; unfold tk; rw [if_neg e45]
    obtain ⟨j2, hj2⟩ : ∃ j2, i = j2 := ⟨_, rfl⟩
    have hP : RB (w.drewN n) g s j2 d l := by rw [← hj2]; exact hP
    have hN : nint s j2 = R := by rw [← hj2]; exact hN
    have hle : j2 ≤ s.size := by rw [← hj2]; exact hle
    obtain ⟨W2, hW2⟩ : ∃ W2, w.drewN n = W2 := ⟨_, rfl⟩
    rw [hW2] at hP hC ⊢
    clear hW2 hj2
    have HP : Hid (RB W2 g s j2 d l) := hP
    have HC : Hid (Cg g w W2) := hC
    have HN : Hid (nint s j2 = R) := hN
    have hjs : j2 ≤ s.size := hle
    obtain ⟨r0, r1, r2, r3⟩ := hP.cells
    have f2 := hP.froz 1
    clear hP hC hN hle e45 q0 q1 q2 q3 f1
  all_goals (
    have b5 : (j2 : Int) ≤ 8192 := by have := HS.out; omega
    have b6 : (0 : Int) ≤ (j2 : Int) := by omega
    refine (rhere_at HP.out (by rfl) hjs HS.out).mono ?_
    rintro _ _ ⟨rfl, n, rfl⟩
    by_cases e48 : gb s j2 = 48
    case' pos =>
      go_wp2_with fail
      have hle : j2 + 1 ≤ s.size := gb_lt (s := s) (i := j2) (by omega)
      have hP : RB ((W2.drewN n).setCell ⟨g, 1, none⟩ (.int .i64 ((j2 : Int) + 1))) g s (j2 + 1) d l := (HP.out.drew n).set1 (j2 + 1)
      have hC : Cg g w ((W2.drewN n).setCell ⟨g, 1, none⟩ (.int .i64 ((j2 : Int) + 1))) := (Chg.drew HC.out n).setCell rfl
      have hN : nfra s (j2 + 1) = R := by rw [← HN.out, nint_0 e48]
      obtain ⟨x, hx⟩ : ∃ x, j2 + 1 = x := ⟨_, rfl⟩
      have hP : RB ((W2.drewN n).setCell ⟨g, 1, none⟩ (.int .i64 ((j2 : Int) + 1))) g s x d l := by rw [← hx]; exact hP
      have hN : nfra s x = R := by rw [← hx]; exact hN
      have hle : x ≤ s.size := by rw [← hx]; exact hle
      obtain ⟨W9, hW9⟩ : ∃ W9, ((W2.drewN n).setCell ⟨g, 1, none⟩ (.int .i64 ((j2 : Int) + 1))) = W9 := ⟨_, rfl⟩
      rw [hW9] at hP hC ⊢
      clear hW9 hx HP HC HN hjs r0 r1 r2 r3 f2
      have HP : Hid (RB W9 g s x d l) := hP
      have HC : Hid (Cg g w W9) := hC
      have HN : Hid (nfra s x = R) := hN
      have hjs : x ≤ s.size := hle
      obtain ⟨r0, r1, r2, r3⟩ := hP.cells
      have f2 := hP.froz 1
      clear hP hC hN hle
      have b3 : (x : Int) ≤ 8192 := by have := HS.out; omega
      have b4 : (0 : Int) ≤ (x : Int) := by omega
      clear b5 b6
      have b5 := b3
      have b6 := b4
      clear b3 b4
    case' neg =>
      go_wp2_with fail
      refine (rdigits_any (HP.out.drew n) hjs HS.out).mono ?_
      rintro _ W8 ⟨rfl, p8, c8⟩
      have hdc : isDg (gb s j2) = false ∨ isDg (gb s j2) = true := by cases isDg (gb s j2) <;> simp
      rcases hdc with hd | hd
      · rw [hd]
        have hdg : dgs s j2 = j2 := rn_stop hd
        rw [hdg] at p8
        have HPF : Hid (RB W8 g s j2 d l) := p8
        have HCF : Hid (Cg g w W8) := Chg.trans (Chg.drew HC.out n) c8
        have HRF : Hid ((j2, false) = R) := by show _ = _; rw [← HN.out, nint_n e48 hd]
        clear p8 c8 hdg
        go_wp2
        go_ret2
        rw [← HRF.out]
        exact ⟨rfl, HPF.out, HCF.out⟩
      rw [hd]
      go_wp2_with fail
      have hle : dgs s j2 ≤ s.size := dgs_le hjs
      have hP : RB W8 g s (dgs s j2) d l := p8
      have hC : Cg g w W8 := Chg.trans (Chg.drew HC.out n) c8
      have hN : nfra s (dgs s j2) = R := by rw [← HN.out, nint_d e48 hd]
      clear p8 c8 hd
      obtain ⟨x, hx⟩ : ∃ x, dgs s j2 = x := ⟨_, rfl⟩
      have hP : RB W8 g s x d l := by rw [← hx]; exact hP
      have hN : nfra s x = R := by rw [← hx]; exact hN
      have hle : x ≤ s.size := by rw [← hx]; exact hle
      obtain ⟨W9, hW9⟩ : ∃ W9, W8 = W9 := ⟨_, rfl⟩
      rw [hW9] at hP hC ⊢
      clear hW9 hx HP HC HN hjs r0 r1 r2 r3 f2
      have HP : Hid (RB W9 g s x d l) := hP
      have HC : Hid (Cg g w W9) := hC
      have HN : Hid (nfra s x = R) := hN
      have hjs : x ≤ s.size := hle
      obtain ⟨r0, r1, r2, r3⟩ := hP.cells
      have f2 := hP.froz 1
      clear hP hC hN hle
      have b3 : (x : Int) ≤ 8192 := by have := HS.out; omega
      have b4 : (0 : Int) ≤ (x : Int) := by omega
      clear b5 b6
      have b5 := b3
      have b6 := b4
      clear b3 b4
    all_goals (
      refine (rhere_at HP.out (by rfl) hjs HS.out).mono ?_
      rintro _ _ ⟨rfl, n, rfl⟩
      by_cases e46 : gb s x = 46
      case' pos =>
        have hlx : x + 1 ≤ s.size := gb_lt (s := s) (i := x) (by omega)
        have HP7 : Hid (RB ((W9.drewN n).setCell ⟨g, 1, none⟩ (.int .i64 ((x : Int) + 1))) g s (x + 1) d l) := (HP.out.drew n).set1 (x + 1)
        have HC7 : Hid (Cg g w ((W9.drewN n).setCell ⟨g, 1, none⟩ (.int .i64 ((x : Int) + 1)))) := Chg.setCell (F := fun b => b = g) (Chg.drew HC.out n) rfl
        go_wp2_with fail
        refine (rdigits_any HP7.out hlx HS.out).mono ?_
        rintro _ W8 ⟨rfl, p8, c8⟩
        have hdc : isDg (gb s (x + 1)) = false ∨ isDg (gb s (x + 1)) = true := by cases isDg (gb s (x + 1)) <;> simp
        rcases hdc with hd | hd
        · rw [hd]
          have hdg : dgs s (x + 1) = (x + 1) := rn_stop hd
          rw [hdg] at p8
          have HPF : Hid (RB W8 g s (x + 1) d l) := p8
          have HCF : Hid (Cg g w W8) := Chg.trans HC7.out c8
          have HRF : Hid (((x + 1), false) = R) := by show _ = _; rw [← HN.out, nfra_x e46 hd]
          clear p8 c8 hdg
          go_wp2
          go_ret2
          rw [← HRF.out]
          exact ⟨rfl, HPF.out, HCF.out⟩
        rw [hd]
        go_wp2_with fail
        have hle : dgs s (x + 1) ≤ s.size := dgs_le hlx
        have hP : RB W8 g s (dgs s (x + 1)) d l := p8
        have hC : Cg g w W8 := Chg.trans HC7.out c8
        have hN : nexp s (dgs s (x + 1)) = R := by rw [← HN.out, nfra_d e46 hd]
        clear p8 c8 hd
        obtain ⟨y, hy⟩ : ∃ y, dgs s (x + 1) = y := ⟨_, rfl⟩
        rw [hy] at hP hN hle
        clear hy HP HC HN hjs r0 r1 r2 r3 f2 b5 b6 HP7 HC7 hlx e46
        have HP : Hid (RB W8 g s y d l) := hP
        have HC : Hid (Cg g w W8) := hC
        have HN : Hid (nexp s y = R) := hN
        have hjs : y ≤ s.size := hle
        obtain ⟨r0, r1, r2, r3⟩ := hP.cells
        have f2 := hP.froz 1
        clear hP hC hN hle
        have b5 : (y : Int) ≤ 8192 := by have := HS.out; omega
        have b6 : (0 : Int) ≤ (y : Int) := by omega
      case' neg =>
        go_wp2_with fail
        have hN : nexp s x = R := by rw [← HN.out, nfra_n e46]
        obtain ⟨y, hy⟩ : ∃ y, x = y := ⟨_, rfl⟩
        have hP : RB (W9.drewN n) g s y d l := by rw [← hy]; exact HP.out.drew n
        have hC : Cg g w (W9.drewN n) := Chg.drew HC.out n
        have hle : y ≤ s.size := by rw [← hy]; exact hjs
        rw [hy] at hN
        obtain ⟨W8, hW8⟩ : ∃ W8, W9.drewN n = W8 := ⟨_, rfl⟩
        rw [hW8] at hP hC ⊢
        clear hW8 hy HP HC HN hjs r0 r1 r2 r3 f2 b5 b6 e46
        have HP : Hid (RB W8 g s y d l) := hP
        have HC : Hid (Cg g w W8) := hC
        have HN : Hid (nexp s y = R) := hN
        have hjs : y ≤ s.size := hle
        obtain ⟨r0, r1, r2, r3⟩ := hP.cells
        have f2 := hP.froz 1
        clear hP hC hN hle
        have b5 : (y : Int) ≤ 8192 := by have := HS.out; omega
        have b6 : (0 : Int) ≤ (y : Int) := by omega
      all_goals (
        refine (rhere_at HP.out (by rfl) hjs HS.out).mono ?_
        rintro _ _ ⟨rfl, n, rfl⟩
        have hex : gb s y = 101 ∨ gb s y = 69 ∨ ¬ (gb s y = 101 ∨ gb s y = 69) := by omega
        rcases hex with e101 | e69 | eno
        case' inl =>
          have hee : gb s y = 101 ∨ gb s y = 69 := .inl e101
          have FIN : Hid (∀ n, RB ((W8.drewN n).setCell ⟨g, 1, none⟩ (.int .i64 ((y : Int) + 1))) g s (y + 1) d l ∧ Cg g w ((W8.drewN n).setCell ⟨g, 1, none⟩ (.int .i64 ((y : Int) + 1)))) := fun n => ⟨(HP.out.drew n).set1 (y + 1), Chg.setCell (F := fun b => b = g) (Chg.drew HC.out n) rfl⟩
          go_wp2_with fail
          obtain ⟨hP, hC⟩ := FIN.out n
          clear e101
          obtain ⟨W7, hW7⟩ : ∃ W7, (W8.drewN n).setCell ⟨g, 1, none⟩ (.int .i64 ((y : Int) + 1)) = W7 := ⟨_, rfl⟩
          rw [hW7] at hP hC ⊢
          clear hW7
        case' inr.inl =>
          have hee : gb s y = 101 ∨ gb s y = 69 := .inr e69
          have FIN : Hid (∀ n, RB ((W8.drewN n).setCell ⟨g, 1, none⟩ (.int .i64 ((y : Int) + 1))) g s (y + 1) d l ∧ Cg g w ((W8.drewN n).setCell ⟨g, 1, none⟩ (.int .i64 ((y : Int) + 1)))) := fun n => ⟨(HP.out.drew n).set1 (y + 1), Chg.setCell (F := fun b => b = g) (Chg.drew HC.out n) rfl⟩
          have e101 : ¬ gb s y = 101 := by omega
          go_wp2_with fail
          refine (rhere_at HP.out (by rfl) hjs HS.out).mono ?_
          rintro _ _ ⟨rfl, n2, rfl⟩
          go_wp2_with fail
          try rw [World.drewN_drewN]
          obtain ⟨hP, hC⟩ := FIN.out (n + n2)
          clear e101 e69
          obtain ⟨W7, hW7⟩ : ∃ W7, (W8.drewN (n + n2)).setCell ⟨g, 1, none⟩ (.int .i64 ((y : Int) + 1)) = W7 := ⟨_, rfl⟩
          rw [hW7] at hP hC ⊢
          clear hW7
        case' inr.inr =>
          have e101 : ¬ gb s y = 101 := by omega
          have e69 : ¬ gb s y = 69 := by omega
          have HRF : Hid ((y, true) = R) := by show _ = _; rw [← HN.out, nexp_n eno]
          have HPF : Hid (∀ n, RB (W8.drewN n) g s y d l) := fun n => HP.out.drew n
          have HCF : Hid (∀ n, Cg g w (W8.drewN n)) := fun n => Chg.drew HC.out n
          have hnn : (gb s y == 101 || gb s y == 69) = false := by simp [e101, e69]
          have HLE : Hid (i ≤ y) := by have := HIN.out.1; rw [← HRF.out] at this; exact this
          have z1 : (i : Int) ≤ (y : Int) := by have := HLE.out; omega
          have z2 : (y : Int) ≤ (s.size : Int) := by omega
          go_wp2_with fail
          refine (rhere_at HP.out (by rfl) hjs HS.out).mono ?_
          rintro _ _ ⟨rfl, n2, rfl⟩
          try rw [World.drewN_drewN]
          go_wp2
          go_quiet (fail)
          go_wp2
          go_ret2
          rw [← HRF.out]
          try rw [World.drewN_drewN]
          exact ⟨rfl, HPF.out _, HCF.out _⟩
        all_goals (
          have hle : y + 1 ≤ s.size := gb_lt (s := s) (i := y) (by omega)
          clear r0 r1 r2 r3 f2
          obtain ⟨z, hz⟩ : ∃ z, y + 1 = z := ⟨_, rfl⟩
          rw [hz] at hP hle
          obtain ⟨r0, r1, r2, r3⟩ := hP.cells
          have f2 := hP.froz 1
          have b7 : (z : Int) ≤ 8192 := by have := HS.out; omega
          have b8 : (0 : Int) ≤ (z : Int) := by omega
          have HPY : Hid _ := hP
          have HCY : Hid _ := hC
          have HPX : Hid (RB W7 g s z d l) := hP
          have HCX : Hid (Cg g w W7) := hC
          clear hP hC HPY HCY FIN
          refine (rhere_at HPX.out (by rfl) hle HS.out).mono ?_
          rintro _ _ ⟨rfl, n3, rfl⟩
          have hsg : gb s z = 43 ∨ gb s z = 45 ∨ ¬ (gb s z = 43 ∨ gb s z = 45) := by omega
          rcases hsg with s43 | s45 | sno
          case' inl =>
            have hcond : gb s (y + 1) = 43 ∨ gb s (y + 1) = 45 := by rw [hz]; exact .inl s43
            have hle2 : z + 1 ≤ s.size := gb_lt (s := s) (i := z) (by omega)
            obtain ⟨m, hm⟩ : ∃ m, z + 1 = m := ⟨_, rfl⟩
            have HFZ : Hid (∀ n, RB ((W7.drewN n).setCell ⟨g, 1, none⟩ (.int .i64 ((z : Int) + 1))) g s m d l ∧ Cg g w ((W7.drewN n).setCell ⟨g, 1, none⟩ (.int .i64 ((z : Int) + 1)))) := fun n => ⟨by rw [← hm]; exact (HPX.out.drew n).set1 (z + 1), Chg.setCell (F := fun b => b = g) (Chg.drew HCX.out n) rfl⟩
            have hmz : m ≤ s.size := by rw [← hm]; exact hle2
            have HNZ : Hid ((if isDg (gb s m) then (dgs s m, true) else (m, false)) = R) := by show _ = _; rw [← HN.out, nexp_s hee (m := m) (by rw [if_pos hcond]; omega)]
            go_wp2_with fail
            obtain ⟨hp, hc⟩ := HFZ.out n3
          case' inr.inl =>
            have hcond : gb s (y + 1) = 43 ∨ gb s (y + 1) = 45 := by rw [hz]; exact .inr s45
            have s43 : ¬ gb s z = 43 := by omega
            have hle2 : z + 1 ≤ s.size := gb_lt (s := s) (i := z) (by omega)
            obtain ⟨m, hm⟩ : ∃ m, z + 1 = m := ⟨_, rfl⟩
            have HFZ : Hid (∀ n, RB ((W7.drewN n).setCell ⟨g, 1, none⟩ (.int .i64 ((z : Int) + 1))) g s m d l ∧ Cg g w ((W7.drewN n).setCell ⟨g, 1, none⟩ (.int .i64 ((z : Int) + 1)))) := fun n => ⟨by rw [← hm]; exact (HPX.out.drew n).set1 (z + 1), Chg.setCell (F := fun b => b = g) (Chg.drew HCX.out n) rfl⟩
            have hmz : m ≤ s.size := by rw [← hm]; exact hle2
            have HNZ : Hid ((if isDg (gb s m) then (dgs s m, true) else (m, false)) = R) := by show _ = _; rw [← HN.out, nexp_s hee (m := m) (by rw [if_pos hcond]; omega)]
            go_wp2_with fail
            refine (rhere_at HPX.out (by rfl) hle HS.out).mono ?_
            rintro _ _ ⟨rfl, n4, rfl⟩
            go_wp2_with fail
            try rw [World.drewN_drewN]
            obtain ⟨hp, hc⟩ := HFZ.out (n3 + n4)
          case' inr.inr =>
            have s43 : ¬ gb s z = 43 := by omega
            have s45 : ¬ gb s z = 45 := by omega
            obtain ⟨m, hm⟩ : ∃ m, z = m := ⟨_, rfl⟩
            have HFZ : Hid (∀ n, RB (W7.drewN n) g s m d l ∧ Cg g w (W7.drewN n)) := fun n => ⟨by rw [← hm]; exact HPX.out.drew n, Chg.drew HCX.out n⟩
            have hmz : m ≤ s.size := by rw [← hm]; exact hle
            have HNZ : Hid ((if isDg (gb s m) then (dgs s m, true) else (m, false)) = R) := by show _ = _; rw [← HN.out, nexp_s hee (m := m) (by rw [hz, if_neg sno]; omega)]
            have hnn : (gb s z == 43 || gb s z == 45) = false := by simp [s43, s45]
            clear hm
            go_wp2_with fail
            refine (rhere_at HPX.out (by rfl) hle HS.out).mono ?_
            rintro _ _ ⟨rfl, n4, rfl⟩
            go_wp2_with fail
            try rw [World.drewN_drewN]
            obtain ⟨hp, hc⟩ := HFZ.out (n3 + n4)
          all_goals (
            have HPZ : Hid _ := hp
            have HCZ : Hid _ := hc
            clear hp hc
            refine (rdigits_any HPZ.out hmz HS.out).mono ?_
            rintro _ W5 ⟨rfl, p8, c8⟩
            have hdc : isDg (gb s m) = false ∨ isDg (gb s m) = true := by cases isDg (gb s m) <;> simp
            rcases hdc with hd | hd
            · rw [hd]
              have hdg : dgs s m = m := rn_stop hd
              rw [hdg] at p8
              have HPF : Hid (RB W5 g s m d l) := p8
              have HCF : Hid (Cg g w W5) := Chg.trans HCZ.out c8
              have HRF : Hid ((m, false) = R) := by show _ = _; rw [← HNZ.out, hd]; rfl
              clear p8 c8 hdg
              go_wp2
              go_ret2
              rw [← HRF.out]
              exact ⟨rfl, HPF.out, HCF.out⟩
            · rw [hd]
              obtain ⟨x, hx⟩ : ∃ x, dgs s m = x := ⟨_, rfl⟩
              rw [hx] at p8
              have HPF : Hid (RB W5 g s x d l) := p8
              have HCF : Hid (Cg g w W5) := Chg.trans HCZ.out c8
              have HRF : Hid ((x, true) = R) := by show _ = _; rw [← HNZ.out, hd, ← hx]; rfl
              clear p8 c8 hx
              have HLE : Hid (i ≤ x) := by have := HIN.out.1; rw [← HRF.out] at this; exact this
              have z0 : x ≤ s.size := by have := HIN.out.2; rw [← HRF.out] at this; exact this
              have z1 : (i : Int) ≤ (x : Int) := by have := HLE.out; omega
              have z2 : (x : Int) ≤ (s.size : Int) := by omega
              obtain ⟨r0, r1, r2, r3⟩ := HPF.out.cells
              go_wp2
              go_quiet (fail)
              go_wp2
              go_ret2
              rw [← HRF.out]
              exact ⟨rfl, HPF.out.drew _, Chg.drew HCF.out _⟩)))))
end Go.Proofs.YtefaohokmhdplaaDoor
