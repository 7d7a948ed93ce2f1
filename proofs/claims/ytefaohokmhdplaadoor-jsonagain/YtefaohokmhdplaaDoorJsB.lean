/- Package json: blanks, digits. -/
import Derived.Test.YtefaohokmhdplaaDoorJsA
namespace Go.Proofs.YtefaohokmhdplaaDoor
open Go Go.RowKit
set_option linter.unusedSimpArgs false
set_option linter.unusedVariables false
set_option maxRecDepth 100000

variable {w : World} {g : Nat} {s : ByteArray} {i d : Nat}
/-- Where the parser stands. -/
def posOf (w : World) (g : Nat) : Nat := match w.heap[g]? with
  | some (Obj.cells cs _ _) => (match (cs[1]? : Option Value) with
    | some (Value.int _ n) => n.toNat
    | _ => 0)
  | _ => 0
theorem PB.pos (h : PB w g s i d) : posOf w g = i := by
  have e : w.heap[g]? = _ := h
  simp [posOf, e]
theorem isBl_yes {c : Int} (h : c = 32 ∨ c = 9 ∨ c = 10 ∨ c = 13) : isBl c = true := decide_eq_true h
theorem isBl_no {c : Int} (h : ¬ (c = 32 ∨ c = 9 ∨ c = 10 ∨ c = 13)) : isBl c = false := decide_eq_false h
theorem isDg_yes {c : Int} (h : 48 ≤ c ∧ c ≤ 57) : isDg c = true := decide_eq_true h
theorem isDg_no {c : Int} (h : ¬ (48 ≤ c ∧ c ≤ 57)) : isDg c = false := decide_eq_false h
set_option maxHeartbeats 2000000 in
theorem blanks_any (h : PB w g s i d) (hi : i ≤ s.size) (hs : s.size ≤ 8192) :
    Calls Tryd.prog 52 #[.pointer (some ⟨g, 0, none⟩)] w fun e w' => e = .returned (.tuple #[]) ∧ PB w' g s (sk s i) d ∧ Cg g w w' := by
  have H : Hid (PB w g s i d) := h
  have HS : Hid (s.size ≤ 8192) := hs
  clear h hs
  go_enter Tryd.func52, Tryd.ntmps52
  go_wp2_with fail
  go_loopw [] (fun W => ∃ j, PB W g s j d ∧ Cg g w W ∧ j ≤ s.size ∧ sk s j = sk s i) (fun W => s.size - posOf W g)
  case atStart => exact ⟨i, H.out, Chg.refl _ _, hi, rfl⟩
  case round =>
    obtain ⟨j, hp, hc, hj, he⟩ := hrel
    have HP : Hid (PB wr g s j d) := hp
    have HC : Hid (Cg g w wr) := hc
    have HE : Hid (sk s j = sk s i) := he
    have hps := hp.pos
    clear hp hc he
    by_cases e0 : gb s j = 32
    · have hb := isBl_yes (c := gb s j) (by omega)
      have hlt := isBl_lt hb
      have HR : Hid (sk s j = sk s (j + 1)) := rn_step hb hlt
      clear hb
      go_wp2_with fail
      refine (take_yes HP.out hj HS.out (c := 32) (by omega) (by decide)).mono ?_
      rintro e W ⟨rfl, p1, p2⟩
      have P1 : Hid (PB W g s (j + 1) d) := p1
      have P2 : Hid (Cg g w W) := Chg.trans (HC.out) p2
      have P3 : Hid (posOf W g = j + 1) := p1.pos
      clear p1 p2
      go_wp2
      go_roundw
      case rel => exact ⟨j + 1, P1.out, P2.out, hlt, HR.out.symm.trans HE.out⟩
      case measure => rw [P3.out, hps]; omega
    by_cases e1 : gb s j = 9
    · have hb := isBl_yes (c := gb s j) (by omega)
      have hlt := isBl_lt hb
      have HR : Hid (sk s j = sk s (j + 1)) := rn_step hb hlt
      clear hb
      go_wp2_with fail
      refine (take_no HP.out hj HS.out (c := 32) (by omega)).mono ?_
      rintro e W0 ⟨rfl, n0, rfl⟩
      go_wp2_with fail
      refine (take_yes (HP.out.drew _) hj HS.out (c := 9) (by omega) (by decide)).mono ?_
      rintro e W ⟨rfl, p1, p2⟩
      have P1 : Hid (PB W g s (j + 1) d) := p1
      have P2 : Hid (Cg g w W) := Chg.trans (HC.out.drew _) p2
      have P3 : Hid (posOf W g = j + 1) := p1.pos
      clear p1 p2
      go_wp2
      go_roundw
      case rel => exact ⟨j + 1, P1.out, P2.out, hlt, HR.out.symm.trans HE.out⟩
      case measure => rw [P3.out, hps]; omega
    by_cases e2 : gb s j = 10
    · have hb := isBl_yes (c := gb s j) (by omega)
      have hlt := isBl_lt hb
      have HR : Hid (sk s j = sk s (j + 1)) := rn_step hb hlt
      clear hb
      go_wp2_with fail
      refine (take_no HP.out hj HS.out (c := 32) (by omega)).mono ?_
      rintro e W0 ⟨rfl, n0, rfl⟩
      go_wp2_with fail
      refine (take_no (HP.out.drew _) hj HS.out (c := 9) (by omega)).mono ?_
      rintro e W1 ⟨rfl, n1, rfl⟩
      go_wp2_with fail
      refine (take_yes (HP.out.drew _) hj HS.out (c := 10) (by omega) (by decide)).mono ?_
      rintro e W ⟨rfl, p1, p2⟩
      have P1 : Hid (PB W g s (j + 1) d) := p1
      have P2 : Hid (Cg g w W) := Chg.trans (HC.out.drew _) p2
      have P3 : Hid (posOf W g = j + 1) := p1.pos
      clear p1 p2
      go_wp2
      go_roundw
      case rel => exact ⟨j + 1, P1.out, P2.out, hlt, HR.out.symm.trans HE.out⟩
      case measure => rw [P3.out, hps]; omega
    by_cases e3 : gb s j = 13
    · have hb := isBl_yes (c := gb s j) (by omega)
      have hlt := isBl_lt hb
      have HR : Hid (sk s j = sk s (j + 1)) := rn_step hb hlt
      clear hb
      go_wp2_with fail
      refine (take_no HP.out hj HS.out (c := 32) (by omega)).mono ?_
      rintro e W0 ⟨rfl, n0, rfl⟩
      go_wp2_with fail
      refine (take_no (HP.out.drew _) hj HS.out (c := 9) (by omega)).mono ?_
      rintro e W1 ⟨rfl, n1, rfl⟩
      go_wp2_with fail
      refine (take_no (HP.out.drew _) hj HS.out (c := 10) (by omega)).mono ?_
      rintro e W2 ⟨rfl, n2, rfl⟩
      go_wp2_with fail
      refine (take_yes (HP.out.drew _) hj HS.out (c := 13) (by omega) (by decide)).mono ?_
      rintro e W ⟨rfl, p1, p2⟩
      have P1 : Hid (PB W g s (j + 1) d) := p1
      have P2 : Hid (Cg g w W) := Chg.trans (HC.out.drew _) p2
      have P3 : Hid (posOf W g = j + 1) := p1.pos
      clear p1 p2
      go_wp2
      go_roundw
      case rel => exact ⟨j + 1, P1.out, P2.out, hlt, HR.out.symm.trans HE.out⟩
      case measure => rw [P3.out, hps]; omega
    go_wp2_with fail
    refine (take_no HP.out hj HS.out (c := 32) (by omega)).mono ?_
    rintro e W0 ⟨rfl, n0, rfl⟩
    go_wp2_with fail
    refine (take_no (HP.out.drew _) hj HS.out (c := 9) (by omega)).mono ?_
    rintro e W1 ⟨rfl, n1, rfl⟩
    go_wp2_with fail
    refine (take_no (HP.out.drew _) hj HS.out (c := 10) (by omega)).mono ?_
    rintro e W2 ⟨rfl, n2, rfl⟩
    go_wp2_with fail
    refine (take_no (HP.out.drew _) hj HS.out (c := 13) (by omega)).mono ?_
    rintro e W3 ⟨rfl, n3, rfl⟩
    have hb := isBl_no (c := gb s j) (by omega)
    have HR : Hid (sk s j = j) := rn_stop hb
    clear hb
    go_wp2
    go_end0
    exact ⟨rfl, by rw [← HE.out, HR.out]; exact HP.out.drew _, HC.out.drew _⟩
theorem digit_any (c : Int) (w : World) : Calls Tryd.prog 72 #[.int .u8 c] w fun e w' => e = .returned (.bool (isDg c)) ∧ w' = w := by
  go_enter Tryd.func72, Tryd.ntmps72
  go_wp2
  all_goals go_ret
  all_goals refine ⟨?_, rfl⟩
  all_goals first
    | (rw [isDg_no (by omega)]; rfl)
    | (by_cases h57 : c ≤ 57
       · rw [isDg_yes (by omega)]; simp [h57]
       · rw [isDg_no (by omega)]; simp [h57])
set_option maxHeartbeats 2000000 in
theorem digits_any (h : PB w g s i d) (hi : i ≤ s.size) (hs : s.size ≤ 8192) :
    Calls Tryd.prog 84 #[.pointer (some ⟨g, 0, none⟩)] w fun e w' => e = .returned (.bool (isDg (gb s i))) ∧ PB w' g s (dgs s i) d ∧ Cg g w w' := by
  have H : Hid (PB w g s i d) := h
  have HS : Hid (s.size ≤ 8192) := hs
  obtain ⟨q0, q1, q2⟩ := h.cells
  clear h hs
  have HX : Hid (isDg (gb s i) = decide (i < dgs s i)) := by
    show isDg (gb s i) = decide (i < dgs s i)
    cases hd : isDg (gb s i) with
    | false => rw [show dgs s i = i from rn_stop hd]; simp
    | true =>
      have h1 := isDg_lt hd
      have h2 : dgs s i = dgs s (i + 1) := rn_step hd h1
      have h3 := dgs_ge s (i + 1)
      rw [h2]; exact (decide_eq_true (by omega)).symm
  go_enter Tryd.func84, Tryd.ntmps84
  go_wp2_with fail
  go_loopw [] (fun W => ∃ j, PB W g s j d ∧ Cg g w W ∧ j ≤ s.size ∧ dgs s j = dgs s i) (fun W => s.size - posOf W g)
  case atStart => exact ⟨i, H.out, Chg.refl _ _, hi, rfl⟩
  case round =>
    obtain ⟨j, hp, hc, hj, he⟩ := hrel
    have HP : Hid (PB wr g s j d) := hp
    have HC : Hid (Cg g w wr) := hc
    have HE : Hid (dgs s j = dgs s i) := he
    have hps := hp.pos
    obtain ⟨r0, r1, r2⟩ := hp.cells
    have f1 := hp.froz 1
    clear hp hc he
    go_wp2_with fail
    refine (next_any HP.out hj HS.out).mono ?_
    rintro e W ⟨rfl, n, rfl⟩
    go_wp2_with fail
    refine (digit_any _ _).mono ?_
    rintro e W ⟨rfl, rfl⟩
    have H2 : Hid (PB (wr.drewN n) g s j d) := HP.out.drew n
    have C2 : Hid (Cg g w (wr.drewN n)) := HC.out.drew n
    have hb9 : (j : Int) ≤ 8192 := by have := HS.out; omega
    have hb8 : (0 : Int) ≤ (j : Int) := by omega
    cases hd : isDg (gb s j) with
    | true =>
      have hlt := isDg_lt hd
      have HR : Hid (dgs s j = dgs s (j + 1)) := rn_step hd hlt
      go_wp2
      go_roundw
      case rel => exact ⟨j + 1, H2.out.set1 (j + 1), C2.out.setCell rfl, hlt, HR.out.symm.trans HE.out⟩
      case measure =>
        have hm : posOf ((wr.drewN n).setCell ⟨g, 1, none⟩ (.int .i64 ((j : Int) + 1))) g = j + 1 := (H2.out.set1 (j + 1)).pos
        rw [hm, hps]; omega
    | false =>
      have HR : Hid (dgs s j = j) := rn_stop hd
      have HJ : Hid (j = dgs s i) := HR.out.symm.trans HE.out
      have hge := dgs_ge s i
      have HG : Hid (i ≤ j) := by rw [HJ.out]; exact hge
      clear hge
      go_wp2
      go_ret
      refine ⟨?_, by rw [← HJ.out]; exact H2.out, C2.out⟩
      rw [HX.out, ← HJ.out]
      simp
end Go.Proofs.YtefaohokmhdplaaDoor
