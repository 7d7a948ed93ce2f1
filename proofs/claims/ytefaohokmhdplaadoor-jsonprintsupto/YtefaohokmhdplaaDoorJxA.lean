/- The reference for JSON: the reader, its small calls. -/
import Derived.Test.YtefaohokmhdplaaDoorJsY
namespace Go.Proofs.YtefaohokmhdplaaDoor
open Go Go.RowKit
set_option linter.unusedSimpArgs false
set_option linter.unusedVariables false
set_option maxRecDepth 100000

/-- The reader's four cells. -/
def RB (w : World) (g : Nat) (s : ByteArray) (i d : Nat) (l : Bool) : Prop := w.heap[g]? = some (.cells #[.string s, .int .i64 (i : Int), .int .i64 (d : Int), .bool l] 61 (0, 0))
variable {w : World} {g : Nat} {s : ByteArray} {i d : Nat} {l : Bool}
theorem RB.cell (h : RB w g s i d l) (j : Nat) : w.cell? ⟨g, j, none⟩ = (#[.string s, .int .i64 (i : Int), .int .i64 (d : Int), .bool l] : Array Value)[j]? := by
  have e : w.heap[g]? = _ := h
  simp only [World.cell?, e, Option.isSome_none, Bool.false_eq_true, if_false]
theorem RB.cells (h : RB w g s i d l) : w.cell? ⟨g, 0, none⟩ = some (.string s) ∧ w.cell? ⟨g, 1, none⟩ = some (.int .i64 (i : Int)) ∧ w.cell? ⟨g, 2, none⟩ = some (.int .i64 (d : Int)) ∧ w.cell? ⟨g, 3, none⟩ = some (.bool l) := ⟨h.cell 0, h.cell 1, h.cell 2, h.cell 3⟩
theorem RB.froz (h : RB w g s i d l) (j : Nat) : w.frozen? ⟨g, j, none⟩ = false := by
  have e : w.heap[g]? = _ := h
  simp [World.frozen?, e]
theorem RB.lt (h : RB w g s i d l) : g < w.heap.size := (Array.getElem?_eq_some_iff.1 h).1
theorem RB.keep {w' : World} (h : RB w g s i d l) (k : w'.heap[g]? = w.heap[g]?) : RB w' g s i d l := k.trans h
theorem RB.set1 (h : RB w g s i d l) (v : Nat) : RB (w.setCell ⟨g, 1, none⟩ (.int .i64 (v : Int))) g s v d l := heap_setCell_same h _
theorem RB.set2 (h : RB w g s i d l) (v : Nat) : RB (w.setCell ⟨g, 2, none⟩ (.int .i64 (v : Int))) g s i v l := heap_setCell_same h _
theorem RB.set3 (h : RB w g s i d l) (v : Bool) : RB (w.setCell ⟨g, 3, none⟩ (.bool v)) g s i d v := heap_setCell_same h _
theorem RB.drew (h : RB w g s i d l) (n : Nat) : RB (w.drewN n) g s i d l := h
theorem RB.pos (h : RB w g s i d l) : posOf w g = i := by
  have e : w.heap[g]? = _ := h
  simp [posOf, e]
set_option maxHeartbeats 1000000 in
theorem rhere_at {w0 : World} (h : RB w0 g s i d l) (hw : w.heap = w0.heap) (hi : i ≤ s.size) (hs : s.size ≤ 8192) :
    Calls Tryd.prog 46 #[.pointer (some ⟨g, 0, none⟩)] w fun e w' => e = .returned (.int .u8 (gb s i)) ∧ ∃ n, w' = w.drewN n := by
  have h : RB w g s i d l := h.keep (by rw [hw])
  obtain ⟨h0, h1, h2, h3⟩ := h.cells
  clear h hw
  by_cases he : i = s.size
  · have hg : gb s i = 0 := gb_out (by omega)
    have HG : Hid (gb s i = 0) := hg
    subst he
    clear hg
    go_enter Tryd.func46, Tryd.ntmps46
    go_wp2
    go_quiet (fail)
    go_wp2
    go_ret
    exact ⟨by rw [HG.out]; rfl, _, rfl⟩
  · have hlt : i < s.size := by omega
    have hne : (i : Int) < (s.size : Int) := by omega
    have HG : Hid _ := idx_gb hlt
    go_enter Tryd.func46, Tryd.ntmps46
    go_wp2
    go_quiet (fail)
    go_wp2
    go_quiet (fail)
    go_wp2
    go_ret
    exact ⟨by rw [← HG.out]; rfl, _, by rw [World.drewN_drewN]⟩
theorem rdigit_any (c : Int) (w : World) : Calls Tryd.prog 77 #[.int .u8 c] w fun e w' => e = .returned (.bool (isDg c)) ∧ w' = w := by
  go_enter Tryd.func77, Tryd.ntmps77
  go_wp2
  all_goals go_ret
  all_goals refine ⟨?_, rfl⟩
  all_goals first
    | (rw [isDg_no (by omega)]; rfl)
    | (by_cases h57 : c ≤ 57
       · rw [isDg_yes (by omega)]; simp [h57]
       · rw [isDg_no (by omega)]; simp [h57])
set_option maxHeartbeats 4000000 in
theorem rblanks_any (h : RB w g s i d l) (hi : i ≤ s.size) (hs : s.size ≤ 8192) :
    Calls Tryd.prog 25 #[.pointer (some ⟨g, 0, none⟩)] w fun e w' => e = .returned (.tuple #[]) ∧ RB w' g s (sk s i) d l ∧ Cg g w w' := by
  have H : Hid (RB w g s i d l) := h
  have HS : Hid (s.size ≤ 8192) := hs
  clear h hs
  go_enter Tryd.func25, Tryd.ntmps25
  go_wp2_with fail
  go_loopw [] (fun W => ∃ j, RB W g s j d l ∧ Cg g w W ∧ j ≤ s.size ∧ sk s j = sk s i) (fun W => s.size - posOf W g)
  case atStart => exact ⟨i, H.out, Chg.refl _ _, hi, rfl⟩
  case round =>
    obtain ⟨j, hp, hc, hj, he⟩ := hrel
    have HP : Hid (RB wr g s j d l) := hp
    have HC : Hid (Cg g w wr) := hc
    have HE : Hid (sk s j = sk s i) := he
    have hps := hp.pos
    obtain ⟨r0, r1, r2, r3⟩ := hp.cells
    have f1 := hp.froz 1
    have hb9 : (j : Int) ≤ 8192 := by have := HS.out; omega
    have hb8 : (0 : Int) ≤ (j : Int) := by omega
    clear hp hc he
    cases hb : isBl (gb s j) with
    | true =>
      have hlt := isBl_lt hb
      have HR : Hid (sk s j = sk s (j + 1)) := rn_step hb hlt
      have hbb : gb s j = 32 ∨ gb s j = 9 ∨ gb s j = 10 ∨ gb s j = 13 := of_decide_eq_true hb
      clear hb
      have fin : ∀ n, RB ((wr.drewN n).setCell ⟨g, 1, none⟩ (.int .i64 ((j : Int) + 1))) g s (j + 1) d l ∧ Cg g w ((wr.drewN n).setCell ⟨g, 1, none⟩ (.int .i64 ((j : Int) + 1))) := fun n => ⟨(HP.out.drew n).set1 (j + 1), (HC.out.drew n).setCell rfl⟩
      have FIN : Hid (∀ n, RB ((wr.drewN n).setCell ⟨g, 1, none⟩ (.int .i64 ((j : Int) + 1))) g s (j + 1) d l ∧ Cg g w ((wr.drewN n).setCell ⟨g, 1, none⟩ (.int .i64 ((j : Int) + 1)))) := fin
      clear fin
      rcases hbb with e | e | e | e
      all_goals (
        go_wp2_with (go_at_call 46; refine (rhere_at HP.out (by rfl) hj HS.out).mono ?_; rintro _ _ ⟨rfl, n, rfl⟩; rw [e])
        try simp only [World.drewN_drewN]
        go_roundw
        case rel => exact ⟨j + 1, (FIN.out _).1, (FIN.out _).2, hlt, HR.out.symm.trans HE.out⟩
        case measure => rw [(FIN.out _).1.pos, hps]; omega)
    | false =>
      have HR : Hid (sk s j = j) := rn_stop hb
      have hbb : ¬ (gb s j = 32 ∨ gb s j = 9 ∨ gb s j = 10 ∨ gb s j = 13) := of_decide_eq_false hb
      have d1 : ¬ gb s j = 32 := fun e => hbb (.inl e)
      have d2 : ¬ gb s j = 9 := fun e => hbb (.inr (.inl e))
      have d3 : ¬ gb s j = 10 := fun e => hbb (.inr (.inr (.inl e)))
      have d4 : ¬ gb s j = 13 := fun e => hbb (.inr (.inr (.inr e)))
      have hnn : (gb s j == 32 || gb s j == 9 || gb s j == 10 || gb s j == 13) = false := by simp [d1, d2, d3, d4]
      clear hb hbb
      go_wp2_with (go_at_call 46; refine (rhere_at HP.out (by rfl) hj HS.out).mono ?_; rintro _ _ ⟨rfl, n, rfl⟩)
      go_end0
      exact ⟨rfl, by rw [← HE.out, HR.out]; exact HP.out.drew _, HC.out.drew _⟩
set_option maxHeartbeats 4000000 in
theorem rdigits_any (h : RB w g s i d l) (hi : i ≤ s.size) (hs : s.size ≤ 8192) :
    Calls Tryd.prog 65 #[.pointer (some ⟨g, 0, none⟩)] w fun e w' => e = .returned (.bool (isDg (gb s i))) ∧ RB w' g s (dgs s i) d l ∧ Cg g w w' := by
  have H : Hid (RB w g s i d l) := h
  have HS : Hid (s.size ≤ 8192) := hs
  clear h hs
  cases hd0 : isDg (gb s i) with
  | false =>
    have hdg : dgs s i = i := rn_stop hd0
    rw [hdg]
    have HD : Hid (isDg (gb s i) = false) := hd0
    clear hd0 hdg
    go_enter Tryd.func65, Tryd.ntmps65
    go_wp2_with fail
    refine (rhere_at H.out (by rfl) hi HS.out).mono ?_
    rintro _ _ ⟨rfl, n, rfl⟩
    go_wp2_with fail
    refine (rdigit_any _ _).mono ?_
    rintro _ _ ⟨rfl, rfl⟩
    rw [HD.out]
    go_wp2
    go_ret
    exact ⟨rfl, H.out.drew _, Chg.drew (Chg.refl _ _) _⟩
  | true =>
    have HD : Hid (isDg (gb s i) = true) := hd0
    clear hd0
    go_enter Tryd.func65, Tryd.ntmps65
    go_wp2_with fail
    refine (rhere_at H.out (by rfl) hi HS.out).mono ?_
    rintro _ _ ⟨rfl, n, rfl⟩
    go_wp2_with fail
    refine (rdigit_any _ _).mono ?_
    rintro _ _ ⟨rfl, rfl⟩
    rw [HD.out]
    have HP0 : Hid (RB (w.drewN n) g s i d l) := H.out.drew n
    have HC0 : Hid (Cg g w (w.drewN n)) := Chg.drew (Chg.refl _ _) n
    go_wp2_with fail
    go_loopw [] (fun W => ∃ j, RB W g s j d l ∧ Cg g w W ∧ j ≤ s.size ∧ dgs s j = dgs s i) (fun W => s.size - posOf W g)
    case atStart => exact ⟨i, HP0.out, HC0.out, hi, rfl⟩
    case round =>
      obtain ⟨j, hp, hc, hj, he⟩ := hrel
      have HP : Hid (RB wr g s j d l) := hp
      have HC : Hid (Cg g w wr) := hc
      have HE : Hid (dgs s j = dgs s i) := he
      have hps := hp.pos
      obtain ⟨r0, r1, r2, r3⟩ := hp.cells
      have f1 := hp.froz 1
      have hb9 : (j : Int) ≤ 8192 := by have := HS.out; omega
      have hb8 : (0 : Int) ≤ (j : Int) := by omega
      clear hp hc he
      go_wp2_with fail
      refine (rhere_at HP.out (by rfl) hj HS.out).mono ?_
      rintro _ _ ⟨rfl, n2, rfl⟩
      go_wp2_with fail
      refine (rdigit_any _ _).mono ?_
      rintro _ _ ⟨rfl, rfl⟩
      have H2 : Hid (RB (wr.drewN n2) g s j d l) := HP.out.drew n2
      have C2 : Hid (Cg g w (wr.drewN n2)) := HC.out.drew n2
      cases hd : isDg (gb s j) with
      | true =>
        have hlt := isDg_lt hd
        have HR : Hid (dgs s j = dgs s (j + 1)) := rn_step hd hlt
        go_wp2
        go_roundw
        case rel => exact ⟨j + 1, H2.out.set1 (j + 1), C2.out.setCell rfl, hlt, HR.out.symm.trans HE.out⟩
        case measure =>
          have hm : posOf ((wr.drewN n2).setCell ⟨g, 1, none⟩ (.int .i64 ((j : Int) + 1))) g = j + 1 := (H2.out.set1 (j + 1)).pos
          rw [hm, hps]; omega
      | false =>
        have HR : Hid (dgs s j = j) := rn_stop hd
        have HJ : Hid (j = dgs s i) := HR.out.symm.trans HE.out
        go_wp2
        go_ret
        exact ⟨rfl, by rw [← HJ.out]; exact H2.out, C2.out⟩
set_option maxHeartbeats 4000000 in
theorem rword_any (h : RB w g s i d l) (hi : i ≤ s.size) (hs : s.size ≤ 8192) (t : ByteArray) (ht : t.size ≤ 8192) (hz : ∀ k, k < t.size → gb t k ≠ 0) :
    Calls Tryd.prog 50 #[.pointer (some ⟨g, 0, none⟩), .string t] w fun e w' => e = .returned (.bool (wd s (lets t) i).2) ∧ RB w' g s (wd s (lets t) i).1 d l ∧ Cg g w w' := by
  have H : Hid (RB w g s i d l) := h
  have HS : Hid (s.size ≤ 8192) := hs
  have HZ : Hid (∀ k, k < t.size → gb t k ≠ 0) := hz
  have ht' : (t.size : Int) ≤ 8192 := by omega
  clear h hs hz ht
  go_enter Tryd.func50, Tryd.ntmps50
  go_wp2_with fail
  go_loopw [5] (fun v W => ∃ k j : Nat, v = .int .i64 (k : Int) ∧ k ≤ t.size ∧ RB W g s j d l ∧ Cg g w W ∧ j ≤ s.size ∧ wd s ((lets t).drop k) j = wd s (lets t) i) (fun v _ => t.size - (intOf v).toNat)
  case atStart => exact ⟨0, i, rfl, Nat.zero_le _, H.out, Chg.refl _ _, hi, rfl⟩
  case round =>
    obtain ⟨k, j, rfl, hk, hp, hc, hj, he⟩ := hrel
    have HP : Hid (RB wr g s j d l) := hp
    have HC : Hid (Cg g w wr) := hc
    have HE : Hid (wd s ((lets t).drop k) j = wd s (lets t) i) := he
    obtain ⟨r0, r1, r2, r3⟩ := hp.cells
    have f1 := hp.froz 1
    have hb9 : (j : Int) ≤ 8192 := by have := HS.out; omega
    have hb8 : (0 : Int) ≤ (j : Int) := by omega
    clear hp hc he
    by_cases hlt : k < t.size
    · have HX : Hid _ := idx_gb hlt
      have h0 := HZ.out k hlt
      have HD : Hid ((lets t).drop k = gb t k :: (lets t).drop (k + 1)) := lets_drop t hlt
      obtain ⟨c', hc'⟩ : ∃ c', (t[k]'hlt).toNat = c' := ⟨_, rfl⟩
      have hkk : (k : Int) < (t.size : Int) := by omega
      by_cases hgb : gb s j = gb t k
      · have HW : Hid (wd s ((lets t).drop (k + 1)) (j + 1) = wd s (lets t) i) := by
          show (_ : Nat × Bool) = _
          rw [← HE.out, HD.out]; simp only [wd, hgb, if_true]
        have hj' := gb_lt (s := s) (i := j) (by rw [hgb]; exact h0)
        have hcc : gb s j = (c' : Int) := by rw [hgb, ← hc']; exact HX.out.symm
        clear HX hgb h0
        go_wp2
        go_quiet ((go_at_call 46; exact Calls.quiet_of (rhere_at HP.out (by rfl) hj HS.out)))
        have FIN : Hid (∀ n, RB ((wr.drewN n).setCell ⟨g, 1, none⟩ (.int .i64 ((j : Int) + 1))) g s (j + 1) d l ∧ Cg g w ((wr.drewN n).setCell ⟨g, 1, none⟩ (.int .i64 ((j : Int) + 1)))) := fun n => ⟨(HP.out.drew n).set1 (j + 1), (HC.out.drew n).setCell rfl⟩
        go_wp2
        go_roundw
        case rel => exact ⟨k + 1, j + 1, by go_num, hlt, (FIN.out _).1, (FIN.out _).2, hj', HW.out⟩
        case measure => simp [intOf]; omega
      · have HW : Hid ((j, false) = wd s (lets t) i) := by
          show (_ : Nat × Bool) = _
          rw [← HE.out, HD.out]; simp only [wd, hgb, if_false]
        have hcc : ¬ gb s j = (c' : Int) := by rw [← hc']; intro e; exact hgb (e.trans HX.out)
        clear HX hgb h0
        go_wp2
        go_quiet ((go_at_call 46; exact Calls.quiet_of (rhere_at HP.out (by rfl) hj HS.out)))
        go_wp2
        go_ret
        rw [← HW.out]
        exact ⟨rfl, HP.out.drew _, HC.out.drew _⟩
    · have HW : Hid ((j, true) = wd s (lets t) i) := by rw [← HE.out, lets_end t (by omega)]; rfl
      go_wp2
      go_ret
      rw [← HW.out]
      exact ⟨rfl, HP.out, HC.out⟩
end Go.Proofs.YtefaohokmhdplaaDoor
