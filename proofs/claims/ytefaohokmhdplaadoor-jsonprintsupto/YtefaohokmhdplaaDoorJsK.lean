/- Package json: the parts of a list or an object. -/
import Derived.Test.YtefaohokmhdplaaDoorJsJ
namespace Go.Proofs.YtefaohokmhdplaaDoor
open Go Go.RowKit
set_option linter.unusedSimpArgs false
set_option linter.unusedVariables false
set_option maxRecDepth 100000

/-- Only the parser, and blocks from B on, have changed. -/
def CgB (g B : Nat) (w w' : World) : Prop := Chg (fun b => b = g ∨ B ≤ b) w w'
theorem Cg.toB {g B : Nat} {w w' : World} (h : Cg g w w') : CgB g B w w' := Chg.mono h (fun b e => .inl e)
theorem CgB.step {g B : Nat} {x y z : World} (h : CgB g B x y) (k : Cg g y z) : CgB g B x z := Chg.trans h (Cg.toB k)
section
variable {α : Type}
/-- What the parts' reading answers. -/
def PQ (g : Nat) (s : ByteArray) (d B : Nat) (I : World → List α → Prop) (Er : World → Prop) (w : World) : Out (List α) → Ending → World → Prop
  | .ok l j, e, w' => e = .returned (.int .i64 0) ∧ PB w' g s j d ∧ I w' l ∧ CgB g B w w'
  | .bad j, e, w' => e = .returned (.int .i64 2) ∧ (∃ d', PB w' g s j d') ∧ Er w' ∧ CgB g B w w'
  | .big j, e, w' => e = .returned (.int .i64 6) ∧ (∃ d', PB w' g s j d') ∧ Er w' ∧ CgB g B w w'
/-- What one part's reading answers. -/
def PE (g : Nat) (s : ByteArray) (d B : Nat) (I : World → List α → Prop) (Er : World → Prop) (w : World) (a : List α) : Out α → Ending → World → Prop
  | .ok v j, e, w' => e = .returned (.int .i64 0) ∧ PB w' g s j d ∧ I w' (a ++ [v]) ∧ CgB g B w w'
  | .bad j, e, w' => e = .returned (.int .i64 2) ∧ (∃ d', PB w' g s j d') ∧ Er w' ∧ CgB g B w w'
  | .big j, e, w' => e = .returned (.int .i64 6) ∧ (∃ d', PB w' g s j d') ∧ Er w' ∧ CgB g B w w'
structure PH (F : FuncId) (g : Nat) (s : ByteArray) (d B : Nat) (caps : Array Value) (E : List α → Nat → Out α) (I : World → List α → Prop) (Er : World → Prop) : Prop where
  part : ∀ (W : World) (a : List α) (i : Nat), I W a → PB W g s i d → i ≤ s.size → a.length ≤ i → Calls Tryd.prog F caps W fun e W' => PE g s d B I Er W a (E a i) e W'
  stay : ∀ (W W' : World) (a : List α), I W a → Cg g W W' → I W' a
  err : ∀ (W : World) (a : List α), I W a → Er W
  inn : ∀ (a : List α) (i : Nat), i ≤ s.size → (E a i).inn s i
/-- What the loop keeps. -/
def PL (g : Nat) (s : ByteArray) (D B : Nat) (E : List α → Nat → Out α) (en : Int) (I : World → List α → Prop) (w : World) (R : Out (List α)) (W : World) : Prop :=
  ∃ (f : Nat) (a : List α) (j : Nat), parts s en E (f + 1) a j = R ∧ s.size < f + 1 + j ∧ j ≤ s.size ∧ a.length ≤ j ∧ PB W g s j D ∧ I W a ∧ CgB g B w W
end
set_option maxHeartbeats 8000000 in
theorem parts_lst {α : Type} {w : World} {g : Nat} {s : ByteArray} {i d B : Nat} {caps : Array Value} {E : List α → Nat → Out α} {I : World → List α → Prop} {Er : World → Prop}
    (h : PB w g s i d) (hi : i < s.size) (hs : s.size ≤ 8192) (hd : d < 16) (H : PH 81 g s (d + 1) B caps E I Er) (hI : I w []) :
    Calls Tryd.prog 78 #[.pointer (some ⟨g, 0, none⟩), .int .u8 93, .func (.func 81) #[] caps] w fun e w' => PQ g s d B I Er w (open' s 93 E i) e w' := by
  have HS : Hid (s.size ≤ 8192) := hs
  obtain ⟨D, hD⟩ : ∃ D, d + 1 = D := ⟨_, rfl⟩
  have HH : Hid (PH 81 g s D B caps E I Er) := hD ▸ H
  have HI : Hid (I w []) := hI
  obtain ⟨q0, q1, q2⟩ := h.cells
  have f1 := h.froz 1
  have f2 := h.froz 2
  have b1 : (i : Int) ≤ 8192 := by omega
  have b2 : (0 : Int) ≤ (i : Int) := by omega
  have b3 : (d : Int) < 16 := by omega
  have b4 : (0 : Int) ≤ (d : Int) := by omega
  have H0 : Hid (PB w g s i d) := h
  obtain ⟨R, hR⟩ : ∃ R, open' s 93 E i = R := ⟨_, rfl⟩
  have HR : Hid ((if gb s (sk s (i + 1)) = 93 then Out.ok [] (sk s (i + 1) + 1) else parts s 93 E (s.size + 1) [] (sk s (i + 1))) = R) := hR
  rw [hR]
  clear hR h hs H hI
  go_enter Tryd.func78, Tryd.ntmps78
  go_wp2_with fail
  have HP1 : Hid (PB ((w.setCell ⟨g, 2, none⟩ (.int .i64 ((d : Int) + 1))).setCell ⟨g, 1, none⟩ (.int .i64 ((i : Int) + 1))) g s (i + 1) D) := by rw [← hD]; exact (H0.out.set2 (d + 1)).set1 (i + 1)
  have HC1 : Hid (Cg g w ((w.setCell ⟨g, 2, none⟩ (.int .i64 ((d : Int) + 1))).setCell ⟨g, 1, none⟩ (.int .i64 ((i : Int) + 1)))) := Chg.setCell (F := fun b => b = g) (Chg.setCell (F := fun b => b = g) (Chg.refl _ _) rfl) rfl
  obtain ⟨W1, hW1⟩ : ∃ W1, (w.setCell ⟨g, 2, none⟩ (.int .i64 ((d : Int) + 1))).setCell ⟨g, 1, none⟩ (.int .i64 ((i : Int) + 1)) = W1 := ⟨_, rfl⟩
  rw [hW1] at HP1 HC1 ⊢
  clear hW1 q0 q1 q2 f1 f2
  refine (blanks_any HP1.out hi HS.out).mono ?_
  rintro e W2 ⟨rfl, p, c⟩
  have hj0 : sk s (i + 1) ≤ s.size := sk_le hi
  obtain ⟨j, hj⟩ : ∃ j, sk s (i + 1) = j := ⟨_, rfl⟩
  rw [hj] at p hj0 HR
  have HP2 : Hid (PB W2 g s j D) := p
  have HC2 : Hid (Cg g w W2) := HC1.out.trans c
  clear p c HP1 HC1 hj
  go_wp2_with fail
  by_cases e1 : gb s j = 93
  · have HR2 : Hid (R = .ok [] (j + 1)) := by show _ = _; rw [← HR.out, if_pos e1]
    refine (take_yes HP2.out hj0 HS.out e1 (by decide)).mono ?_
    rintro e W3 ⟨rfl, p, c⟩
    have HP3 : Hid (PB W3 g s (j + 1) D) := p
    have HC3 : Hid (Cg g w W3) := HC2.out.trans c
    obtain ⟨r0, r1, r2⟩ := p.cells
    have f3 := p.froz 2
    have b5 : (D : Int) ≤ 16 := by omega
    have b6 : (1 : Int) ≤ (D : Int) := by omega
    have HP4 : Hid (PB (W3.setCell ⟨g, 2, none⟩ (.int .i64 ((D : Int) - 1))) g s (j + 1) d) := by
      show PB _ _ _ _ _
      rw [show (D : Int) - 1 = (d : Int) by omega]; exact p.set2 d
    have HC4 : Hid (Cg g w (W3.setCell ⟨g, 2, none⟩ (.int .i64 ((D : Int) - 1)))) := HC3.out.setCell rfl
    clear p c
    go_wp2
    go_ret
    rw [HR2.out]
    exact ⟨rfl, HP4.out, HH.out.stay _ _ _ HI.out HC4.out, Cg.toB HC4.out⟩
  have HR2 : Hid (parts s 93 E (s.size + 1) [] j = R) := by show _ = _; rw [← HR.out, if_neg e1]
  refine (take_no HP2.out hj0 HS.out e1).mono ?_
  rintro e W3 ⟨rfl, n3, rfl⟩
  have HL : Hid (PL g s D B E 93 I w R (W2.drewN n3)) := ⟨s.size, [], j, HR2.out, by omega, hj0, by simp, HP2.out.drew _, HH.out.stay _ _ _ HI.out (HC2.out.drew _), Cg.toB (HC2.out.drew _)⟩
  clear HR2 HR e1 HP2 HC2 hj0 HI H0
  go_wp2_with fail
  go_loopw [] (fun W => PL g s D B E 93 I w R W) (fun W => s.size + 1 - posOf W g)
  case atStart => exact HL.out
  case round =>
    obtain ⟨f, a, j, hr, hf, hjs, hal, hp, hi, hc⟩ := hrel
    have HPS : Hid (posOf wr g = j) := hp.pos
    have HC : Hid (CgB g B w wr) := hc
    have HIN : Hid _ := HH.out.inn a j hjs
    have HCL : Hid _ := HH.out.part wr a j hi hp hjs hal
    have HR : Hid ((match E a j with
      | .bad j => Out.bad j
      | .big j => Out.big j
      | .ok v j => if gb s (sk s j) = 93 then Out.ok (a ++ [v]) (sk s j + 1) else if gb s (sk s j) = 44 then parts s 93 E f (a ++ [v]) (sk s (sk s j + 1)) else Out.bad (sk s j)) = R) := by
      show _ = _; rw [← hr]; simp only [parts]; cases E a j <;> rfl
    clear hr hp hi hc HL
    cases he : E a j with
    | bad k =>
      have HR2 : Hid (R = .bad k) := by have := HR.out; rw [he] at this; exact this.symm
      have HCL2 : Hid (Calls Tryd.prog 81 caps wr fun e W' => PE g s D B I Er wr a (.bad k) e W') := by have := HCL.out; rw [he] at this; exact this
      clear he HR HCL HIN
      go_wp2_with fail
      refine HCL2.out.mono ?_
      rintro e W2 ⟨rfl, p1, p2, p3⟩
      go_wp2
      go_ret
      rw [HR2.out]
      exact ⟨rfl, p1, p2, Chg.trans HC.out p3⟩
    | big k =>
      have HR2 : Hid (R = .big k) := by have := HR.out; rw [he] at this; exact this.symm
      have HCL2 : Hid (Calls Tryd.prog 81 caps wr fun e W' => PE g s D B I Er wr a (.big k) e W') := by have := HCL.out; rw [he] at this; exact this
      clear he HR HCL HIN
      go_wp2_with fail
      refine HCL2.out.mono ?_
      rintro e W2 ⟨rfl, p1, p2, p3⟩
      go_wp2
      go_ret
      rw [HR2.out]
      exact ⟨rfl, p1, p2, Chg.trans HC.out p3⟩
    | ok v k =>
      have HR1 : Hid ((if gb s (sk s k) = 93 then Out.ok (a ++ [v]) (sk s k + 1) else if gb s (sk s k) = 44 then parts s 93 E f (a ++ [v]) (sk s (sk s k + 1)) else Out.bad (sk s k)) = R) := by have := HR.out; rw [he] at this; exact this
      have HCL2 : Hid (Calls Tryd.prog 81 caps wr fun e W' => PE g s D B I Er wr a (.ok v k) e W') := by have := HCL.out; rw [he] at this; exact this
      have hin : j ≤ k ∧ k ≤ s.size := by have := HIN.out; rw [he] at this; exact this
      have hk1 := sk_le hin.2
      have hk2 := sk_ge s k
      obtain ⟨m, hm⟩ : ∃ m, sk s k = m := ⟨_, rfl⟩
      rw [hm] at HR1 hk1 hk2
      clear he HR HCL HIN
      go_wp2_with fail
      refine HCL2.out.mono ?_
      rintro e W2 ⟨rfl, p1, p2, p3⟩
      have HP2 : Hid (PB W2 g s k D) := p1
      have HI2 : Hid (I W2 (a ++ [v])) := p2
      have HC2 : Hid (CgB g B w W2) := Chg.trans HC.out p3
      clear p1 p2 p3 HCL2 HC
      go_wp2_with fail
      refine (blanks_any HP2.out hin.2 HS.out).mono ?_
      rintro e W3 ⟨rfl, p1, p2⟩
      rw [hm] at p1
      have HP3 : Hid (PB W3 g s m D) := p1
      have HI3 : Hid (I W3 (a ++ [v])) := HH.out.stay _ _ _ HI2.out p2
      have HC3 : Hid (CgB g B w W3) := HC2.out.step p2
      clear p1 p2 HP2 HI2 HC2 hm
      go_wp2_with fail
      by_cases e1 : gb s m = 93
      · have HR2 : Hid (R = .ok (a ++ [v]) (m + 1)) := by show _ = _; rw [← HR1.out, if_pos e1]
        refine (take_yes HP3.out hk1 HS.out e1 (by decide)).mono ?_
        rintro e W4 ⟨rfl, p, c⟩
        obtain ⟨r0, r1, r2⟩ := p.cells
        have f3 := p.froz 2
        have b5 : (D : Int) ≤ 16 := by omega
        have b6 : (1 : Int) ≤ (D : Int) := by omega
        have HP4 : Hid (PB (W4.setCell ⟨g, 2, none⟩ (.int .i64 ((D : Int) - 1))) g s (m + 1) d) := by
          show PB _ _ _ _ _
          rw [show (D : Int) - 1 = (d : Int) by omega]; exact p.set2 d
        have HC4 : Hid (Cg g W3 (W4.setCell ⟨g, 2, none⟩ (.int .i64 ((D : Int) - 1)))) := Chg.setCell c rfl
        clear p c
        go_wp2
        go_ret
        rw [HR2.out]
        exact ⟨rfl, HP4.out, HH.out.stay _ _ _ HI3.out HC4.out, HC3.out.step HC4.out⟩
      · refine (take_no HP3.out hk1 HS.out e1).mono ?_
        rintro e W4 ⟨rfl, n4, rfl⟩
        have HP4 : Hid (PB (W3.drewN n4) g s m D) := HP3.out.drew _
        have HC4 : Hid (Cg g W3 (W3.drewN n4)) := (Chg.refl _ _).drew _
        go_wp2_with fail
        by_cases e44 : gb s m = 44
        · have hlt := gb_lt (s := s) (i := m) (by omega)
          have HR2 : Hid (parts s 93 E f (a ++ [v]) (sk s (m + 1)) = R) := by show _ = _; rw [← HR1.out, if_neg e1, if_pos e44]
          refine (take_yes HP4.out hk1 HS.out e44 (by decide)).mono ?_
          rintro e W5 ⟨rfl, p, c⟩
          have HP5 : Hid (PB W5 g s (m + 1) D) := p
          have HC5 : Hid (Cg g W3 W5) := HC4.out.trans c
          clear p c
          go_wp2_with fail
          refine (blanks_any HP5.out hlt HS.out).mono ?_
          rintro e W6 ⟨rfl, p, c⟩
          have hx1 := sk_ge s (m + 1)
          have hx2 := sk_le (s := s) (i := m + 1) hlt
          obtain ⟨x, hx⟩ : ∃ x, sk s (m + 1) = x := ⟨_, rfl⟩
          rw [hx] at p hx1 hx2 HR2
          obtain ⟨f', rfl⟩ : ∃ f', f = f' + 1 := ⟨f - 1, by omega⟩
          have HL : Hid (PL g s D B E 93 I w R W6) := ⟨f', a ++ [v], x, HR2.out, by omega, hx2, by rw [List.length_append]; show _ + 1 ≤ _; omega, p, HH.out.stay _ _ _ HI3.out (HC5.out.trans c), HC3.out.step (HC5.out.trans c)⟩
          have HPX : Hid (posOf W6 g = x) := p.pos
          clear p c HR2 HP5 HC5 HP4 HC4 HP3 HC3 HI3 HR1
          go_wp2
          go_roundw
          case rel => exact HL.out
          case measure => rw [HPX.out, HPS.out]; omega
        · have HR2 : Hid (R = .bad m) := by show _ = _; rw [← HR1.out, if_neg e1, if_neg e44]
          refine (take_no HP4.out hk1 HS.out e44).mono ?_
          rintro e W5 ⟨rfl, n5, rfl⟩
          have HC5 : Hid (Cg g W3 (W3.drewN (n4 + n5))) := (Chg.refl _ _).drew _
          go_wp2
          go_ret
          rw [HR2.out]
          exact ⟨rfl, ⟨_, HP3.out.drew _⟩, HH.out.err _ _ (HH.out.stay _ _ _ HI3.out HC5.out), HC3.out.step HC5.out⟩
set_option maxHeartbeats 8000000 in
theorem parts_obj {α : Type} {w : World} {g : Nat} {s : ByteArray} {i d B : Nat} {caps : Array Value} {E : List α → Nat → Out α} {I : World → List α → Prop} {Er : World → Prop}
    (h : PB w g s i d) (hi : i < s.size) (hs : s.size ≤ 8192) (hd : d < 16) (H : PH 79 g s (d + 1) B caps E I Er) (hI : I w []) :
    Calls Tryd.prog 78 #[.pointer (some ⟨g, 0, none⟩), .int .u8 125, .func (.func 79) #[] caps] w fun e w' => PQ g s d B I Er w (open' s 125 E i) e w' := by
  have HS : Hid (s.size ≤ 8192) := hs
  obtain ⟨D, hD⟩ : ∃ D, d + 1 = D := ⟨_, rfl⟩
  have HH : Hid (PH 79 g s D B caps E I Er) := hD ▸ H
  have HI : Hid (I w []) := hI
  obtain ⟨q0, q1, q2⟩ := h.cells
  have f1 := h.froz 1
  have f2 := h.froz 2
  have b1 : (i : Int) ≤ 8192 := by omega
  have b2 : (0 : Int) ≤ (i : Int) := by omega
  have b3 : (d : Int) < 16 := by omega
  have b4 : (0 : Int) ≤ (d : Int) := by omega
  have H0 : Hid (PB w g s i d) := h
  obtain ⟨R, hR⟩ : ∃ R, open' s 125 E i = R := ⟨_, rfl⟩
  have HR : Hid ((if gb s (sk s (i + 1)) = 125 then Out.ok [] (sk s (i + 1) + 1) else parts s 125 E (s.size + 1) [] (sk s (i + 1))) = R) := hR
  rw [hR]
  clear hR h hs H hI
  go_enter Tryd.func78, Tryd.ntmps78
  go_wp2_with fail
  have HP1 : Hid (PB ((w.setCell ⟨g, 2, none⟩ (.int .i64 ((d : Int) + 1))).setCell ⟨g, 1, none⟩ (.int .i64 ((i : Int) + 1))) g s (i + 1) D) := by rw [← hD]; exact (H0.out.set2 (d + 1)).set1 (i + 1)
  have HC1 : Hid (Cg g w ((w.setCell ⟨g, 2, none⟩ (.int .i64 ((d : Int) + 1))).setCell ⟨g, 1, none⟩ (.int .i64 ((i : Int) + 1)))) := Chg.setCell (F := fun b => b = g) (Chg.setCell (F := fun b => b = g) (Chg.refl _ _) rfl) rfl
  obtain ⟨W1, hW1⟩ : ∃ W1, (w.setCell ⟨g, 2, none⟩ (.int .i64 ((d : Int) + 1))).setCell ⟨g, 1, none⟩ (.int .i64 ((i : Int) + 1)) = W1 := ⟨_, rfl⟩
  rw [hW1] at HP1 HC1 ⊢
  clear hW1 q0 q1 q2 f1 f2
  refine (blanks_any HP1.out hi HS.out).mono ?_
  rintro e W2 ⟨rfl, p, c⟩
  have hj0 : sk s (i + 1) ≤ s.size := sk_le hi
  obtain ⟨j, hj⟩ : ∃ j, sk s (i + 1) = j := ⟨_, rfl⟩
  rw [hj] at p hj0 HR
  have HP2 : Hid (PB W2 g s j D) := p
  have HC2 : Hid (Cg g w W2) := HC1.out.trans c
  clear p c HP1 HC1 hj
  go_wp2_with fail
  by_cases e1 : gb s j = 125
  · have HR2 : Hid (R = .ok [] (j + 1)) := by show _ = _; rw [← HR.out, if_pos e1]
    refine (take_yes HP2.out hj0 HS.out e1 (by decide)).mono ?_
    rintro e W3 ⟨rfl, p, c⟩
    have HP3 : Hid (PB W3 g s (j + 1) D) := p
    have HC3 : Hid (Cg g w W3) := HC2.out.trans c
    obtain ⟨r0, r1, r2⟩ := p.cells
    have f3 := p.froz 2
    have b5 : (D : Int) ≤ 16 := by omega
    have b6 : (1 : Int) ≤ (D : Int) := by omega
    have HP4 : Hid (PB (W3.setCell ⟨g, 2, none⟩ (.int .i64 ((D : Int) - 1))) g s (j + 1) d) := by
      show PB _ _ _ _ _
      rw [show (D : Int) - 1 = (d : Int) by omega]; exact p.set2 d
    have HC4 : Hid (Cg g w (W3.setCell ⟨g, 2, none⟩ (.int .i64 ((D : Int) - 1)))) := HC3.out.setCell rfl
    clear p c
    go_wp2
    go_ret
    rw [HR2.out]
    exact ⟨rfl, HP4.out, HH.out.stay _ _ _ HI.out HC4.out, Cg.toB HC4.out⟩
  have HR2 : Hid (parts s 125 E (s.size + 1) [] j = R) := by show _ = _; rw [← HR.out, if_neg e1]
  refine (take_no HP2.out hj0 HS.out e1).mono ?_
  rintro e W3 ⟨rfl, n3, rfl⟩
  have HL : Hid (PL g s D B E 125 I w R (W2.drewN n3)) := ⟨s.size, [], j, HR2.out, by omega, hj0, by simp, HP2.out.drew _, HH.out.stay _ _ _ HI.out (HC2.out.drew _), Cg.toB (HC2.out.drew _)⟩
  clear HR2 HR e1 HP2 HC2 hj0 HI H0
  go_wp2_with fail
  go_loopw [] (fun W => PL g s D B E 125 I w R W) (fun W => s.size + 1 - posOf W g)
  case atStart => exact HL.out
  case round =>
    obtain ⟨f, a, j, hr, hf, hjs, hal, hp, hi, hc⟩ := hrel
    have HPS : Hid (posOf wr g = j) := hp.pos
    have HC : Hid (CgB g B w wr) := hc
    have HIN : Hid _ := HH.out.inn a j hjs
    have HCL : Hid _ := HH.out.part wr a j hi hp hjs hal
    have HR : Hid ((match E a j with
      | .bad j => Out.bad j
      | .big j => Out.big j
      | .ok v j => if gb s (sk s j) = 125 then Out.ok (a ++ [v]) (sk s j + 1) else if gb s (sk s j) = 44 then parts s 125 E f (a ++ [v]) (sk s (sk s j + 1)) else Out.bad (sk s j)) = R) := by
      show _ = _; rw [← hr]; simp only [parts]; cases E a j <;> rfl
    clear hr hp hi hc HL
    cases he : E a j with
    | bad k =>
      have HR2 : Hid (R = .bad k) := by have := HR.out; rw [he] at this; exact this.symm
      have HCL2 : Hid (Calls Tryd.prog 79 caps wr fun e W' => PE g s D B I Er wr a (.bad k) e W') := by have := HCL.out; rw [he] at this; exact this
      clear he HR HCL HIN
      go_wp2_with fail
      refine HCL2.out.mono ?_
      rintro e W2 ⟨rfl, p1, p2, p3⟩
      go_wp2
      go_ret
      rw [HR2.out]
      exact ⟨rfl, p1, p2, Chg.trans HC.out p3⟩
    | big k =>
      have HR2 : Hid (R = .big k) := by have := HR.out; rw [he] at this; exact this.symm
      have HCL2 : Hid (Calls Tryd.prog 79 caps wr fun e W' => PE g s D B I Er wr a (.big k) e W') := by have := HCL.out; rw [he] at this; exact this
      clear he HR HCL HIN
      go_wp2_with fail
      refine HCL2.out.mono ?_
      rintro e W2 ⟨rfl, p1, p2, p3⟩
      go_wp2
      go_ret
      rw [HR2.out]
      exact ⟨rfl, p1, p2, Chg.trans HC.out p3⟩
    | ok v k =>
      have HR1 : Hid ((if gb s (sk s k) = 125 then Out.ok (a ++ [v]) (sk s k + 1) else if gb s (sk s k) = 44 then parts s 125 E f (a ++ [v]) (sk s (sk s k + 1)) else Out.bad (sk s k)) = R) := by have := HR.out; rw [he] at this; exact this
      have HCL2 : Hid (Calls Tryd.prog 79 caps wr fun e W' => PE g s D B I Er wr a (.ok v k) e W') := by have := HCL.out; rw [he] at this; exact this
      have hin : j ≤ k ∧ k ≤ s.size := by have := HIN.out; rw [he] at this; exact this
      have hk1 := sk_le hin.2
      have hk2 := sk_ge s k
      obtain ⟨m, hm⟩ : ∃ m, sk s k = m := ⟨_, rfl⟩
      rw [hm] at HR1 hk1 hk2
      clear he HR HCL HIN
      go_wp2_with fail
      refine HCL2.out.mono ?_
      rintro e W2 ⟨rfl, p1, p2, p3⟩
      have HP2 : Hid (PB W2 g s k D) := p1
      have HI2 : Hid (I W2 (a ++ [v])) := p2
      have HC2 : Hid (CgB g B w W2) := Chg.trans HC.out p3
      clear p1 p2 p3 HCL2 HC
      go_wp2_with fail
      refine (blanks_any HP2.out hin.2 HS.out).mono ?_
      rintro e W3 ⟨rfl, p1, p2⟩
      rw [hm] at p1
      have HP3 : Hid (PB W3 g s m D) := p1
      have HI3 : Hid (I W3 (a ++ [v])) := HH.out.stay _ _ _ HI2.out p2
      have HC3 : Hid (CgB g B w W3) := HC2.out.step p2
      clear p1 p2 HP2 HI2 HC2 hm
      go_wp2_with fail
      by_cases e1 : gb s m = 125
      · have HR2 : Hid (R = .ok (a ++ [v]) (m + 1)) := by show _ = _; rw [← HR1.out, if_pos e1]
        refine (take_yes HP3.out hk1 HS.out e1 (by decide)).mono ?_
        rintro e W4 ⟨rfl, p, c⟩
        obtain ⟨r0, r1, r2⟩ := p.cells
        have f3 := p.froz 2
        have b5 : (D : Int) ≤ 16 := by omega
        have b6 : (1 : Int) ≤ (D : Int) := by omega
        have HP4 : Hid (PB (W4.setCell ⟨g, 2, none⟩ (.int .i64 ((D : Int) - 1))) g s (m + 1) d) := by
          show PB _ _ _ _ _
          rw [show (D : Int) - 1 = (d : Int) by omega]; exact p.set2 d
        have HC4 : Hid (Cg g W3 (W4.setCell ⟨g, 2, none⟩ (.int .i64 ((D : Int) - 1)))) := Chg.setCell c rfl
        clear p c
        go_wp2
        go_ret
        rw [HR2.out]
        exact ⟨rfl, HP4.out, HH.out.stay _ _ _ HI3.out HC4.out, HC3.out.step HC4.out⟩
      · refine (take_no HP3.out hk1 HS.out e1).mono ?_
        rintro e W4 ⟨rfl, n4, rfl⟩
        have HP4 : Hid (PB (W3.drewN n4) g s m D) := HP3.out.drew _
        have HC4 : Hid (Cg g W3 (W3.drewN n4)) := (Chg.refl _ _).drew _
        go_wp2_with fail
        by_cases e44 : gb s m = 44
        · have hlt := gb_lt (s := s) (i := m) (by omega)
          have HR2 : Hid (parts s 125 E f (a ++ [v]) (sk s (m + 1)) = R) := by show _ = _; rw [← HR1.out, if_neg e1, if_pos e44]
          refine (take_yes HP4.out hk1 HS.out e44 (by decide)).mono ?_
          rintro e W5 ⟨rfl, p, c⟩
          have HP5 : Hid (PB W5 g s (m + 1) D) := p
          have HC5 : Hid (Cg g W3 W5) := HC4.out.trans c
          clear p c
          go_wp2_with fail
          refine (blanks_any HP5.out hlt HS.out).mono ?_
          rintro e W6 ⟨rfl, p, c⟩
          have hx1 := sk_ge s (m + 1)
          have hx2 := sk_le (s := s) (i := m + 1) hlt
          obtain ⟨x, hx⟩ : ∃ x, sk s (m + 1) = x := ⟨_, rfl⟩
          rw [hx] at p hx1 hx2 HR2
          obtain ⟨f', rfl⟩ : ∃ f', f = f' + 1 := ⟨f - 1, by omega⟩
          have HL : Hid (PL g s D B E 125 I w R W6) := ⟨f', a ++ [v], x, HR2.out, by omega, hx2, by rw [List.length_append]; show _ + 1 ≤ _; omega, p, HH.out.stay _ _ _ HI3.out (HC5.out.trans c), HC3.out.step (HC5.out.trans c)⟩
          have HPX : Hid (posOf W6 g = x) := p.pos
          clear p c HR2 HP5 HC5 HP4 HC4 HP3 HC3 HI3 HR1
          go_wp2
          go_roundw
          case rel => exact HL.out
          case measure => rw [HPX.out, HPS.out]; omega
        · have HR2 : Hid (R = .bad m) := by show _ = _; rw [← HR1.out, if_neg e1, if_neg e44]
          refine (take_no HP4.out hk1 HS.out e44).mono ?_
          rintro e W5 ⟨rfl, n5, rfl⟩
          have HC5 : Hid (Cg g W3 (W3.drewN (n4 + n5))) := (Chg.refl _ _).drew _
          go_wp2
          go_ret
          rw [HR2.out]
          exact ⟨rfl, ⟨_, HP3.out.drew _⟩, HH.out.err _ _ (HH.out.stay _ _ _ HI3.out HC5.out), HC3.out.step HC5.out⟩
theorem big_lst {w : World} {g : Nat} {s : ByteArray} {i : Nat} {caps : Array Value} (h : PB w g s i 16) :
    Calls Tryd.prog 78 #[.pointer (some ⟨g, 0, none⟩), .int .u8 93, .func (.func 81) #[] caps] w fun e w' => e = .returned (.int .i64 6) ∧ w' = w := by
  obtain ⟨q0, q1, q2⟩ := h.cells
  clear h
  go_enter Tryd.func78, Tryd.ntmps78
  go_wp2
  go_ret
  exact ⟨rfl, rfl⟩
theorem big_obj {w : World} {g : Nat} {s : ByteArray} {i : Nat} {caps : Array Value} (h : PB w g s i 16) :
    Calls Tryd.prog 78 #[.pointer (some ⟨g, 0, none⟩), .int .u8 125, .func (.func 79) #[] caps] w fun e w' => e = .returned (.int .i64 6) ∧ w' = w := by
  obtain ⟨q0, q1, q2⟩ := h.cells
  clear h
  go_enter Tryd.func78, Tryd.ntmps78
  go_wp2
  go_ret
  exact ⟨rfl, rfl⟩
end Go.Proofs.YtefaohokmhdplaaDoor
