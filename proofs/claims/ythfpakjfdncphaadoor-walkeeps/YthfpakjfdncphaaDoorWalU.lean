/- Append onto a log that has no beginning yet; Append and Checkpoint of none. -/
import Derived.Test.YthfpakjfdncphaaDoorWalS
namespace Go.Proofs.YthfpakjfdncphaaDoor
open Go Go.RowKit
set_option linter.unusedSimpArgs false
set_option linter.unusedVariables false
set_option maxRecDepth 100000

theorem LL.one {w : World} {v : Value} {p : List Int} (h : Sl w v p) (t : TypeId) : LL (w.alloc (.cells #[v] t)) (.slice (some ⟨w.heap.size, 0, none⟩) 1 1) [p] := by
  refine ⟨_, 1, rfl, by simp, .inr ⟨w.heap.size, 0, rfl, by simp, fun i hi => ?_⟩⟩
  have : i = 0 := by simp at hi; omega
  subst this
  refine ⟨v, cell_alloc w #[v] _ _ 0, ?_⟩
  exact h.below ((Below.refl _ w).alloc (Nat.le_refl _) _) (Nat.le_refl _)
theorem rfE_one {p : List Int} (h : p.length ≤ 65536) : rfE [p] = 0 := rfE_no (fun j hj => by
  have : j = 0 := by simp at hj; omega
  subst this; exact h)
theorem rfE_large {p : List Int} (h : 65536 < p.length) : rfE [p] = 6 := rfE_yes (k := 0) (by simp) h
set_option maxHeartbeats 1000000 in
theorem append_nil (w : World) (ad : Option Addr) (n c : Nat) : Calls Tryd.prog 12 #[.pointer none, .slice ad n c] w fun e w' => e = .returned (.int .i64 1) ∧ Below w.heap.size w w' := by
  go_enter Tryd.func12, Tryd.ntmps12
  go_wp2_with fail
  refine (refuse_nil _ _).mono ?_
  rintro e w' ⟨rfl, hw'⟩
  have HB : Hid (Below w.heap.size w w') := by show Below _ _ _; rw [hw']; exact (Below.refl _ w).alloc (Nat.le_refl _) _
  clear hw'
  go_wp2_with fail
  go_ret
  exact ⟨rfl, HB.out⟩
set_option maxHeartbeats 1000000 in
theorem checkpoint_nil (w : World) (v : Value) : Calls Tryd.prog 14 #[.pointer none, v] w fun e w' => e = .returned (.int .i64 1) ∧ w' = w := by
  go_enter Tryd.func14, Tryd.ntmps14
  go_wp2_with (go_at_call 23; refine (refuse_nil _ _).mono ?_; rintro e w' ⟨rfl, rfl⟩)
  go_ret
  exact ⟨rfl, rfl⟩
set_option maxHeartbeats 1000000 in
theorem append_zero {S : Nat → Prop} {w : World} {g : Nat} {s : Dk} {lg : Nat} {l : Lo} (h : WL S w g s lg l) (hlo : l.lo = false) (hdn : s.dn = false) (e0 : l.f0 = rdV s (hfF s.n 0 : Int)) (e1 : l.f1 = rdV s (hfF s.n 1 : Int)) (h0 : l.t = 0)
    (p : List Int) (v : Value) (hv : Sl w v p) (hp : p.length ≤ 65536) (R : Int → World → Prop)
    (hB : ∀ W u, Below w.heap.size w W → LL W u [p] → Calls Tryd.prog 25 #[.pointer (some ⟨lg, 0, none⟩), u] W fun e w' => ∃ z, e = .returned (.int .i64 z) ∧ R z w') :
    Calls Tryd.prog 12 #[.pointer (some ⟨lg, 0, none⟩), v] w fun e w' => ∃ z, e = .returned (.int .i64 z) ∧ R z w' := by
  have HW : Hid (WL S w g s lg l) := h
  have HV : Hid (Sl w v p) := hv
  have HBG : Hid (∀ W u, Below w.heap.size w W → LL W u [p] → Calls Tryd.prog 25 #[.pointer (some ⟨lg, 0, none⟩), u] W fun e w' => ∃ z, e = .returned (.int .i64 z) ∧ R z w') := hB
  have E0 : Hid (l.f0 = rdV s (hfF s.n 0 : Int)) := e0
  have E1 : Hid (l.f1 = rdV s (hfF s.n 1 : Int)) := e1
  obtain ⟨ad, cap, rfl, -⟩ := hv
  clear h hB e0 e1
  go_enter Tryd.func12, Tryd.ntmps12
  go_wp2_with fail
  have B1 : Below w.heap.size w (w.alloc (.cells #[.slice ad p.length cap] 32)) := (Below.refl _ w).alloc (Nat.le_refl _) _
  refine (refuse_any (HW.out.below B1) hlo [p] _ (LL.one HV.out _) (by simp)).mono ?_
  rintro e w1 ⟨rfl, hw1⟩
  have HB1 : Hid (Below w.heap.size w w1) := by show Below _ _ _; rw [hw1]; exact B1
  rw [rfE_one hp]
  clear hw1 B1
  go_wp2_with fail
  refine (refresh_zero (HW.out.below HB1.out) hlo hdn E0.out E1.out h0).mono ?_
  rintro e w2 ⟨rfl, hb2⟩
  have HB2 : Hid (Below w.heap.size w w2) := HB1.out.trans (hb2.mono HB1.out.size)
  clear hb2
  have c1 : w2.cell? ⟨lg, 1, none⟩ = some (.int .u64 0) := by
    obtain ⟨F, H, rv, us, hx⟩ := HW.out.below HB2.out
    obtain ⟨-, c1, -⟩ := hx.lw.lb.cells hx.lw.f0 hx.lw.f1
    rw [h0] at c1; exact c1
  go_wp2_with fail
  have B3 : Below w.heap.size w (w2.alloc (.cells #[.slice ad p.length cap] 32)) := HB2.out.alloc HB2.out.size _
  refine (HBG.out _ _ B3 (LL.one (HV.out.below HB2.out (Nat.le_refl _)) _)).mono ?_
  rintro e w4 ⟨z, rfl, h4⟩
  have H4 : Hid (R z w4) := h4
  clear h4 B3
  go_wp2_with fail
  go_ret
  exact ⟨z, rfl, H4.out⟩
end Go.Proofs.YthfpakjfdncphaaDoor
/- Plain mathematics of disks that are up: what store and layFrame leave; a blank sector is no frame. -/
namespace Go.Proofs.YthfpakjfdncphaaDoor
open Go Go.RowKit
set_option linter.unusedSimpArgs false
set_option linter.unusedVariables false
set_option maxRecDepth 100000

/-- Up, without a fuse, not full. -/
structure Up (s : Dk) : Prop where
  dn : s.dn = false
  fz : s.fz = none
  fu : s.fu = false
theorem Up.burn {s : Dk} (h : Up s) : s.burn = s := by unfold Dk.burn; rw [h.dn, h.fz]
theorem Up.lost {s : Dk} (h : Up s) : s.lost = false := by unfold Dk.lost; rw [h.dn, h.fz]; rfl
theorem Up.wr {s : Dk} (h : Up s) {a : Nat} (ha : a < s.n) (x : List Int) : wrE s (a : Int) = 0 ∧ wrS s (a : Int) x = { s with wt := s.wt ++ [(a, x)] } := by
  have hb : hasB s.n (a : Int) = true := by unfold hasB; simp; omega
  have hl := h.lost
  have hf := h.fu
  constructor
  · unfold wrE; rw [hb, hl, hf]
  · unfold wrS; rw [h.burn]; simp only [hb, hl, hf, Int.toNat_natCast]
def wrs : Nat → List (List Int) → List (Nat × List Int)
  | _, [] => []
  | a, x :: r => (a, x) :: wrs (a + 1) r
theorem sto_ok : ∀ (xs : List (List Int)) (s : Dk) (a : Nat), Up s → a + xs.length ≤ s.n → sto s (a : Int) xs = (0, { s with st := look s.st (s.wt ++ wrs a xs), wt := [] })
  | [], s, a, h, _ => by
    simp only [sto, wrs, List.append_nil]
    unfold syE syS
    rw [h.lost, h.burn]
  | x :: r, s, a, h, ha => by
    simp only [List.length_cons] at ha
    obtain ⟨h1, h2⟩ := h.wr (a := a) (by omega) x
    simp only [sto]
    rw [if_pos h1, h2, show (a : Int) + 1 = ((a + 1 : Nat) : Int) by omega, sto_ok r { s with wt := s.wt ++ [(a, x)] } (a + 1) ⟨h.dn, h.fz, h.fu⟩ (by show a + 1 + r.length ≤ s.n; omega)]
    simp only [wrs, List.append_assoc, List.singleton_append]
theorem look_wrs : ∀ (xs : List (List Int)) (st : Nat → List Int) (a j : Nat), look st (wrs a xs) j = if a ≤ j ∧ j < a + xs.length then mi xs (j - a) else st j
  | [], st, a, j => by rw [if_neg (by simp)]; rfl
  | x :: r, st, a, j => by
    have e : look st (wrs a (x :: r)) j = look (upd st a x) (wrs (a + 1) r) j := rfl
    rw [e, look_wrs r (upd st a x) (a + 1) j]
    by_cases h1 : a + 1 ≤ j ∧ j < a + 1 + r.length
    · rw [if_pos h1, if_pos ⟨by omega, by simp only [List.length_cons]; omega⟩]
      rw [show j - a = (j - (a + 1)) + 1 by omega]; rfl
    · rw [if_neg h1]
      by_cases h2 : j = a
      · subst h2
        rw [if_pos ⟨Nat.le_refl _, by simp⟩, Nat.sub_self]
        simp [upd, mi]
      · rw [if_neg (by simp only [List.length_cons]; omega)]
        simp [upd, h2]
theorem mi_app_lo {xss yss : List (List Int)} {i : Nat} (h : i < xss.length) : mi (xss ++ yss) i = mi xss i := by
  unfold mi; rw [List.getD_eq_getElem?_getD, List.getD_eq_getElem?_getD, List.getElem?_append_left h]
/-- What a frame leaves of the sectors. -/
def layS (st : Nat → List Int) (a : Nat) (p : List Int) (j : Nat) : List Int :=
  if j = a then hd p else if j = a + fl p.length then z64 else if a < j ∧ j < a + fl p.length then sec p (j - a - 1) else st j
theorem lay_ok {s : Dk} (h : Up s) (hw : s.wt = []) (a : Nat) (p : List Int) (ha : a + fl p.length < s.n) : lay s (a : Int) p = (0, { s with st := layS s.st a p, wt := [] }) := by
  have hfl : fl p.length = nsec p.length + 1 := by unfold fl nsec; omega
  have hl : (cuts p (nsec p.length) ++ [z64]).length = nsec p.length + 1 := by rw [List.length_append, cuts_length]; rfl
  unfold lay lay1
  rw [sto_ok [z64] s a h (by simp; omega)]
  simp only [if_true]
  rw [show (a : Int) + 1 = ((a + 1 : Nat) : Int) by omega, sto_ok (cuts p (nsec p.length) ++ [z64]) { s with st := look s.st (s.wt ++ wrs a [z64]), wt := [] } (a + 1) ⟨h.dn, h.fz, h.fu⟩ (by rw [hl]; show a + 1 + (nsec p.length + 1) ≤ s.n; omega)]
  unfold lay2
  simp only [if_true]
  rw [sto_ok [hd p] { s with st := look (look s.st (s.wt ++ wrs a [z64])) ([] ++ wrs (a + 1) (cuts p (nsec p.length) ++ [z64])), wt := [] } a ⟨h.dn, h.fz, h.fu⟩ (by show a + 1 ≤ s.n; omega)]
  congr 2
  funext j
  simp only [List.nil_append]
  rw [look_wrs, look_wrs, hw, List.nil_append, look_wrs, hl]
  unfold layS
  rw [hfl]
  by_cases h1 : j = a
  · subst h1; simp [mi]
  · rw [if_neg (by simp; omega), if_neg h1]
    by_cases h2 : j = a + (nsec p.length + 1)
    · rw [if_pos ⟨by omega, by omega⟩, if_pos h2]
      unfold mi
      rw [List.getD_eq_getElem?_getD, List.getElem?_append_right (by rw [cuts_length]; omega), cuts_length, show j - (a + 1) - nsec p.length = 0 by omega]; rfl
    · rw [if_neg h2]
      by_cases h3 : a < j ∧ j < a + (nsec p.length + 1)
      · rw [if_pos ⟨by omega, by omega⟩, if_pos h3, mi_app_lo (by rw [cuts_length]; omega), cuts_mi p (by omega)]
        (congr 1; try omega)
      · rw [if_neg (by omega), if_neg (by simp; omega), if_neg h3]
theorem nm_zero : nm ((z64.drop 32).take 8) = 0 := by kernel_rfl
/-- A blank sector is no frame. -/
theorem tk_blank (hh : hd [] ≠ z64) {s : Dk} {a : Nat} (h : rdV s (a : Int) = z64) (t : Nat) : tk s a t = none := by
  have hn : tkn s a = 0 := by unfold tkn; rw [h, nm_zero]; rfl
  have hp : tkp s a = [] := by unfold tkp; rw [hn]; unfold pk; simp
  unfold tk
  split
  · rfl
  · split
    · rfl
    · rw [hp, h]
      rw [if_neg]
      exact hh
end Go.Proofs.YthfpakjfdncphaaDoor
