/- begin in all its cases; Append and Checkpoint with it. -/
import Derived.Test.YthfpakjfdncphaaDoorWalPA
import Derived.Test.YthfpakjfdncphaaDoorWalPB
import Derived.Test.YthfpakjfdncphaaDoorWalS
namespace Go.Proofs.YthfpakjfdncphaaDoor
open Go Go.RowKit
set_option linter.unusedSimpArgs false
set_option linter.unusedVariables false
set_option maxRecDepth 100000

/-- What begin answers and leaves. -/
def bgR (s : Dk) (l : Lo) (xss : List (List Int)) : Int × Dk × Lo :=
  if hfF s.n (l.t + 1) + fl (JS xss) < hfT s.n (l.t + 1) then
    if (lay s (hfF s.n (l.t + 1) : Int) (JN ((l.t + 1 : Nat) : Int) xss)).1 = 0 then
      (0, (lay s (hfF s.n (l.t + 1) : Int) (JN ((l.t + 1 : Nat) : Int) xss)).2, setF { l with t := l.t + 1, rs := xss, en := hfF s.n (l.t + 1) + fl (JS xss), lo := false } ((l.t + 1) % 2) (rdV (lay s (hfF s.n (l.t + 1) : Int) (JN ((l.t + 1 : Nat) : Int) xss)).2 (hfF s.n (l.t + 1) : Int)))
    else ((lay s (hfF s.n (l.t + 1) : Int) (JN ((l.t + 1 : Nat) : Int) xss)).1, (lay s (hfF s.n (l.t + 1) : Int) (JN ((l.t + 1 : Nat) : Int) xss)).2, { l with lo := decide ((lay s (hfF s.n (l.t + 1) : Int) (JN ((l.t + 1 : Nat) : Int) xss)).1 = 9) })
  else (5, s, l)
theorem js_rok' {xss : List (List Int)} (h : Rok xss) : ∀ k, k ≤ xss.length → js xss k ≤ 8 + 65544 * k
  | 0, _ => by simp [js]
  | k + 1, hk => by
    have h1 := js_rok' h k (by omega)
    have h2 : (mi xss k).length ≤ 65536 := (h _ (by rw [mi_get (by omega)]; exact List.getElem_mem (by omega))).2
    simp only [js]; omega
theorem js_rok {xss : List (List Int)} (h : Rok xss) : JS xss ≤ 8 + 65544 * xss.length := js_rok' h _ (Nat.le_refl _)
theorem begin_any {S : Nat → Prop} {w : World} {g : Nat} {s : Dk} {lg : Nat} {l : Lo} (h : WL S w g s lg l) (ht : l.t + 1 < 18446744073709551616) (xss : List (List Int)) (v : Value) (hv : LL w v xss) (hR : Rok xss) (hn : xss.length ≤ 1000000000) (hN : s.wt.length ≤ 549755813888) :
    Calls Tryd.prog 25 #[.pointer (some ⟨lg, 0, none⟩), v] w fun e w' => e = .returned (.int .i64 (bgR s l xss).1) ∧ AftL S w w' g (bgR s l xss).2.1 lg (bgR s l xss).2.2 := by
  unfold bgR
  split
  · rename_i hf
    split
    · rename_i hz
      exact begin_ok h ht xss v hv hR hn hN hf hz
    · rename_i hz
      exact begin_fail h ht xss v hv hR hn hN hf hz
  · rename_i hf
    refine (begin_full h ht xss v hv (by omega) (by have := js_rok hR; omega) hf).mono ?_
    rintro e w' ⟨rfl, rfl⟩
    exact ⟨rfl, AftL.refl h⟩
theorem append_first {S : Nat → Prop} {w : World} {g : Nat} {s : Dk} {lg : Nat} {l : Lo} (h : WL S w g s lg l) (hlo : l.lo = false) (hdn : s.dn = false) (e0 : l.f0 = rdV s (hfF s.n 0 : Int)) (e1 : l.f1 = rdV s (hfF s.n 1 : Int)) (h0 : l.t = 0)
    (p : List Int) (v : Value) (hv : Sl w v p) (hb : Byt p) (hp : p.length ≤ 65536) (hN : s.wt.length ≤ 549755813888) :
    Calls Tryd.prog 12 #[.pointer (some ⟨lg, 0, none⟩), v] w fun e w' => e = .returned (.int .i64 (bgR s l [p]).1) ∧ AftL S w w' g (bgR s l [p]).2.1 lg (bgR s l [p]).2.2 := by
  refine (append_zero h hlo hdn e0 e1 h0 p v hv hp (fun z w' => z = (bgR s l [p]).1 ∧ AftL S w w' g (bgR s l [p]).2.1 lg (bgR s l [p]).2.2) (fun W u hW hL => ?_)).mono ?_
  · refine (begin_any (h.below hW) (by omega) [p] u hL (fun m hm => ?_) (by simp) hN).mono ?_
    · have : m = p := by simpa using hm
      rw [this]; exact ⟨hb, hp⟩
    · rintro e w' ⟨rfl, ha⟩
      exact ⟨_, rfl, rfl, AftL.trans (chg_of_below hW) (fun b hb => .inl hb) ha⟩
  · rintro e w' ⟨z, rfl, rfl, ha⟩
    exact ⟨rfl, ha⟩
theorem append_large {S : Nat → Prop} {w : World} {g : Nat} {s : Dk} {lg : Nat} {l : Lo} (h : WL S w g s lg l) (hlo : l.lo = false) (p : List Int) (v : Value) (hv : Sl w v p) (hp : 65536 < p.length) :
    Calls Tryd.prog 12 #[.pointer (some ⟨lg, 0, none⟩), v] w fun e w' => e = .returned (.int .i64 6) ∧ Below w.heap.size w w' := by
  have HW : Hid (WL S w g s lg l) := h
  have HV : Hid (Sl w v p) := hv
  obtain ⟨ad, cap, rfl, -⟩ := hv
  clear h
  go_enter Tryd.func12, Tryd.ntmps12
  go_wp2_with fail
  have B1 : Below w.heap.size w (w.alloc (.cells #[.slice ad p.length cap] 32)) := (Below.refl _ w).alloc (Nat.le_refl _) _
  refine (refuse_any (HW.out.below B1) hlo [p] _ (LL.one HV.out _) (by simp)).mono ?_
  rintro e w1 ⟨rfl, hw1⟩
  have HB1 : Hid (Below w.heap.size w w1) := by show Below _ _ _; rw [hw1]; exact B1
  rw [rfE_large hp]
  clear hw1 B1
  go_wp2_with fail
  go_ret
  exact ⟨rfl, HB1.out⟩
set_option maxHeartbeats 1000000 in
theorem checkpoint_any {S : Nat → Prop} {w : World} {g : Nat} {s : Dk} {lg : Nat} {l : Lo} (h : WL S w g s lg l) (hlo : l.lo = false) (hdn : s.dn = false) (e0 : l.f0 = rdV s (hfF s.n 0 : Int)) (e1 : l.f1 = rdV s (hfF s.n 1 : Int)) (ht : l.t + 1 < 18446744073709551616) (he : l.en ≤ 65536) (hr : l.rs.length ≤ 999999999)
    (hen : l.t ≠ 0 → tk s l.en (hfT s.n l.t) = none) (xss : List (List Int)) (v : Value) (hv : ∀ w', Chg S w w' → LL w' v xss) (hR : Rok xss) (hn : xss.length ≤ 1000000000) (hN : s.wt.length ≤ 549755813888) :
    Calls Tryd.prog 14 #[.pointer (some ⟨lg, 0, none⟩), v] w fun e w' => e = .returned (.int .i64 (bgR s l xss).1) ∧ AftL S w w' g (bgR s l xss).2.1 lg (bgR s l xss).2.2 := by
  have HW : Hid (WL S w g s lg l) := h
  have HV : Hid (∀ w', Chg S w w' → LL w' v xss) := hv
  have HRR : Hid (Rok xss) := hR
  have HRF : Hid (∀ W, WL S W g s lg l → Calls Tryd.prog 24 #[.pointer (some ⟨lg, 0, none⟩)] W fun e w' => e = .returned (.tuple #[]) ∧ AftL S W w' g s lg l) := by
    intro W hW
    by_cases h0 : l.t = 0
    · exact (refresh_zero hW hlo hdn e0 e1 h0).mono fun e w' ⟨x, y⟩ => ⟨x, S, hW.below y, chg_of_below y, fun b hb => .inl hb⟩
    · refine (refresh_any hW hlo hdn e0 e1 h0 (by omega) he (by omega)).mono ?_
      rintro e w2 ⟨rfl, ns, e', hf1, hf2, ha⟩
      obtain ⟨hns, hee⟩ := Frs.one (ns := []) (e := l.en) (e1 := l.en) rfl (hen h0) hf1 hf2
      subst hee
      subst hns
      have hll : ({ l with rs := l.rs ++ [], en := l.en } : Lo) = l := by rw [List.append_nil]
      rw [hll] at ha
      exact ⟨rfl, ha⟩
  obtain ⟨ad, cap, hve, -⟩ := hv w (Chg.refl _ _)
  subst hve
  have hrf : rfE xss = 0 := rfE_no (fun j hj => (hR _ (by rw [mi_get hj]; exact List.getElem_mem hj)).2)
  clear h hv hR e0 e1 hen
  go_enter Tryd.func14, Tryd.ntmps14
  go_wp2_with fail
  refine (refuse_any HW.out hlo xss _ (HV.out w (Chg.refl _ _)) (by omega)).mono ?_
  rintro e w1 ⟨rfl, rfl⟩
  rw [hrf]
  clear hrf
  go_wp2_with fail
  refine (HRF.out w1 HW.out).mono ?_
  rintro e w2 ⟨rfl, S1, hw2, hc2, hd2⟩
  have W2 : Hid (WL S1 w2 g s lg l) := hw2
  have C2 : Hid (Chg S w1 w2) := hc2
  have D2 : Hid (∀ b, S1 b → S b ∨ w1.heap.size ≤ b) := hd2
  clear hw2 hc2 hd2
  go_wp2_with fail
  refine (begin_any W2.out ht xss _ (HV.out w2 C2.out) HRR.out hn hN).mono ?_
  rintro e w3 ⟨rfl, ha⟩
  have HA : Hid (AftL S1 w2 w3 g (bgR s l xss).2.1 lg (bgR s l xss).2.2) := ha
  clear ha
  obtain ⟨z, hz⟩ : ∃ z, (bgR s l xss).1 = z := ⟨_, rfl⟩
  have HZ : Hid ((bgR s l xss).1 = z) := hz
  rw [hz]
  clear hz
  go_wp2_with fail
  go_ret
  exact ⟨(by rw [HZ.out]; rfl), AftL.trans C2.out D2.out HA.out⟩
end Go.Proofs.YthfpakjfdncphaaDoor
/- Plain mathematics of disks that are up: what store and layFrame leave; a blank sector is no frame. -/
namespace Go.Proofs.YthfpakjfdncphaaDoor
open Go Go.RowKit
set_option linter.unusedSimpArgs false
set_option linter.unusedVariables false
set_option maxRecDepth 100000

/-- Up, without a fuse, not full. -/
structure Up (s : Dk) : Prop where
  dn : s.dn = false
  fz : s.fz = none
  fu : s.fu = false
theorem Up.burn {s : Dk} (h : Up s) : s.burn = s := by unfold Dk.burn; rw [h.dn, h.fz]
theorem Up.lost {s : Dk} (h : Up s) : s.lost = false := by unfold Dk.lost; rw [h.dn, h.fz]; rfl
theorem Up.wr {s : Dk} (h : Up s) {a : Nat} (ha : a < s.n) (x : List Int) : wrE s (a : Int) = 0 ∧ wrS s (a : Int) x = { s with wt := s.wt ++ [(a, x)] } := by
  have hb : hasB s.n (a : Int) = true := by unfold hasB; simp; omega
  have hl := h.lost
  have hf := h.fu
  constructor
  · unfold wrE; rw [hb, hl, hf]
  · unfold wrS; rw [h.burn]; simp only [hb, hl, hf, Int.toNat_natCast]
def wrs : Nat → List (List Int) → List (Nat × List Int)
  | _, [] => []
  | a, x :: r => (a, x) :: wrs (a + 1) r
theorem sto_ok : ∀ (xs : List (List Int)) (s : Dk) (a : Nat), Up s → a + xs.length ≤ s.n → sto s (a : Int) xs = (0, { s with st := look s.st (s.wt ++ wrs a xs), wt := [] })
  | [], s, a, h, _ => by
    simp only [sto, wrs, List.append_nil]
    unfold syE syS
    rw [h.lost, h.burn]
  | x :: r, s, a, h, ha => by
    simp only [List.length_cons] at ha
    obtain ⟨h1, h2⟩ := h.wr (a := a) (by omega) x
    simp only [sto]
    rw [if_pos h1, h2, show (a : Int) + 1 = ((a + 1 : Nat) : Int) by omega, sto_ok r { s with wt := s.wt ++ [(a, x)] } (a + 1) ⟨h.dn, h.fz, h.fu⟩ (by show a + 1 + r.length ≤ s.n; omega)]
    simp only [wrs, List.append_assoc, List.singleton_append]
theorem look_wrs : ∀ (xs : List (List Int)) (st : Nat → List Int) (a j : Nat), look st (wrs a xs) j = if a ≤ j ∧ j < a + xs.length then mi xs (j - a) else st j
  | [], st, a, j => by rw [if_neg (by simp)]; rfl
  | x :: r, st, a, j => by
    have e : look st (wrs a (x :: r)) j = look (upd st a x) (wrs (a + 1) r) j := rfl
    rw [e, look_wrs r (upd st a x) (a + 1) j]
    by_cases h1 : a + 1 ≤ j ∧ j < a + 1 + r.length
    · rw [if_pos h1, if_pos ⟨by omega, by simp only [List.length_cons]; omega⟩]
      rw [show j - a = (j - (a + 1)) + 1 by omega]; rfl
    · rw [if_neg h1]
      by_cases h2 : j = a
      · subst h2
        rw [if_pos ⟨Nat.le_refl _, by simp⟩, Nat.sub_self]
        simp [upd, mi]
      · rw [if_neg (by simp only [List.length_cons]; omega)]
        simp [upd, h2]
theorem mi_app_lo {xss yss : List (List Int)} {i : Nat} (h : i < xss.length) : mi (xss ++ yss) i = mi xss i := by
  unfold mi; rw [List.getD_eq_getElem?_getD, List.getD_eq_getElem?_getD, List.getElem?_append_left h]
/-- What a frame leaves of the sectors. -/
def layS (st : Nat → List Int) (a : Nat) (p : List Int) (j : Nat) : List Int :=
  if j = a then hd p else if j = a + fl p.length then z64 else if a < j ∧ j < a + fl p.length then sec p (j - a - 1) else st j
theorem lay_ok {s : Dk} (h : Up s) (hw : s.wt = []) (a : Nat) (p : List Int) (ha : a + fl p.length < s.n) : lay s (a : Int) p = (0, { s with st := layS s.st a p, wt := [] }) := by
  have hfl : fl p.length = nsec p.length + 1 := by unfold fl nsec; omega
  have hl : (cuts p (nsec p.length) ++ [z64]).length = nsec p.length + 1 := by rw [List.length_append, cuts_length]; rfl
  unfold lay lay1
  rw [sto_ok [z64] s a h (by simp; omega)]
  simp only [if_true]
  rw [show (a : Int) + 1 = ((a + 1 : Nat) : Int) by omega, sto_ok (cuts p (nsec p.length) ++ [z64]) { s with st := look s.st (s.wt ++ wrs a [z64]), wt := [] } (a + 1) ⟨h.dn, h.fz, h.fu⟩ (by rw [hl]; show a + 1 + (nsec p.length + 1) ≤ s.n; omega)]
  unfold lay2
  simp only [if_true]
  rw [sto_ok [hd p] { s with st := look (look s.st (s.wt ++ wrs a [z64])) ([] ++ wrs (a + 1) (cuts p (nsec p.length) ++ [z64])), wt := [] } a ⟨h.dn, h.fz, h.fu⟩ (by show a + 1 ≤ s.n; omega)]
  congr 2
  funext j
  simp only [List.nil_append]
  rw [look_wrs, look_wrs, hw, List.nil_append, look_wrs, hl]
  unfold layS
  rw [hfl]
  by_cases h1 : j = a
  · subst h1; simp [mi]
  · rw [if_neg (by simp; omega), if_neg h1]
    by_cases h2 : j = a + (nsec p.length + 1)
    · rw [if_pos ⟨by omega, by omega⟩, if_pos h2]
      unfold mi
      rw [List.getD_eq_getElem?_getD, List.getElem?_append_right (by rw [cuts_length]; omega), cuts_length, show j - (a + 1) - nsec p.length = 0 by omega]; rfl
    · rw [if_neg h2]
      by_cases h3 : a < j ∧ j < a + (nsec p.length + 1)
      · rw [if_pos ⟨by omega, by omega⟩, if_pos h3, mi_app_lo (by rw [cuts_length]; omega), cuts_mi p (by omega)]
        (congr 1; try omega)
      · rw [if_neg (by omega), if_neg (by simp; omega), if_neg h3]
theorem nm_zero : nm ((z64.drop 32).take 8) = 0 := by kernel_rfl
/-- A blank sector is no frame. -/
theorem tk_blank (hh : hd [] ≠ z64) {s : Dk} {a : Nat} (h : rdV s (a : Int) = z64) (t : Nat) : tk s a t = none := by
  have hn : tkn s a = 0 := by unfold tkn; rw [h, nm_zero]; rfl
  have hp : tkp s a = [] := by unfold tkp; rw [hn]; unfold pk; simp
  unfold tk
  split
  · rfl
  · split
    · rfl
    · rw [hp, h]
      rw [if_neg]
      exact hh
end Go.Proofs.YthfpakjfdncphaaDoor
