/- Append onto a log that has no beginning yet; Append and Checkpoint of none. -/
import Derived.Test.YtphjjjijdbljaaaDoorWalS
namespace Go.Proofs.YtphjjjijdbljaaaDoor
open Go Go.RowKit
set_option linter.unusedSimpArgs false
set_option linter.unusedVariables false
set_option maxRecDepth 100000

theorem LL.one {w : World} {v : Value} {p : List Int} (h : Sl w v p) (t : TypeId) : LL (w.alloc (.cells #[v] t)) (.slice (some ⟨w.heap.size, 0, none⟩) 1 1) [p] := by
  refine ⟨_, 1, rfl, by simp, .inr ⟨w.heap.size, 0, rfl, by simp, fun i hi => ?_⟩⟩
  have : i = 0 := by simp at hi; omega
  subst this
  refine ⟨v, cell_alloc w #[v] _ _ 0, ?_⟩
  exact h.below ((Below.refl _ w).alloc (Nat.le_refl _) _) (Nat.le_refl _)
theorem rfE_one {p : List Int} (h : p.length ≤ 65536) : rfE [p] = 0 := rfE_no (fun j hj => by
  have : j = 0 := by simp at hj; omega
  subst this; exact h)
theorem rfE_large {p : List Int} (h : 65536 < p.length) : rfE [p] = 6 := rfE_yes (k := 0) (by simp) h
set_option maxHeartbeats 1000000 in
theorem append_nil (w : World) (ad : Option Addr) (n c : Nat) : Calls Tryd.prog 36 #[.pointer none, .slice ad n c] w fun e w' => e = .returned (.int .i64 1) ∧ Below w.heap.size w w' := by
  go_enter Tryd.func36, Tryd.ntmps36
  go_wp2_with fail
  refine (refuse_nil _ _).mono ?_
  rintro e w' ⟨rfl, hw'⟩
  have HB : Hid (Below w.heap.size w w') := by show Below _ _ _; rw [hw']; exact (Below.refl _ w).alloc (Nat.le_refl _) _
  clear hw'
  go_wp2_with fail
  go_ret
  exact ⟨rfl, HB.out⟩
set_option maxHeartbeats 1000000 in
theorem checkpoint_nil (w : World) (v : Value) : Calls Tryd.prog 50 #[.pointer none, v] w fun e w' => e = .returned (.int .i64 1) ∧ w' = w := by
  go_enter Tryd.func50, Tryd.ntmps50
  go_wp2_with (go_at_call 51; refine (refuse_nil _ _).mono ?_; rintro e w' ⟨rfl, rfl⟩)
  go_ret
  exact ⟨rfl, rfl⟩
set_option maxHeartbeats 1000000 in
theorem append_zero {S : Nat → Prop} {w : World} {g : Nat} {s : Dk} {lg : Nat} {l : Lo} (h : WL S w g s lg l) (hlo : l.lo = false) (hdn : s.dn = false) (e0 : l.f0 = rdV s (hfF s.n 0 : Int)) (e1 : l.f1 = rdV s (hfF s.n 1 : Int)) (h0 : l.t = 0)
    (p : List Int) (v : Value) (hv : Sl w v p) (hp : p.length ≤ 65536) (R : Int → World → Prop)
    (hB : ∀ W u, Below w.heap.size w W → LL W u [p] → Calls Tryd.prog 52 #[.pointer (some ⟨lg, 0, none⟩), u] W fun e w' => ∃ z, e = .returned (.int .i64 z) ∧ R z w') :
    Calls Tryd.prog 36 #[.pointer (some ⟨lg, 0, none⟩), v] w fun e w' => ∃ z, e = .returned (.int .i64 z) ∧ R z w' := by
  have HW : Hid (WL S w g s lg l) := h
  have HV : Hid (Sl w v p) := hv
  have HBG : Hid (∀ W u, Below w.heap.size w W → LL W u [p] → Calls Tryd.prog 52 #[.pointer (some ⟨lg, 0, none⟩), u] W fun e w' => ∃ z, e = .returned (.int .i64 z) ∧ R z w') := hB
  have E0 : Hid (l.f0 = rdV s (hfF s.n 0 : Int)) := e0
  have E1 : Hid (l.f1 = rdV s (hfF s.n 1 : Int)) := e1
  obtain ⟨ad, cap, rfl, -⟩ := hv
  clear h hB e0 e1
  go_enter Tryd.func36, Tryd.ntmps36
  go_wp2_with fail
  have B1 : Below w.heap.size w (w.alloc (.cells #[.slice ad p.length cap] 71)) := (Below.refl _ w).alloc (Nat.le_refl _) _
  refine (refuse_any (HW.out.below B1) hlo [p] _ (LL.one HV.out _) (by simp)).mono ?_
  rintro e w1 ⟨rfl, hw1⟩
  have HB1 : Hid (Below w.heap.size w w1) := by show Below _ _ _; rw [hw1]; exact B1
  rw [rfE_one hp]
  clear hw1 B1
  go_wp2_with fail
  refine (refresh_zero (HW.out.below HB1.out) hlo hdn E0.out E1.out h0).mono ?_
  rintro e w2 ⟨rfl, hb2⟩
  have HB2 : Hid (Below w.heap.size w w2) := HB1.out.trans (hb2.mono HB1.out.size)
  clear hb2
  have c1 : w2.cell? ⟨lg, 1, none⟩ = some (.int .u64 0) := by
    obtain ⟨F, H, rv, us, hx⟩ := HW.out.below HB2.out
    obtain ⟨-, c1, -⟩ := hx.lw.lb.cells hx.lw.f0 hx.lw.f1
    rw [h0] at c1; exact c1
  go_wp2_with fail
  have B3 : Below w.heap.size w (w2.alloc (.cells #[.slice ad p.length cap] 71)) := HB2.out.alloc HB2.out.size _
  refine (HBG.out _ _ B3 (LL.one (HV.out.below HB2.out (Nat.le_refl _)) _)).mono ?_
  rintro e w4 ⟨z, rfl, h4⟩
  have H4 : Hid (R z w4) := h4
  clear h4 B3
  go_wp2_with fail
  go_ret
  exact ⟨z, rfl, H4.out⟩
end Go.Proofs.YtphjjjijdbljaaaDoor
/- Plain mathematics of disks that are up: what store and layFrame leave; a blank sector is no frame. -/
namespace Go.Proofs.YtphjjjijdbljaaaDoor
open Go Go.RowKit
set_option linter.unusedSimpArgs false
set_option linter.unusedVariables false
set_option maxRecDepth 100000

/-- Up, without a fuse, not full. -/
structure Up (s : Dk) : Prop where
  dn : s.dn = false
  fz : s.fz = none
  fu : s.fu = false
theorem Up.burn {s : Dk} (h : Up s) : s.burn = s := by unfold Dk.burn; rw [h.dn, h.fz]
theorem Up.lost {s : Dk} (h : Up s) : s.lost = false := by unfold Dk.lost; rw [h.dn, h.fz]; rfl
theorem Up.wr {s : Dk} (h : Up s) {a : Nat} (ha : a < s.n) (x : List Int) : wrE s (a : Int) = 0 ∧ wrS s (a : Int) x = { s with wt := s.wt ++ [(a, x)] } := by
  have hb : hasB s.n (a : Int) = true := by unfold hasB; simp; omega
  have hl := h.lost
  have hf := h.fu
  constructor
  · unfold wrE; rw [hb, hl, hf]
  · unfold wrS; rw [h.burn]; simp only [hb, hl, hf, Int.toNat_natCast]
def wrs : Nat → List (List Int) → List (Nat × List Int)
  | _, [] => []
  | a, x :: r => (a, x) :: wrs (a + 1) r
theorem sto_ok : ∀ (xs : List (List Int)) (s : Dk) (a : Nat), Up s → a + xs.length ≤ s.n → sto s (a : Int) xs = (0, { s with st := look s.st (s.wt ++ wrs a xs), wt := [] })
  | [], s, a, h, _ => by
    simp only [sto, wrs, List.append_nil]
    unfold syE syS
    rw [h.lost, h.burn]
  | x :: r, s, a, h, ha => by
    simp only [List.length_cons] at ha
    obtain ⟨h1, h2⟩ := h.wr (a := a) (by omega) x
    simp only [sto]
    rw [if_pos h1, h2, show (a : Int) + 1 = ((a + 1 : Nat) : Int) by omega, sto_ok r { s with wt := s.wt ++ [(a, x)] } (a + 1) ⟨h.dn, h.fz, h.fu⟩ (by show a + 1 + r.length ≤ s.n; omega)]
    simp only [wrs, List.append_assoc, List.singleton_append]
theorem look_wrs : ∀ (xs : List (List Int)) (st : Nat → List Int) (a j : Nat), look st (wrs a xs) j = if a ≤ j ∧ j < a + xs.length then mi xs (j - a) else st j
  | [], st, a, j => by rw [if_neg (by simp)]; rfl
  | x :: r, st, a, j => by
    have e : look st (wrs a (x :: r)) j = look (upd st a x) (wrs (a + 1) r) j := rfl
    rw [e, look_wrs r (upd st a x) (a + 1) j]
    by_cases h1 : a + 1 ≤ j ∧ j < a + 1 + r.length
    · rw [if_pos h1, if_pos ⟨by omega, by simp only [List.length_cons]; omega⟩]
      rw [show j - a = (j - (a + 1)) + 1 by omega]; rfl
    · rw [if_neg h1]
      by_cases h2 : j = a
      · subst h2
        rw [if_pos ⟨Nat.le_refl _, by simp⟩, Nat.sub_self]
        simp [upd, mi]
      · rw [if_neg (by simp only [List.length_cons]; omega)]
        simp [upd, h2]
theorem mi_app_lo {xss yss : List (List Int)} {i : Nat} (h : i < xss.length) : mi (xss ++ yss) i = mi xss i := by
  unfold mi; rw [List.getD_eq_getElem?_getD, List.getD_eq_getElem?_getD, List.getElem?_append_left h]
/-- What a frame leaves of the sectors. -/
def layS (st : Nat → List Int) (a : Nat) (p : List Int) (j : Nat) : List Int :=
  if j = a then hd p else if j = a + fl p.length then z64 else if a < j ∧ j < a + fl p.length then sec p (j - a - 1) else st j
theorem lay_ok {s : Dk} (h : Up s) (hw : s.wt = []) (a : Nat) (p : List Int) (ha : a + fl p.length < s.n) : lay s (a : Int) p = (0, { s with st := layS s.st a p, wt := [] }) := by
  have hfl : fl p.length = nsec p.length + 1 := by unfold fl nsec; omega
  have hl : (cuts p (nsec p.length) ++ [z64]).length = nsec p.length + 1 := by rw [List.length_append, cuts_length]; rfl
  unfold lay lay1
  rw [sto_ok [z64] s a h (by simp; omega)]
  simp only [if_true]
  rw [show (a : Int) + 1 = ((a + 1 : Nat) : Int) by omega, sto_ok (cuts p (nsec p.length) ++ [z64]) { s with st := look s.st (s.wt ++ wrs a [z64]), wt := [] } (a + 1) ⟨h.dn, h.fz, h.fu⟩ (by rw [hl]; show a + 1 + (nsec p.length + 1) ≤ s.n; omega)]
  unfold lay2
  simp only [if_true]
  rw [sto_ok [hd p] { s with st := look (look s.st (s.wt ++ wrs a [z64])) ([] ++ wrs (a + 1) (cuts p (nsec p.length) ++ [z64])), wt := [] } a ⟨h.dn, h.fz, h.fu⟩ (by show a + 1 ≤ s.n; omega)]
  congr 2
  funext j
  simp only [List.nil_append]
  rw [look_wrs, look_wrs, hw, List.nil_append, look_wrs, hl]
  unfold layS
  rw [hfl]
  by_cases h1 : j = a
  · subst h1; simp [mi]
  · rw [if_neg (by simp; omega), if_neg h1]
    by_cases h2 : j = a + (nsec p.length + 1)
    · rw [if_pos ⟨by omega, by omega⟩, if_pos h2]
      unfold mi
      rw [List.getD_eq_getElem?_getD, List.getElem?_append_right (by rw [cuts_length]; omega), cuts_length, show j - (a + 1) - nsec p.length = 0 by omega]; rfl
    · rw [if_neg h2]
      by_cases h3 : a < j ∧ j < a + (nsec p.length + 1)
      · rw [if_pos ⟨by omega, by omega⟩, if_pos h3, mi_app_lo (by rw [cuts_length]; omega), cuts_mi p (by omega)]
        (congr 1; try omega)
      · rw [if_neg (by omega), if_neg (by simp; omega), if_neg h3]
theorem nm_zero : nm ((z64.drop 32).take 8) = 0 := by kernel_rfl
/-- A blank sector is no frame. -/
theorem tk_blank (hh : hd [] ≠ z64) {s : Dk} {a : Nat} (h : rdV s (a : Int) = z64) (t : Nat) : tk s a t = none := by
  have hn : tkn s a = 0 := by unfold tkn; rw [h, nm_zero]; rfl
  have hp : tkp s a = [] := by unfold tkp; rw [hn]; unfold pk; simp
  unfold tk
  split
  · rfl
  · split
    · rfl
    · rw [hp, h]
      rw [if_neg]
      exact hh
end Go.Proofs.YtphjjjijdbljaaaDoor
/- SHA-256 of no bytes, reckoned. -/
namespace Go.Proofs.YtphjjjijdbljaaaDoor.Sh
open Go Go.RowKit
set_option linter.unusedSimpArgs false
set_option linter.unusedVariables false
set_option maxRecDepth 100000

def emTW : List (BitVec 32) := [2147483648, 0, 0, 0, 0, 0, 0, 0, 0, 0, 0, 0, 0, 0, 0, 0, 2147483648, 0, 2117632, 0, 570427392, 0, 84448578, 2147483648, 1476919296, 4235264, 1451269, 1711282176, 3592562048, 337794312, 3594910044, 3374850048, 3287351444, 676112230, 109604294, 2742808854, 1904000662, 4274181962, 2813755136, 2165675682, 2561075048, 62000258, 1562224585, 2975250741, 3286092305, 614207615, 3297584367, 1575308336, 3741240933, 748767245, 1008022316, 30329261, 369937616, 195877528, 907775968, 3526495142, 43741191, 1967544444, 133517113, 4161330627, 3704256008, 1581412744, 1153231965, 996066459]
def emW (t : Nat) : BitVec 32 := emTW.getD t 0
def emTS : List St := [⟨1779033703, 3144134277, 1013904242, 2773480762, 1359893119, 2600822924, 528734635, 1541459225⟩, ⟨2080933965, 1779033703, 3144134277, 1013904242, 415752866, 1359893119, 2600822924, 528734635⟩, ⟨2632279248, 2080933965, 1779033703, 3144134277, 536982102, 415752866, 1359893119, 2600822924⟩, ⟨3299628326, 2632279248, 2080933965, 1779033703, 1876632314, 536982102, 415752866, 1359893119⟩, ⟨1277422283, 3299628326, 2632279248, 2080933965, 808968629, 1876632314, 536982102, 415752866⟩, ⟨1130821424, 1277422283, 3299628326, 2632279248, 3889194014, 808968629, 1876632314, 536982102⟩, ⟨690895682, 1130821424, 1277422283, 3299628326, 1332035834, 3889194014, 808968629, 1876632314⟩, ⟨4028650896, 690895682, 1130821424, 1277422283, 2196627567, 1332035834, 3889194014, 808968629⟩, ⟨2060825014, 4028650896, 690895682, 1130821424, 1408847307, 2196627567, 1332035834, 3889194014⟩, ⟨4113392549, 2060825014, 4028650896, 690895682, 2058339864, 1408847307, 2196627567, 1332035834⟩, ⟨4025007953, 4113392549, 2060825014, 4028650896, 1392976521, 2058339864, 1408847307, 2196627567⟩, ⟨361478433, 4025007953, 4113392549, 2060825014, 3795207118, 1392976521, 2058339864, 1408847307⟩, ⟨4114828352, 361478433, 4025007953, 4113392549, 3621813394, 3795207118, 1392976521, 2058339864⟩, ⟨553833165, 4114828352, 361478433, 4025007953, 3455974994, 3621813394, 3795207118, 1392976521⟩, ⟨1170215847, 553833165, 4114828352, 361478433, 725774998, 3455974994, 3621813394, 3795207118⟩, ⟨3096116699, 1170215847, 553833165, 4114828352, 483372089, 725774998, 3455974994, 3621813394⟩, ⟨3019933109, 3096116699, 1170215847, 553833165, 1555621987, 483372089, 725774998, 3455974994⟩, ⟨1192056138, 3019933109, 3096116699, 1170215847, 1892956839, 1555621987, 483372089, 725774998⟩, ⟨3717831211, 1192056138, 3019933109, 3096116699, 1619825619, 1892956839, 1555621987, 483372089⟩, ⟨812095850, 3717831211, 1192056138, 3019933109, 3550010602, 1619825619, 1892956839, 1555621987⟩, ⟨172493064, 812095850, 3717831211, 1192056138, 2416781228, 3550010602, 1619825619, 1892956839⟩, ⟨1976037592, 172493064, 812095850, 3717831211, 966081741, 2416781228, 3550010602, 1619825619⟩, ⟨2577845017, 1976037592, 172493064, 812095850, 3263666206, 966081741, 2416781228, 3550010602⟩, ⟨1078820948, 2577845017, 1976037592, 172493064, 2976200464, 3263666206, 966081741, 2416781228⟩, ⟨2556161365, 1078820948, 2577845017, 1976037592, 741081741, 2976200464, 3263666206, 966081741⟩, ⟨2062996621, 2556161365, 1078820948, 2577845017, 4116679717, 741081741, 2976200464, 3263666206⟩, ⟨3317175470, 2062996621, 2556161365, 1078820948, 3850028020, 4116679717, 741081741, 2976200464⟩, ⟨747317945, 3317175470, 2062996621, 2556161365, 2677228163, 3850028020, 4116679717, 741081741⟩, ⟨1837942423, 747317945, 3317175470, 2062996621, 1726829818, 2677228163, 3850028020, 4116679717⟩, ⟨1690082844, 1837942423, 747317945, 3317175470, 2506713973, 1726829818, 2677228163, 3850028020⟩, ⟨1926471693, 1690082844, 1837942423, 747317945, 2957685293, 2506713973, 1726829818, 2677228163⟩, ⟨2696613087, 1926471693, 1690082844, 1837942423, 1447716390, 2957685293, 2506713973, 1726829818⟩, ⟨300352095, 2696613087, 1926471693, 1690082844, 3151463532, 1447716390, 2957685293, 2506713973⟩, ⟨3817927606, 300352095, 2696613087, 1926471693, 3436338571, 3151463532, 1447716390, 2957685293⟩, ⟨2705438357, 3817927606, 300352095, 2696613087, 197416927, 3436338571, 3151463532, 1447716390⟩, ⟨1151435175, 2705438357, 3817927606, 300352095, 1769188034, 197416927, 3436338571, 3151463532⟩, ⟨1679812728, 1151435175, 2705438357, 3817927606, 980442793, 1769188034, 197416927, 3436338571⟩, ⟨2694206301, 1679812728, 1151435175, 2705438357, 4206914285, 980442793, 1769188034, 197416927⟩, ⟨1457773646, 2694206301, 1679812728, 1151435175, 3892832895, 4206914285, 980442793, 1769188034⟩, ⟨2656625711, 1457773646, 2694206301, 1679812728, 2242319396, 3892832895, 4206914285, 980442793⟩, ⟨1234768305, 2656625711, 1457773646, 2694206301, 1902882853, 2242319396, 3892832895, 4206914285⟩, ⟨4270245939, 1234768305, 2656625711, 1457773646, 2224585183, 1902882853, 2242319396, 3892832895⟩, ⟨580450446, 4270245939, 1234768305, 2656625711, 4123364073, 2224585183, 1902882853, 2242319396⟩, ⟨3686090155, 580450446, 4270245939, 1234768305, 3762306745, 4123364073, 2224585183, 1902882853⟩, ⟨3907209042, 3686090155, 580450446, 4270245939, 692219050, 3762306745, 4123364073, 2224585183⟩, ⟨2752082644, 3907209042, 3686090155, 580450446, 2855016464, 692219050, 3762306745, 4123364073⟩, ⟨855262251, 2752082644, 3907209042, 3686090155, 3531982457, 2855016464, 692219050, 3762306745⟩, ⟨1419259244, 855262251, 2752082644, 3907209042, 2322236082, 3531982457, 2855016464, 692219050⟩, ⟨911881421, 1419259244, 855262251, 2752082644, 3417569515, 2322236082, 3531982457, 2855016464⟩, ⟨1655188062, 911881421, 1419259244, 855262251, 1286303114, 3417569515, 2322236082, 3531982457⟩, ⟨2543384045, 1655188062, 911881421, 1419259244, 3909789552, 1286303114, 3417569515, 2322236082⟩, ⟨3244542753, 2543384045, 1655188062, 911881421, 906398686, 3909789552, 1286303114, 3417569515⟩, ⟨3579709122, 3244542753, 2543384045, 1655188062, 2710884687, 906398686, 3909789552, 1286303114⟩, ⟨2981272720, 3579709122, 3244542753, 2543384045, 1134943992, 2710884687, 906398686, 3909789552⟩, ⟨974034039, 2981272720, 3579709122, 3244542753, 4254700398, 1134943992, 2710884687, 906398686⟩, ⟨749689034, 974034039, 2981272720, 3579709122, 3850954136, 4254700398, 1134943992, 2710884687⟩, ⟨23298068, 749689034, 974034039, 2981272720, 2918796810, 3850954136, 4254700398, 1134943992⟩, ⟨2126991890, 23298068, 749689034, 974034039, 2035393328, 2918796810, 3850954136, 4254700398⟩, ⟨3891021244, 2126991890, 23298068, 749689034, 3802734300, 2035393328, 2918796810, 3850954136⟩, ⟨3911429062, 3891021244, 2126991890, 23298068, 148956906, 3802734300, 2035393328, 2918796810⟩, ⟨71572494, 3911429062, 3891021244, 2126991890, 2867830852, 148956906, 3802734300, 2035393328⟩, ⟨4095722474, 71572494, 3911429062, 3891021244, 477227836, 2867830852, 148956906, 3802734300⟩, ⟨1586299222, 4095722474, 71572494, 3911429062, 2232532848, 477227836, 2867830852, 148956906⟩, ⟨3717492111, 1586299222, 4095722474, 71572494, 3382061760, 2232532848, 477227836, 2867830852⟩, ⟨2040978907, 3717492111, 1586299222, 4095722474, 3600805733, 3382061760, 2232532848, 477227836⟩]
def emS (t : Nat) : St := emTS.getD t H256
def emM : Nat → BitVec 8 := hm []
theorem em_zero (i : Nat) : emM i = 0 := by unfold emM hm gi; simp
theorem em_pad (i : Nat) (h : i < 64) : padM emM 0 i = if i = 0 then 128 else 0 := by
  have : ∀ i : Fin 64, padM (fun _ => 0) 0 i.val = if i.val = 0 then 128 else 0 := by decide +kernel
  have e : emM = fun _ => 0 := funext em_zero
  rw [e]; exact this ⟨i, h⟩
theorem em_first : ∀ t : Fin 16, emW t.val = word (padM (fun _ => 0) 0 (4 * t.val)) (padM (fun _ => 0) 0 (4 * t.val + 1)) (padM (fun _ => 0) 0 (4 * t.val + 2)) (padM (fun _ => 0) 0 (4 * t.val + 3)) := by decide +kernel
theorem em_later : ∀ t : Fin 48, emW (16 + t.val) = lo1 (emW (14 + t.val)) + emW (9 + t.val) + lo0 (emW (1 + t.val)) + emW t.val := by decide +kernel
theorem em_steps : ∀ t : Fin 64, (step (emS t.val) (K256 t.val) (emW t.val)).eqb (emS (t.val + 1)) = true := by decide +kernel
theorem em_sched : Sched (padM (fun _ => 0) 0) emW where
  first t h := em_first ⟨t, h⟩
  later t h1 h2 := by
    have := em_later ⟨t - 16, by omega⟩
    simp only at this
    rw [show 16 + (t - 16) = t by omega, show 14 + (t - 16) = t - 2 by omega, show 9 + (t - 16) = t - 7 by omega, show 1 + (t - 16) = t - 15 by omega] at this
    exact this
theorem em_rounds : ∀ n, n ≤ 64 → rounds K256 emW H256 n = emS n
  | 0, _ => St.eq_of_eqb (by decide +kernel)
  | n + 1, h => by
    rw [rounds, em_rounds n (by omega)]
    exact St.eq_of_eqb (em_steps ⟨n, by omega⟩)
theorem em_sum : sumSt K256 H256 (fun _ => 0) 0 = ⟨3820012610, 2566659092, 2600203464, 2574235940, 665731556, 1687917388, 2761267483, 2018687061⟩ := by
  have hn : nblk 0 = 0 + 1 := rfl
  rw [sumSt, hn, blocks, blocks, compress, rounds_congr K256 _ emW H256 64 (fun t ht => by
    have e : (fun i => padM (fun _ => 0) 0 (64 * 0 + i)) = padM (fun _ => 0) 0 := funext fun i => by rw [Nat.mul_zero, Nat.zero_add]
    rw [e]; exact sched_unique (schedW_ok _) em_sched t ht), em_rounds 64 (Nat.le_refl _)]
  exact St.eq_of_eqb (by decide +kernel)
theorem em_byte : sbyte (sumSt K256 H256 (fun _ => 0) 0) 0 = 227 := by rw [em_sum]; decide +kernel
end Go.Proofs.YtphjjjijdbljaaaDoor.Sh
namespace Go.Proofs.YtphjjjijdbljaaaDoor
open Go Go.RowKit
/-- SHA-256 of no bytes does not begin with a nought. -/
theorem hd_blank : hd [] ≠ z64 := by
  intro e
  have h1 : (hd []).head? = some 227 := by
    have h2 : hm [] = fun _ => 0 := funext Sh.em_zero
    unfold hd hdp hs row32
    rw [h2]
    show some (Sh.ub (Sh.sbyte (Sh.sumSt Sh.K256 Sh.H256 (fun _ => 0) 0) 0)) = some 227
    rw [Sh.em_byte]; rfl
  rw [e] at h1
  revert h1; decide
theorem blank_none {s : Dk} {a : Nat} (h : rdV s (a : Int) = z64) (t : Nat) : tk s a t = none := tk_blank hd_blank h t
end Go.Proofs.YtphjjjijdbljaaaDoor
