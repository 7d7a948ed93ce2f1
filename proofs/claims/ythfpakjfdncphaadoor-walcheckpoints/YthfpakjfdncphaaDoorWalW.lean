/- SHA-256 of no bytes, reckoned. -/
import Derived.Test.YthfpakjfdncphaaDoorWalPC
namespace Go.Proofs.YthfpakjfdncphaaDoor.Sh
open Go Go.RowKit
set_option linter.unusedSimpArgs false
set_option linter.unusedVariables false
set_option maxRecDepth 100000

def emTW : List (BitVec 32) := [2147483648, 0, 0, 0, 0, 0, 0, 0, 0, 0, 0, 0, 0, 0, 0, 0, 2147483648, 0, 2117632, 0, 570427392, 0, 84448578, 2147483648, 1476919296, 4235264, 1451269, 1711282176, 3592562048, 337794312, 3594910044, 3374850048, 3287351444, 676112230, 109604294, 2742808854, 1904000662, 4274181962, 2813755136, 2165675682, 2561075048, 62000258, 1562224585, 2975250741, 3286092305, 614207615, 3297584367, 1575308336, 3741240933, 748767245, 1008022316, 30329261, 369937616, 195877528, 907775968, 3526495142, 43741191, 1967544444, 133517113, 4161330627, 3704256008, 1581412744, 1153231965, 996066459]
def emW (t : Nat) : BitVec 32 := emTW.getD t 0
def emTS : List St := [⟨1779033703, 3144134277, 1013904242, 2773480762, 1359893119, 2600822924, 528734635, 1541459225⟩, ⟨2080933965, 1779033703, 3144134277, 1013904242, 415752866, 1359893119, 2600822924, 528734635⟩, ⟨2632279248, 2080933965, 1779033703, 3144134277, 536982102, 415752866, 1359893119, 2600822924⟩, ⟨3299628326, 2632279248, 2080933965, 1779033703, 1876632314, 536982102, 415752866, 1359893119⟩, ⟨1277422283, 3299628326, 2632279248, 2080933965, 808968629, 1876632314, 536982102, 415752866⟩, ⟨1130821424, 1277422283, 3299628326, 2632279248, 3889194014, 808968629, 1876632314, 536982102⟩, ⟨690895682, 1130821424, 1277422283, 3299628326, 1332035834, 3889194014, 808968629, 1876632314⟩, ⟨4028650896, 690895682, 1130821424, 1277422283, 2196627567, 1332035834, 3889194014, 808968629⟩, ⟨2060825014, 4028650896, 690895682, 1130821424, 1408847307, 2196627567, 1332035834, 3889194014⟩, ⟨4113392549, 2060825014, 4028650896, 690895682, 2058339864, 1408847307, 2196627567, 1332035834⟩, ⟨4025007953, 4113392549, 2060825014, 4028650896, 1392976521, 2058339864, 1408847307, 2196627567⟩, ⟨361478433, 4025007953, 4113392549, 2060825014, 3795207118, 1392976521, 2058339864, 1408847307⟩, ⟨4114828352, 361478433, 4025007953, 4113392549, 3621813394, 3795207118, 1392976521, 2058339864⟩, ⟨553833165, 4114828352, 361478433, 4025007953, 3455974994, 3621813394, 3795207118, 1392976521⟩, ⟨1170215847, 553833165, 4114828352, 361478433, 725774998, 3455974994, 3621813394, 3795207118⟩, ⟨3096116699, 1170215847, 553833165, 4114828352, 483372089, 725774998, 3455974994, 3621813394⟩, ⟨3019933109, 3096116699, 1170215847, 553833165, 1555621987, 483372089, 725774998, 3455974994⟩, ⟨1192056138, 3019933109, 3096116699, 1170215847, 1892956839, 1555621987, 483372089, 725774998⟩, ⟨3717831211, 1192056138, 3019933109, 3096116699, 1619825619, 1892956839, 1555621987, 483372089⟩, ⟨812095850, 3717831211, 1192056138, 3019933109, 3550010602, 1619825619, 1892956839, 1555621987⟩, ⟨172493064, 812095850, 3717831211, 1192056138, 2416781228, 3550010602, 1619825619, 1892956839⟩, ⟨1976037592, 172493064, 812095850, 3717831211, 966081741, 2416781228, 3550010602, 1619825619⟩, ⟨2577845017, 1976037592, 172493064, 812095850, 3263666206, 966081741, 2416781228, 3550010602⟩, ⟨1078820948, 2577845017, 1976037592, 172493064, 2976200464, 3263666206, 966081741, 2416781228⟩, ⟨2556161365, 1078820948, 2577845017, 1976037592, 741081741, 2976200464, 3263666206, 966081741⟩, ⟨2062996621, 2556161365, 1078820948, 2577845017, 4116679717, 741081741, 2976200464, 3263666206⟩, ⟨3317175470, 2062996621, 2556161365, 1078820948, 3850028020, 4116679717, 741081741, 2976200464⟩, ⟨747317945, 3317175470, 2062996621, 2556161365, 2677228163, 3850028020, 4116679717, 741081741⟩, ⟨1837942423, 747317945, 3317175470, 2062996621, 1726829818, 2677228163, 3850028020, 4116679717⟩, ⟨1690082844, 1837942423, 747317945, 3317175470, 2506713973, 1726829818, 2677228163, 3850028020⟩, ⟨1926471693, 1690082844, 1837942423, 747317945, 2957685293, 2506713973, 1726829818, 2677228163⟩, ⟨2696613087, 1926471693, 1690082844, 1837942423, 1447716390, 2957685293, 2506713973, 1726829818⟩, ⟨300352095, 2696613087, 1926471693, 1690082844, 3151463532, 1447716390, 2957685293, 2506713973⟩, ⟨3817927606, 300352095, 2696613087, 1926471693, 3436338571, 3151463532, 1447716390, 2957685293⟩, ⟨2705438357, 3817927606, 300352095, 2696613087, 197416927, 3436338571, 3151463532, 1447716390⟩, ⟨1151435175, 2705438357, 3817927606, 300352095, 1769188034, 197416927, 3436338571, 3151463532⟩, ⟨1679812728, 1151435175, 2705438357, 3817927606, 980442793, 1769188034, 197416927, 3436338571⟩, ⟨2694206301, 1679812728, 1151435175, 2705438357, 4206914285, 980442793, 1769188034, 197416927⟩, ⟨1457773646, 2694206301, 1679812728, 1151435175, 3892832895, 4206914285, 980442793, 1769188034⟩, ⟨2656625711, 1457773646, 2694206301, 1679812728, 2242319396, 3892832895, 4206914285, 980442793⟩, ⟨1234768305, 2656625711, 1457773646, 2694206301, 1902882853, 2242319396, 3892832895, 4206914285⟩, ⟨4270245939, 1234768305, 2656625711, 1457773646, 2224585183, 1902882853, 2242319396, 3892832895⟩, ⟨580450446, 4270245939, 1234768305, 2656625711, 4123364073, 2224585183, 1902882853, 2242319396⟩, ⟨3686090155, 580450446, 4270245939, 1234768305, 3762306745, 4123364073, 2224585183, 1902882853⟩, ⟨3907209042, 3686090155, 580450446, 4270245939, 692219050, 3762306745, 4123364073, 2224585183⟩, ⟨2752082644, 3907209042, 3686090155, 580450446, 2855016464, 692219050, 3762306745, 4123364073⟩, ⟨855262251, 2752082644, 3907209042, 3686090155, 3531982457, 2855016464, 692219050, 3762306745⟩, ⟨1419259244, 855262251, 2752082644, 3907209042, 2322236082, 3531982457, 2855016464, 692219050⟩, ⟨911881421, 1419259244, 855262251, 2752082644, 3417569515, 2322236082, 3531982457, 2855016464⟩, ⟨1655188062, 911881421, 1419259244, 855262251, 1286303114, 3417569515, 2322236082, 3531982457⟩, ⟨2543384045, 1655188062, 911881421, 1419259244, 3909789552, 1286303114, 3417569515, 2322236082⟩, ⟨3244542753, 2543384045, 1655188062, 911881421, 906398686, 3909789552, 1286303114, 3417569515⟩, ⟨3579709122, 3244542753, 2543384045, 1655188062, 2710884687, 906398686, 3909789552, 1286303114⟩, ⟨2981272720, 3579709122, 3244542753, 2543384045, 1134943992, 2710884687, 906398686, 3909789552⟩, ⟨974034039, 2981272720, 3579709122, 3244542753, 4254700398, 1134943992, 2710884687, 906398686⟩, ⟨749689034, 974034039, 2981272720, 3579709122, 3850954136, 4254700398, 1134943992, 2710884687⟩, ⟨23298068, 749689034, 974034039, 2981272720, 2918796810, 3850954136, 4254700398, 1134943992⟩, ⟨2126991890, 23298068, 749689034, 974034039, 2035393328, 2918796810, 3850954136, 4254700398⟩, ⟨3891021244, 2126991890, 23298068, 749689034, 3802734300, 2035393328, 2918796810, 3850954136⟩, ⟨3911429062, 3891021244, 2126991890, 23298068, 148956906, 3802734300, 2035393328, 2918796810⟩, ⟨71572494, 3911429062, 3891021244, 2126991890, 2867830852, 148956906, 3802734300, 2035393328⟩, ⟨4095722474, 71572494, 3911429062, 3891021244, 477227836, 2867830852, 148956906, 3802734300⟩, ⟨1586299222, 4095722474, 71572494, 3911429062, 2232532848, 477227836, 2867830852, 148956906⟩, ⟨3717492111, 1586299222, 4095722474, 71572494, 3382061760, 2232532848, 477227836, 2867830852⟩, ⟨2040978907, 3717492111, 1586299222, 4095722474, 3600805733, 3382061760, 2232532848, 477227836⟩]
def emS (t : Nat) : St := emTS.getD t H256
def emM : Nat → BitVec 8 := hm []
theorem em_zero (i : Nat) : emM i = 0 := by unfold emM hm gi; simp
theorem em_pad (i : Nat) (h : i < 64) : padM emM 0 i = if i = 0 then 128 else 0 := by
  have : ∀ i : Fin 64, padM (fun _ => 0) 0 i.val = if i.val = 0 then 128 else 0 := by decide +kernel
  have e : emM = fun _ => 0 := funext em_zero
  rw [e]; exact this ⟨i, h⟩
theorem em_first : ∀ t : Fin 16, emW t.val = word (padM (fun _ => 0) 0 (4 * t.val)) (padM (fun _ => 0) 0 (4 * t.val + 1)) (padM (fun _ => 0) 0 (4 * t.val + 2)) (padM (fun _ => 0) 0 (4 * t.val + 3)) := by decide +kernel
theorem em_later : ∀ t : Fin 48, emW (16 + t.val) = lo1 (emW (14 + t.val)) + emW (9 + t.val) + lo0 (emW (1 + t.val)) + emW t.val := by decide +kernel
theorem em_steps : ∀ t : Fin 64, (step (emS t.val) (K256 t.val) (emW t.val)).eqb (emS (t.val + 1)) = true := by decide +kernel
theorem em_sched : Sched (padM (fun _ => 0) 0) emW where
  first t h := em_first ⟨t, h⟩
  later t h1 h2 := by
    have := em_later ⟨t - 16, by omega⟩
    simp only at this
    rw [show 16 + (t - 16) = t by omega, show 14 + (t - 16) = t - 2 by omega, show 9 + (t - 16) = t - 7 by omega, show 1 + (t - 16) = t - 15 by omega] at this
    exact this
theorem em_rounds : ∀ n, n ≤ 64 → rounds K256 emW H256 n = emS n
  | 0, _ => St.eq_of_eqb (by decide +kernel)
  | n + 1, h => by
    rw [rounds, em_rounds n (by omega)]
    exact St.eq_of_eqb (em_steps ⟨n, by omega⟩)
theorem em_sum : sumSt K256 H256 (fun _ => 0) 0 = ⟨3820012610, 2566659092, 2600203464, 2574235940, 665731556, 1687917388, 2761267483, 2018687061⟩ := by
  have hn : nblk 0 = 0 + 1 := rfl
  rw [sumSt, hn, blocks, blocks, compress, rounds_congr K256 _ emW H256 64 (fun t ht => by
    have e : (fun i => padM (fun _ => 0) 0 (64 * 0 + i)) = padM (fun _ => 0) 0 := funext fun i => by rw [Nat.mul_zero, Nat.zero_add]
    rw [e]; exact sched_unique (schedW_ok _) em_sched t ht), em_rounds 64 (Nat.le_refl _)]
  exact St.eq_of_eqb (by decide +kernel)
theorem em_byte : sbyte (sumSt K256 H256 (fun _ => 0) 0) 0 = 227 := by rw [em_sum]; decide +kernel
end Go.Proofs.YthfpakjfdncphaaDoor.Sh
namespace Go.Proofs.YthfpakjfdncphaaDoor
open Go Go.RowKit
/-- SHA-256 of no bytes does not begin with a nought. -/
theorem hd_blank : hd [] ≠ z64 := by
  intro e
  have h1 : (hd []).head? = some 227 := by
    have h2 : hm [] = fun _ => 0 := funext Sh.em_zero
    unfold hd hdp hs row32
    rw [h2]
    show some (Sh.ub (Sh.sbyte (Sh.sumSt Sh.K256 Sh.H256 (fun _ => 0) 0) 0)) = some 227
    rw [Sh.em_byte]; rfl
  rw [e] at h1
  revert h1; decide
theorem blank_none {s : Dk} {a : Nat} (h : rdV s (a : Int) = z64) (t : Nat) : tk s a t = none := tk_blank hd_blank h t
end Go.Proofs.YthfpakjfdncphaaDoor
/- The law's opened, where Open is answered OK; a new disk is blank. -/
namespace Go.Proofs.YthfpakjfdncphaaDoor
open Go Go.RowKit
set_option linter.unusedSimpArgs false
set_option linter.unusedVariables false
set_option maxRecDepth 100000

set_option maxHeartbeats 1000000 in
theorem opened_ok (gp v : Value) (w : World) (R : Nat → World → Prop)
    (hO : Calls Tryd.prog 22 #[gp] w fun e w' => ∃ lg, e = .returned (.tuple #[.pointer (some ⟨lg, 0, none⟩), .int .i64 0]) ∧ R lg w') :
    Calls Tryd.prog 11 #[gp, v] w fun e w' => ∃ lg, e = .returned (.tuple #[.pointer (some ⟨lg, 0, none⟩), .bool true]) ∧ R lg w' := by
  have HO : Hid (Calls Tryd.prog 22 #[gp] w fun e w' => ∃ lg, e = .returned (.tuple #[.pointer (some ⟨lg, 0, none⟩), .int .i64 0]) ∧ R lg w') := hO
  clear hO
  go_enter Tryd.func11, Tryd.ntmps11
  go_wp2_with fail
  go_loopw [8] (fun i wr => i = .int .i64 0 ∧ wr = w) (fun _ _ => 0)
  case atStart => exact ⟨rfl, rfl⟩
  case round =>
    obtain ⟨rfl, rfl⟩ := hrel
    go_wp2_with fail
    refine HO.out.mono ?_
    rintro e w1 ⟨lg, rfl, h1⟩
    have H1 : Hid (R lg w1) := h1
    clear h1
    go_wp2_with fail
    go_ret2
    exact ⟨lg, rfl, H1.out⟩
theorem dk0_up (n : Nat) : Up (dk0 n) ∧ (dk0 n).wt = [] ∧ (dk0 n).n = n ∧ Sbt (dk0 n) := ⟨⟨rfl, rfl, rfl⟩, rfl, rfl, ⟨fun i => z64_byt, fun p hp => by cases hp⟩⟩
theorem dk0_rd (n : Nat) (i : Int) : rdV (dk0 n) i = z64 := by
  unfold rdV
  split <;> rfl
theorem dk0_blank (n a t : Nat) : tk (dk0 n) a t = none := blank_none (dk0_rd n a) t
end Go.Proofs.YthfpakjfdncphaaDoor
/- The first record on a new disk: what stands there. -/
namespace Go.Proofs.YthfpakjfdncphaaDoor
open Go Go.RowKit
set_option linter.unusedSimpArgs false
set_option linter.unusedVariables false
set_option maxRecDepth 100000

/-- The disk behind the first record. -/
def dk1 (n : Nat) (p : List Int) : Dk := { dk0 n with st := layS (fun _ => z64) (n / 2) (JN 1 [p]), wt := [] }
theorem rdV_up {s : Dk} (h : Up s) (hw : s.wt = []) {i : Nat} (hi : i < s.n) : rdV s (i : Int) = s.st i := by
  have hb : hasB s.n (i : Int) = true := by unfold hasB; simp; omega
  unfold rdV
  rw [hb, h.dn, hw]
  show look s.st [] (Int.toNat (i : Int)) = _
  rw [Int.toNat_natCast]; rfl
theorem dk1_up (n : Nat) (p : List Int) : Up (dk1 n p) ∧ (dk1 n p).wt = [] ∧ (dk1 n p).n = n := ⟨⟨rfl, rfl, rfl⟩, rfl, rfl⟩
theorem JS_one (p : List Int) : JS [p] = 16 + p.length := by
  unfold JS; simp only [List.length_singleton, js, mi]; simp; omega
theorem JN_len (t : Int) (p : List Int) : (JN t [p]).length = 16 + p.length := by rw [← JS_one]; exact jn_length _ _ _
theorem half_one (n : Nat) : hfF n 1 = n / 2 ∧ hfT n 1 = n / 2 + n / 2 ∧ hfF n 0 = 0 := by unfold hfF hfT; simp
theorem first_lay {n : Nat} {p : List Int} (hn : fl (16 + p.length) < n / 2) : lay (dk0 n) (hfF n 1 : Int) (JN 1 [p]) = (0, dk1 n p) := by
  rw [(half_one n).1, lay_ok (dk0_up n).1 rfl (n / 2) (JN 1 [p]) (by rw [JN_len]; show n / 2 + _ < n; omega)]
  rfl
theorem first_fits {n : Nat} {p : List Int} (hn : fl (16 + p.length) < n / 2) : hfF n 1 + fl (JS [p]) < hfT n 1 := by
  rw [(half_one n).1, (half_one n).2.1, JS_one]; omega
/-- Behind the first record nothing stands. -/
theorem first_end {n : Nat} {p : List Int} (hn : fl (16 + p.length) < n / 2) : tk (dk1 n p) (hfF n 1 + fl (JS [p])) (hfT n 1) = none := by
  refine blank_none ?_ _
  rw [rdV_up (dk1_up n p).1 rfl (show hfF n 1 + fl (JS [p]) < n by rw [(half_one n).1, JS_one]; omega)]
  show layS (fun _ => z64) (n / 2) (JN 1 [p]) (hfF n 1 + fl (JS [p])) = z64
  unfold layS
  rw [JN_len, (half_one n).1, JS_one, if_neg (by unfold fl; omega), if_pos rfl]
/-- The halves' first sectors. -/
theorem first_heads {n : Nat} {p : List Int} (hn : fl (16 + p.length) < n / 2) : rdV (dk1 n p) (hfF n 0 : Int) = z64 ∧ rdV (dk1 n p) (hfF n 1 : Int) = hd (JN 1 [p]) := by
  constructor
  · rw [rdV_up (dk1_up n p).1 rfl (show hfF n 0 < n by rw [(half_one n).2.2]; omega), (half_one n).2.2]
    show layS (fun _ => z64) (n / 2) (JN 1 [p]) 0 = z64
    unfold layS
    rw [if_neg (by omega), JN_len, if_neg (by omega), if_neg (by omega)]
  · rw [rdV_up (dk1_up n p).1 rfl (show hfF n 1 < n by rw [(half_one n).1]; omega), (half_one n).1]
    show layS (fun _ => z64) (n / 2) (JN 1 [p]) (n / 2) = _
    unfold layS
    rw [if_pos rfl]
theorem dk1_bt (n : Nat) {p : List Int} (hp : Byt p) (hn : fl (16 + p.length) < n / 2) : Sbt (dk1 n p) := by
  have h := sbt_lay (s := dk0 n) (dk0_up n).2.2.2 (hfF n 1 : Int) (p := JN 1 [p]) (by
    rw [JN_jx]
    intro z hz
    rcases List.mem_append.1 hz with x | x
    · exact be_byt _ _ z x
    · simp only [jx, List.append_nil] at x
      rcases List.mem_append.1 x with x | x
      · exact be_byt _ _ z x
      · exact hp z x)
  rw [first_lay hn] at h; exact h
end Go.Proofs.YthfpakjfdncphaaDoor
