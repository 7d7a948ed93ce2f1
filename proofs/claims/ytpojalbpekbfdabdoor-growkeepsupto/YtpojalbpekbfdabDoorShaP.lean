/- The constants of SHA-256, and its value at the bytes of abc, checked by the kernel step by step over tables. No dump is read here. -/
import Derived.Test.YtpojalbpekbfdabDoorShaN
import Derived.Test.YtpojalbpekbfdabDoorWirA
namespace Go.Proofs.YtpojalbpekbfdabDoor.Sh
open Go Go.RowKit

def tabK : List (BitVec 32) := [1116352408, 1899447441, 3049323471, 3921009573, 961987163, 1508970993, 2453635748, 2870763221, 3624381080, 310598401, 607225278, 1426881987, 1925078388, 2162078206, 2614888103, 3248222580, 3835390401, 4022224774, 264347078, 604807628, 770255983, 1249150122, 1555081692, 1996064986, 2554220882, 2821834349, 2952996808, 3210313671, 3336571891, 3584528711, 113926993, 338241895, 666307205, 773529912, 1294757372, 1396182291, 1695183700, 1986661051, 2177026350, 2456956037, 2730485921, 2820302411, 3259730800, 3345764771, 3516065817, 3600352804, 4094571909, 275423344, 430227734, 506948616, 659060556, 883997877, 958139571, 1322822218, 1537002063, 1747873779, 1955562222, 2024104815, 2227730452, 2361852424, 2428436474, 2756734187, 3204031479, 3329325298]
def K256 (t : Nat) : BitVec 32 := tabK.getD t 0
def H256 : St := ⟨1779033703, 3144134277, 1013904242, 2773480762, 1359893119, 2600822924, 528734635, 1541459225⟩
def abcM (i : Nat) : BitVec 8 := [97, 98, 99].getD i 0
def tabW : List (BitVec 32) := [1633837952, 0, 0, 0, 0, 0, 0, 0, 0, 0, 0, 0, 0, 0, 0, 24, 1633837952, 983040, 2108187653, 1610613702, 1050508152, 25426944, 316456923, 3806512014, 3357629466, 3073800610, 3854317833, 845560923, 2636160359, 3968280267, 1881225380, 3552024379, 2482346367, 996719219, 2952069057, 4043988066, 176896406, 1924104970, 2483675966, 610538786, 2672279444, 4037431130, 1042573945, 657669027, 206005234, 2215296807, 2049510749, 106709978, 4215179723, 3430291419, 3118885940, 2845390439, 2226839261, 3256115900, 344409900, 2987358873, 4015503821, 3957764664, 2682456414, 2025622859, 2755645205, 1720397816, 4004225740, 313650667]
def abcW (t : Nat) : BitVec 32 := tabW.getD t 0
def tabS : List St := [⟨1779033703, 3144134277, 1013904242, 2773480762, 1359893119, 2600822924, 528734635, 1541459225⟩, ⟨1567288269, 1779033703, 3144134277, 1013904242, 4197074466, 1359893119, 2600822924, 528734635⟩, ⟨1516951981, 1567288269, 1779033703, 3144134277, 2026797449, 4197074466, 1359893119, 2600822924⟩, ⟨3368241063, 1516951981, 1567288269, 1779033703, 4180228587, 2026797449, 4197074466, 1359893119⟩, ⟨3578852966, 3368241063, 1516951981, 1567288269, 618661968, 4180228587, 2026797449, 4197074466⟩, ⟨71342698, 3578852966, 3368241063, 1516951981, 1135452741, 618661968, 4180228587, 2026797449⟩, ⟨725748213, 71342698, 3578852966, 3368241063, 1900175533, 1135452741, 618661968, 4180228587⟩, ⟨3842179968, 725748213, 71342698, 3578852966, 2603066369, 1900175533, 1135452741, 618661968⟩, ⟨2241887071, 3842179968, 725748213, 71342698, 207977081, 2603066369, 1900175533, 1135452741⟩, ⟨2382687417, 2241887071, 3842179968, 725748213, 852110732, 207977081, 2603066369, 1900175533⟩, ⟨2357671019, 2382687417, 2241887071, 3842179968, 482944406, 852110732, 207977081, 2603066369⟩, ⟨1201185780, 2357671019, 2382687417, 2241887071, 1131095016, 482944406, 852110732, 207977081⟩, ⟨4146054569, 1201185780, 2357671019, 2382687417, 2171590377, 1131095016, 482944406, 852110732⟩, ⟨2274437520, 4146054569, 1201185780, 2357671019, 509051416, 2171590377, 1131095016, 482944406⟩, ⟨3643992854, 2274437520, 4146054569, 1201185780, 1952073950, 509051416, 2171590377, 1131095016⟩, ⟨3227803614, 3643992854, 2274437520, 4146054569, 194179596, 1952073950, 509051416, 2171590377⟩, ⟨2969183118, 3227803614, 3643992854, 2274437520, 123276749, 194179596, 1952073950, 509051416⟩, ⟨567974555, 2969183118, 3227803614, 3643992854, 2150900380, 123276749, 194179596, 1952073950⟩, ⟨3271285201, 567974555, 2969183118, 3227803614, 2221859924, 2150900380, 123276749, 194179596⟩, ⟨4269243327, 3271285201, 567974555, 2969183118, 3431569761, 2221859924, 2150900380, 123276749⟩, ⟨3790736435, 4269243327, 3271285201, 567974555, 2959311225, 3431569761, 2221859924, 2150900380⟩, ⟨2647034723, 3790736435, 4269243327, 3271285201, 2329577776, 2959311225, 3431569761, 2221859924⟩, ⟨3261099373, 2647034723, 3790736435, 4269243327, 3777329520, 2329577776, 2959311225, 3431569761⟩, ⟨2812502591, 3261099373, 2647034723, 3790736435, 1240797514, 3777329520, 2329577776, 2959311225⟩, ⟨3319086477, 2812502591, 3261099373, 2647034723, 2856829767, 1240797514, 3777329520, 2329577776⟩, ⟨472655928, 3319086477, 2812502591, 3261099373, 673443729, 2856829767, 1240797514, 3777329520⟩, ⟨3454534525, 472655928, 3319086477, 2812502591, 339230094, 673443729, 2856829767, 1240797514⟩, ⟨3056518332, 3454534525, 472655928, 3319086477, 3343672598, 339230094, 673443729, 2856829767⟩, ⟨2010346792, 3056518332, 3454534525, 472655928, 3992961016, 3343672598, 339230094, 673443729⟩, ⟨909411017, 2010346792, 3056518332, 3454534525, 1628611511, 3992961016, 3343672598, 339230094⟩, ⟨2684750640, 909411017, 2010346792, 3056518332, 2917635127, 1628611511, 3992961016, 3343672598⟩, ⟨3935906338, 2684750640, 909411017, 2010346792, 17410874, 2917635127, 1628611511, 3992961016⟩, ⟨1941126133, 3935906338, 2684750640, 909411017, 3126399250, 17410874, 2917635127, 1628611511⟩, ⟨2564891911, 1941126133, 3935906338, 2684750640, 2631529974, 3126399250, 17410874, 2917635127⟩, ⟨4267724277, 2564891911, 1941126133, 3935906338, 1495571923, 2631529974, 3126399250, 17410874⟩, ⟨2846323596, 4267724277, 2564891911, 1941126133, 140458035, 1495571923, 2631529974, 3126399250⟩, ⟨1705037796, 2846323596, 4267724277, 2564891911, 4105175766, 140458035, 1495571923, 2631529974⟩, ⟨1101421745, 1705037796, 2846323596, 4267724277, 124953195, 4105175766, 140458035, 1495571923⟩, ⟨887035396, 1101421745, 1705037796, 2846323596, 2768741693, 124953195, 4105175766, 140458035⟩, ⟨1841658506, 887035396, 1101421745, 1705037796, 4034403272, 2768741693, 124953195, 4105175766⟩, ⟨2045405306, 1841658506, 887035396, 1101421745, 519815328, 4034403272, 2768741693, 124953195⟩, ⟨3597076326, 2045405306, 1841658506, 887035396, 641019235, 519815328, 4034403272, 2768741693⟩, ⟨3745932591, 3597076326, 2045405306, 1841658506, 2206934801, 641019235, 519815328, 4034403272⟩, ⟨397020670, 3745932591, 3597076326, 2045405306, 3737995029, 2206934801, 641019235, 519815328⟩, ⟨2638983059, 397020670, 3745932591, 3597076326, 4255271982, 3737995029, 2206934801, 641019235⟩, ⟨643991573, 2638983059, 397020670, 3745932591, 2819559920, 4255271982, 3737995029, 2206934801⟩, ⟨1923828625, 643991573, 2638983059, 397020670, 3077922209, 2819559920, 4255271982, 3737995029⟩, ⟨2706117808, 1923828625, 643991573, 2638983059, 3581645993, 3077922209, 2819559920, 4255271982⟩, ⟨1098003085, 2706117808, 1923828625, 643991573, 4274981830, 3581645993, 3077922209, 2819559920⟩, ⟨91585771, 1098003085, 2706117808, 1923828625, 3178315832, 4274981830, 3581645993, 3077922209⟩, ⟨4045142696, 91585771, 1098003085, 2706117808, 1851537676, 3178315832, 4274981830, 3581645993⟩, ⟨2047150241, 4045142696, 91585771, 1098003085, 1391578359, 1851537676, 3178315832, 4274981830⟩, ⟨2288941602, 2047150241, 4045142696, 91585771, 1227037726, 1391578359, 1851537676, 3178315832⟩, ⟨270520975, 2288941602, 2047150241, 4045142696, 1386118400, 1227037726, 1391578359, 1851537676⟩, ⟨4117770203, 270520975, 2288941602, 2047150241, 2672265155, 1386118400, 1227037726, 1391578359⟩, ⟨1053056219, 4117770203, 270520975, 2288941602, 3842906959, 2672265155, 1386118400, 1227037726⟩, ⟨952932627, 1053056219, 4117770203, 270520975, 1422599787, 3842906959, 2672265155, 1386118400⟩, ⟨4241590395, 952932627, 1053056219, 4117770203, 2606665836, 1422599787, 3842906959, 2672265155⟩, ⟨3227702383, 4241590395, 952932627, 1053056219, 2118385806, 2606665836, 1422599787, 3842906959⟩, ⟨4290184306, 3227702383, 4241590395, 952932627, 1837350854, 2118385806, 2606665836, 1422599787⟩, ⟨3064893439, 4290184306, 3227702383, 4241590395, 2988158269, 1837350854, 2118385806, 2606665836⟩, ⟨3093179625, 3064893439, 4290184306, 3227702383, 2518632596, 2988158269, 1837350854, 2118385806⟩, ⟨80891244, 3093179625, 3064893439, 4290184306, 2492278198, 2518632596, 2988158269, 1837350854⟩, ⟨3550093669, 80891244, 3093179625, 3064893439, 4212265488, 2492278198, 2518632596, 2988158269⟩, ⟨1349398616, 3550093669, 80891244, 3093179625, 1593118500, 4212265488, 2492278198, 2518632596⟩]
def abcS (t : Nat) : St := tabS.getD t H256
def St.eqb (s t : St) : Bool := s.a == t.a && s.b == t.b && s.c == t.c && s.d == t.d && s.e == t.e && s.f == t.f && s.g == t.g && s.h == t.h
theorem St.eq_of_eqb {s t : St} (h : s.eqb t = true) : s = t := by
  cases s; cases t
  simp only [St.eqb, Bool.and_eq_true, beq_iff_eq] at h
  obtain ⟨⟨⟨⟨⟨⟨⟨h1, h2⟩, h3⟩, h4⟩, h5⟩, h6⟩, h7⟩, h8⟩ := h
  subst h1 h2 h3 h4 h5 h6 h7 h8
  rfl
theorem sched_unique {m : Nat → BitVec 8} {W W' : Nat → BitVec 32} (h : Sched m W) (h' : Sched m W') : ∀ t, t < 64 → W t = W' t := by
  intro t
  induction t using Nat.strongRecOn with
  | _ t ih =>
    intro ht
    by_cases h1 : t < 16
    · rw [h.first t h1, h'.first t h1]
    · rw [h.later t (by omega) ht, h'.later t (by omega) ht, ih (t - 2) (by omega) (by omega), ih (t - 7) (by omega) (by omega), ih (t - 15) (by omega) (by omega), ih (t - 16) (by omega) (by omega)]
theorem abc_first : ∀ t : Fin 16, abcW t.val = word (padM abcM 3 (4 * t.val)) (padM abcM 3 (4 * t.val + 1)) (padM abcM 3 (4 * t.val + 2)) (padM abcM 3 (4 * t.val + 3)) := by decide +kernel
theorem abc_later : ∀ t : Fin 48, abcW (16 + t.val) = lo1 (abcW (14 + t.val)) + abcW (9 + t.val) + lo0 (abcW (1 + t.val)) + abcW t.val := by decide +kernel
theorem abc_steps : ∀ t : Fin 64, (step (abcS t.val) (K256 t.val) (abcW t.val)).eqb (abcS (t.val + 1)) = true := by decide +kernel
theorem abc_sched : Sched (padM abcM 3) abcW where
  first t h := abc_first ⟨t, h⟩
  later t h1 h2 := by
    have := abc_later ⟨t - 16, by omega⟩
    simp only at this
    rw [show 16 + (t - 16) = t by omega, show 14 + (t - 16) = t - 2 by omega, show 9 + (t - 16) = t - 7 by omega, show 1 + (t - 16) = t - 15 by omega] at this
    exact this
theorem abc_rounds : ∀ n, n ≤ 64 → rounds K256 abcW H256 n = abcS n
  | 0, _ => rfl
  | n + 1, h => by
    rw [rounds, abc_rounds n (by omega)]
    exact St.eq_of_eqb (abc_steps ⟨n, by omega⟩)
theorem abc_sum : sumSt K256 H256 abcM 3 = ⟨3128432319, 2399260650, 1094795486, 1571693091, 2953011619, 2518121116, 3021012833, 4060091821⟩ := by
  have hn : nblk 3 = 0 + 1 := rfl
  rw [sumSt, hn, blocks, blocks, compress, rounds_congr K256 _ abcW H256 64 (fun t ht => by
    have e : (fun i => padM abcM 3 (64 * 0 + i)) = padM abcM 3 := funext fun i => by rw [Nat.mul_zero, Nat.zero_add]
    rw [e]; exact sched_unique (schedW_ok _) abc_sched t ht), abc_rounds 64 (Nat.le_refl _)]
  exact St.eq_of_eqb (by decide +kernel)
theorem abc_bytes : sbyte (sumSt K256 H256 abcM 3) 0 = 186 ∧ sbyte (sumSt K256 H256 abcM 3) 1 = 120 ∧ sbyte (sumSt K256 H256 abcM 3) 31 = 173 := by
  rw [abc_sum]; decide +kernel
end Go.Proofs.YtpojalbpekbfdabDoor.Sh
/- SHA-256 of lists of bytes. -/
namespace Go.Proofs.YtpojalbpekbfdabDoor
open Go Go.RowKit
set_option linter.unusedSimpArgs false
set_option linter.unusedVariables false

set_option maxRecDepth 100000
/-- What SHA-256 answers of a list of bytes, as 32 integers. -/
def hm (xs : List Int) : Nat → BitVec 8 := fun i => BitVec.ofInt 8 (gi xs i)
def row32 (S : Sh.St) : List Int := (List.range 32).map fun i => Sh.ub (Sh.sbyte S i)
def hs (xs : List Int) : List Int := row32 (Sh.sumSt Sh.K256 Sh.H256 (hm xs) xs.length)
theorem row32_length (S : Sh.St) : (row32 S).length = 32 := by simp [row32]
theorem hs_length (xs : List Int) : (hs xs).length = 32 := row32_length _
theorem srow_bv (S : Sh.St) : Sh.srow S = (bv (row32 S)).toArray := by
  unfold Sh.srow bv row32
  rw [List.map_map]; rfl
theorem row32_byt (S : Sh.St) : Byt (row32 S) := by
  intro z hz
  obtain ⟨i, _, rfl⟩ := List.mem_map.1 hz
  have := (Sh.sbyte S i).isLt
  unfold Sh.ub; omega
theorem hs_byt (xs : List Int) : Byt (hs xs) := row32_byt _
/-- The block of a slice that has room for something. -/
def slB : Value → Option Nat
  | .slice (some a) _ c => if c = 0 then none else some a.block
  | _ => none
theorem slB_own {v : Value} {b : Nat} (h : slB v = some b) : v.ownBlock = some b := by
  unfold slB at h
  split at h
  · split at h
    · cases h
    · exact h
  · cases h
/-- A slice whose block is there, also where it holds nothing (if it has room). -/
structure Sq (w : World) (v : Value) (xs : List Int) : Prop where
  sl : Sl w v xs
  some' : ∀ A l c, v = .slice (some A) l c → c ≠ 0 → A.spot = none ∧ A.block < w.heap.size
  none' : ∀ l c, v = .slice none l c → c = 0
theorem Sq.below {w w' : World} {v : Value} {xs : List Int} (h : Sq w v xs) (hb : Below w.heap.size w w') : Sq w' v xs :=
  ⟨h.sl.below hb (Nat.le_refl _), fun A l c e h0 => ⟨(h.some' A l c e h0).1, Nat.lt_of_lt_of_le (h.some' A l c e h0).2 hb.size⟩, h.none'⟩
theorem Ow.sq {B0 : Nat} {w : World} {v : Value} {xs : List Int} (h : Ow B0 w v xs) : Sq w v xs := by
  refine ⟨h.sl, fun A l c e _ => ?_, fun l c e => ?_⟩
  · rcases h.2 with ⟨rfl, h0⟩ | ⟨g, cap, cur, hv, hb, hg, hc, _, hs, ht⟩
    · cases e
    · rw [hv] at e; cases e; exact ⟨rfl, (Array.getElem?_eq_some_iff.1 hg).1⟩
  · rcases h.2 with ⟨rfl, h0⟩ | ⟨g, cap, cur, hv, hb, hg, hc, _, hs, ht⟩
    · cases e; rfl
    · rw [hv] at e; cases e
theorem byte_of (z : Int) (h0 : 0 ≤ z) (h1 : z ≤ 255) : Value.int .u8 z = Sh.B (BitVec.ofInt 8 z) := by
  show Value.int .u8 z = Value.int .u8 (Sh.ub (BitVec.ofInt 8 z))
  congr 1
  rw [Sh.ub, BitVec.toNat_ofInt]
  omega
theorem Sq.bytes {w : World} {v : Value} {xs : List Int} (h : Sq w v xs) (hb : Byt xs) : Sh.Bytes w v xs.length (hm xs) w.heap.size := by
  obtain ⟨ad, cap, rfl, hc, hcell⟩ := h.sl
  cases ad with
  | none =>
    obtain rfl := h.none' _ _ rfl
    have : xs.length = 0 := by omega
    rw [this]
    exact .inl ⟨⟨none, rfl⟩, rfl⟩
  | some A =>
    by_cases hc0 : cap = 0
    · subst hc0
      have : xs.length = 0 := by omega
      rw [this]
      exact .inl ⟨⟨some A, rfl⟩, rfl⟩
    obtain ⟨h1, h2⟩ := h.some' A _ _ rfl hc0
    obtain ⟨b, o, sp⟩ := A
    simp only at h1 h2; subst h1
    refine .inr ⟨b, o, cap, rfl, hc, h2, Nat.ne_of_lt h2, fun i hi => ?_⟩
    rcases hcell with ⟨rfl, _⟩ | ⟨b', o', he, _, hm'⟩
    · simp at hi
    · cases he
      rw [hm' i hi]
      have := hb.get hi
      exact congrArg some (byte_of _ this.1 this.2)
/-- The program's tables, in memory. -/
abbrev Tb (w : World) : Prop := Sh.Tabs w Sh.K256 Sh.H256
theorem Tb.low {w w' : World} {B : Nat} (h : Tb w) (hb : Below B w w') (hB : 1 < B ∧ 2 < B) : Tb w' := Sh.Tabs.below h hb hB.1 hB.2
theorem Tb.below {w w' : World} (h : Tb w) (hb : Below w.heap.size w w') : Tb w' := Sh.Tabs.below h hb h.lt.1 h.lt.2
theorem sum256_sl (xs h : List Int) (v : Value) (hh : hs xs = h) (hl : xs.length ≤ 140737488355328) (w : World) (hT : Tb w) (hb : Byt xs) (hv : Sq w v xs) :
    Calls Tryd.prog 37 #[v] w fun e w' => e = .returned (.agg (bv h).toArray) ∧ Below w.heap.size w w' := by
  subst hh
  refine (Sh.sum256_any Sh.K256 Sh.H256 (hm xs) xs.length v (by omega) w hT (hv.bytes hb)).mono fun e w' ⟨h1, h2⟩ => ⟨?_, h2⟩
  rw [h1, srow_bv]; rfl
end Go.Proofs.YtpojalbpekbfdabDoor
