/- The law's opened, where Open is answered OK; a new disk is blank. -/
import Derived.Test.YtphjjjijdbljaaaDoorWalU
import Derived.Lib.Bytealg
namespace Go.Proofs.YtphjjjijdbljaaaDoor
open Go Go.RowKit
set_option linter.unusedSimpArgs false
set_option linter.unusedVariables false
set_option maxRecDepth 100000

theorem dk0_up (n : Nat) : Up (dk0 n) ∧ (dk0 n).wt = [] ∧ (dk0 n).n = n ∧ Sbt (dk0 n) := ⟨⟨rfl, rfl, rfl⟩, rfl, rfl, ⟨fun i => z64_byt, fun p hp => by cases hp⟩⟩
theorem dk0_rd (n : Nat) (i : Int) : rdV (dk0 n) i = z64 := by
  unfold rdV
  split <;> rfl
theorem dk0_blank (n a t : Nat) : tk (dk0 n) a t = none := blank_none (dk0_rd n a) t
end Go.Proofs.YtphjjjijdbljaaaDoor
/- The first record on a new disk: what stands there. -/
namespace Go.Proofs.YtphjjjijdbljaaaDoor
open Go Go.RowKit
set_option linter.unusedSimpArgs false
set_option linter.unusedVariables false
set_option maxRecDepth 100000

/-- The disk behind the first record. -/
def dk1 (n : Nat) (p : List Int) : Dk := { dk0 n with st := layS (fun _ => z64) (n / 2) (JN 1 [p]), wt := [] }
theorem rdV_up {s : Dk} (h : Up s) (hw : s.wt = []) {i : Nat} (hi : i < s.n) : rdV s (i : Int) = s.st i := by
  have hb : hasB s.n (i : Int) = true := by unfold hasB; simp; omega
  unfold rdV
  rw [hb, h.dn, hw]
  show look s.st [] (Int.toNat (i : Int)) = _
  rw [Int.toNat_natCast]; rfl
theorem dk1_up (n : Nat) (p : List Int) : Up (dk1 n p) ∧ (dk1 n p).wt = [] ∧ (dk1 n p).n = n := ⟨⟨rfl, rfl, rfl⟩, rfl, rfl⟩
theorem JS_one (p : List Int) : JS [p] = 16 + p.length := by
  unfold JS; simp only [List.length_singleton, js, mi]; simp; omega
theorem JN_len (t : Int) (p : List Int) : (JN t [p]).length = 16 + p.length := by rw [← JS_one]; exact jn_length _ _ _
theorem half_one (n : Nat) : hfF n 1 = n / 2 ∧ hfT n 1 = n / 2 + n / 2 ∧ hfF n 0 = 0 := by unfold hfF hfT; simp
theorem first_lay {n : Nat} {p : List Int} (hn : fl (16 + p.length) < n / 2) : lay (dk0 n) (hfF n 1 : Int) (JN 1 [p]) = (0, dk1 n p) := by
  rw [(half_one n).1, lay_ok (dk0_up n).1 rfl (n / 2) (JN 1 [p]) (by rw [JN_len]; show n / 2 + _ < n; omega)]
  rfl
theorem first_fits {n : Nat} {p : List Int} (hn : fl (16 + p.length) < n / 2) : hfF n 1 + fl (JS [p]) < hfT n 1 := by
  rw [(half_one n).1, (half_one n).2.1, JS_one]; omega
/-- Behind the first record nothing stands. -/
theorem first_end {n : Nat} {p : List Int} (hn : fl (16 + p.length) < n / 2) : tk (dk1 n p) (hfF n 1 + fl (JS [p])) (hfT n 1) = none := by
  refine blank_none ?_ _
  rw [rdV_up (dk1_up n p).1 rfl (show hfF n 1 + fl (JS [p]) < n by rw [(half_one n).1, JS_one]; omega)]
  show layS (fun _ => z64) (n / 2) (JN 1 [p]) (hfF n 1 + fl (JS [p])) = z64
  unfold layS
  rw [JN_len, (half_one n).1, JS_one, if_neg (by unfold fl; omega), if_pos rfl]
/-- The halves' first sectors. -/
theorem first_heads {n : Nat} {p : List Int} (hn : fl (16 + p.length) < n / 2) : rdV (dk1 n p) (hfF n 0 : Int) = z64 ∧ rdV (dk1 n p) (hfF n 1 : Int) = hd (JN 1 [p]) := by
  constructor
  · rw [rdV_up (dk1_up n p).1 rfl (show hfF n 0 < n by rw [(half_one n).2.2]; omega), (half_one n).2.2]
    show layS (fun _ => z64) (n / 2) (JN 1 [p]) 0 = z64
    unfold layS
    rw [if_neg (by omega), JN_len, if_neg (by omega), if_neg (by omega)]
  · rw [rdV_up (dk1_up n p).1 rfl (show hfF n 1 < n by rw [(half_one n).1]; omega), (half_one n).1]
    show layS (fun _ => z64) (n / 2) (JN 1 [p]) (n / 2) = _
    unfold layS
    rw [if_pos rfl]
theorem dk1_bt (n : Nat) {p : List Int} (hp : Byt p) (hn : fl (16 + p.length) < n / 2) : Sbt (dk1 n p) := by
  have h := sbt_lay (s := dk0 n) (dk0_up n).2.2.2 (hfF n 1 : Int) (p := JN 1 [p]) (by
    rw [JN_jx]
    intro z hz
    rcases List.mem_append.1 hz with x | x
    · exact be_byt _ _ z x
    · simp only [jx, List.append_nil] at x
      rcases List.mem_append.1 x with x | x
      · exact be_byt _ _ z x
      · exact hp z x)
  rw [first_lay hn] at h; exact h
end Go.Proofs.YtphjjjijdbljaaaDoor
/- The first Append on a new disk, and Records behind it. -/
namespace Go.Proofs.YtphjjjijdbljaaaDoor
open Go Go.RowKit
set_option linter.unusedSimpArgs false
set_option linter.unusedVariables false
set_option maxRecDepth 100000

/-- The log behind the first record. -/
def l1 (g n : Nat) (p : List Int) : Lo := { g := g, t := 1, f0 := z64, f1 := hd (JN 1 [p]), rs := [p], en := hfF n 1 + fl (JS [p]), lo := false }
theorem open_new {F : Nat → Prop} {w : World} {g n : Nat} (h : PD F w g (dk0 n)) (hT : Tb w) (hA : Ap F) (h64 : 64 ≤ n) :
    Calls Tryd.prog 12 #[.pointer (some ⟨g, 0, none⟩)] w fun e w' => e = .returned (.tuple #[.pointer (some ⟨w.heap.size, 0, none⟩), .int .i64 0]) ∧ AftL F w w' g (dk0 n) w.heap.size (l0 g) := by
  refine (open_blank h (dk0_up n).2.2.2 hT hA h64 rfl rfl (fun i _ => dk0_blank n _ _)).mono fun e w' ⟨h1, h2⟩ => ⟨h1, ?_⟩
  rw [dk0_rd, dk0_rd] at h2; exact h2
theorem append_new {S : Nat → Prop} {w : World} {g n lg : Nat} (h : WL S w g (dk0 n) lg (l0 g)) (p : List Int) (v : Value) (hv : Sl w v p) (hb : Byt p) (hp : p.length ≤ 65536) (hn : fl (16 + p.length) < n / 2) :
    Calls Tryd.prog 36 #[.pointer (some ⟨lg, 0, none⟩), v] w fun e w' => e = .returned (.int .i64 0) ∧ AftL S w w' g (dk1 n p) lg (l1 g n p) := by
  refine (append_zero h rfl rfl (dk0_rd n _).symm (dk0_rd n _).symm rfl p v hv hp (fun z w' => z = 0 ∧ AftL S w w' g (dk1 n p) lg (l1 g n p)) (fun W u hbW hu => ?_)).mono ?_
  · have hR : Rok [p] := fun m hm => by simp at hm; subst hm; exact ⟨hb, hp⟩
    have hz : (lay (dk0 n) (hfF n 1 : Int) (JN 1 [p])).1 = 0 := by rw [first_lay hn]
    have hq := begin_ok (h.below hbW) (show (0 : Nat) + 1 < 18446744073709551616 by omega) [p] u hu hR (by simp) (show (0 : Nat) ≤ 549755813888 by omega) (first_fits hn) hz
    refine hq.mono fun e w' ⟨h1, h2⟩ => ⟨0, h1, rfl, AftL.trans (chg_of_below hbW) (fun b hb => .inl hb) ?_⟩
    have h3 : AftL S W w' g (lay (dk0 n) (hfF n 1 : Int) (JN 1 [p])).2 lg { g := g, t := 1, f0 := z64, f1 := rdV (lay (dk0 n) (hfF n 1 : Int) (JN 1 [p])).2 (hfF n 1 : Int), rs := [p], en := hfF n 1 + fl (JS [p]), lo := false } := h2
    rw [first_lay hn] at h3
    show AftL S W w' g (dk1 n p) lg { g := g, t := 1, f0 := z64, f1 := hd (JN 1 [p]), rs := [p], en := hfF n 1 + fl (JS [p]), lo := false }
    rw [← (first_heads hn).2]
    exact h3
  · rintro e w' ⟨z, h1, rfl, h2⟩
    exact ⟨h1, h2⟩
theorem records_new {S : Nat → Prop} {w : World} {g n lg : Nat} {p : List Int} (h : WL S w g (dk1 n p) lg (l1 g n p)) (hp : p.length ≤ 65536) (hn : fl (16 + p.length) < n / 2) (hn2 : n ≤ 65536) :
    Calls Tryd.prog 13 #[.pointer (some ⟨lg, 0, none⟩)] w fun e w' => ∃ v, e = .returned v ∧ RcP S w w' g (dk1 n p) lg (l1 g n p) v := by
  have hfe := first_end hn
  have hft := first_fits hn
  have hT : hfT n 1 ≤ 65536 := by rw [(half_one n).2.1]; omega
  refine records_core (l1 := l1 g n p) (by simp [l1]) (fun m hm => by simp [l1] at hm; subst hm; omega) ?_
  refine (refresh_any h rfl rfl (first_heads hn).1.symm (first_heads hn).2.symm (by simp [l1]) (by simp [l1]) (show hfF n 1 + fl (JS [p]) ≤ 65536 by omega) (by simp [l1])).mono ?_
  rintro e w' ⟨h1, ns, e', h2, h3, h4⟩
  obtain ⟨rfl, rfl⟩ := Frs.one h2 h3 (show Frs (dk1 n p) (hfT (dk1 n p).n (l1 g n p).t) (l1 g n p).en [] (l1 g n p).en from rfl) hfe
  refine ⟨h1, ?_⟩
  rw [List.append_nil] at h4
  exact h4
end Go.Proofs.YtphjjjijdbljaaaDoor
/- Package store: the small calls, and those on nil. -/
namespace Go.Proofs.YtphjjjijdbljaaaDoor
open Go Go.RowKit
set_option linter.unusedSimpArgs false
set_option linter.unusedVariables false
set_option maxRecDepth 100000

/-- A change. -/
structure Cg where
  k : ByteArray
  v : ByteArray
  gn : Bool
def cc (c : Cg) : Array Value := #[.string c.k, .string c.v, .bool c.gn]
def wg (c : Cg) : Nat := c.k.size + c.v.size + 16
/-- Of lengths that the model has. -/
def Cg.Ok (c : Cg) : Prop := c.k.size ≤ 140737488355328 ∧ c.v.size ≤ 140737488355328

set_option maxHeartbeats 1000000 in
theorem weight_any (c : Cg) (h : c.Ok) (w : World) : Calls Tryd.prog 33 #[.agg (cc c)] w fun e w' => e = .returned (.int .i64 (wg c : Int)) ∧ Below w.heap.size w w' := by
  obtain ⟨hk, hv⟩ := h
  obtain ⟨k, v, gn⟩ := c
  simp only at hk hv
  simp only [cc, wg]
  go_enter Tryd.func33, Tryd.ntmps33
  go_wp2
  go_ret
  refine ⟨?_, ?_⟩
  · go_num
  · exact (Below.refl _ w).alloc (Nat.le_refl _) _
set_option maxHeartbeats 1000000 in
theorem roomOfLog_any {F : Nat → Prop} {w : World} {g : Nat} {s : Dk} (h : PD F w g s) (hn : s.n ≤ 1000000000) : Calls Tryd.prog 14 #[.pointer (some ⟨g, 0, none⟩)] w fun e w' => e = .returned (.int .i64 ((((s.n / 2 : Nat) : Int) - 8) * 32)) ∧ w' = w := by
  have H : Hid (PD F w g s) := h
  clear h
  go_enter Tryd.func14, Tryd.ntmps14
  go_wp2_with (go_at_call 24; refine (sectors_any H.out).mono ?_; rintro e w' ⟨rfl, rfl⟩)
  go_ret
  exact ⟨by go_num, rfl⟩
set_option maxHeartbeats 1000000 in
theorem roomOfTable_any (z : Nat) (hz : z ≤ 1000000000000) (w : World) : Calls Tryd.prog 19 #[.int .i64 (z : Int)] w fun e w' => e = .returned (.int .i64 ((z / 8 * 7 : Nat) : Int)) ∧ w' = w := by
  go_enter Tryd.func19, Tryd.ntmps19
  go_wp2
  go_ret
  exact ⟨by go_num, rfl⟩
/-- How much of a log's room the first records take. -/
def tb (xss : List (List Int)) : Nat → Nat
  | 0 => 0
  | k + 1 => tb xss k + ((mi xss k).length + 64)
theorem tb_le {xss : List (List Int)} {B : Nat} (h : ∀ i, i < xss.length → (mi xss i).length ≤ B) : ∀ k, k ≤ xss.length → tb xss k ≤ k * (B + 64)
  | 0, _ => by simp [tb]
  | k + 1, hk => by
    have h1 := tb_le h k (by omega)
    have h2 := h k (by omega)
    simp only [tb, Nat.succ_mul]; omega
set_option maxHeartbeats 1000000 in
theorem takenBy_any (xss : List (List Int)) (v : Value) (w : World) (hs : LL w v xss) (hL : ∀ i, i < xss.length → (mi xss i).length ≤ 1048576) (hn : xss.length ≤ 1000000000) :
    Calls Tryd.prog 15 #[v] w fun e w' => e = .returned (.int .i64 (tb xss xss.length : Int)) ∧ w' = w := by
  obtain ⟨ad, cap, rfl, hc, hx⟩ := hs
  have HX : Hid _ := hx
  have HL : Hid (∀ i, i < xss.length → (mi xss i).length ≤ 1048576) := hL
  have HB : Hid (∀ k, k ≤ xss.length → tb xss k ≤ k * (1048576 + 64)) := fun k hk => tb_le hL k hk
  clear hx hL hc
  go_enter Tryd.func15, Tryd.ntmps15
  go_wp2
  go_loop [3, 8] (fun s i => ∃ k : Nat, k ≤ xss.length ∧ i = .int .i64 k ∧ s = .int .i64 (tb xss k)) (fun _ i => xss.length - (intOf i).toNat)
  case atStart => exact ⟨0, Nat.zero_le _, rfl, rfl⟩
  case round =>
    obtain ⟨k, hk, rfl, rfl⟩ := hrel
    by_cases hlt : k < xss.length
    · rcases HX.out with ⟨rfl, _⟩ | ⟨b, o, rfl, hlb, hm⟩
      · simp at hlt
      · obtain ⟨u, hc0, hu⟩ := hm k hlt
        have hl := HL.out k hlt
        have hb := HB.out k hk
        obtain ⟨ad, cp, rfl, -, -⟩ := hu
        clear hm
        have HS : Hid (tb xss (k + 1) = tb xss k + ((mi xss k).length + 64)) := rfl
        obtain ⟨Z, hZ⟩ : ∃ Z, tb xss k = Z := ⟨_, rfl⟩
        obtain ⟨L, hLL⟩ : ∃ L, (mi xss k).length = L := ⟨_, rfl⟩
        rw [hZ, hLL] at HS
        rw [hLL] at hl hc0
        rw [hZ] at hb ⊢
        have hb2 : Z ≤ 2000000000000000000 := by have := Nat.mul_le_mul_right (1048576 + 64) (show k ≤ 1000000000 by omega); omega
        clear hZ hLL hb
        go_wp2
        go_round
        case rel => exact ⟨k + 1, by omega, by go_num, by rw [HS.out]; go_num⟩
        case measure => simp [intOf]; omega
    · obtain rfl : k = xss.length := by omega
      go_wp2
      go_ret
      exact ⟨rfl, rfl⟩
set_option maxHeartbeats 1000000 in
theorem cmpStr_any (a b : ByteArray) (w : World) : Calls Tryd.prog 37 #[.string a, .string b] w fun e w' => e = .returned (.int .i64 (Lib.compareBytes a.data.toList b.data.toList)) ∧ w' = w := by
  go_enter Tryd.func37, Tryd.ntmps37
  go_wp2
  rw [run_callFunc_extern Tryd.func55 (by kernel_rfl) (by kernel_rfl) (by kernel_rfl) (e := Extern.BytealgCompare.compare) (by kernel_rfl), Lib.run_compareString]
  simp only [Result.andThen]
  rw [Oper.upon_value]
  go_wp2
  go_ret
  exact ⟨rfl, rfl⟩
set_option maxHeartbeats 1000000 in
theorem compare_any (a b : ByteArray) (w : World) : Calls Tryd.prog 23 #[.string a, .string b] w fun e w' => e = .returned (.int .i64 (Lib.compareBytes a.data.toList b.data.toList)) ∧ w' = w := by
  go_enter Tryd.func23, Tryd.ntmps23
  go_wp2_with (go_at_call 37; refine (cmpStr_any _ _ _).mono ?_; rintro e w' ⟨rfl, rfl⟩)
  go_ret
  exact ⟨rfl, rfl⟩
set_option maxHeartbeats 1000000 in
theorem closure_any (c : Cg) (b : ByteArray) (w : World) : Calls Tryd.prog 22 #[.agg (cc c), .string b] w fun e w' => e = .returned (.int .i64 (Lib.compareBytes c.k.data.toList b.data.toList)) ∧ Below w.heap.size w w' := by
  obtain ⟨k, v, gn⟩ := c
  simp only [cc]
  have B0 : Hid (Below w.heap.size w (w.alloc (.cells #[.string k, .string v, .bool gn] 38 (0, 0)))) := (Below.refl _ w).alloc (Nat.le_refl _) _
  go_enter Tryd.func22, Tryd.ntmps22
  go_wp2_with (go_at_call 23; refine (compare_any _ _ _).mono ?_; rintro e w' ⟨rfl, rfl⟩)
  go_ret
  exact ⟨rfl, (Below.refl _ w).alloc (Nat.le_refl _) _⟩
theorem get_nil (b : ByteArray) (w : World) : Calls Tryd.prog 5 #[.pointer none, .string b] w fun e w' => e = .returned (.tuple #[.string ⟨#[]⟩, .bool false]) ∧ w' = w := by
  go_enter Tryd.func5, Tryd.ntmps5
  go_wp2
  go_ret2
  exact ⟨rfl, rfl⟩
theorem keys_nil (a b : ByteArray) (w : World) : Calls Tryd.prog 8 #[.pointer none, .string a, .string b] w fun e w' => e = .returned (.slice none 0 0) ∧ w' = w := by
  go_enter Tryd.func8, Tryd.ntmps8
  go_wp2
  go_ret
  exact ⟨rfl, rfl⟩
theorem size_nil (w : World) : Calls Tryd.prog 7 #[.pointer none] w fun e w' => e = .returned (.int .i64 0) ∧ w' = w := by
  go_enter Tryd.func7, Tryd.ntmps7
  go_wp2
  go_ret
  exact ⟨rfl, rfl⟩
theorem apply_nil (v : Value) (w : World) : Calls Tryd.prog 9 #[.pointer none, v] w fun e w' => e = .returned (.int .i64 1) ∧ w' = w := by
  go_enter Tryd.func9, Tryd.ntmps9
  go_wp2
  go_ret
  exact ⟨rfl, rfl⟩
theorem sopen_nil (w : World) : Calls Tryd.prog 6 #[.pointer none] w fun e w' => e = .returned (.tuple #[.pointer none, .int .i64 1]) ∧ w' = w := by
  go_enter Tryd.func6, Tryd.ntmps6
  go_wp2_with (go_at_call 12; refine (open_nil w).mono ?_; rintro e w' ⟨rfl, rfl⟩)
  go_ret2
  exact ⟨rfl, rfl⟩
end Go.Proofs.YtphjjjijdbljaaaDoor
