/- Package json: escapes. -/
import Derived.Test.YtefaohokmhdplaaDoorJsE
namespace Go.Proofs.YtefaohokmhdplaaDoor
open Go Go.RowKit
set_option linter.unusedSimpArgs false
set_option linter.unusedVariables false
set_option maxRecDepth 100000

theorem gb_ext {q : ByteArray} {i j k : Nat} (hk : i + k < j) (hj : j ≤ q.size) : gb (q.extract i j) k = gb q (i + k) := by
  have h1 : k < (q.extract i j).size := by rw [ByteArray.size_extract]; omega
  rw [gb_in h1, gb_in (by omega : i + k < q.size)]
  exact congrArg (fun b : UInt8 => (b.toNat : Int)) (ByteArray.getElem_extract h1)
theorem u4d_ext {q : ByteArray} (h : 6 ≤ q.size) : u4d (q.extract 2 6) 0 = u4d q 2 := by
  unfold u4d
  rw [gb_ext (by omega) h, gb_ext (by omega) h, gb_ext (by omega) h, gb_ext (by omega) h]
theorem u4_rest {s : ByteArray} {i : Nat} (h : i ≤ s.size) (k : Nat) : u4 (rest s i) k = u4 s (i + k) := by
  unfold u4 u4d
  rw [rest_size]
  simp only [gb_rest h]
  have e : (k + 6 ≤ s.size - i) = (i + k + 6 ≤ s.size) := by rw [eq_iff_iff]; omega
  simp only [e, ← Nat.add_assoc]
theorem lng_rest {s : ByteArray} {i : Nat} (h : i ≤ s.size) : lng (rest s i) 0 = lng s i := by
  unfold lng; rw [u4_rest h, u4_rest h]; rfl
theorem esc_rest {s : ByteArray} {i : Nat} (h : i ≤ s.size) : esc (rest s i) 0 = esc s i := by
  unfold esc; rw [rest_size, lng_rest h]
  simp only [gb_rest h]
  have e : (s.size - i < 0 + 2) = (s.size < i + 2) := by rw [eq_iff_iff]; omega
  simp only [e, Nat.zero_add]
def escV : Option (Int × Nat) → Value
  | none => .tuple #[.int .i32 0, .int .i64 0, .bool false]
  | some (r, n) => .tuple #[.int .i32 r, .int .i64 (n : Int), .bool true]
set_option maxHeartbeats 4000000 in
theorem parse_yes {t : ByteArray} {w : World} (ht : t.size = 4) (h : 0 ≤ u4d t 0) :
    Calls Tryd.prog 96 #[.string t, .int .i64 16, .int .i64 16] w fun e w' => e = .returned (.tuple #[.int .u64 (u4d t 0), .nilIface]) ∧ Below w.heap.size w w' := by
  have hI := iparse_any t ht w
  obtain ⟨n, hn⟩ : ∃ n, u4d t 0 = n := ⟨_, rfl⟩
  rw [hn] at hI h ⊢
  unfold pu at hI
  rw [if_pos h] at hI
  clear hn
  go_enter Tryd.func96, Tryd.ntmps96
  go_wp2_with (go_at_call 97; refine hI.mono ?_; rintro e W1 ⟨rfl, hW⟩)
  go_wp2
  go_ret2
  exact ⟨rfl, hW⟩
set_option maxHeartbeats 4000000 in
theorem parse_no {t : ByteArray} {w : World} (ht : t.size = 4) (h : u4d t 0 < 0) {ev : Value} (hv : EV w ev) :
    Calls Tryd.prog 96 #[.string t, .int .i64 16, .int .i64 16] w fun e w' => ∃ p, e = .returned (.tuple #[.int .u64 0, .iface 127 p]) ∧ Below w.heap.size w w' := by
  have hI := iparse_any t ht w
  unfold pu at hI
  rw [if_neg (by omega)] at hI
  have hl : t.size ≤ 140737488355328 := by omega
  clear h ht
  go_enter Tryd.func96, Tryd.ntmps96
  go_wp2_with (go_at_call 97; refine hI.mono ?_; rintro e W1 ⟨rfl, hW⟩)
  have hE := hv.below hW
  go_wp2_with (go_at_call 98; refine (toErr_any _ t 16 16 ev _ hl hE).mono ?_; rintro e W2 ⟨p, rfl, hW2⟩)
  go_wp2
  go_ret2
  exact ⟨p, rfl, hW.trans (hW2.mono hW.size)⟩
theorem u4_pre {q : ByteArray} (h : hpf q ⟨#[92, 117]⟩ = true) : gb q 0 = 92 ∧ gb q 1 = 117 := by
  have h0 := (hpf_iff _ _).1 h 0 (by decide)
  have h1 := (hpf_iff _ _).1 h 1 (by decide)
  exact ⟨h0.2, h1.2⟩
theorem u4_npre {q : ByteArray} (h : hpf q ⟨#[92, 117]⟩ = false) : ¬ (0 + 6 ≤ q.size ∧ gb q 0 = 92 ∧ gb q (0 + 1) = 117) := by
  rintro ⟨a, b, c⟩
  have : hpf q ⟨#[92, 117]⟩ = true := by
    rw [hpf_iff]; intro k hk
    have hk2 : k < 2 := hk
    refine ⟨by omega, ?_⟩
    match k, hk2 with
    | 0, _ => exact b
    | 1, _ => exact c
  rw [this] at h; exact absurd h (by decide)
set_option maxHeartbeats 8000000 in
theorem unit_any {q : ByteArray} {w : World} (hq : q.size ≤ 8192) {ev : Value} (hv : EV w ev) :
    Calls Tryd.prog 94 #[.string q] w fun e w' => ∃ n, e = .returned (.tuple #[.int .i32 n, .bool (decide (0 ≤ u4 q 0))]) ∧ (0 ≤ u4 q 0 → n = u4 q 0) ∧ Below w.heap.size w w' := by
  by_cases h6 : q.size < 6
  · have hu : u4 q 0 = -1 := by unfold u4; rw [if_neg (by omega)]
    have h6' : (q.size : Int) < 6 := by omega
    rw [hu]
    clear hu
    go_enter Tryd.func94, Tryd.ntmps94
    go_wp2
    go_ret2
    exact ⟨0, rfl, fun h => absurd h (by decide), Below.refl _ _⟩
  have h6' : ¬ (q.size : Int) < 6 := by omega
  have hs : q.size ≤ 140737488355328 := by omega
  cases hp : hpf q ⟨#[92, 117]⟩ with
  | false =>
    have hu : u4 q 0 = -1 := by unfold u4; rw [if_neg (u4_npre hp)]
    rw [hu]
    clear hu
    go_enter Tryd.func94, Tryd.ntmps94
    go_wp2_with (go_at_call 93; refine (spref_any q ⟨#[92, 117]⟩ hs (by decide) _).mono ?_; rw [hp]; rintro e w2 ⟨rfl, rfl⟩)
    go_ret2
    exact ⟨0, rfl, fun h => absurd h (by decide), Below.refl _ _⟩
  | true =>
    have hp2 := u4_pre hp
    have hu : u4 q 0 = u4d (q.extract 2 6) 0 := by unfold u4; rw [if_pos ⟨by omega, hp2.1, hp2.2⟩, u4d_ext (by omega)]
    have hb := u4d_hi (q.extract 2 6) 0
    have hts : (q.extract 2 6).size = 4 := by rw [ByteArray.size_extract]; omega
    obtain ⟨t, htt⟩ : ∃ t, q.extract 2 6 = t := ⟨_, rfl⟩
    rw [htt] at hu hb hts
    have HTT : Hid (q.extract 2 6 = t) := htt
    have HU : Hid (u4 q 0 = u4d t 0) := hu
    clear htt hu hp2
    by_cases h0 : 0 ≤ u4d t 0
    · have HY := fun w => @parse_yes t w hts h0
      obtain ⟨n, hn⟩ : ∃ n, u4d t 0 = n := ⟨_, rfl⟩
      rw [hn] at h0 hb HU
      rw [hn] at HY
      clear hn
      go_enter Tryd.func94, Tryd.ntmps94
      go_wp2_with (first | (go_at_call 93; refine (spref_any q ⟨#[92, 117]⟩ hs (by decide) _).mono ?_; rw [hp]; rintro e w2 ⟨rfl, rfl⟩) | (go_at_call 96; rw [HTT.out]; refine (HY _).mono ?_; rintro e W2 ⟨rfl, hW⟩))
      have HW : Hid _ := hW
      clear hW
      go_quiet (fail)
      go_wp2
      go_ret2
      rw [HU.out]
      exact ⟨n, by rw [decide_eq_true (by omega : 0 ≤ n)]; rfl, fun _ => rfl, below_drewN HW.out _⟩
    · have HY := fun w (hv : EV w ev) => @parse_no t w hts (by omega) ev hv
      obtain ⟨n, hn⟩ : ∃ n, u4d t 0 = n := ⟨_, rfl⟩
      rw [hn] at h0 hb HU
      clear hn
      go_enter Tryd.func94, Tryd.ntmps94
      go_wp2_with (first | (go_at_call 93; refine (spref_any q ⟨#[92, 117]⟩ hs (by decide) _).mono ?_; rw [hp]; rintro e w2 ⟨rfl, rfl⟩) | (go_at_call 96; rw [HTT.out]; refine (HY _ hv).mono ?_; rintro e W2 ⟨p, rfl, hW⟩))
      have HW : Hid _ := hW
      clear hW
      go_quiet (fail)
      go_wp2
      go_ret2
      rw [HU.out]
      exact ⟨0, by rw [decide_eq_false (by omega : ¬ 0 ≤ n)]; rfl, fun h => absurd h (by omega), below_drewN HW.out _⟩
theorem lng_eq (s : ByteArray) (i : Nat) : lng s i = if u4 s i < 0 ∨ (56320 ≤ u4 s i ∧ u4 s i < 57344) then none
  else if u4 s i < 55296 ∨ 57344 ≤ u4 s i then some (u4 s i, 6)
  else if u4 s (i + 6) < 56320 ∨ 57344 ≤ u4 s (i + 6) then none
  else some (65536 + (u4 s i - 55296) * 1024 + (u4 s (i + 6) - 56320), 12) := rfl
theorem rest_ext {q : ByteArray} (k : Nat) : q.extract k q.size = rest q k := rfl
set_option maxHeartbeats 16000000 in
theorem long_any {q : ByteArray} {w : World} (hq : q.size ≤ 8192) {ev : Value} (hv : EV w ev) :
    Calls Tryd.prog 90 #[.string q] w fun e w' => e = .returned (escV (lng q 0)) ∧ Below w.heap.size w w' := by
  have hU := u4_hi q 0
  have hL := lng_eq q 0
  obtain ⟨h, hh⟩ : ∃ h, u4 q 0 = h := ⟨_, rfl⟩
  have HI : 0 ≤ h → 6 ≤ q.size := fun k => by have := u4_in (s := q) (i := 0) (by omega); omega
  have HY := fun w (hv : EV w ev) => @unit_any q w hq ev hv
  rw [hh] at HY hU hL
  clear hh
  by_cases c1 : h < 0
  · rw [if_pos (.inl c1)] at hL
    have HL : Hid (lng q 0 = none) := hL
    have hk : ∀ w (hv : EV w ev), Calls Tryd.prog 94 #[.string q] w fun e w' => ∃ n, e = .returned (.tuple #[.int .i32 n, .bool false]) ∧ Below w.heap.size w w' := fun w hv => (HY w hv).mono (by rintro e w' ⟨n, rfl, _, hb⟩; rw [decide_eq_false (by omega)]; exact ⟨n, rfl, hb⟩)
    clear hL HY HI
    go_enter Tryd.func90, Tryd.ntmps90
    go_wp2_with (go_at_call 94; refine (hk _ hv).mono ?_; rintro e W2 ⟨n, rfl, hW⟩)
    go_wp2
    go_ret3
    rw [HL.out]
    exact ⟨rfl, hW⟩
  have h6 := HI (by omega)
  have hk : ∀ w (hv : EV w ev), Calls Tryd.prog 94 #[.string q] w fun e w' => e = .returned (.tuple #[.int .i32 h, .bool true]) ∧ Below w.heap.size w w' := fun w hv => (HY w hv).mono (by rintro e w' ⟨n, rfl, hn, hb⟩; rw [decide_eq_true (by omega), hn (by omega)]; exact ⟨rfl, hb⟩)
  clear HY HI
  by_cases c2 : 56320 ≤ h ∧ h < 57344
  · rw [if_pos (.inr c2)] at hL
    have HL : Hid (lng q 0 = none) := hL
    obtain ⟨a1, a2⟩ := c2
    clear hL
    go_enter Tryd.func90, Tryd.ntmps90
    go_wp2_with (go_at_call 94; refine (hk _ hv).mono ?_; rintro e W2 ⟨rfl, hW⟩)
    go_wp2
    go_ret3
    rw [HL.out]
    exact ⟨rfl, hW⟩
  rw [if_neg (by omega)] at hL
  by_cases c3 : h < 55296 ∨ 57344 ≤ h
  · rw [if_pos c3] at hL
    have HL : Hid (lng q 0 = some (h, 6)) := hL
    clear hL c2
    rcases c3 with c3 | c3
    · go_enter Tryd.func90, Tryd.ntmps90
      go_wp2_with (go_at_call 94; refine (hk _ hv).mono ?_; rintro e W2 ⟨rfl, hW⟩)
      go_wp2
      go_ret3
      rw [HL.out]
      exact ⟨rfl, hW⟩
    · go_enter Tryd.func90, Tryd.ntmps90
      go_wp2_with (go_at_call 94; refine (hk _ hv).mono ?_; rintro e W2 ⟨rfl, hW⟩)
      go_wp2
      go_ret3
      rw [HL.out]
      exact ⟨rfl, hW⟩
  rw [if_neg c3] at hL
  have b1 : 55296 ≤ h := by omega
  have b2 : h < 56320 := by omega
  clear c1 c2 c3
  have hrs : (rest q 6).size ≤ 8192 := by rw [rest_size]; omega
  have HY := fun w (hv : EV w ev) => @unit_any (rest q 6) w hrs ev hv
  rw [u4_rest h6] at HY
  have hV := u4_hi q 6
  obtain ⟨l, hl⟩ : ∃ l, u4 q (0 + 6) = l := ⟨_, rfl⟩
  rw [hl] at hL
  rw [show 6 + 0 = 0 + 6 from rfl, hl] at HY
  rw [show u4 q 6 = l from hl] at hV
  obtain ⟨q2, hq2⟩ : ∃ q2, rest q 6 = q2 := ⟨_, rfl⟩
  rw [hq2] at HY hrs
  have HQ : Hid (q.extract 6 q.size = q2) := hq2
  clear hl hq2
  by_cases c4 : l < 0
  · rw [if_pos (.inl (by omega))] at hL
    have HL : Hid (lng q 0 = none) := hL
    have hk2 : ∀ w (hv : EV w ev), Calls Tryd.prog 94 #[.string q2] w fun e w' => ∃ n, e = .returned (.tuple #[.int .i32 n, .bool false]) ∧ Below w.heap.size w w' := fun w hv => (HY w hv).mono (by rintro e w' ⟨n, rfl, _, hb⟩; rw [decide_eq_false (by omega)]; exact ⟨n, rfl, hb⟩)
    clear hL HY
    go_enter Tryd.func90, Tryd.ntmps90
    go_wp2_with fail
    refine (hk _ hv).mono ?_
    rintro e W2 ⟨rfl, hW⟩
    have HV2 := hv.below hW
    go_wp2_with fail
    rw [HQ.out]
    refine (hk2 _ HV2).mono ?_
    rintro e W3 ⟨n, rfl, hW3⟩
    go_wp2
    go_ret3
    rw [HL.out]
    exact ⟨rfl, hW.trans (hW3.mono hW.size)⟩
  have hk2 : ∀ w (hv : EV w ev), Calls Tryd.prog 94 #[.string q2] w fun e w' => e = .returned (.tuple #[.int .i32 l, .bool true]) ∧ Below w.heap.size w w' := fun w hv => (HY w hv).mono (by rintro e w' ⟨n, rfl, hn, hb⟩; rw [decide_eq_true (by omega), hn (by omega)]; exact ⟨rfl, hb⟩)
  clear HY
  by_cases c5 : l < 56320 ∨ 57344 ≤ l
  · rw [if_pos (by omega)] at hL
    have HL : Hid (lng q 0 = none) := hL
    clear hL
    rcases c5 with c5 | c5
    all_goals (
      go_enter Tryd.func90, Tryd.ntmps90
      go_wp2_with fail
      refine (hk _ hv).mono ?_
      rintro e W2 ⟨rfl, hW⟩
      have HV2 := hv.below hW
      go_wp2_with fail
      rw [HQ.out]
      refine (hk2 _ HV2).mono ?_
      rintro e W3 ⟨rfl, hW3⟩
      go_wp2
      go_ret3
      rw [HL.out]
      exact ⟨rfl, hW.trans (hW3.mono hW.size)⟩)
  rw [if_neg (by omega)] at hL
  have HL : Hid (lng q 0 = some (65536 + (h - 55296) * 1024 + (l - 56320), 12)) := hL
  have b3 : 56320 ≤ l := by omega
  have b4 : l < 57344 := by omega
  clear hL c4 c5
  go_enter Tryd.func90, Tryd.ntmps90
  go_wp2_with fail
  refine (hk _ hv).mono ?_
  rintro e W2 ⟨rfl, hW⟩
  have HV2 := hv.below hW
  go_wp2_with fail
  rw [HQ.out]
  refine (hk2 _ HV2).mono ?_
  rintro e W3 ⟨rfl, hW3⟩
  go_wp2
  go_ret3
  rw [HL.out]
  exact ⟨rfl, hW.trans (hW3.mono hW.size)⟩
end Go.Proofs.YtefaohokmhdplaaDoor
