/- Package json: escapes. -/
import Derived.Test.YtefaohokmhdplaaDoorJsD
import Derived.Shelf.Utf8.AppendRunePlain
import Derived.Shelf.Lay
import Derived.Ground.NamesProg
namespace Go.Proofs.YtefaohokmhdplaaDoor
open Go Go.RowKit
set_option linter.unusedSimpArgs false
set_option linter.unusedVariables false
set_option maxRecDepth 100000

theorem gb_ext {q : ByteArray} {i j k : Nat} (hk : i + k < j) (hj : j ≤ q.size) : gb (q.extract i j) k = gb q (i + k) := by
  have h1 : k < (q.extract i j).size := by rw [ByteArray.size_extract]; omega
  rw [gb_in h1, gb_in (by omega : i + k < q.size)]
  exact congrArg (fun b : UInt8 => (b.toNat : Int)) (ByteArray.getElem_extract h1)
theorem u4d_ext {q : ByteArray} (h : 6 ≤ q.size) : u4d (q.extract 2 6) 0 = u4d q 2 := by
  unfold u4d
  rw [gb_ext (by omega) h, gb_ext (by omega) h, gb_ext (by omega) h, gb_ext (by omega) h]
theorem u4_rest {s : ByteArray} {i : Nat} (h : i ≤ s.size) (k : Nat) : u4 (rest s i) k = u4 s (i + k) := by
  unfold u4 u4d
  rw [rest_size]
  simp only [gb_rest h]
  have e : (k + 6 ≤ s.size - i) = (i + k + 6 ≤ s.size) := by rw [eq_iff_iff]; omega
  simp only [e, ← Nat.add_assoc]
theorem lng_rest {s : ByteArray} {i : Nat} (h : i ≤ s.size) : lng (rest s i) 0 = lng s i := by
  unfold lng; rw [u4_rest h, u4_rest h]; rfl
theorem esc_rest {s : ByteArray} {i : Nat} (h : i ≤ s.size) : esc (rest s i) 0 = esc s i := by
  unfold esc; rw [rest_size, lng_rest h]
  simp only [gb_rest h]
  have e : (s.size - i < 0 + 2) = (s.size < i + 2) := by rw [eq_iff_iff]; omega
  simp only [e, Nat.zero_add]
def escV : Option (Int × Nat) → Value
  | none => .tuple #[.int .i32 0, .int .i64 0, .bool false]
  | some (r, n) => .tuple #[.int .i32 r, .int .i64 (n : Int), .bool true]
set_option maxHeartbeats 4000000 in
theorem parse_yes {t : ByteArray} {w : World} (ht : t.size = 4) (h : 0 ≤ u4d t 0) :
    Calls Tryd.prog 96 #[.string t, .int .i64 16, .int .i64 16] w fun e w' => e = .returned (.tuple #[.int .u64 (u4d t 0), .nilIface]) ∧ Below w.heap.size w w' := by
  have hI := iparse_any t ht w
  obtain ⟨n, hn⟩ : ∃ n, u4d t 0 = n := ⟨_, rfl⟩
  rw [hn] at hI h ⊢
  unfold pu at hI
  rw [if_pos h] at hI
  clear hn
  go_enter Tryd.func96, Tryd.ntmps96
  go_wp2_with (go_at_call 97; refine hI.mono ?_; rintro e W1 ⟨rfl, hW⟩)
  go_wp2
  go_ret2
  exact ⟨rfl, hW⟩
set_option maxHeartbeats 4000000 in
theorem parse_no {t : ByteArray} {w : World} (ht : t.size = 4) (h : u4d t 0 < 0) {ev : Value} (hv : EV w ev) :
    Calls Tryd.prog 96 #[.string t, .int .i64 16, .int .i64 16] w fun e w' => ∃ p, e = .returned (.tuple #[.int .u64 0, .iface 127 p]) ∧ Below w.heap.size w w' := by
  have hI := iparse_any t ht w
  unfold pu at hI
  rw [if_neg (by omega)] at hI
  have hl : t.size ≤ 140737488355328 := by omega
  clear h ht
  go_enter Tryd.func96, Tryd.ntmps96
  go_wp2_with (go_at_call 97; refine hI.mono ?_; rintro e W1 ⟨rfl, hW⟩)
  have hE := hv.below hW
  go_wp2_with (go_at_call 98; refine (toErr_any _ t 16 16 ev _ hl hE).mono ?_; rintro e W2 ⟨p, rfl, hW2⟩)
  go_wp2
  go_ret2
  exact ⟨p, rfl, hW.trans (hW2.mono hW.size)⟩
theorem u4_pre {q : ByteArray} (h : hpf q ⟨#[92, 117]⟩ = true) : gb q 0 = 92 ∧ gb q 1 = 117 := by
  have h0 := (hpf_iff _ _).1 h 0 (by decide)
  have h1 := (hpf_iff _ _).1 h 1 (by decide)
  exact ⟨h0.2, h1.2⟩
theorem u4_npre {q : ByteArray} (h : hpf q ⟨#[92, 117]⟩ = false) : ¬ (0 + 6 ≤ q.size ∧ gb q 0 = 92 ∧ gb q (0 + 1) = 117) := by
  rintro ⟨a, b, c⟩
  have : hpf q ⟨#[92, 117]⟩ = true := by
    rw [hpf_iff]; intro k hk
    have hk2 : k < 2 := hk
    refine ⟨by omega, ?_⟩
    match k, hk2 with
    | 0, _ => exact b
    | 1, _ => exact c
  rw [this] at h; exact absurd h (by decide)
set_option maxHeartbeats 8000000 in
theorem unit_any {q : ByteArray} {w : World} (hq : q.size ≤ 8192) {ev : Value} (hv : EV w ev) :
    Calls Tryd.prog 94 #[.string q] w fun e w' => ∃ n, e = .returned (.tuple #[.int .i32 n, .bool (decide (0 ≤ u4 q 0))]) ∧ (0 ≤ u4 q 0 → n = u4 q 0) ∧ Below w.heap.size w w' := by
  by_cases h6 : q.size < 6
  · have hu : u4 q 0 = -1 := by unfold u4; rw [if_neg (by omega)]
    have h6' : (q.size : Int) < 6 := by omega
    rw [hu]
    clear hu
    go_enter Tryd.func94, Tryd.ntmps94
    go_wp2
    go_ret2
    exact ⟨0, rfl, fun h => absurd h (by decide), Below.refl _ _⟩
  have h6' : ¬ (q.size : Int) < 6 := by omega
  have hs : q.size ≤ 140737488355328 := by omega
  cases hp : hpf q ⟨#[92, 117]⟩ with
  | false =>
    have hu : u4 q 0 = -1 := by unfold u4; rw [if_neg (u4_npre hp)]
    rw [hu]
    clear hu
    go_enter Tryd.func94, Tryd.ntmps94
    go_wp2_with (go_at_call 93; refine (spref_any q ⟨#[92, 117]⟩ hs (by decide) _).mono ?_; rw [hp]; rintro e w2 ⟨rfl, rfl⟩)
    go_ret2
    exact ⟨0, rfl, fun h => absurd h (by decide), Below.refl _ _⟩
  | true =>
    have hp2 := u4_pre hp
    have hu : u4 q 0 = u4d (q.extract 2 6) 0 := by unfold u4; rw [if_pos ⟨by omega, hp2.1, hp2.2⟩, u4d_ext (by omega)]
    have hb := u4d_hi (q.extract 2 6) 0
    have hts : (q.extract 2 6).size = 4 := by rw [ByteArray.size_extract]; omega
    obtain ⟨t, htt⟩ : ∃ t, q.extract 2 6 = t := ⟨_, rfl⟩
    rw [htt] at hu hb hts
    have HTT : Hid (q.extract 2 6 = t) := htt
    have HU : Hid (u4 q 0 = u4d t 0) := hu
    clear htt hu hp2
    by_cases h0 : 0 ≤ u4d t 0
    · have HY := fun w => @parse_yes t w hts h0
      obtain ⟨n, hn⟩ : ∃ n, u4d t 0 = n := ⟨_, rfl⟩
      rw [hn] at h0 hb HU
      rw [hn] at HY
      clear hn
      go_enter Tryd.func94, Tryd.ntmps94
      go_wp2_with (first | (go_at_call 93; refine (spref_any q ⟨#[92, 117]⟩ hs (by decide) _).mono ?_; rw [hp]; rintro e w2 ⟨rfl, rfl⟩) | (go_at_call 96; rw [HTT.out]; refine (HY _).mono ?_; rintro e W2 ⟨rfl, hW⟩))
      have HW : Hid _ := hW
      clear hW
      go_quiet (fail)
      go_wp2
      go_ret2
      rw [HU.out]
      exact ⟨n, by rw [decide_eq_true (by omega : 0 ≤ n)]; rfl, fun _ => rfl, below_drewN HW.out _⟩
    · have HY := fun w (hv : EV w ev) => @parse_no t w hts (by omega) ev hv
      obtain ⟨n, hn⟩ : ∃ n, u4d t 0 = n := ⟨_, rfl⟩
      rw [hn] at h0 hb HU
      clear hn
      go_enter Tryd.func94, Tryd.ntmps94
      go_wp2_with (first | (go_at_call 93; refine (spref_any q ⟨#[92, 117]⟩ hs (by decide) _).mono ?_; rw [hp]; rintro e w2 ⟨rfl, rfl⟩) | (go_at_call 96; rw [HTT.out]; refine (HY _ hv).mono ?_; rintro e W2 ⟨p, rfl, hW⟩))
      have HW : Hid _ := hW
      clear hW
      go_quiet (fail)
      go_wp2
      go_ret2
      rw [HU.out]
      exact ⟨0, by rw [decide_eq_false (by omega : ¬ 0 ≤ n)]; rfl, fun h => absurd h (by omega), below_drewN HW.out _⟩
theorem lng_eq (s : ByteArray) (i : Nat) : lng s i = if u4 s i < 0 ∨ (56320 ≤ u4 s i ∧ u4 s i < 57344) then none
  else if u4 s i < 55296 ∨ 57344 ≤ u4 s i then some (u4 s i, 6)
  else if u4 s (i + 6) < 56320 ∨ 57344 ≤ u4 s (i + 6) then none
  else some (65536 + (u4 s i - 55296) * 1024 + (u4 s (i + 6) - 56320), 12) := rfl
theorem rest_ext {q : ByteArray} (k : Nat) : q.extract k q.size = rest q k := rfl
set_option maxHeartbeats 16000000 in
theorem long_any {q : ByteArray} {w : World} (hq : q.size ≤ 8192) {ev : Value} (hv : EV w ev) :
    Calls Tryd.prog 90 #[.string q] w fun e w' => e = .returned (escV (lng q 0)) ∧ Below w.heap.size w w' := by
  have hU := u4_hi q 0
  have hL := lng_eq q 0
  obtain ⟨h, hh⟩ : ∃ h, u4 q 0 = h := ⟨_, rfl⟩
  have HI : 0 ≤ h → 6 ≤ q.size := fun k => by have := u4_in (s := q) (i := 0) (by omega); omega
  have HY := fun w (hv : EV w ev) => @unit_any q w hq ev hv
  rw [hh] at HY hU hL
  clear hh
  by_cases c1 : h < 0
  · rw [if_pos (.inl c1)] at hL
    have HL : Hid (lng q 0 = none) := hL
    have hk : ∀ w (hv : EV w ev), Calls Tryd.prog 94 #[.string q] w fun e w' => ∃ n, e = .returned (.tuple #[.int .i32 n, .bool false]) ∧ Below w.heap.size w w' := fun w hv => (HY w hv).mono (by rintro e w' ⟨n, rfl, _, hb⟩; rw [decide_eq_false (by omega)]; exact ⟨n, rfl, hb⟩)
    clear hL HY HI
    go_enter Tryd.func90, Tryd.ntmps90
    go_wp2_with (go_at_call 94; refine (hk _ hv).mono ?_; rintro e W2 ⟨n, rfl, hW⟩)
    go_wp2
    go_ret3
    rw [HL.out]
    exact ⟨rfl, hW⟩
  have h6 := HI (by omega)
  have hk : ∀ w (hv : EV w ev), Calls Tryd.prog 94 #[.string q] w fun e w' => e = .returned (.tuple #[.int .i32 h, .bool true]) ∧ Below w.heap.size w w' := fun w hv => (HY w hv).mono (by rintro e w' ⟨n, rfl, hn, hb⟩; rw [decide_eq_true (by omega), hn (by omega)]; exact ⟨rfl, hb⟩)
  clear HY HI
  by_cases c2 : 56320 ≤ h ∧ h < 57344
  · rw [if_pos (.inr c2)] at hL
    have HL : Hid (lng q 0 = none) := hL
    obtain ⟨a1, a2⟩ := c2
    clear hL
    go_enter Tryd.func90, Tryd.ntmps90
    go_wp2_with (go_at_call 94; refine (hk _ hv).mono ?_; rintro e W2 ⟨rfl, hW⟩)
    go_wp2
    go_ret3
    rw [HL.out]
    exact ⟨rfl, hW⟩
  rw [if_neg (by omega)] at hL
  by_cases c3 : h < 55296 ∨ 57344 ≤ h
  · rw [if_pos c3] at hL
    have HL : Hid (lng q 0 = some (h, 6)) := hL
    clear hL c2
    rcases c3 with c3 | c3
    · go_enter Tryd.func90, Tryd.ntmps90
      go_wp2_with (go_at_call 94; refine (hk _ hv).mono ?_; rintro e W2 ⟨rfl, hW⟩)
      go_wp2
      go_ret3
      rw [HL.out]
      exact ⟨rfl, hW⟩
    · go_enter Tryd.func90, Tryd.ntmps90
      go_wp2_with (go_at_call 94; refine (hk _ hv).mono ?_; rintro e W2 ⟨rfl, hW⟩)
      go_wp2
      go_ret3
      rw [HL.out]
      exact ⟨rfl, hW⟩
  rw [if_neg c3] at hL
  have b1 : 55296 ≤ h := by omega
  have b2 : h < 56320 := by omega
  clear c1 c2 c3
  have hrs : (rest q 6).size ≤ 8192 := by rw [rest_size]; omega
  have HY := fun w (hv : EV w ev) => @unit_any (rest q 6) w hrs ev hv
  rw [u4_rest h6] at HY
  have hV := u4_hi q 6
  obtain ⟨l, hl⟩ : ∃ l, u4 q (0 + 6) = l := ⟨_, rfl⟩
  rw [hl] at hL
  rw [show 6 + 0 = 0 + 6 from rfl, hl] at HY
  rw [show u4 q 6 = l from hl] at hV
  obtain ⟨q2, hq2⟩ : ∃ q2, rest q 6 = q2 := ⟨_, rfl⟩
  rw [hq2] at HY hrs
  have HQ : Hid (q.extract 6 q.size = q2) := hq2
  clear hl hq2
  by_cases c4 : l < 0
  · rw [if_pos (.inl (by omega))] at hL
    have HL : Hid (lng q 0 = none) := hL
    have hk2 : ∀ w (hv : EV w ev), Calls Tryd.prog 94 #[.string q2] w fun e w' => ∃ n, e = .returned (.tuple #[.int .i32 n, .bool false]) ∧ Below w.heap.size w w' := fun w hv => (HY w hv).mono (by rintro e w' ⟨n, rfl, _, hb⟩; rw [decide_eq_false (by omega)]; exact ⟨n, rfl, hb⟩)
    clear hL HY
    go_enter Tryd.func90, Tryd.ntmps90
    go_wp2_with fail
    refine (hk _ hv).mono ?_
    rintro e W2 ⟨rfl, hW⟩
    have HV2 := hv.below hW
    go_wp2_with fail
    rw [HQ.out]
    refine (hk2 _ HV2).mono ?_
    rintro e W3 ⟨n, rfl, hW3⟩
    go_wp2
    go_ret3
    rw [HL.out]
    exact ⟨rfl, hW.trans (hW3.mono hW.size)⟩
  have hk2 : ∀ w (hv : EV w ev), Calls Tryd.prog 94 #[.string q2] w fun e w' => e = .returned (.tuple #[.int .i32 l, .bool true]) ∧ Below w.heap.size w w' := fun w hv => (HY w hv).mono (by rintro e w' ⟨n, rfl, hn, hb⟩; rw [decide_eq_true (by omega), hn (by omega)]; exact ⟨rfl, hb⟩)
  clear HY
  by_cases c5 : l < 56320 ∨ 57344 ≤ l
  · rw [if_pos (by omega)] at hL
    have HL : Hid (lng q 0 = none) := hL
    clear hL
    rcases c5 with c5 | c5
    all_goals (
      go_enter Tryd.func90, Tryd.ntmps90
      go_wp2_with fail
      refine (hk _ hv).mono ?_
      rintro e W2 ⟨rfl, hW⟩
      have HV2 := hv.below hW
      go_wp2_with fail
      rw [HQ.out]
      refine (hk2 _ HV2).mono ?_
      rintro e W3 ⟨rfl, hW3⟩
      go_wp2
      go_ret3
      rw [HL.out]
      exact ⟨rfl, hW.trans (hW3.mono hW.size)⟩)
  rw [if_neg (by omega)] at hL
  have HL : Hid (lng q 0 = some (65536 + (h - 55296) * 1024 + (l - 56320), 12)) := hL
  have b3 : 56320 ≤ l := by omega
  have b4 : l < 57344 := by omega
  clear hL c4 c5
  go_enter Tryd.func90, Tryd.ntmps90
  go_wp2_with fail
  refine (hk _ hv).mono ?_
  rintro e W2 ⟨rfl, hW⟩
  have HV2 := hv.below hW
  go_wp2_with fail
  rw [HQ.out]
  refine (hk2 _ HV2).mono ?_
  rintro e W3 ⟨rfl, hW3⟩
  go_wp2
  go_ret3
  rw [HL.out]
  exact ⟨rfl, hW.trans (hW3.mono hW.size)⟩
end Go.Proofs.YtefaohokmhdplaaDoor
/- Package json: the escape at the head of a text. -/
namespace Go.Proofs.YtefaohokmhdplaaDoor
open Go Go.RowKit
set_option linter.unusedSimpArgs false
set_option linter.unusedVariables false
set_option maxRecDepth 100000

theorem esc_eq (s : ByteArray) (i : Nat) : esc s i = if s.size < i + 2 then none
  else if gb s (i + 1) = 34 ∨ gb s (i + 1) = 92 ∨ gb s (i + 1) = 47 then some (gb s (i + 1), 2)
  else if gb s (i + 1) = 98 then some (8, 2) else if gb s (i + 1) = 102 then some (12, 2) else if gb s (i + 1) = 110 then some (10, 2)
  else if gb s (i + 1) = 114 then some (13, 2) else if gb s (i + 1) = 116 then some (9, 2)
  else if gb s (i + 1) = 117 then lng s i else none := rfl
set_option maxHeartbeats 16000000 in
theorem escape_any {q : ByteArray} {w : World} (hq : q.size ≤ 8192) {ev : Value} (hv : EV w ev) :
    Calls Tryd.prog 83 #[.string q] w fun e w' => e = .returned (escV (esc q 0)) ∧ Below w.heap.size w w' := by
  have hE := esc_eq q 0
  by_cases h2 : q.size < 2
  · have h2' : (q.size : Int) < 2 := by omega
    rw [if_pos (by omega)] at hE
    have HE : Hid (esc q 0 = none) := hE
    clear hE
    go_enter Tryd.func83, Tryd.ntmps83
    go_wp2
    go_ret3
    rw [HE.out]
    exact ⟨rfl, Below.refl _ _⟩
  have h2' : ¬ (q.size : Int) < 2 := by omega
  rw [if_neg (by omega)] at hE
  have hlt : 1 < q.size := by omega
  have HG : Hid _ := idx_gb hlt
  have c0 := gb_lo q 1; have c1 := gb_hi q 1
  have HL := fun w (hv : EV w ev) => @long_any q w hq ev hv
  rw [show 0 + 1 = 1 from rfl] at hE
  obtain ⟨r, hr⟩ : ∃ r, esc q 0 = r := ⟨_, rfl⟩
  obtain ⟨l, hl⟩ : ∃ l, lng q 0 = l := ⟨_, rfl⟩
  rw [hl] at hE HL
  rw [hr] at hE ⊢
  obtain ⟨c, hc⟩ : ∃ c, gb q 1 = c := ⟨_, rfl⟩
  obtain ⟨c', hc'⟩ : ∃ c', (q[1]'hlt).toNat = c' := ⟨_, rfl⟩
  have HG' : Hid ((c' : Int) = c) := by rw [← hc, ← hc']; exact HG.out
  have H1 : q[1]'hlt = q[1]'hlt := rfl
  rw [hc] at c0 c1 hE
  clear hr hl HG hc
  by_cases e34 : c = 34
  · rw [if_pos (.inl e34)] at hE
    subst hE
    subst e34
    obtain rfl : c' = 34 := by have := HG'.out; omega
    go_enter Tryd.func83, Tryd.ntmps83
    go_wp2
    go_ret3
    exact ⟨rfl, Below.refl _ _⟩
  by_cases e92 : c = 92
  · rw [if_pos (.inr (.inl e92))] at hE
    subst hE
    subst e92
    obtain rfl : c' = 92 := by have := HG'.out; omega
    go_enter Tryd.func83, Tryd.ntmps83
    go_wp2
    go_ret3
    exact ⟨rfl, Below.refl _ _⟩
  by_cases e47 : c = 47
  · rw [if_pos (.inr (.inr e47))] at hE
    subst hE
    subst e47
    obtain rfl : c' = 47 := by have := HG'.out; omega
    go_enter Tryd.func83, Tryd.ntmps83
    go_wp2
    go_ret3
    exact ⟨rfl, Below.refl _ _⟩
  by_cases e98 : c = 98
  · rw [if_neg (by omega), if_pos e98] at hE
    subst hE
    subst e98
    obtain rfl : c' = 98 := by have := HG'.out; omega
    go_enter Tryd.func83, Tryd.ntmps83
    go_wp2
    go_ret3
    exact ⟨rfl, Below.refl _ _⟩
  by_cases e102 : c = 102
  · rw [if_neg (by omega), if_neg e98, if_pos e102] at hE
    subst hE
    subst e102
    obtain rfl : c' = 102 := by have := HG'.out; omega
    go_enter Tryd.func83, Tryd.ntmps83
    go_wp2
    go_ret3
    exact ⟨rfl, Below.refl _ _⟩
  by_cases e110 : c = 110
  · rw [if_neg (by omega), if_neg e98, if_neg e102, if_pos e110] at hE
    subst hE
    subst e110
    obtain rfl : c' = 110 := by have := HG'.out; omega
    go_enter Tryd.func83, Tryd.ntmps83
    go_wp2
    go_ret3
    exact ⟨rfl, Below.refl _ _⟩
  by_cases e114 : c = 114
  · rw [if_neg (by omega), if_neg e98, if_neg e102, if_neg e110, if_pos e114] at hE
    subst hE
    subst e114
    obtain rfl : c' = 114 := by have := HG'.out; omega
    go_enter Tryd.func83, Tryd.ntmps83
    go_wp2
    go_ret3
    exact ⟨rfl, Below.refl _ _⟩
  by_cases e116 : c = 116
  · rw [if_neg (by omega), if_neg e98, if_neg e102, if_neg e110, if_neg e114, if_pos e116] at hE
    subst hE
    subst e116
    obtain rfl : c' = 116 := by have := HG'.out; omega
    go_enter Tryd.func83, Tryd.ntmps83
    go_wp2
    go_ret3
    exact ⟨rfl, Below.refl _ _⟩
  rw [if_neg (by omega), if_neg e98, if_neg e102, if_neg e110, if_neg e114, if_neg e116] at hE
  by_cases e117 : c = 117
  · rw [if_pos e117] at hE
    subst hE
    subst e117
    obtain rfl : c' = 117 := by have := HG'.out; omega
    go_enter Tryd.func83, Tryd.ntmps83
    go_wp2_with fail
    refine (HL _ hv).mono ?_
    rintro e W2 ⟨rfl, hW⟩
    cases r with
    | none =>
      unfold escV
      go_wp2
      go_ret3
      exact ⟨rfl, hW⟩
    | some rn =>
      obtain ⟨r, n⟩ := rn
      unfold escV
      go_wp2
      go_ret3
      exact ⟨rfl, hW⟩
  · rw [if_neg e117] at hE
    subst hE
    have d34 : ¬ (c' : Int) = 34 := by have := HG'.out; omega
    have d92 : ¬ (c' : Int) = 92 := by have := HG'.out; omega
    have d47 : ¬ (c' : Int) = 47 := by have := HG'.out; omega
    have d98 : ¬ (c' : Int) = 98 := by have := HG'.out; omega
    have d102 : ¬ (c' : Int) = 102 := by have := HG'.out; omega
    have d110 : ¬ (c' : Int) = 110 := by have := HG'.out; omega
    have d114 : ¬ (c' : Int) = 114 := by have := HG'.out; omega
    have d116 : ¬ (c' : Int) = 116 := by have := HG'.out; omega
    have d117 : ¬ (c' : Int) = 117 := by have := HG'.out; omega
    clear e34 e92 e47 e98 e102 e110 e114 e116 e117
    go_enter Tryd.func83, Tryd.ntmps83
    go_wp2
    go_ret3
    exact ⟨rfl, Below.refl _ _⟩
end Go.Proofs.YtefaohokmhdplaaDoor
/- utf8.AppendRune onto a row of the call's own. -/
namespace Go.Proofs.YtefaohokmhdplaaDoor
open Go Go.RowKit Go.Shelf
set_option linter.unusedSimpArgs false
set_option linter.unusedVariables false
set_option maxRecDepth 100000

shelf_lay Lays.n242 Nm 242 at Tryd as apr

theorem bv_rune (r : Int) : bv (Lib.encodeRuneZ r) = Lib.runeCells r := rfl
theorem rune_any (B : Nat) (v : Value) (xs : List Int) (r : Int) (hr0 : 0 ≤ r) (hr1 : r ≤ 1114111) (w : World) (h : Ow B w v xs) (hl : xs.length ≤ 1000000) (hB : B ≤ w.heap.size) :
    Calls Tryd.prog 75 #[v, .int .i32 r] w fun e w' => ∃ v', e = .returned v' ∧ Ow B w' v' (xs ++ Lib.encodeRuneZ r) ∧ Below B w w' := by
  refine (Any.utf8_AppendRune_plain apr (by kernel_rfl) B v xs.length (bv xs) r (by omega) (by omega) w h (by omega) hB).mono ?_
  rintro e w' ⟨v', rfl, h1, o, h2⟩
  refine ⟨v', rfl, ?_, ?_⟩
  · unfold Ow
    rw [List.length_append, bv_append, bv_rune, show (Lib.encodeRuneZ r).length = (Lib.runeCells r).length by rw [← bv_rune, bv_length]]
    exact h1
  · have h3 : Below B w (w.alloc o) := (Below.refl _ _).alloc hB _
    exact h3.grown h2 (Nat.le_trans hB h3.size) (fun b e => h.blk b e)
end Go.Proofs.YtefaohokmhdplaaDoor
