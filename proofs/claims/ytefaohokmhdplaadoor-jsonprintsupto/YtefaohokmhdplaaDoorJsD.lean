/- Package json: what stands for itself. -/
import Derived.Test.YtefaohokmhdplaaDoorJsC
import Derived.Laws.RangeString
import Derived.Laws.RangeAny
import Derived.Lib.IfaceEq
import Derived.Lib.AtoiErrMem
import Derived.Shelf.RegionOpenPlain
import Derived.RegionTactic
import Derived.Deep.RegionWith
import Derived.BigCall
namespace Go.Proofs.YtefaohokmhdplaaDoor
open Go Go.RowKit
set_option linter.unusedSimpArgs false
set_option linter.unusedVariables false
set_option maxRecDepth 100000

theorem ret_bool {a b : Bool} (h : a = b) : Ending.returned (.bool a) = .returned (.bool b) := by rw [h]
/-- Does the one begin with the other? -/
def hpf (s p : ByteArray) : Bool := decide (p.size ≤ s.size) && ((s.extract 0 p.size).toList == p.toList)
set_option maxHeartbeats 1000000 in
theorem lpref_any (s p : ByteArray) (hs : s.size ≤ 140737488355328) (hp : p.size ≤ 140737488355328) (w : World) : Calls Tryd.prog 95 #[.string s, .string p] w fun e w' => e = .returned (.bool (hpf s p)) ∧ w' = w := by
  by_cases h : p.size ≤ s.size
  · have h' : (p.size : Int) ≤ (s.size : Int) := by omega
    go_enter Tryd.func95, Tryd.ntmps95
    go_wp2
    go_ret
    refine ⟨ret_bool ?_, rfl⟩
    unfold hpf
    rw [decide_eq_true h]; rfl
  · have h' : ¬ (p.size : Int) ≤ (s.size : Int) := by omega
    go_enter Tryd.func95, Tryd.ntmps95
    go_wp2
    go_ret
    refine ⟨ret_bool ?_, rfl⟩
    unfold hpf
    rw [decide_eq_false h]; rfl
theorem spref_any (s p : ByteArray) (hs : s.size ≤ 140737488355328) (hp : p.size ≤ 140737488355328) (w : World) : Calls Tryd.prog 93 #[.string s, .string p] w fun e w' => e = .returned (.bool (hpf s p)) ∧ w' = w := by
  go_enter Tryd.func93, Tryd.ntmps93
  go_wp2_with (go_at_call 95; refine (lpref_any s p hs hp _).mono ?_; rintro e w2 ⟨rfl, rfl⟩)
  go_ret
  exact ⟨rfl, rfl⟩
theorem hpf_iff (s p : ByteArray) : hpf s p = true ↔ ∀ k, k < p.size → k < s.size ∧ gb s k = gb p k := by
  unfold hpf
  rw [Bool.and_eq_true, decide_eq_true_iff, beq_iff_eq]
  constructor
  · rintro ⟨h1, h2⟩ k hk
    refine ⟨by omega, ?_⟩
    rw [gb_in (by omega), gb_in hk]
    have h3 : (s.extract 0 p.size) = p := by
      apply ByteArray.ext; apply Array.ext'; rw [← ByteArray.toList_eq, ← ByteArray.toList_eq]; exact h2
    have h4 : k < (s.extract 0 p.size).size := by rw [h3]; exact hk
    have h5 : (s.extract 0 p.size)[k]'h4 = p[k]'hk := by simp only [h3]
    rw [← h5]
    congr 2
    rw [ByteArray.getElem_extract]
    congr 1; omega
  · intro h
    have hle : p.size ≤ s.size := by
      rcases Nat.eq_zero_or_pos p.size with e | e
      · omega
      · have := (h (p.size - 1) (by omega)).1; omega
    refine ⟨hle, ?_⟩
    have hsz : (s.extract 0 p.size).size = p.size := by rw [ByteArray.size_extract]; omega
    have : s.extract 0 p.size = p := by
      apply ByteArray.ext_getElem hsz
      intro i h1 h2
      obtain ⟨h3, h4⟩ := (h i h2)
      rw [gb_in h3, gb_in h2] at h4
      have h5 : (s[i]'h3) = p[i]'h2 := by apply UInt8.toNat_inj.1; omega
      rw [← h5, ByteArray.getElem_extract]
      congr 1; omega
    rw [this]
theorem rep_any (s : ByteArray) (hs : s.size ≤ 8192) (w : World) : Calls Tryd.prog 89 #[.string s] w fun e w' => e = .returned (.bool (hpf s ⟨#[239, 191, 189]⟩)) ∧ w' = w := by
  go_enter Tryd.func89, Tryd.ntmps89
  go_wp2_with (go_at_call 93; refine (spref_any s ⟨#[239, 191, 189]⟩ (by omega) (by decide) _).mono ?_; rintro e w2 ⟨rfl, rfl⟩)
  go_ret
  exact ⟨rfl, rfl⟩
theorem hpf_rep {s : ByteArray} {i : Nat} (hi : i ≤ s.size) : hpf (rest s i) ⟨#[239, 191, 189]⟩ = true ↔ (gb s i = 239 ∧ gb s (i + 1) = 191 ∧ gb s (i + 2) = 189) := by
  have e0 : gb ⟨#[239, 191, 189]⟩ 0 = 239 := rfl
  have e1 : gb ⟨#[239, 191, 189]⟩ 1 = 191 := rfl
  have e2 : gb ⟨#[239, 191, 189]⟩ 2 = 189 := rfl
  rw [hpf_iff]
  constructor
  · intro h
    have h0 := (h 0 (by decide)).2; have h1 := (h 1 (by decide)).2; have h2 := (h 2 (by decide)).2
    rw [gb_rest hi] at h0 h1 h2
    exact ⟨h0.trans e0, h1.trans e1, h2.trans e2⟩
  · rintro ⟨h0, h1, h2⟩ k hk
    have hk3 : k < 3 := hk
    have l2 := gb_lt (s := s) (i := i + 2) (by omega)
    refine ⟨by rw [rest_size]; omega, ?_⟩
    rw [gb_rest hi]
    match k, hk3 with
    | 0, _ => exact h0
    | 1, _ => exact h1
    | 2, _ => exact h2
set_option maxHeartbeats 2000000 in
theorem plain_any (s : ByteArray) (hs : s.size ≤ 8192) (w : World) : Calls Tryd.prog 82 #[.string s] w fun e w' => e = .returned (.int .i64 ((pl s 0 : Nat) : Int)) ∧ Below w.heap.size w w' := by
  have HS : Hid (s.size ≤ 8192) := hs
  have hb := HS.out
  go_enter Tryd.func82, Tryd.ntmps82
  go_wp2
  go_loopw [] (fun w' => ∃ pos : Nat, pos ≤ s.size ∧ w' = w.iter s pos ∧ pl s pos = pl s 0) (fun w' => s.size - w'.iterPos w.heap.size)
  case atStart => exact ⟨0, Nat.zero_le _, rfl, rfl⟩
  case round =>
    obtain ⟨pos, hp, rfl, he⟩ := hrel
    have HE : Hid (pl s pos = pl s 0) := he
    clear he
    by_cases hlt : pos < s.size
    · have hnx : ∀ ty, (Instr.next (.pointer (some ⟨w.heap.size, 0, none⟩)) true ty).run Tryd.prog (w.iter s pos) = _ := fun ty => run_next_any w s pos ty hlt
      have hin := dec_in s pos hlt
      have hle := decode_le s pos
      have HP : Hid (plainR s pos = !decide (((Utf8.decode s pos).1 < 32) ∨ (Utf8.decode s pos).1 = 34 ∨ (Utf8.decode s pos).1 = 92 ∨ ((Utf8.decode s pos).1 = 65533 ∧ ¬ (gb s pos = 239 ∧ gb s (pos + 1) = 191 ∧ gb s (pos + 2) = 189)))) := rfl
      have HQ : Hid (pl s pos = if plainR s pos then pl s (pos + (Utf8.decode s pos).2) else pos) := by
        have := pl_eq s pos
        rw [if_neg (by omega)] at this; exact this
      have HR : Hid (hpf (rest s pos) ⟨#[239, 191, 189]⟩ = true ↔ (gb s pos = 239 ∧ gb s (pos + 1) = 191 ∧ gb s (pos + 2) = 189)) := hpf_rep hp
      have hrs : (rest s pos).size ≤ 8192 := by rw [rest_size]; omega
      have hex : s.extract pos s.size = rest s pos := rfl
      obtain ⟨T, hT⟩ : ∃ T, rest s pos = T := ⟨_, rfl⟩
      obtain ⟨n, hn⟩ : ∃ n, (Utf8.decode s pos).2 = n := ⟨_, rfl⟩
      obtain ⟨c, hc⟩ : ∃ c, (Utf8.decode s pos).1 = c := ⟨_, rfl⟩
      rw [hT] at hrs HR hex
      rw [hn] at HQ hin hnx
      rw [hc] at HP hle hnx
      clear hT hn hc
      have h0 : (0 : Int) ≤ (c : Int) := by omega
      have hle' : (c : Int) ≤ 2147483647 := by omega
      by_cases c32 : c < 32
      · have f1 : (c : Int) < 32 := by omega
        have HX : Hid (pl s 0 = pos) := by
          have h1 : plainR s pos = false := by rw [HP.out]; simp; try omega
          have := HQ.out
          rw [h1] at this
          rw [← HE.out]; exact this
        go_wp2
        go_ret
        exact ⟨by rw [HX.out]; rfl, (Below.refl _ w).alloc (Nat.le_refl _) _⟩
      by_cases c34 : c = 34
      · subst c34
        have HX : Hid (pl s 0 = pos) := by
          have h1 : plainR s pos = false := by rw [HP.out]; simp; try omega
          have := HQ.out
          rw [h1] at this
          rw [← HE.out]; exact this
        go_wp2
        go_ret
        exact ⟨by rw [HX.out]; rfl, (Below.refl _ w).alloc (Nat.le_refl _) _⟩
      by_cases c92 : c = 92
      · subst c92
        have HX : Hid (pl s 0 = pos) := by
          have h1 : plainR s pos = false := by rw [HP.out]; simp; try omega
          have := HQ.out
          rw [h1] at this
          rw [← HE.out]; exact this
        go_wp2
        go_ret
        exact ⟨by rw [HX.out]; rfl, (Below.refl _ w).alloc (Nat.le_refl _) _⟩
      have f1 : ¬ (c : Int) < 32 := by omega
      have f2 : ((c : Int) == 34) = false := beq_eq_false_iff_ne.2 (by omega)
      have f3 : ((c : Int) == 92) = false := beq_eq_false_iff_ne.2 (by omega)
      by_cases cE : c = 65533
      · subst cE
        cases hh : hpf T ⟨#[239, 191, 189]⟩ with
        | true =>
          have h9 := HR.out.1 hh
          have HX : Hid (pl s (pos + n) = pl s 0) := by
            have h1 : plainR s pos = true := by rw [HP.out]; simp; exact h9
            have := HQ.out
            rw [h1] at this
            rw [← HE.out]; exact this.symm
          clear h9
          go_wp2_with (go_at_call 89; refine (rep_any T hrs _).mono ?_; rintro e w2 ⟨rfl, rfl⟩; rw [hh])
          go_roundw
          case rel => exact ⟨pos + n, hin.2, rfl, HX.out⟩
          case measure => simp; omega
        | false =>
          have h9 : ¬ (gb s pos = 239 ∧ gb s (pos + 1) = 191 ∧ gb s (pos + 2) = 189) := fun h => by rw [HR.out.2 h] at hh; cases hh
          have HX : Hid (pl s 0 = pos) := by
            have h1 : plainR s pos = false := by rw [HP.out]; simp; simpa using h9
            have := HQ.out
            rw [h1] at this
            rw [← HE.out]; exact this
          clear h9
          go_wp2_with (go_at_call 89; refine (rep_any T hrs _).mono ?_; rintro e w2 ⟨rfl, rfl⟩; rw [hh])
          go_ret
          exact ⟨by rw [HX.out]; rfl, (Below.refl _ w).alloc (Nat.le_refl _) _⟩
      · have f4 : ((c : Int) == 65533) = false := beq_eq_false_iff_ne.2 (by omega)
        have HX : Hid (pl s (pos + n) = pl s 0) := by
          have h1 : plainR s pos = true := by rw [HP.out]; simp; try omega
          have := HQ.out
          rw [h1] at this
          rw [← HE.out]; exact this.symm
        go_wp2
        go_roundw
        case rel => exact ⟨pos + n, hin.2, rfl, HX.out⟩
        case measure => simp; omega
    · have hnx : ∀ ty, (Instr.next (.pointer (some ⟨w.heap.size, 0, none⟩)) true ty).run Tryd.prog (w.iter s pos) = _ := fun ty => run_next_end w s pos ty hlt
      have HQ : Hid (pl s pos = pos) := by
        have := pl_eq s pos
        rw [if_pos (by omega)] at this; exact this
      have hps : pos = s.size := by omega
      have HX : Hid (pl s 0 = s.size) := by
        show pl s 0 = s.size
        rw [← HE.out, HQ.out, hps]
      clear hps
      go_wp2
      go_ret
      exact ⟨by rw [HX.out]; rfl, (Below.refl _ w).alloc (Nat.le_refl _) _⟩
end Go.Proofs.YtefaohokmhdplaaDoor
/- strconv.ParseUint of four hexadecimal digits. -/
namespace Go.Proofs.YtefaohokmhdplaaDoor
open Go Go.RowKit
set_option linter.unusedSimpArgs false
set_option linter.unusedVariables false
set_option maxRecDepth 100000

/-- The variable ErrSyntax. -/
def EV (w : World) (ev : Value) : Prop := w.cell? ⟨0, 0, none⟩ = some ev ∧ ∃ te pe, ev = .iface te pe
theorem EV.below {w w' : World} {ev : Value} (h : EV w ev) (hb : Below w.heap.size w w') : EV w' ev :=
  ⟨(hb.cell (show (⟨0, 0, none⟩ : Addr).block < w.heap.size from Lib.lt_of_cell h.1)).trans h.1, h.2⟩
set_option maxHeartbeats 6400000 in
theorem syntax_any (fn s : ByteArray) (ev : Value) (w : World) (hlim : s.size ≤ 140737488355328) (hv : EV w ev) :
    Calls Tryd.prog 101 #[.string fn, .string s] w fun e w' => ∃ N, e = .returned (.pointer (some ⟨N, 0, none⟩)) ∧ Below w.heap.size w w' := by
  obtain ⟨hv, te, pe, rfl⟩ := hv
  have hG : 0 < w.heap.size := Lib.lt_of_cell hv
  have hvd : w.drew.cell? ⟨0, 0, none⟩ = some _ := hv
  have mixed : Tryd.prog.follows .mixedOrders = true := by kernel_rfl
  go_enter Tryd.func101, Tryd.ntmps101
  go_wp2
  go_region_with_o (
      go_at_call 91
      refine (lclone_any s hlim _).mono ?_
      rintro e w2 ⟨rfl, hbel⟩
      have hv2 : w2.cell? ⟨0, 0, none⟩ = some _ := (hbel.cell (show (⟨0, 0, none⟩ : Addr).block < w.drew.heap.size from hG)).trans hvd)
  all_goals (
    go_wp2
    go_ret
    have hs2 : w.heap.size ≤ w2.heap.size := hbel.size
    exact ⟨_, rfl, ((Below.drew (Below.refl _ w)).trans hbel).alloc hs2 _⟩)
set_option maxHeartbeats 4000000 in
theorem toErr_any (fn s : ByteArray) (base bits : Int) (ev : Value) (w : World) (hlim : s.size ≤ 140737488355328) (hv : EV w ev) :
    Calls Tryd.prog 98 #[.string fn, .string s, .int .i64 base, .int .i64 bits, .iface 125 (.int .i64 2)] w fun e w' => ∃ p, e = .returned (.iface 127 p) ∧ Below w.heap.size w w' := by
  have heq : ∀ W, (binOp .eql 86 (.iface 125 (.int .i64 2)) (.iface 125 (.int .i64 2))).run Tryd.prog W = .ok (.bool true) W := fun W => Lib.run_eql_iface_int W 2 2 Tryd.underlying86 (by kernel_rfl) Tryd.underlying125
  go_enter Tryd.func98, Tryd.ntmps98
  go_wp2_with (go_at_call 101; refine (syntax_any fn s ev _ hlim hv).mono ?_; rintro e w2 ⟨N, rfl, h1⟩)
  go_ret
  exact ⟨_, rfl, h1⟩
def lo (c : Int) : Int := bits .or .u8 c 32
theorem lower_any (c : Int) (w : World) : Calls Tryd.prog 99 #[.int .u8 c] w fun e w' => e = .returned (.int .u8 (lo c)) ∧ w' = w := by
  go_enter Tryd.func99, Tryd.ntmps99
  go_wp2
  go_ret
  exact ⟨rfl, rfl⟩
theorem lo_all : ∀ c : Fin 256, ((48 ≤ (c.val : Int) ∧ (c.val : Int) ≤ 57) ∨ (¬ (48 ≤ (c.val : Int) ∧ (c.val : Int) ≤ 57) ∧ 97 ≤ lo c.val ∧ lo c.val ≤ 102 ∧ hxv c.val = lo c.val - 87) ∨ (¬ (48 ≤ (c.val : Int) ∧ (c.val : Int) ≤ 57) ∧ 103 ≤ lo c.val ∧ lo c.val ≤ 122 ∧ hxv c.val = -1) ∨ (¬ (48 ≤ (c.val : Int) ∧ (c.val : Int) ≤ 57) ∧ 0 ≤ lo c.val ∧ lo c.val ≤ 96 ∧ hxv c.val = -1) ∨ (¬ (48 ≤ (c.val : Int) ∧ (c.val : Int) ≤ 57) ∧ 123 ≤ lo c.val ∧ lo c.val ≤ 255 ∧ hxv c.val = -1)) := by decide +kernel
theorem lo_of {c : Int} (h0 : 0 ≤ c) (h1 : c ≤ 255) : ((48 ≤ c ∧ c ≤ 57) ∨ (¬ (48 ≤ c ∧ c ≤ 57) ∧ 97 ≤ lo c ∧ lo c ≤ 102 ∧ hxv c = lo c - 87) ∨ (¬ (48 ≤ c ∧ c ≤ 57) ∧ 103 ≤ lo c ∧ lo c ≤ 122 ∧ hxv c = -1) ∨ (¬ (48 ≤ c ∧ c ≤ 57) ∧ 0 ≤ lo c ∧ lo c ≤ 96 ∧ hxv c = -1) ∨ (¬ (48 ≤ c ∧ c ≤ 57) ∧ 123 ≤ lo c ∧ lo c ≤ 255 ∧ hxv c = -1)) := by
  have := lo_all ⟨c.toNat, by omega⟩
  rw [show ((⟨c.toNat, by omega⟩ : Fin 256).val : Int) = c by simp; omega] at this
  exact this
theorem hxv_dg {c : Int} (h : 48 ≤ c ∧ c ≤ 57) : hxv c = c - 48 := by unfold hxv; rw [if_pos h]
theorem lo_95 : lo 95 = 127 := by decide +kernel
/-- Digits gathered. -/
def ha (t : ByteArray) : Nat → Nat → Int → Int
  | 0, _, a => a
  | f + 1, k, a => if hxv (gb t k) < 0 then -1 else ha t f (k + 1) (a * 16 + hxv (gb t k))
theorem ha_u4d (t : ByteArray) : ha t 4 0 0 = u4d t 0 := by
  unfold u4d
  simp only [ha, Nat.zero_add, Nat.reduceAdd, Nat.add_zero]
  repeat' split
  all_goals omega
theorem gbD {t : ByteArray} {j : Nat} (h : j < t.size) : ((t.data.toList.getD j 0).toNat : Int) = gb t j := by
  have h' : j < t.data.toList.length := by rw [Array.length_toList]; exact h
  have e : t.data.toList.getD j 0 = t[j]'h := by
    rw [List.getD_eq_getElem?_getD, List.getElem?_eq_getElem h']; simp; rfl
  rw [gb_in h, e]
/-- What ParseUint gives. -/
def pu (n : Int) : Value := if 0 ≤ n then .tuple #[.int .u64 n, .nilIface] else .tuple #[.int .u64 0, .iface 125 (.int .i64 2)]
set_option maxHeartbeats 32000000 in
theorem iparse_any (t : ByteArray) (ht : t.size = 4) (w : World) :
    Calls Tryd.prog 97 #[.string t, .int .i64 16, .int .i64 16] w fun e w' => e = .returned (pu (u4d t 0)) ∧ Below w.heap.size w w' := by
  have hemp : t.toList.isEmpty = false := by
    rw [← decide_eq_emptyBytes]
    exact decide_eq_false (fun h => by rw [h] at ht; exact absurd ht (by decide))
  have hcv := Lib.run_convert_string_bytes (P := Tryd.prog) w 9 76 5 t (u := .string) Tryd.underlying9 Tryd.underlying76 Tryd.underlying5
  have hB : ∀ j, j < 4 → (Lib.bytesWorld w 5 t).cell? ⟨w.heap.size, j, none⟩ = some (.int .u8 (gb t j)) := fun j hj => by
    rw [← gbD (by omega)]; exact Lib.bytesWorld_cell w 5 t j (by omega)
  have HW : Hid (Below w.heap.size w (Lib.bytesWorld w 5 t)) := Lib.bytesWorld_below _ _ _
  obtain ⟨W1, hW1⟩ : ∃ W1, W1 = Lib.bytesWorld w 5 t := ⟨_, rfl⟩
  rw [← hW1] at hcv hB HW
  clear hW1
  rw [ht] at hcv
  have hmv : IntKind.u64.wrap (IntKind.u64.wrap 65536 - 1) = 65535 := by
    rw [IntKind.wrap_u64, IntKind.wrap_u64]
    decide
  rw [← ha_u4d]
  have HT : Hid (t.size = 4) := ht
  clear ht
  go_enter Tryd.func97, Tryd.ntmps97
  go_wp2
  go_loop [12, 13, 101] (fun vu vn vi => ∃ (k : Nat) (a : Int), vu = .bool false ∧ vn = .int .u64 a ∧ vi = .int .i64 k ∧ k ≤ 4 ∧ Hid (0 ≤ a ∧ ((k = 0 ∧ a < 1) ∨ (k = 1 ∧ a < 16) ∨ (k = 2 ∧ a < 256) ∨ (k = 3 ∧ a < 4096) ∨ (k = 4 ∧ a < 65536)) ∧ ha t (4 - k) k a = ha t 4 0 0))
    (fun _ _ vi => 4 - (intOf vi).toNat)
  case atStart => exact ⟨0, 0, rfl, rfl, rfl, by omega, by omega, by omega, rfl⟩
  case round =>
    obtain ⟨k, a, rfl, rfl, rfl, hk, hh⟩ := hrel
    by_cases hkn : k < 4
    · have hc := hB k hkn
      have c0 := gb_lo t k; have c1 := gb_hi t k
      obtain ⟨c, hce⟩ : ∃ c, gb t k = c := ⟨_, rfl⟩
      have HD : Hid (ha t (4 - k) k a = if hxv c < 0 then -1 else ha t (4 - (k + 1)) (k + 1) (a * 16 + hxv c)) := by
        show ha t (4 - k) k a = _
        rw [show 4 - k = (4 - (k + 1)) + 1 by omega]; simp only [ha, hce]
      rw [hce] at hc c0 c1
      clear hce hB
      have a0 : 0 ≤ a := hh.out.1
      have a1 : a < 4096 := by have := hh.out.2.1; omega
      rcases lo_of c0 c1 with hd | hd | hd | hd | hd
      · have HV := hxv_dg hd
        obtain ⟨d0, d1⟩ := hd
        have HN : Hid (0 ≤ a * 16 + (c - 48) ∧ ((k + 1 = 0 ∧ a * 16 + (c - 48) < 1) ∨ (k + 1 = 1 ∧ a * 16 + (c - 48) < 16) ∨ (k + 1 = 2 ∧ a * 16 + (c - 48) < 256) ∨ (k + 1 = 3 ∧ a * 16 + (c - 48) < 4096) ∨ (k + 1 = 4 ∧ a * 16 + (c - 48) < 65536)) ∧ ha t (4 - (k + 1)) (k + 1) (a * 16 + (c - 48)) = ha t 4 0 0) := by
          obtain ⟨p, q, r⟩ := hh.out
          refine ⟨by omega, by omega, ?_⟩
          rw [← r, HD.out, HV, if_neg (by omega)]
        clear HV HD hh
        go_wp2
        refine ⟨⟨k + 1, a * 16 + (c - 48), rfl, (by first | rfl | (congr 1; omega)), (by first | rfl | (congr 1; omega)), by omega, HN⟩, by simp [intOf]; omega⟩
      · obtain ⟨d0, d1, d2, HV⟩ := hd
        have HN : Hid (0 ≤ a * 16 + (lo c - 97 + 10) ∧ ((k + 1 = 0 ∧ a * 16 + (lo c - 97 + 10) < 1) ∨ (k + 1 = 1 ∧ a * 16 + (lo c - 97 + 10) < 16) ∨ (k + 1 = 2 ∧ a * 16 + (lo c - 97 + 10) < 256) ∨ (k + 1 = 3 ∧ a * 16 + (lo c - 97 + 10) < 4096) ∨ (k + 1 = 4 ∧ a * 16 + (lo c - 97 + 10) < 65536)) ∧ ha t (4 - (k + 1)) (k + 1) (a * 16 + (lo c - 97 + 10)) = ha t 4 0 0) := by
          obtain ⟨p, q, r⟩ := hh.out
          refine ⟨by omega, by omega, ?_⟩
          rw [← r, HD.out, HV, if_neg (by omega), show lo c - 97 + 10 = lo c - 87 by omega]
        clear HV HD hh
        obtain ⟨l, hl⟩ : ∃ l, lo c = l := ⟨_, rfl⟩
        rw [hl] at HN d1 d2
        have hlo : ∀ w, Calls Tryd.prog 99 #[.int .u8 c] w fun e w' => e = .returned (.int .u8 l) ∧ w' = w := fun w => by rw [← hl]; exact lower_any c w
        have HC : Hid (¬ (48 ≤ c ∧ c ≤ 57)) := d0
        by_cases c48 : 48 ≤ c
        · have c57 : ¬ c ≤ 57 := fun h => d0 ⟨c48, h⟩
          have c95 : ¬ c = 95 := fun h => by rw [h, lo_95] at hl; omega
          clear hl d0
          go_wp2_with (go_at_call 99; refine (hlo _).mono ?_; rintro e w' ⟨rfl, rfl⟩)
          refine ⟨⟨k + 1, a * 16 + (l - 97 + 10), rfl, (by first | rfl | (congr 1; omega)), (by first | rfl | (congr 1; omega)), by omega, HN⟩, by simp [intOf]; omega⟩
        · clear hl d0
          go_wp2_with (go_at_call 99; refine (hlo _).mono ?_; rintro e w' ⟨rfl, rfl⟩)
          refine ⟨⟨k + 1, a * 16 + (l - 97 + 10), rfl, (by first | rfl | (congr 1; omega)), (by first | rfl | (congr 1; omega)), by omega, HN⟩, by simp [intOf]; omega⟩
      all_goals (
        obtain ⟨d0, d1, d2, HV⟩ := hd
        have HR : Hid (ha t 4 0 0 = -1) := by
          rw [HV, if_pos (by decide)] at HD
          exact hh.out.2.2.symm.trans HD.out
        clear HV HD hh
        obtain ⟨l, hl⟩ : ∃ l, lo c = l := ⟨_, rfl⟩
        rw [hl] at d1 d2
        have hlo : ∀ w, Calls Tryd.prog 99 #[.int .u8 c] w fun e w' => e = .returned (.int .u8 l) ∧ w' = w := fun w => by rw [← hl]; exact lower_any c w
        clear hl
        have d3 : c < 48 ∨ 57 < c := by omega
        clear d0
        rcases d3 with d3 | d3 <;> by_cases c95 : c = 95 <;> first
          | (exfalso; omega)
          | (subst c95
             go_wp2_with (go_at_call 99; refine (hlo _).mono ?_; rintro e w' ⟨rfl, rfl⟩)
             all_goals go_ret2
             all_goals exact ⟨by rw [HR.out]; rfl, HW.out⟩)
          | (go_wp2_with (go_at_call 99; refine (hlo _).mono ?_; rintro e w' ⟨rfl, rfl⟩)
             all_goals go_ret2
             all_goals exact ⟨by rw [HR.out]; rfl, HW.out⟩))
    · have hk4 : ¬ (k : Int) < 4 := by omega
      obtain ⟨p, q, r⟩ := hh.out
      rw [show 4 - k = 0 by omega] at r
      have HR : Hid (a = ha t 4 0 0) := r
      have a0 : 0 ≤ a := p
      clear hh p q r
      go_wp2
      go_ret2
      refine ⟨?_, HW.out⟩
      rw [← HR.out]
      unfold pu
      rw [if_pos a0]
      rfl
end Go.Proofs.YtefaohokmhdplaaDoor
