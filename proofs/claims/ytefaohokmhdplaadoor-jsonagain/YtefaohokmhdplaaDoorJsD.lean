/- Package json: what stands for itself. -/
import Derived.Test.YtefaohokmhdplaaDoorJsC
import Derived.Laws.RangeString
import Derived.Laws.RangeAny
namespace Go.Proofs.YtefaohokmhdplaaDoor
open Go Go.RowKit
set_option linter.unusedSimpArgs false
set_option linter.unusedVariables false
set_option maxRecDepth 100000

theorem ret_bool {a b : Bool} (h : a = b) : Ending.returned (.bool a) = .returned (.bool b) := by rw [h]
/-- Does the one begin with the other? -/
def hpf (s p : ByteArray) : Bool := decide (p.size ≤ s.size) && ((s.extract 0 p.size).toList == p.toList)
set_option maxHeartbeats 1000000 in
theorem lpref_any (s p : ByteArray) (hs : s.size ≤ 140737488355328) (hp : p.size ≤ 140737488355328) (w : World) : Calls Tryd.prog 95 #[.string s, .string p] w fun e w' => e = .returned (.bool (hpf s p)) ∧ w' = w := by
  by_cases h : p.size ≤ s.size
  · have h' : (p.size : Int) ≤ (s.size : Int) := by omega
    go_enter Tryd.func95, Tryd.ntmps95
    go_wp2
    go_ret
    refine ⟨ret_bool ?_, rfl⟩
    unfold hpf
    rw [decide_eq_true h]; rfl
  · have h' : ¬ (p.size : Int) ≤ (s.size : Int) := by omega
    go_enter Tryd.func95, Tryd.ntmps95
    go_wp2
    go_ret
    refine ⟨ret_bool ?_, rfl⟩
    unfold hpf
    rw [decide_eq_false h]; rfl
theorem spref_any (s p : ByteArray) (hs : s.size ≤ 140737488355328) (hp : p.size ≤ 140737488355328) (w : World) : Calls Tryd.prog 93 #[.string s, .string p] w fun e w' => e = .returned (.bool (hpf s p)) ∧ w' = w := by
  go_enter Tryd.func93, Tryd.ntmps93
  go_wp2_with (go_at_call 95; refine (lpref_any s p hs hp _).mono ?_; rintro e w2 ⟨rfl, rfl⟩)
  go_ret
  exact ⟨rfl, rfl⟩
theorem hpf_iff (s p : ByteArray) : hpf s p = true ↔ ∀ k, k < p.size → k < s.size ∧ gb s k = gb p k := by
  unfold hpf
  rw [Bool.and_eq_true, decide_eq_true_iff, beq_iff_eq]
  constructor
  · rintro ⟨h1, h2⟩ k hk
    refine ⟨by omega, ?_⟩
    rw [gb_in (by omega), gb_in hk]
    have h3 : (s.extract 0 p.size) = p := by
      apply ByteArray.ext; apply Array.ext'; rw [← ByteArray.toList_eq, ← ByteArray.toList_eq]; exact h2
    have h4 : k < (s.extract 0 p.size).size := by rw [h3]; exact hk
    have h5 : (s.extract 0 p.size)[k]'h4 = p[k]'hk := by simp only [h3]
    rw [← h5]
    congr 2
    rw [ByteArray.getElem_extract]
    congr 1; omega
  · intro h
    have hle : p.size ≤ s.size := by
      rcases Nat.eq_zero_or_pos p.size with e | e
      · omega
      · have := (h (p.size - 1) (by omega)).1; omega
    refine ⟨hle, ?_⟩
    have hsz : (s.extract 0 p.size).size = p.size := by rw [ByteArray.size_extract]; omega
    have : s.extract 0 p.size = p := by
      apply ByteArray.ext_getElem hsz
      intro i h1 h2
      obtain ⟨h3, h4⟩ := (h i h2)
      rw [gb_in h3, gb_in h2] at h4
      have h5 : (s[i]'h3) = p[i]'h2 := by apply UInt8.toNat_inj.1; omega
      rw [← h5, ByteArray.getElem_extract]
      congr 1; omega
    rw [this]
theorem rep_any (s : ByteArray) (hs : s.size ≤ 8192) (w : World) : Calls Tryd.prog 89 #[.string s] w fun e w' => e = .returned (.bool (hpf s ⟨#[239, 191, 189]⟩)) ∧ w' = w := by
  go_enter Tryd.func89, Tryd.ntmps89
  go_wp2_with (go_at_call 93; refine (spref_any s ⟨#[239, 191, 189]⟩ (by omega) (by decide) _).mono ?_; rintro e w2 ⟨rfl, rfl⟩)
  go_ret
  exact ⟨rfl, rfl⟩
theorem hpf_rep {s : ByteArray} {i : Nat} (hi : i ≤ s.size) : hpf (rest s i) ⟨#[239, 191, 189]⟩ = true ↔ (gb s i = 239 ∧ gb s (i + 1) = 191 ∧ gb s (i + 2) = 189) := by
  have e0 : gb ⟨#[239, 191, 189]⟩ 0 = 239 := rfl
  have e1 : gb ⟨#[239, 191, 189]⟩ 1 = 191 := rfl
  have e2 : gb ⟨#[239, 191, 189]⟩ 2 = 189 := rfl
  rw [hpf_iff]
  constructor
  · intro h
    have h0 := (h 0 (by decide)).2; have h1 := (h 1 (by decide)).2; have h2 := (h 2 (by decide)).2
    rw [gb_rest hi] at h0 h1 h2
    exact ⟨h0.trans e0, h1.trans e1, h2.trans e2⟩
  · rintro ⟨h0, h1, h2⟩ k hk
    have hk3 : k < 3 := hk
    have l2 := gb_lt (s := s) (i := i + 2) (by omega)
    refine ⟨by rw [rest_size]; omega, ?_⟩
    rw [gb_rest hi]
    match k, hk3 with
    | 0, _ => exact h0
    | 1, _ => exact h1
    | 2, _ => exact h2
set_option maxHeartbeats 2000000 in
theorem plain_any (s : ByteArray) (hs : s.size ≤ 8192) (w : World) : Calls Tryd.prog 82 #[.string s] w fun e w' => e = .returned (.int .i64 ((pl s 0 : Nat) : Int)) ∧ Below w.heap.size w w' := by
  have HS : Hid (s.size ≤ 8192) := hs
  have hb := HS.out
  go_enter Tryd.func82, Tryd.ntmps82
  go_wp2
  go_loopw [] (fun w' => ∃ pos : Nat, pos ≤ s.size ∧ w' = w.iter s pos ∧ pl s pos = pl s 0) (fun w' => s.size - w'.iterPos w.heap.size)
  case atStart => exact ⟨0, Nat.zero_le _, rfl, rfl⟩
  case round =>
    obtain ⟨pos, hp, rfl, he⟩ := hrel
    have HE : Hid (pl s pos = pl s 0) := he
    clear he
    by_cases hlt : pos < s.size
    · have hnx : ∀ ty, (Instr.next (.pointer (some ⟨w.heap.size, 0, none⟩)) true ty).run Tryd.prog (w.iter s pos) = _ := fun ty => run_next_any w s pos ty hlt
      have hin := dec_in s pos hlt
      have hle := decode_le s pos
      have HP : Hid (plainR s pos = !decide (((Utf8.decode s pos).1 < 32) ∨ (Utf8.decode s pos).1 = 34 ∨ (Utf8.decode s pos).1 = 92 ∨ ((Utf8.decode s pos).1 = 65533 ∧ ¬ (gb s pos = 239 ∧ gb s (pos + 1) = 191 ∧ gb s (pos + 2) = 189)))) := rfl
      have HQ : Hid (pl s pos = if plainR s pos then pl s (pos + (Utf8.decode s pos).2) else pos) := by
        have := pl_eq s pos
        rw [if_neg (by omega)] at this; exact this
      have HR : Hid (hpf (rest s pos) ⟨#[239, 191, 189]⟩ = true ↔ (gb s pos = 239 ∧ gb s (pos + 1) = 191 ∧ gb s (pos + 2) = 189)) := hpf_rep hp
      have hrs : (rest s pos).size ≤ 8192 := by rw [rest_size]; omega
      have hex : s.extract pos s.size = rest s pos := rfl
      obtain ⟨T, hT⟩ : ∃ T, rest s pos = T := ⟨_, rfl⟩
      obtain ⟨n, hn⟩ : ∃ n, (Utf8.decode s pos).2 = n := ⟨_, rfl⟩
      obtain ⟨c, hc⟩ : ∃ c, (Utf8.decode s pos).1 = c := ⟨_, rfl⟩
      rw [hT] at hrs HR hex
      rw [hn] at HQ hin hnx
      rw [hc] at HP hle hnx
      clear hT hn hc
      have h0 : (0 : Int) ≤ (c : Int) := by omega
      have hle' : (c : Int) ≤ 2147483647 := by omega
      by_cases c32 : c < 32
      · have f1 : (c : Int) < 32 := by omega
        have HX : Hid (pl s 0 = pos) := by
          have h1 : plainR s pos = false := by rw [HP.out]; simp; try omega
          have := HQ.out
          rw [h1] at this
          rw [← HE.out]; exact this
        go_wp2
        go_ret
        exact ⟨by rw [HX.out]; rfl, (Below.refl _ w).alloc (Nat.le_refl _) _⟩
      by_cases c34 : c = 34
      · subst c34
        have HX : Hid (pl s 0 = pos) := by
          have h1 : plainR s pos = false := by rw [HP.out]; simp; try omega
          have := HQ.out
          rw [h1] at this
          rw [← HE.out]; exact this
        go_wp2
        go_ret
        exact ⟨by rw [HX.out]; rfl, (Below.refl _ w).alloc (Nat.le_refl _) _⟩
      by_cases c92 : c = 92
      · subst c92
        have HX : Hid (pl s 0 = pos) := by
          have h1 : plainR s pos = false := by rw [HP.out]; simp; try omega
          have := HQ.out
          rw [h1] at this
          rw [← HE.out]; exact this
        go_wp2
        go_ret
        exact ⟨by rw [HX.out]; rfl, (Below.refl _ w).alloc (Nat.le_refl _) _⟩
      have f1 : ¬ (c : Int) < 32 := by omega
      have f2 : ((c : Int) == 34) = false := beq_eq_false_iff_ne.2 (by omega)
      have f3 : ((c : Int) == 92) = false := beq_eq_false_iff_ne.2 (by omega)
      by_cases cE : c = 65533
      · subst cE
        cases hh : hpf T ⟨#[239, 191, 189]⟩ with
        | true =>
          have h9 := HR.out.1 hh
          have HX : Hid (pl s (pos + n) = pl s 0) := by
            have h1 : plainR s pos = true := by rw [HP.out]; simp; exact h9
            have := HQ.out
            rw [h1] at this
            rw [← HE.out]; exact this.symm
          clear h9
          go_wp2_with (go_at_call 89; refine (rep_any T hrs _).mono ?_; rintro e w2 ⟨rfl, rfl⟩; rw [hh])
          go_roundw
          case rel => exact ⟨pos + n, hin.2, rfl, HX.out⟩
          case measure => simp; omega
        | false =>
          have h9 : ¬ (gb s pos = 239 ∧ gb s (pos + 1) = 191 ∧ gb s (pos + 2) = 189) := fun h => by rw [HR.out.2 h] at hh; cases hh
          have HX : Hid (pl s 0 = pos) := by
            have h1 : plainR s pos = false := by rw [HP.out]; simp; simpa using h9
            have := HQ.out
            rw [h1] at this
            rw [← HE.out]; exact this
          clear h9
          go_wp2_with (go_at_call 89; refine (rep_any T hrs _).mono ?_; rintro e w2 ⟨rfl, rfl⟩; rw [hh])
          go_ret
          exact ⟨by rw [HX.out]; rfl, (Below.refl _ w).alloc (Nat.le_refl _) _⟩
      · have f4 : ((c : Int) == 65533) = false := beq_eq_false_iff_ne.2 (by omega)
        have HX : Hid (pl s (pos + n) = pl s 0) := by
          have h1 : plainR s pos = true := by rw [HP.out]; simp; try omega
          have := HQ.out
          rw [h1] at this
          rw [← HE.out]; exact this.symm
        go_wp2
        go_roundw
        case rel => exact ⟨pos + n, hin.2, rfl, HX.out⟩
        case measure => simp; omega
    · have hnx : ∀ ty, (Instr.next (.pointer (some ⟨w.heap.size, 0, none⟩)) true ty).run Tryd.prog (w.iter s pos) = _ := fun ty => run_next_end w s pos ty hlt
      have HQ : Hid (pl s pos = pos) := by
        have := pl_eq s pos
        rw [if_pos (by omega)] at this; exact this
      have hps : pos = s.size := by omega
      have HX : Hid (pl s 0 = s.size) := by
        show pl s 0 = s.size
        rw [← HE.out, HQ.out, hps]
      clear hps
      go_wp2
      go_ret
      exact ⟨by rw [HX.out]; rfl, (Below.refl _ w).alloc (Nat.le_refl _) _⟩
end Go.Proofs.YtefaohokmhdplaaDoor
