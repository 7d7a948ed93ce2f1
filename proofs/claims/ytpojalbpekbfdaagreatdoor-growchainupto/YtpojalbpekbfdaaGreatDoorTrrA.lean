/- The reference: Bit, Common. -/
import Derived.Test.YtpojalbpekbfdaaGreatDoorTreU
namespace Go.Proofs.YtpojalbpekbfdaaGreatDoor
open Go Go.RowKit
set_option linter.unusedSimpArgs false
set_option linter.unusedVariables false
set_option maxRecDepth 100000

set_option maxHeartbeats 1000000 in
theorem rBit_any (x : List Int) (hx : L32 x) (i : Nat) (hi : i < 256) (w : World) :
    Calls Tryz.prog 61 #[.agg (bv x).toArray, .int .i64 (i : Int)] w fun e w' => e = .returned (.int .u8 (bt x i : Int)) ∧ Below w.heap.size w w' := by
  have s1 : (bv x).toArray.size = 32 := by simp [bv, hx.len]
  obtain ⟨A, hA⟩ : ∃ A, (bv x).toArray = A := ⟨_, rfl⟩
  obtain ⟨k, hk⟩ : ∃ k : Nat, (i : Int) / 8 = (k : Int) := ⟨i / 8, by omega⟩
  obtain ⟨r, hr⟩ : ∃ r : Nat, (i : Int) % 8 = (r : Int) := ⟨i % 8, by omega⟩
  have hk1 : k < 32 := by omega
  have hr1 : r < 8 := by omega
  have c0 : (w.alloc (.cells A 32)).cell? ⟨w.heap.size, k, none⟩ = some (.int .u8 (gi x k)) := by rw [cell_alloc, ← hA, List.getElem?_toArray]; exact bv_get x (by rw [hx.len]; exact hk1)
  have hb := hx.byt.get (i := k) (by rw [hx.len]; exact hk1)
  have HE : Hid ((bt x i : Int) = (gn x k / 2 ^ (7 - r) % 2 : Nat)) := by
    show _ = _
    unfold bt
    rw [show i / 8 = k by omega, show i % 8 = r by omega]
  have HC : Hid (gi x k = (gn x k : Int)) := hx.cast k
  have HL : Hid (gn x k < 256) := hx.lt k
  rw [hA] at s1 ⊢
  obtain ⟨z, hz⟩ : ∃ z, gi x k = z := ⟨_, rfl⟩
  rw [hz] at c0 hb HC
  clear hA hx hz
  go_enter Tryz.func61, Tryz.ntmps61
  go_wp2
  go_ret
  refine ⟨?_, (Below.refl _ w).alloc (Nat.le_refl _) _⟩
  rw [HE.out, ← and_one (gn x k / 2 ^ (7 - r)) (Nat.lt_of_le_of_lt (Nat.div_le_self _ _) HL.out), Int.natCast_ediv, ← HC.out, Int.natCast_pow]
  rfl
def cmr1f (xs ys : List Int) (k m za zb : Nat) : Nat → Value
  | 0 => .int .i64 (k : Int)
  | 1 => .int .i64 (m : Int)
  | 2 => .bool true
  | 3 => .bool true
  | 4 => .agg (bv xs).toArray
  | 5 => .int .i64 (k : Int)
  | 6 => .int .u8 (za : Int)
  | 7 => .agg (bv ys).toArray
  | 8 => .int .i64 (k : Int)
  | 9 => .int .u8 (zb : Int)
  | 10 => .bool (decide ((za : Int) = (zb : Int)))
  | 11 => .bool (decide ((za : Int) = (zb : Int)))
  | _ => undef
def cmr2f (xs ys : List Int) (k m za zb : Nat) : Nat → Value
  | 0 => .int .i64 (k : Int)
  | 1 => .int .i64 (m : Int)
  | 2 => .bool false
  | 3 => .bool false
  | 4 => undef
  | 5 => undef
  | 6 => undef
  | 7 => undef
  | 8 => undef
  | 9 => undef
  | 10 => undef
  | 11 => .bool false
  | _ => undef
set_option maxHeartbeats 4000000 in
theorem rCommon_any (xs ys : List Int) (w : World) (h1 : L32 xs) (h2 : L32 ys) (m : Nat) (hm : m ≤ 256) :
    Calls Tryz.prog 43 #[.agg (bv xs).toArray, .agg (bv ys).toArray, .int .i64 (m : Int)] w fun e w' => e = .returned (.int .i64 (cm xs ys m : Int)) ∧ Below w.heap.size w w' := by
  have s1 : (bv xs).toArray.size = 32 := by simp [bv, h1.len]
  have s2 : (bv ys).toArray.size = 32 := by simp [bv, h2.len]
  obtain ⟨ra, rb, rs, rl⟩ := two_rows w (bv xs) (bv ys) 32 32
  obtain ⟨A, hA⟩ : ∃ A, (bv xs).toArray = A := ⟨_, rfl⟩
  obtain ⟨B, hB⟩ : ∃ B, (bv ys).toArray = B := ⟨_, rfl⟩
  rw [hA, hB] at ra rb rs rl
  rw [hA] at s1 ⊢
  rw [hB] at s2 ⊢
  have HX : Hid (L32 xs) := h1
  have HY : Hid (L32 ys) := h2
  clear h1 h2
  go_enter Tryz.func43, Tryz.ntmps43
  go_wp2_with fail
  obtain ⟨U, hU⟩ : ∃ U, (w.alloc (.cells A 32)).alloc (.cells B 32) = U := ⟨_, rfl⟩
  rw [hU] at ra rb rs rl ⊢
  obtain ⟨D, hD⟩ : ∃ D, w.heap.size = D := ⟨_, rfl⟩
  have BU : Hid (Below w.heap.size w U) := rl
  rw [hD] at ra rb rs ⊢
  have hDX0 : Hid (D < U.heap.size) := by show D < _; omega
  have hDY0 : Hid (D + 1 < U.heap.size) := by show D + 1 < _; omega
  have RX0 : Hid (U.rangeAt D 0 (bv xs)) := ra
  have RY0 : Hid (U.rangeAt (D + 1) 0 (bv ys)) := rb
  clear hU ra rb rs rl hD hA hB
  go_loopw [7] (fun i wr => ∃ k : Nat, k ≤ m ∧ i = .int .i64 (k : Int) ∧ Shr xs ys k ∧ Below U.heap.size U wr) (fun i _ => m - (intOf i).toNat)
  case atStart => exact ⟨0, Nat.zero_le _, rfl, fun i hi => by omega, Below.refl _ _⟩
  case round =>
    obtain ⟨k, hk, rfl, hsh, h4⟩ := hrel
    have H4 : Hid (Below U.heap.size U wr) := h4
    have HSH : Hid (Shr xs ys k) := hsh
    have RX : Hid (wr.rangeAt D 0 (bv xs)) := range_below RX0.out h4 hDX0.out
    have RY : Hid (wr.rangeAt (D + 1) 0 (bv ys)) := range_below RY0.out h4 hDY0.out
    have hDX : Hid (D < wr.heap.size) := Nat.lt_of_lt_of_le hDX0.out h4.size
    have hDY : Hid (D + 1 < wr.heap.size) := Nat.lt_of_lt_of_le hDY0.out h4.size
    clear h4 hsh
    by_cases hlt : k < m
    · obtain ⟨za, hza⟩ : ∃ z, bt xs k = z := ⟨_, rfl⟩
      obtain ⟨zb, hzb⟩ : ∃ z, bt ys k = z := ⟨_, rfl⟩
      have HBA : Hid (∀ W : World, Calls Tryz.prog 61 #[.agg (bv xs).toArray, .int .i64 (k : Int)] W fun e w' => e = .returned (.int .u8 (za : Int)) ∧ Below W.heap.size W w') := fun W => by rw [← hza]; exact rBit_any xs HX.out k (by omega) W
      have HBB : Hid (∀ W : World, Calls Tryz.prog 61 #[.agg (bv ys).toArray, .int .i64 (k : Int)] W fun e w' => e = .returned (.int .u8 (zb : Int)) ∧ Below W.heap.size W w') := fun W => by rw [← hzb]; exact rBit_any ys HY.out k (by omega) W
      have HEQ : Hid (bt xs k = za ∧ bt ys k = zb) := ⟨hza, hzb⟩
      clear hza hzb
      go_wp2_with fail
      refine RU.wp_rgn' [] (cmr1f xs ys k m za zb) (fun _ => 0) (gΩ wr) (by kernel_rfl) (by kernel_rfl) (show Below wr.heap.size wr _ from (Below.refl _ _).drew) ?_ ?_
      · refine ⟨?_, ?_, ?_, ?_, ?_, ?_, ?_, ?_, ?_, ?_, ?_, ?_, trivial⟩
        · refine RU.ObT.pure rfl rfl rfl (fun a V hf hp ev he hc W => ?_)
          have q7 : ev (.tmp 7) = .int .i64 (k : Int) := (he (.tmp 7)).trans (hf 7 rfl)
          simp only [List.getElem_toArray, List.getElem_cons_succ, List.getElem_cons_zero, execOp, Option.map_some, Option.map_none]; rw [q7]
          first | (go_simp; done) | (go_simp; rfl) | rfl
        · refine RU.ObT.pure rfl rfl rfl (fun a V hf hp ev he hc W => ?_)
          have q2 : ev (.tmp 2) = .int .i64 (m : Int) := (he (.tmp 2)).trans (hf 2 rfl)
          simp only [List.getElem_toArray, List.getElem_cons_succ, List.getElem_cons_zero, execOp, Option.map_some, Option.map_none]; rw [q2]
          first | (go_simp; done) | (go_simp; rfl) | rfl
        · refine RU.ObT.pure rfl rfl rfl (fun a V hf hp ev he hc W => ?_)
          have q8 : ev (.tmp 8) = .int .i64 (k : Int) := (he (.tmp 8)).trans (hp 0 8 rfl)
          have q9 : ev (.tmp 9) = .int .i64 (m : Int) := (he (.tmp 9)).trans (hp 1 9 rfl)
          simp only [List.getElem_toArray, List.getElem_cons_succ, List.getElem_cons_zero, execOp, Option.map_some, Option.map_none]; rw [q8, q9]
          have hkm : (k : Int) < (m : Int) := by omega
          have hkm2 : k < m := by omega
          first | (go_simp; done) | (go_simp; rfl) | rfl
        · refine RU.ObT.pure rfl rfl rfl (fun a V hf hp ev he hc W => ?_)
          have q10 : ev (.tmp 10) = .bool true := (he (.tmp 10)).trans (hp 2 10 rfl)
          simp only [List.getElem_toArray, List.getElem_cons_succ, List.getElem_cons_zero, execOp, Option.map_some, Option.map_none]; rw [q10]
          first | (go_simp; done) | (go_simp; rfl) | rfl
        · refine RU.ObT.silent rfl (fun a W k0 V hO hf hp hk => ?_)
          have hg : a.eval (.tmp 11) = .bool true := hp 3 11 rfl
          have hO' : Below wr.heap.size wr W := hO
          have q3 : a.eval (.tmp 3) = .pointer (some ⟨D, 0, none⟩) := hf 3 rfl
          exact RU.ob_op rfl (RU.wanted_some rfl rfl rfl hg) (wp_load_mid 32 (.tmp 3) rfl (D) (0) q3 (bv xs) _ (range_below RX.out hO' hDX.out) Tryz.underlying32 rfl (size_l32 HX.out) ⟨rfl, hO⟩)
        · refine RU.ObT.silent rfl (fun a W k0 V hO hf hp hk => ?_)
          have hg : a.eval (.tmp 11) = .bool true := hp 3 11 rfl
          refine RU.ob_val rfl (RU.wanted_some rfl rfl rfl hg) (fun ev he hc => ?_) ⟨rfl, hO⟩
          have q7 : ev (.tmp 7) = .int .i64 (k : Int) := (he (.tmp 7)).trans (hf 7 rfl)
          simp only [List.getElem_toArray, List.getElem_cons_succ, List.getElem_cons_zero, execOp, Option.map_some, Option.map_none]; rw [q7]
          first | (go_simp; done) | (go_simp; rfl) | rfl
        · refine RU.ObT.silent rfl (fun a W k0 V hO hf hp hk => ?_)
          have hg : a.eval (.tmp 11) = .bool true := hp 3 11 rfl
          have hO' : Below wr.heap.size wr W := hO
          have e12 : a.eval (.tmp 12) = .agg (bv xs).toArray := hp 4 12 rfl
          have e13 : a.eval (.tmp 13) = .int .i64 (k : Int) := hp 5 13 rfl
          refine RU.ob_call (g := 61) (args := #[.agg (bv xs).toArray, .int .i64 (k : Int)]) rfl (RU.wanted_some rfl rfl rfl hg) (fun ev he hc => ?_) ((HBA.out W).mono ?_)
          · have h12 := (he (.tmp 12)).trans e12
            have h13 := (he (.tmp 13)).trans e13
            have hfn := he (.func 61)
            simp only [List.getElem_toArray, List.getElem_cons_succ, List.getElem_cons_zero, execOp, Option.map_some, Option.map_none]
            simp only [resolve, invoke, Sem.run_bind, Sem.run_pure, Result.andThen_ok, List.map_toArray, List.map_cons, List.map_nil, h12, h13, hfn, Act.eval, hc]
            rfl
          · rintro e' W2 ⟨rfl, hb2⟩
            exact ⟨_, rfl, rfl, (hO'.trans (hb2.mono hO'.size) : Below wr.heap.size wr W2)⟩
        · refine RU.ObT.silent rfl (fun a W k0 V hO hf hp hk => ?_)
          have hg : a.eval (.tmp 11) = .bool true := hp 3 11 rfl
          have hO' : Below wr.heap.size wr W := hO
          have q4 : a.eval (.tmp 4) = .pointer (some ⟨D + 1, 0, none⟩) := hf 4 rfl
          exact RU.ob_op rfl (RU.wanted_some rfl rfl rfl hg) (wp_load_mid 32 (.tmp 4) rfl (D + 1) (0) q4 (bv ys) _ (range_below RY.out hO' hDY.out) Tryz.underlying32 rfl (size_l32 HY.out) ⟨rfl, hO⟩)
        · refine RU.ObT.silent rfl (fun a W k0 V hO hf hp hk => ?_)
          have hg : a.eval (.tmp 11) = .bool true := hp 3 11 rfl
          refine RU.ob_val rfl (RU.wanted_some rfl rfl rfl hg) (fun ev he hc => ?_) ⟨rfl, hO⟩
          have q7 : ev (.tmp 7) = .int .i64 (k : Int) := (he (.tmp 7)).trans (hf 7 rfl)
          simp only [List.getElem_toArray, List.getElem_cons_succ, List.getElem_cons_zero, execOp, Option.map_some, Option.map_none]; rw [q7]
          first | (go_simp; done) | (go_simp; rfl) | rfl
        · refine RU.ObT.silent rfl (fun a W k0 V hO hf hp hk => ?_)
          have hg : a.eval (.tmp 11) = .bool true := hp 3 11 rfl
          have hO' : Below wr.heap.size wr W := hO
          have e15 : a.eval (.tmp 15) = .agg (bv ys).toArray := hp 7 15 rfl
          have e16 : a.eval (.tmp 16) = .int .i64 (k : Int) := hp 8 16 rfl
          refine RU.ob_call (g := 61) (args := #[.agg (bv ys).toArray, .int .i64 (k : Int)]) rfl (RU.wanted_some rfl rfl rfl hg) (fun ev he hc => ?_) ((HBB.out W).mono ?_)
          · have h15 := (he (.tmp 15)).trans e15
            have h16 := (he (.tmp 16)).trans e16
            have hfn := he (.func 61)
            simp only [List.getElem_toArray, List.getElem_cons_succ, List.getElem_cons_zero, execOp, Option.map_some, Option.map_none]
            simp only [resolve, invoke, Sem.run_bind, Sem.run_pure, Result.andThen_ok, List.map_toArray, List.map_cons, List.map_nil, h15, h16, hfn, Act.eval, hc]
            rfl
          · rintro e' W2 ⟨rfl, hb2⟩
            exact ⟨_, rfl, rfl, (hO'.trans (hb2.mono hO'.size) : Below wr.heap.size wr W2)⟩
        · refine RU.ObT.silent rfl (fun a W k0 V hO hf hp hk => ?_)
          have hg : a.eval (.tmp 11) = .bool true := hp 3 11 rfl
          refine RU.ob_val rfl (RU.wanted_some rfl rfl rfl hg) (fun ev he hc => ?_) ⟨rfl, hO⟩
          have q14 : ev (.tmp 14) = .int .u8 (za : Int) := (he (.tmp 14)).trans (hp 6 14 rfl)
          have q17 : ev (.tmp 17) = .int .u8 (zb : Int) := (he (.tmp 17)).trans (hp 9 17 rfl)
          simp only [List.getElem_toArray, List.getElem_cons_succ, List.getElem_cons_zero, execOp, Option.map_some, Option.map_none]; rw [q14, q17]
          first | (go_simp; done) | (go_simp; rfl) | rfl
        · refine RU.ObT.pure rfl rfl rfl (fun a V hf hp ev he hc W => ?_)
          have q11 : ev (.tmp 11) = .bool true := (he (.tmp 11)).trans (hp 3 11 rfl)
          have q18 : ev (.tmp 18) = .bool (decide ((za : Int) = (zb : Int))) := (he (.tmp 18)).trans (hp 10 18 rfl)
          simp only [List.getElem_toArray, List.getElem_cons_succ, List.getElem_cons_zero, execOp, Option.map_some, Option.map_none]; rw [q11, q18]
          try simp only [hc]
          first | (go_simp; done) | (go_simp; rfl) | rfl
      intro W1 VW1 hOW1
      have BW1 : Hid (Below wr.heap.size wr W1) := hOW1
      clear hOW1
      simp only [RU.lay, RU.val, RU.at', cmr1f, Act.put]
      simp only [List.setIfInBounds_toArray, List.set_cons_succ, List.set_cons_zero]
      by_cases he : za = zb
      · subst he
        go_wp2_with fail
        exact ⟨⟨k + 1, by omega, by go_num, fun i hi => by
          rcases Nat.lt_succ_iff_lt_or_eq.1 hi with q | rfl
          · exact HSH.out i q
          · rw [HEQ.out.1, HEQ.out.2], H4.out.trans (BW1.out.mono H4.out.size)⟩, by simp [intOf]; omega⟩
      · have he' : ¬ (za : Int) = (zb : Int) := by omega
        have E : Hid (cm xs ys m = k) := cm_uniq (by omega) HSH.out (fun _ => by rw [HEQ.out.1, HEQ.out.2]; exact he)
        go_wp2_with fail
        go_ret
        exact ⟨by rw [E.out]; rfl, BU.out.trans ((H4.out.trans (BW1.out.mono H4.out.size)).mono BU.out.size)⟩
    · obtain rfl : k = m := by omega
      have E : Hid (cm xs ys k = k) := cm_uniq (Nat.le_refl _) HSH.out (fun h => absurd h (Nat.lt_irrefl _))
      go_wp2_with fail
      refine RU.wp_rgn' [] (cmr2f xs ys k k 0 0) (fun _ => 0) (gΩ wr) (by kernel_rfl) (by kernel_rfl) (show Below wr.heap.size wr _ from (Below.refl _ _).drew) ?_ ?_
      · refine ⟨?_, ?_, ?_, ?_, ?_, ?_, ?_, ?_, ?_, ?_, ?_, ?_, trivial⟩
        · refine RU.ObT.pure rfl rfl rfl (fun a V hf hp ev he hc W => ?_)
          have q7 : ev (.tmp 7) = .int .i64 (k : Int) := (he (.tmp 7)).trans (hf 7 rfl)
          simp only [List.getElem_toArray, List.getElem_cons_succ, List.getElem_cons_zero, execOp, Option.map_some, Option.map_none]; rw [q7]
          first | (go_simp; done) | (go_simp; rfl) | rfl
        · refine RU.ObT.pure rfl rfl rfl (fun a V hf hp ev he hc W => ?_)
          have q2 : ev (.tmp 2) = .int .i64 (k : Int) := (he (.tmp 2)).trans (hf 2 rfl)
          simp only [List.getElem_toArray, List.getElem_cons_succ, List.getElem_cons_zero, execOp, Option.map_some, Option.map_none]; rw [q2]
          first | (go_simp; done) | (go_simp; rfl) | rfl
        · refine RU.ObT.pure rfl rfl rfl (fun a V hf hp ev he hc W => ?_)
          have q8 : ev (.tmp 8) = .int .i64 (k : Int) := (he (.tmp 8)).trans (hp 0 8 rfl)
          have q9 : ev (.tmp 9) = .int .i64 (k : Int) := (he (.tmp 9)).trans (hp 1 9 rfl)
          simp only [List.getElem_toArray, List.getElem_cons_succ, List.getElem_cons_zero, execOp, Option.map_some, Option.map_none]; rw [q8, q9]
          have hkm : ¬ (k : Int) < (k : Int) := by omega
          have hkm2 : ¬ k < k := by omega
          first | (go_simp; done) | (go_simp; rfl) | rfl
        · refine RU.ObT.pure rfl rfl rfl (fun a V hf hp ev he hc W => ?_)
          have q10 : ev (.tmp 10) = .bool false := (he (.tmp 10)).trans (hp 2 10 rfl)
          simp only [List.getElem_toArray, List.getElem_cons_succ, List.getElem_cons_zero, execOp, Option.map_some, Option.map_none]; rw [q10]
          first | (go_simp; done) | (go_simp; rfl) | rfl
        · exact RU.ObT.skip (g := 3) (d := 11) rfl rfl rfl rfl rfl rfl (fun U h => by cases h) rfl
        · exact RU.ObT.skip (g := 3) (d := 11) rfl rfl rfl rfl rfl rfl (fun U h => by cases h) rfl
        · exact RU.ObT.skip (g := 3) (d := 11) rfl rfl rfl rfl rfl rfl (fun U h => by cases h) rfl
        · exact RU.ObT.skip (g := 3) (d := 11) rfl rfl rfl rfl rfl rfl (fun U h => by cases h) rfl
        · exact RU.ObT.skip (g := 3) (d := 11) rfl rfl rfl rfl rfl rfl (fun U h => by cases h) rfl
        · exact RU.ObT.skip (g := 3) (d := 11) rfl rfl rfl rfl rfl rfl (fun U h => by cases h) rfl
        · exact RU.ObT.skip (g := 3) (d := 11) rfl rfl rfl rfl rfl rfl (fun U h => by cases h) rfl
        · refine RU.ObT.pure rfl rfl rfl (fun a V hf hp ev he hc W => ?_)
          have q11 : ev (.tmp 11) = .bool false := (he (.tmp 11)).trans (hp 3 11 rfl)
          have q18 : ev (.tmp 18) = undef := (he (.tmp 18)).trans (hp 10 18 rfl)
          simp only [List.getElem_toArray, List.getElem_cons_succ, List.getElem_cons_zero, execOp, Option.map_some, Option.map_none]; rw [q11, q18]
          try simp only [hc]
          first | (go_simp; done) | (go_simp; rfl) | rfl
      intro W1 VW1 hOW1
      have BW1 : Hid (Below wr.heap.size wr W1) := hOW1
      clear hOW1
      simp only [RU.lay, RU.val, RU.at', cmr2f, Act.put]
      simp only [List.setIfInBounds_toArray, List.set_cons_succ, List.set_cons_zero]
      go_wp2_with fail
      go_ret
      exact ⟨by rw [E.out]; rfl, BU.out.trans ((H4.out.trans (BW1.out.mono H4.out.size)).mono BU.out.size)⟩
end Go.Proofs.YtpojalbpekbfdaaGreatDoor
/- The reference: First. -/
namespace Go.Proofs.YtpojalbpekbfdaaGreatDoor
open Go Go.RowKit
set_option linter.unusedSimpArgs false
set_option linter.unusedVariables false
set_option maxRecDepth 100000

theorem or_all : (List.range 8).all (fun r => (List.range 256).all fun g => (List.range 2).all fun z => decide (bits .or .u8 ((g / 2 ^ (8 - r) * 2 ^ (8 - r) : Nat) : Int) ((z * 2 ^ (7 - r) : Nat) : Int) = ((g / 2 ^ (8 - r) * 2 ^ (8 - r) + z * 2 ^ (7 - r) : Nat) : Int))) = true := by kernel_rfl
theorem or_at (g r z : Nat) (hg : g < 256) (hr : r < 8) (hz : z < 2) : bits .or .u8 ((g / 2 ^ (8 - r) * 2 ^ (8 - r) : Nat) : Int) ((z * 2 ^ (7 - r) : Nat) : Int) = ((g / 2 ^ (8 - r) * 2 ^ (8 - r) + z * 2 ^ (7 - r) : Nat) : Int) :=
  of_decide_eq_true (List.all_eq_true.1 (List.all_eq_true.1 (List.all_eq_true.1 or_all r (List.mem_range.2 hr)) g (List.mem_range.2 hg)) z (List.mem_range.2 hz))
theorem fb_next {x : List Int} (h : L32 x) {n : Nat} (hn : n < 256) : (fb x n).set (n / 8) ((gn x (n / 8) / 2 ^ (8 - n % 8) * 2 ^ (8 - n % 8) + bt x n * 2 ^ (7 - n % 8) : Nat) : Int) = fb x (n + 1) := by
  have hl : n / 8 < (fb x n).length := by rw [fb_length]; omega
  refine ext_gi (by rw [List.length_set, fb_length, fb_length]) (fun i hi => ?_)
  rw [List.length_set, fb_length] at hi
  rw [gi_set hl, fb_get x n hi, fb_get x (n + 1) hi, fc_step h n hn i]
  by_cases e : n / 8 = i
  · rw [if_pos e, if_pos e.symm, ← e]
    unfold fc
    rw [if_neg (Nat.lt_irrefl _), if_pos rfl, Int.natCast_add]
  · rw [if_neg e, if_neg (fun q => e q.symm)]
theorem FQ.more {w W W2 : World} {x y r : List Int} (h : FQ w W x y r) (hb : Below W.heap.size W W2) : FQ w W2 x y r :=
  ⟨h.below.trans (hb.mono h.below.size), (hb.block _ (Array.getElem?_eq_some_iff.1 h.a).1).trans h.a, (hb.block _ (Array.getElem?_eq_some_iff.1 h.res).1).trans h.res, (hb.block _ (Array.getElem?_eq_some_iff.1 h.out).1).trans h.out⟩
def frf (n k r D z : Nat) (x : List Int) (c s v : Int) : Nat → Value
  | 0 => .int .i64 (n : Int)
  | 1 => .int .i64 (k : Int)
  | 2 => .int .i64 (n : Int)
  | 3 => .int .i64 (k : Int)
  | 4 => .pointer (some ⟨D + 2, k, none⟩)
  | 5 => .int .u8 c
  | 6 => .agg (bv x).toArray
  | 7 => .int .i64 (n : Int)
  | 8 => .int .u8 (z : Int)
  | 9 => .int .i64 (n : Int)
  | 10 => .int .i64 (r : Int)
  | 11 => .int .i64 (7 - (r : Int))
  | 12 => .int .u64 (7 - (r : Int))
  | 13 => .int .u8 s
  | 14 => .int .u8 v
  | 15 => .pointer (some ⟨D + 2, k, none⟩)
  | 16 => undef
  | _ => undef
set_option maxHeartbeats 4000000 in
theorem rFirst_any (x : List Int) (hx : L32 x) (m : Nat) (hm : m ≤ 256) (w : World) :
    Calls Tryz.prog 59 #[.agg (bv x).toArray, .int .i64 (m : Int)] w fun e w' => e = .returned (.agg (bv (fb x m)).toArray) ∧ Below w.heap.size w w' := by
  have s1 : (bv x).toArray.size = 32 := by simp [bv, hx.len]
  have HX : Hid (L32 x) := hx
  have HQ0 := FQ.start w x
  obtain ⟨A, hA⟩ : ∃ A, (bv x).toArray = A := ⟨_, rfl⟩
  rw [hA] at HQ0 s1 ⊢
  have hz := zero_32
  rw [show List.replicate 32 (0 : Int) = z32 from rfl] at hz
  obtain ⟨Z, hZ⟩ : ∃ Z, (bv z32).toArray = Z := ⟨_, rfl⟩
  rw [hZ] at hz HQ0
  have hZs : Z.size = 32 := by rw [← hZ]; simp [bv, z32]
  clear hx
  go_enter Tryz.func59, Tryz.ntmps59
  go_wp2_with fail
  obtain ⟨W, hW⟩ : ∃ W, (((w.alloc (.cells A 32)).alloc (.cells Z 32)).alloc (.cells Z 32)) = W := ⟨_, rfl⟩
  rw [hW] at HQ0 ⊢
  have Q0 : Hid (FQ w W x (fb x 0) z32) := by rw [fb_zero HX.out]; exact HQ0
  obtain ⟨D, hD⟩ : ∃ D, w.heap.size = D := ⟨_, rfl⟩
  have HD : Hid (w.heap.size = D) := hD
  rw [hD]
  clear hW HQ0 hz hD hA hZ
  go_loopw [8] (fun i wr => ∃ n : Nat, n ≤ m ∧ i = .int .i64 (n : Int) ∧ FQ w wr x (fb x n) z32) (fun i _ => m - (intOf i).toNat)
  case atStart => exact ⟨0, Nat.zero_le _, rfl, Q0.out⟩
  case round =>
    obtain ⟨n, hn, rfl, hq⟩ := hrel
    have QR : Hid (FQ w wr x (fb x n) z32) := hq
    clear hq
    by_cases hlt : n < m
    · obtain ⟨k, hk⟩ : ∃ k : Nat, (n : Int) / 8 = (k : Int) := ⟨n / 8, by omega⟩
      obtain ⟨r, hr⟩ : ∃ r : Nat, (n : Int) % 8 = (r : Int) := ⟨n % 8, by omega⟩
      have htd : Int.tdiv (n : Int) 8 = (k : Int) := by rw [Int.tdiv_eq_ediv_of_nonneg (by omega)]; exact hk
      have htm : Int.tmod (n : Int) 8 = (r : Int) := by rw [Int.tmod_eq_emod_of_nonneg (by omega)]; exact hr
      have hwk : IntKind.i64.wrap (k : Int) = (k : Int) := by rw [IntKind.wrap_i64]; omega
      have hwr : IntKind.i64.wrap (r : Int) = (r : Int) := by rw [IntKind.wrap_i64]; omega
      have hk32 : k < 32 := by omega
      have hr8 : r < 8 := by omega
      obtain ⟨z, hz⟩ : ∃ z, bt x n = z := ⟨_, rfl⟩
      have hz2 : z < 2 := by rw [← hz]; exact bt_le x n
      obtain ⟨c, hc⟩ : ∃ c : Int, ((gn x k / 2 ^ (8 - r) * 2 ^ (8 - r) : Nat) : Int) = c := ⟨_, rfl⟩
      obtain ⟨s, hs'⟩ : ∃ s : Int, ((z * 2 ^ (7 - r) : Nat) : Int) = s := ⟨_, rfl⟩
      obtain ⟨v, hv⟩ : ∃ v : Int, ((gn x k / 2 ^ (8 - r) * 2 ^ (8 - r) + z * 2 ^ (7 - r) : Nat) : Int) = v := ⟨_, rfl⟩
      have hor := or_at (gn x k) r z (HX.out.lt k) hr8 hz2
      rw [hc, hs', hv] at hor
      have HC : Hid (gi (fb x n) k = c) := by
        show gi (fb x n) k = c
        rw [fb_get x n hk32, ← hc]; unfold fc
        rw [if_neg (by omega), if_pos (by omega), show n % 8 = r by omega]
      have HNX : Hid ((fb x n).set k v = fb x (n + 1)) := by
        show (fb x n).set k v = fb x (n + 1)
        have := fb_next HX.out (n := n) (by omega)
        rw [show n / 8 = k by omega, show n % 8 = r by omega, hz, hv] at this; exact this
      have HBT : Hid (∀ W : World, Calls Tryz.prog 61 #[.agg (bv x).toArray, .int .i64 (n : Int)] W fun e w' => e = .returned (.int .u8 (z : Int)) ∧ Below W.heap.size W w') := fun W => by rw [← hz]; exact rBit_any x HX.out n (by omega) W
      have hz7 : z * 2 ^ (7 - r) ≤ 128 := by
        have h7 : 2 ^ (7 - r) ≤ 2 ^ 7 := Nat.pow_le_pow_right (by decide) (by omega)
        have : z * 2 ^ (7 - r) ≤ 1 * 2 ^ 7 := Nat.mul_le_mul (by omega) h7
        omega
      have HSV : Hid (IntKind.u8.wrap ((z : Int) * 2 ^ (7 - r)) = s) := by
        show _ = s
        rw [← hs', IntKind.wrap_u8, Int.natCast_mul, Int.natCast_pow]
        have e : (z : Int) * ((2 : Nat) : Int) ^ (7 - r) = ((z * 2 ^ (7 - r) : Nat) : Int) := by rw [Int.natCast_mul, Int.natCast_pow]
        rw [show ((2 : Int)) = ((2 : Nat) : Int) from rfl, e]; omega
      clear hc hs' hv hz
      go_wp2_with fail
      refine RU.wp_rgn' [16] (frf n k r D z x c s v) (fun _ => 0) (f4Ω w x (fb x n) (fb x (n + 1))) (by kernel_rfl) (by kernel_rfl) QR.out.drew ?_ ?_
      · refine ⟨?_, ?_, ?_, ?_, ?_, ?_, ?_, ?_, ?_, ?_, ?_, ?_, ?_, ?_, ?_, ?_, ?_, trivial⟩
        · refine RU.ObT.pure rfl rfl rfl (fun a V hf hp ev he hc W => ?_)
          have q6 : ev (.tmp 6) = .int .i64 (n : Int) := (he (.tmp 6)).trans (hf 6 rfl)
          simp only [List.getElem_toArray, List.getElem_cons_succ, List.getElem_cons_zero, execOp, Option.map_some, Option.map_none]; rw [q6]
          first | (go_simp; done) | (go_simp; rfl) | rfl
        · refine RU.ObT.pure rfl rfl rfl (fun a V hf hp ev he hc W => ?_)
          have q11 : ev (.tmp 11) = .int .i64 (n : Int) := (he (.tmp 11)).trans (hp 0 11 rfl)
          simp only [List.getElem_toArray, List.getElem_cons_succ, List.getElem_cons_zero, execOp, Option.map_some, Option.map_none]; rw [q11]
          try simp only [hc]
          first | (go_simp; done) | (go_simp; rfl) | rfl
        · refine RU.ObT.pure rfl rfl rfl (fun a V hf hp ev he hc W => ?_)
          have q6 : ev (.tmp 6) = .int .i64 (n : Int) := (he (.tmp 6)).trans (hf 6 rfl)
          simp only [List.getElem_toArray, List.getElem_cons_succ, List.getElem_cons_zero, execOp, Option.map_some, Option.map_none]; rw [q6]
          first | (go_simp; done) | (go_simp; rfl) | rfl
        · refine RU.ObT.pure rfl rfl rfl (fun a V hf hp ev he hc W => ?_)
          have q13 : ev (.tmp 13) = .int .i64 (n : Int) := (he (.tmp 13)).trans (hp 2 13 rfl)
          simp only [List.getElem_toArray, List.getElem_cons_succ, List.getElem_cons_zero, execOp, Option.map_some, Option.map_none]; rw [q13]
          try simp only [hc]
          first | (go_simp; done) | (go_simp; rfl) | rfl
        · refine RU.ObT.pure rfl rfl rfl (fun a V hf hp ev he hc W => ?_)
          have q5 : ev (.tmp 5) = .pointer (some ⟨D + 2, 0, none⟩) := (he (.tmp 5)).trans (hf 5 rfl)
          have q14 : ev (.tmp 14) = .int .i64 (k : Int) := (he (.tmp 14)).trans (hp 3 14 rfl)
          simp only [List.getElem_toArray, List.getElem_cons_succ, List.getElem_cons_zero, execOp, Option.map_some, Option.map_none]; rw [q5, q14]
          have hk2 : (k : Int) < 32 := by omega
          first | (go_simp; done) | (go_simp; rfl) | rfl
        · refine RU.ObT.silent rfl (fun a W k0 V hO hf hp hk => ?_)
          have hO1 : FQ w W x (fb x n) z32 := by cases k0 with | zero => exact hO | succ q => exact absurd hk (by simp)
          have ho := hO1.out
          rw [HD.out] at ho
          have hcell := blk_cell ho (i := k) (by rw [fb_length]; omega)
          rw [HC.out] at hcell
          refine RU.ob_val rfl (RU.wanted_none rfl) (fun ev he hc => ?_) ⟨rfl, hO⟩
          have q15 : ev (.tmp 15) = .pointer (some ⟨D + 2, k, none⟩) := (he (.tmp 15)).trans (hp 4 15 rfl)
          simp only [List.getElem_toArray, List.getElem_cons_succ, List.getElem_cons_zero, execOp, Option.map_some, Option.map_none]; rw [q15]
          first | (go_simp; done) | (go_simp; rfl) | rfl
        · refine RU.ObT.silent rfl (fun a W k0 V hO hf hp hk => ?_)
          have hO1 : FQ w W x (fb x n) z32 := by cases k0 with | zero => exact hO | succ q => exact absurd hk (by simp)
          have q2 : a.eval (.tmp 2) = .pointer (some ⟨D, 0, none⟩) := hf 2 rfl
          exact RU.ob_op rfl (RU.wanted_none rfl) (wp_load_mid 32 (.tmp 2) rfl (D) (0) q2 (bv x) _ (by have := hO1.a; rw [HD.out] at this; exact blk_range this) Tryz.underlying32 rfl (size_l32 HX.out) ⟨rfl, hO⟩)
        · refine RU.ObT.pure rfl rfl rfl (fun a V hf hp ev he hc W => ?_)
          have q6 : ev (.tmp 6) = .int .i64 (n : Int) := (he (.tmp 6)).trans (hf 6 rfl)
          simp only [List.getElem_toArray, List.getElem_cons_succ, List.getElem_cons_zero, execOp, Option.map_some, Option.map_none]; rw [q6]
          first | (go_simp; done) | (go_simp; rfl) | rfl
        · refine RU.ObT.silent rfl (fun a W k0 V hO hf hp hk => ?_)
          have hO1 : FQ w W x (fb x n) z32 := by cases k0 with | zero => exact hO | succ q => exact absurd hk (by simp)
          have e17 : a.eval (.tmp 17) = .agg (bv x).toArray := hp 6 17 rfl
          have e18 : a.eval (.tmp 18) = .int .i64 (n : Int) := hp 7 18 rfl
          refine RU.ob_call (g := 61) (args := #[.agg (bv x).toArray, .int .i64 (n : Int)]) rfl (RU.wanted_none rfl) (fun ev he hc => ?_) ((HBT.out W).mono ?_)
          · have h17 := (he (.tmp 17)).trans e17
            have h18 := (he (.tmp 18)).trans e18
            have hfn := he (.func 61)
            simp only [List.getElem_toArray, List.getElem_cons_succ, List.getElem_cons_zero, execOp, Option.map_some, Option.map_none]
            simp only [resolve, invoke, Sem.run_bind, Sem.run_pure, Result.andThen_ok, List.map_toArray, List.map_cons, List.map_nil, h17, h18, hfn, Act.eval, hc]
            rfl
          · rintro e' W3 ⟨rfl, hb2⟩
            exact ⟨_, rfl, rfl, by cases k0 with | zero => exact (hO1.more hb2 : FQ w W3 x (fb x n) z32) | succ q => exact absurd hk (by simp)⟩
        · refine RU.ObT.pure rfl rfl rfl (fun a V hf hp ev he hc W => ?_)
          have q6 : ev (.tmp 6) = .int .i64 (n : Int) := (he (.tmp 6)).trans (hf 6 rfl)
          simp only [List.getElem_toArray, List.getElem_cons_succ, List.getElem_cons_zero, execOp, Option.map_some, Option.map_none]; rw [q6]
          first | (go_simp; done) | (go_simp; rfl) | rfl
        · refine RU.ObT.pure rfl rfl rfl (fun a V hf hp ev he hc W => ?_)
          have q20 : ev (.tmp 20) = .int .i64 (n : Int) := (he (.tmp 20)).trans (hp 9 20 rfl)
          simp only [List.getElem_toArray, List.getElem_cons_succ, List.getElem_cons_zero, execOp, Option.map_some, Option.map_none]; rw [q20]
          try simp only [hc]
          first | (go_simp; done) | (go_simp; rfl) | rfl
        · refine RU.ObT.pure rfl rfl rfl (fun a V hf hp ev he hc W => ?_)
          have q21 : ev (.tmp 21) = .int .i64 (r : Int) := (he (.tmp 21)).trans (hp 10 21 rfl)
          simp only [List.getElem_toArray, List.getElem_cons_succ, List.getElem_cons_zero, execOp, Option.map_some, Option.map_none]; rw [q21]
          try simp only [hc]
          have hw7 : IntKind.i64.wrap (7 - (r : Int)) = 7 - (r : Int) := by rw [IntKind.wrap_i64]; omega
          first | (go_simp; done) | (go_simp; rfl) | rfl
        · refine RU.ObT.pure rfl rfl rfl (fun a V hf hp ev he hc W => ?_)
          have q22 : ev (.tmp 22) = .int .i64 (7 - (r : Int)) := (he (.tmp 22)).trans (hp 11 22 rfl)
          simp only [List.getElem_toArray, List.getElem_cons_succ, List.getElem_cons_zero, execOp, Option.map_some, Option.map_none]; rw [q22]
          have hw7 : IntKind.u64.wrap (7 - (r : Int)) = 7 - (r : Int) := by rw [IntKind.wrap_u64]; omega
          first | (go_simp; done) | (go_simp; rfl) | rfl
        · refine RU.ObT.pure rfl rfl rfl (fun a V hf hp ev he hc W => ?_)
          have q19 : ev (.tmp 19) = .int .u8 (z : Int) := (he (.tmp 19)).trans (hp 8 19 rfl)
          have q23 : ev (.tmp 23) = .int .u64 (7 - (r : Int)) := (he (.tmp 23)).trans (hp 12 23 rfl)
          simp only [List.getElem_toArray, List.getElem_cons_succ, List.getElem_cons_zero, execOp, Option.map_some, Option.map_none]; rw [q19, q23]
          go_simp; rw [HSV.out]; rfl
        · refine RU.ObT.pure rfl rfl rfl (fun a V hf hp ev he hc W => ?_)
          have q16 : ev (.tmp 16) = .int .u8 c := (he (.tmp 16)).trans (hp 5 16 rfl)
          have q24 : ev (.tmp 24) = .int .u8 s := (he (.tmp 24)).trans (hp 13 24 rfl)
          simp only [List.getElem_toArray, List.getElem_cons_succ, List.getElem_cons_zero, execOp, Option.map_some, Option.map_none]; rw [q16, q24]
          first | (go_simp; done) | (go_simp; rfl) | rfl
        · refine RU.ObT.pure rfl rfl rfl (fun a V hf hp ev he hc W => ?_)
          have q5 : ev (.tmp 5) = .pointer (some ⟨D + 2, 0, none⟩) := (he (.tmp 5)).trans (hf 5 rfl)
          have q12 : ev (.tmp 12) = .int .i64 (k : Int) := (he (.tmp 12)).trans (hp 1 12 rfl)
          simp only [List.getElem_toArray, List.getElem_cons_succ, List.getElem_cons_zero, execOp, Option.map_some, Option.map_none]; rw [q5, q12]
          have hk2 : (k : Int) < 32 := by omega
          first | (go_simp; done) | (go_simp; rfl) | rfl
        · refine RU.ObT.loud (j := 0) rfl (fun a W' V hO hf hp => ?_)
          have q24 : a.eval (.tmp 26) = .pointer (some ⟨D + 2, k, none⟩) := hp 15 26 rfl
          have q23 : a.eval (.tmp 25) = .int .u8 v := hp 14 25 rfl
          have hO1 : FQ w W' x (fb x n) z32 := hO
          have ho := hO1.out
          rw [HD.out] at ho
          have hcell := blk_cell ho (i := k) (by rw [fb_length]; omega)
          have hfr : W'.frozen? ⟨D + 2, k, none⟩ = false := by unfold World.frozen?; rw [ho]; simp
          refine RU.ob_skip (w' := W'.setCell ⟨D + 2, k, none⟩ (.int .u8 v)) rfl (RU.wanted_none rfl) (fun ev he hc => ?_) ⟨_, rfl, ?_⟩
          · have e1 := (he (.tmp 26)).trans q24
            have e2 := (he (.tmp 25)).trans q23
            simp only [List.getElem_toArray, List.getElem_cons_succ, List.getElem_cons_zero, execOp]
            rw [e1, e2]
            go_simp
          · show FQ w _ x (fb x (n + 1)) z32
            rw [← HNX.out]
            refine hO1.put ?_ ?_
            · rw [HD.out]
              exact ⟨rfl, rfl, rfl, by simp [World.setCell], fun j _ hj => Below.heap_setCell _ _ _ j (fun e => hj (by rw [e]))⟩
            · rw [HD.out, heap_setCell_same _ _ _ _ _ _ ho, List.setIfInBounds_toArray]
              unfold bv; rw [List.map_set]
      intro W2 VW2 hOW2
      have Q2 : Hid (FQ w W2 x (fb x (n + 1)) z32) := hOW2
      clear hOW2
      simp only [RU.lay, RU.val, RU.at', frf, Act.put]
      simp only [List.setIfInBounds_toArray, List.set_cons_succ, List.set_cons_zero]
      go_wp2_with fail
      exact ⟨⟨n + 1, hlt, by go_num, Q2.out⟩, by simp [intOf]; omega⟩
    · obtain rfl : n = m := by omega
      have R2 : Hid (wr.rangeAt (D + 2) 0 (bv (fb x n))) := by have := QR.out.out; rw [HD.out] at this; exact blk_range this
      have T1 : Hid (wr.there (D + 1) 0 32) := by have := QR.out.res; rw [HD.out] at this; exact there_of_row' this 0 32 (by rw [List.size_toArray, bv_length, z32_l32.len]; omega)
      go_upto_region 7 with (fail)
      refine wp_region_list ?_
      refine load_g rfl 32 (.tmp 5) rfl (D + 2) 0 rfl (bv (fb x n)) _ R2.out Tryz.underlying32 rfl (size_l32 (fb_l32 HX.out n)) ?_
      refine wpList_store_mid rfl 32 (.tmp 4) (.tmp 28) rfl (D + 1) 0 (bv (fb x n)).toArray rfl rfl (by rw [List.size_toArray, bv_length, fb_length]; exact T1.out) (by rw [List.size_toArray]; exact size_l32 (fb_l32 HX.out n)) (bv_one' _) ?_
      simp only [List.toList_toArray]
      go_wp2_with fail
      have q : (wr.setCells (D + 1) 0 (bv (fb x n))).rangeAt (D + 1) 0 (bv (fb x n)) := World.rangeAt_setCells_same _ _ _ _ (by rw [bv_length, fb_length]; exact T1.out)
      have hbl : Below w.heap.size w (wr.setCells (D + 1) 0 (bv (fb x n))) := below_setCells (by rw [HD.out]; omega) _ _ QR.out.below
      refine bodyPost_ret (v := .agg (bv (fb x n)).toArray) ?_ rfl ⟨rfl, hbl⟩
      simp only [results, Tryz.results59]
      simp [Act.put, asAddr, run_loadVar_mid _ (D + 1) 0 32 (bv (fb x n)) _ q Tryz.underlying32 rfl (size_l32 (fb_l32 HX.out n))]
end Go.Proofs.YtpojalbpekbfdaaGreatDoor
