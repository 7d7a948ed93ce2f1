/- The reference: Bit, Common. -/
import Derived.Test.YtpojalbpekbfdabDoorTreU
namespace Go.Proofs.YtpojalbpekbfdabDoor
open Go Go.RowKit
set_option linter.unusedSimpArgs false
set_option linter.unusedVariables false
set_option maxRecDepth 100000

set_option maxHeartbeats 1000000 in
theorem rBit_any (x : List Int) (hx : L32 x) (i : Nat) (hi : i < 256) (w : World) :
    Calls Tryd.prog 50 #[.agg (bv x).toArray, .int .i64 (i : Int)] w fun e w' => e = .returned (.int .u8 (bt x i : Int)) ∧ Below w.heap.size w w' := by
  have s1 : (bv x).toArray.size = 32 := by simp [bv, hx.len]
  obtain ⟨A, hA⟩ : ∃ A, (bv x).toArray = A := ⟨_, rfl⟩
  obtain ⟨k, hk⟩ : ∃ k : Nat, (i : Int) / 8 = (k : Int) := ⟨i / 8, by omega⟩
  obtain ⟨r, hr⟩ : ∃ r : Nat, (i : Int) % 8 = (r : Int) := ⟨i % 8, by omega⟩
  have hk1 : k < 32 := by omega
  have hr1 : r < 8 := by omega
  have c0 : (w.alloc (.cells A 25)).cell? ⟨w.heap.size, k, none⟩ = some (.int .u8 (gi x k)) := by rw [cell_alloc, ← hA, List.getElem?_toArray]; exact bv_get x (by rw [hx.len]; exact hk1)
  have hb := hx.byt.get (i := k) (by rw [hx.len]; exact hk1)
  have HE : Hid ((bt x i : Int) = (gn x k / 2 ^ (7 - r) % 2 : Nat)) := by
    show _ = _
    unfold bt
    rw [show i / 8 = k by omega, show i % 8 = r by omega]
  have HC : Hid (gi x k = (gn x k : Int)) := hx.cast k
  have HL : Hid (gn x k < 256) := hx.lt k
  rw [hA] at s1 ⊢
  obtain ⟨z, hz⟩ : ∃ z, gi x k = z := ⟨_, rfl⟩
  rw [hz] at c0 hb HC
  clear hA hx hz
  go_enter Tryd.func50, Tryd.ntmps50
  go_wp2
  go_ret
  refine ⟨?_, (Below.refl _ w).alloc (Nat.le_refl _) _⟩
  rw [HE.out, ← and_one (gn x k / 2 ^ (7 - r)) (Nat.lt_of_le_of_lt (Nat.div_le_self _ _) HL.out), Int.natCast_ediv, ← HC.out, Int.natCast_pow]
  rfl
def cmr1f (xs ys : List Int) (k m za zb : Nat) : Nat → Value
  | 0 => .int .i64 (k : Int)
  | 1 => .int .i64 (m : Int)
  | 2 => .bool true
  | 3 => .bool true
  | 4 => .agg (bv xs).toArray
  | 5 => .int .i64 (k : Int)
  | 6 => .int .u8 (za : Int)
  | 7 => .agg (bv ys).toArray
  | 8 => .int .i64 (k : Int)
  | 9 => .int .u8 (zb : Int)
  | 10 => .bool (decide ((za : Int) = (zb : Int)))
  | 11 => .bool (decide ((za : Int) = (zb : Int)))
  | _ => undef
def cmr2f (xs ys : List Int) (k m za zb : Nat) : Nat → Value
  | 0 => .int .i64 (k : Int)
  | 1 => .int .i64 (m : Int)
  | 2 => .bool false
  | 3 => .bool false
  | 4 => undef
  | 5 => undef
  | 6 => undef
  | 7 => undef
  | 8 => undef
  | 9 => undef
  | 10 => undef
  | 11 => .bool false
  | _ => undef
set_option maxHeartbeats 4000000 in
theorem rCommon_any (xs ys : List Int) (w : World) (h1 : L32 xs) (h2 : L32 ys) (m : Nat) (hm : m ≤ 256) :
    Calls Tryd.prog 46 #[.agg (bv xs).toArray, .agg (bv ys).toArray, .int .i64 (m : Int)] w fun e w' => e = .returned (.int .i64 (cm xs ys m : Int)) ∧ Below w.heap.size w w' := by
  have s1 : (bv xs).toArray.size = 32 := by simp [bv, h1.len]
  have s2 : (bv ys).toArray.size = 32 := by simp [bv, h2.len]
  obtain ⟨ra, rb, rs, rl⟩ := two_rows w (bv xs) (bv ys) 25 25
  obtain ⟨A, hA⟩ : ∃ A, (bv xs).toArray = A := ⟨_, rfl⟩
  obtain ⟨B, hB⟩ : ∃ B, (bv ys).toArray = B := ⟨_, rfl⟩
  rw [hA, hB] at ra rb rs rl
  rw [hA] at s1 ⊢
  rw [hB] at s2 ⊢
  have HX : Hid (L32 xs) := h1
  have HY : Hid (L32 ys) := h2
  clear h1 h2
  go_enter Tryd.func46, Tryd.ntmps46
  go_wp2_with fail
  obtain ⟨U, hU⟩ : ∃ U, (w.alloc (.cells A 25)).alloc (.cells B 25) = U := ⟨_, rfl⟩
  rw [hU] at ra rb rs rl ⊢
  obtain ⟨D, hD⟩ : ∃ D, w.heap.size = D := ⟨_, rfl⟩
  have BU : Hid (Below w.heap.size w U) := rl
  rw [hD] at ra rb rs ⊢
  have hDX0 : Hid (D < U.heap.size) := by show D < _; omega
  have hDY0 : Hid (D + 1 < U.heap.size) := by show D + 1 < _; omega
  have RX0 : Hid (U.rangeAt D 0 (bv xs)) := ra
  have RY0 : Hid (U.rangeAt (D + 1) 0 (bv ys)) := rb
  clear hU ra rb rs rl hD hA hB
  go_loopw [7] (fun i wr => ∃ k : Nat, k ≤ m ∧ i = .int .i64 (k : Int) ∧ Shr xs ys k ∧ Below U.heap.size U wr) (fun i _ => m - (intOf i).toNat)
  case atStart => exact ⟨0, Nat.zero_le _, rfl, fun i hi => by omega, Below.refl _ _⟩
  case round =>
    obtain ⟨k, hk, rfl, hsh, h4⟩ := hrel
    have H4 : Hid (Below U.heap.size U wr) := h4
    have HSH : Hid (Shr xs ys k) := hsh
    have RX : Hid (wr.rangeAt D 0 (bv xs)) := range_below RX0.out h4 hDX0.out
    have RY : Hid (wr.rangeAt (D + 1) 0 (bv ys)) := range_below RY0.out h4 hDY0.out
    have hDX : Hid (D < wr.heap.size) := Nat.lt_of_lt_of_le hDX0.out h4.size
    have hDY : Hid (D + 1 < wr.heap.size) := Nat.lt_of_lt_of_le hDY0.out h4.size
    clear h4 hsh
    by_cases hlt : k < m
    · obtain ⟨za, hza⟩ : ∃ z, bt xs k = z := ⟨_, rfl⟩
      obtain ⟨zb, hzb⟩ : ∃ z, bt ys k = z := ⟨_, rfl⟩
      have HBA : Hid (∀ W : World, Calls Tryd.prog 50 #[.agg (bv xs).toArray, .int .i64 (k : Int)] W fun e w' => e = .returned (.int .u8 (za : Int)) ∧ Below W.heap.size W w') := fun W => by rw [← hza]; exact rBit_any xs HX.out k (by omega) W
      have HBB : Hid (∀ W : World, Calls Tryd.prog 50 #[.agg (bv ys).toArray, .int .i64 (k : Int)] W fun e w' => e = .returned (.int .u8 (zb : Int)) ∧ Below W.heap.size W w') := fun W => by rw [← hzb]; exact rBit_any ys HY.out k (by omega) W
      have HEQ : Hid (bt xs k = za ∧ bt ys k = zb) := ⟨hza, hzb⟩
      clear hza hzb
      go_wp2_with fail
      refine RU.wp_rgn' [] (cmr1f xs ys k m za zb) (fun _ => 0) (gΩ wr) (by kernel_rfl) (by kernel_rfl) (show Below wr.heap.size wr _ from (Below.refl _ _).drew) ?_ ?_
      · refine ⟨?_, ?_, ?_, ?_, ?_, ?_, ?_, ?_, ?_, ?_, ?_, ?_, trivial⟩
        · refine RU.ObT.pure rfl rfl rfl (fun a V hf hp ev he hc W => ?_)
          have q7 : ev (.tmp 7) = .int .i64 (k : Int) := (he (.tmp 7)).trans (hf 7 rfl)
          simp only [List.getElem_toArray, List.getElem_cons_succ, List.getElem_cons_zero, execOp, Option.map_some, Option.map_none]; rw [q7]
          first | (go_simp; done) | (go_simp; rfl) | rfl
        · refine RU.ObT.pure rfl rfl rfl (fun a V hf hp ev he hc W => ?_)
          have q2 : ev (.tmp 2) = .int .i64 (m : Int) := (he (.tmp 2)).trans (hf 2 rfl)
          simp only [List.getElem_toArray, List.getElem_cons_succ, List.getElem_cons_zero, execOp, Option.map_some, Option.map_none]; rw [q2]
          first | (go_simp; done) | (go_simp; rfl) | rfl
        · refine RU.ObT.pure rfl rfl rfl (fun a V hf hp ev he hc W => ?_)
          have q8 : ev (.tmp 8) = .int .i64 (k : Int) := (he (.tmp 8)).trans (hp 0 8 rfl)
          have q9 : ev (.tmp 9) = .int .i64 (m : Int) := (he (.tmp 9)).trans (hp 1 9 rfl)
          simp only [List.getElem_toArray, List.getElem_cons_succ, List.getElem_cons_zero, execOp, Option.map_some, Option.map_none]; rw [q8, q9]
          have hkm : (k : Int) < (m : Int) := by omega
          have hkm2 : k < m := by omega
          first | (go_simp; done) | (go_simp; rfl) | rfl
        · refine RU.ObT.pure rfl rfl rfl (fun a V hf hp ev he hc W => ?_)
          have q10 : ev (.tmp 10) = .bool true := (he (.tmp 10)).trans (hp 2 10 rfl)
          simp only [List.getElem_toArray, List.getElem_cons_succ, List.getElem_cons_zero, execOp, Option.map_some, Option.map_none]; rw [q10]
          first | (go_simp; done) | (go_simp; rfl) | rfl
        · refine RU.ObT.silent rfl (fun a W k0 V hO hf hp hk => ?_)
          have hg : a.eval (.tmp 11) = .bool true := hp 3 11 rfl
          have hO' : Below wr.heap.size wr W := hO
          have q3 : a.eval (.tmp 3) = .pointer (some ⟨D, 0, none⟩) := hf 3 rfl
          exact RU.ob_op rfl (RU.wanted_some rfl rfl rfl hg) (wp_load_mid 25 (.tmp 3) rfl (D) (0) q3 (bv xs) _ (range_below RX.out hO' hDX.out) Tryd.underlying25 rfl (size_l32 HX.out) ⟨rfl, hO⟩)
        · refine RU.ObT.silent rfl (fun a W k0 V hO hf hp hk => ?_)
          have hg : a.eval (.tmp 11) = .bool true := hp 3 11 rfl
          refine RU.ob_val rfl (RU.wanted_some rfl rfl rfl hg) (fun ev he hc => ?_) ⟨rfl, hO⟩
          have q7 : ev (.tmp 7) = .int .i64 (k : Int) := (he (.tmp 7)).trans (hf 7 rfl)
          simp only [List.getElem_toArray, List.getElem_cons_succ, List.getElem_cons_zero, execOp, Option.map_some, Option.map_none]; rw [q7]
          first | (go_simp; done) | (go_simp; rfl) | rfl
        · refine RU.ObT.silent rfl (fun a W k0 V hO hf hp hk => ?_)
          have hg : a.eval (.tmp 11) = .bool true := hp 3 11 rfl
          have hO' : Below wr.heap.size wr W := hO
          have e12 : a.eval (.tmp 12) = .agg (bv xs).toArray := hp 4 12 rfl
          have e13 : a.eval (.tmp 13) = .int .i64 (k : Int) := hp 5 13 rfl
          refine RU.ob_call (g := 50) (args := #[.agg (bv xs).toArray, .int .i64 (k : Int)]) rfl (RU.wanted_some rfl rfl rfl hg) (fun ev he hc => ?_) ((HBA.out W).mono ?_)
          · have h12 := (he (.tmp 12)).trans e12
            have h13 := (he (.tmp 13)).trans e13
            have hfn := he (.func 50)
            simp only [List.getElem_toArray, List.getElem_cons_succ, List.getElem_cons_zero, execOp, Option.map_some, Option.map_none]
            simp only [resolve, invoke, Sem.run_bind, Sem.run_pure, Result.andThen_ok, List.map_toArray, List.map_cons, List.map_nil, h12, h13, hfn, Act.eval, hc]
            rfl
          · rintro e' W2 ⟨rfl, hb2⟩
            exact ⟨_, rfl, rfl, (hO'.trans (hb2.mono hO'.size) : Below wr.heap.size wr W2)⟩
        · refine RU.ObT.silent rfl (fun a W k0 V hO hf hp hk => ?_)
          have hg : a.eval (.tmp 11) = .bool true := hp 3 11 rfl
          have hO' : Below wr.heap.size wr W := hO
          have q4 : a.eval (.tmp 4) = .pointer (some ⟨D + 1, 0, none⟩) := hf 4 rfl
          exact RU.ob_op rfl (RU.wanted_some rfl rfl rfl hg) (wp_load_mid 25 (.tmp 4) rfl (D + 1) (0) q4 (bv ys) _ (range_below RY.out hO' hDY.out) Tryd.underlying25 rfl (size_l32 HY.out) ⟨rfl, hO⟩)
        · refine RU.ObT.silent rfl (fun a W k0 V hO hf hp hk => ?_)
          have hg : a.eval (.tmp 11) = .bool true := hp 3 11 rfl
          refine RU.ob_val rfl (RU.wanted_some rfl rfl rfl hg) (fun ev he hc => ?_) ⟨rfl, hO⟩
          have q7 : ev (.tmp 7) = .int .i64 (k : Int) := (he (.tmp 7)).trans (hf 7 rfl)
          simp only [List.getElem_toArray, List.getElem_cons_succ, List.getElem_cons_zero, execOp, Option.map_some, Option.map_none]; rw [q7]
          first | (go_simp; done) | (go_simp; rfl) | rfl
        · refine RU.ObT.silent rfl (fun a W k0 V hO hf hp hk => ?_)
          have hg : a.eval (.tmp 11) = .bool true := hp 3 11 rfl
          have hO' : Below wr.heap.size wr W := hO
          have e15 : a.eval (.tmp 15) = .agg (bv ys).toArray := hp 7 15 rfl
          have e16 : a.eval (.tmp 16) = .int .i64 (k : Int) := hp 8 16 rfl
          refine RU.ob_call (g := 50) (args := #[.agg (bv ys).toArray, .int .i64 (k : Int)]) rfl (RU.wanted_some rfl rfl rfl hg) (fun ev he hc => ?_) ((HBB.out W).mono ?_)
          · have h15 := (he (.tmp 15)).trans e15
            have h16 := (he (.tmp 16)).trans e16
            have hfn := he (.func 50)
            simp only [List.getElem_toArray, List.getElem_cons_succ, List.getElem_cons_zero, execOp, Option.map_some, Option.map_none]
            simp only [resolve, invoke, Sem.run_bind, Sem.run_pure, Result.andThen_ok, List.map_toArray, List.map_cons, List.map_nil, h15, h16, hfn, Act.eval, hc]
            rfl
          · rintro e' W2 ⟨rfl, hb2⟩
            exact ⟨_, rfl, rfl, (hO'.trans (hb2.mono hO'.size) : Below wr.heap.size wr W2)⟩
        · refine RU.ObT.silent rfl (fun a W k0 V hO hf hp hk => ?_)
          have hg : a.eval (.tmp 11) = .bool true := hp 3 11 rfl
          refine RU.ob_val rfl (RU.wanted_some rfl rfl rfl hg) (fun ev he hc => ?_) ⟨rfl, hO⟩
          have q14 : ev (.tmp 14) = .int .u8 (za : Int) := (he (.tmp 14)).trans (hp 6 14 rfl)
          have q17 : ev (.tmp 17) = .int .u8 (zb : Int) := (he (.tmp 17)).trans (hp 9 17 rfl)
          simp only [List.getElem_toArray, List.getElem_cons_succ, List.getElem_cons_zero, execOp, Option.map_some, Option.map_none]; rw [q14, q17]
          first | (go_simp; done) | (go_simp; rfl) | rfl
        · refine RU.ObT.pure rfl rfl rfl (fun a V hf hp ev he hc W => ?_)
          have q11 : ev (.tmp 11) = .bool true := (he (.tmp 11)).trans (hp 3 11 rfl)
          have q18 : ev (.tmp 18) = .bool (decide ((za : Int) = (zb : Int))) := (he (.tmp 18)).trans (hp 10 18 rfl)
          simp only [List.getElem_toArray, List.getElem_cons_succ, List.getElem_cons_zero, execOp, Option.map_some, Option.map_none]; rw [q11, q18]
          try simp only [hc]
          first | (go_simp; done) | (go_simp; rfl) | rfl
      intro W1 VW1 hOW1
      have BW1 : Hid (Below wr.heap.size wr W1) := hOW1
      clear hOW1
      simp only [RU.lay, RU.val, RU.at', cmr1f, Act.put]
      simp only [List.setIfInBounds_toArray, List.set_cons_succ, List.set_cons_zero]
      by_cases he : za = zb
      · subst he
        go_wp2_with fail
        exact ⟨⟨k + 1, by omega, by go_num, fun i hi => by
          rcases Nat.lt_succ_iff_lt_or_eq.1 hi with q | rfl
          · exact HSH.out i q
          · rw [HEQ.out.1, HEQ.out.2], H4.out.trans (BW1.out.mono H4.out.size)⟩, by simp [intOf]; omega⟩
      · have he' : ¬ (za : Int) = (zb : Int) := by omega
        have E : Hid (cm xs ys m = k) := cm_uniq (by omega) HSH.out (fun _ => by rw [HEQ.out.1, HEQ.out.2]; exact he)
        go_wp2_with fail
        go_ret
        exact ⟨by rw [E.out]; rfl, BU.out.trans ((H4.out.trans (BW1.out.mono H4.out.size)).mono BU.out.size)⟩
    · obtain rfl : k = m := by omega
      have E : Hid (cm xs ys k = k) := cm_uniq (Nat.le_refl _) HSH.out (fun h => absurd h (Nat.lt_irrefl _))
      go_wp2_with fail
      refine RU.wp_rgn' [] (cmr2f xs ys k k 0 0) (fun _ => 0) (gΩ wr) (by kernel_rfl) (by kernel_rfl) (show Below wr.heap.size wr _ from (Below.refl _ _).drew) ?_ ?_
      · refine ⟨?_, ?_, ?_, ?_, ?_, ?_, ?_, ?_, ?_, ?_, ?_, ?_, trivial⟩
        · refine RU.ObT.pure rfl rfl rfl (fun a V hf hp ev he hc W => ?_)
          have q7 : ev (.tmp 7) = .int .i64 (k : Int) := (he (.tmp 7)).trans (hf 7 rfl)
          simp only [List.getElem_toArray, List.getElem_cons_succ, List.getElem_cons_zero, execOp, Option.map_some, Option.map_none]; rw [q7]
          first | (go_simp; done) | (go_simp; rfl) | rfl
        · refine RU.ObT.pure rfl rfl rfl (fun a V hf hp ev he hc W => ?_)
          have q2 : ev (.tmp 2) = .int .i64 (k : Int) := (he (.tmp 2)).trans (hf 2 rfl)
          simp only [List.getElem_toArray, List.getElem_cons_succ, List.getElem_cons_zero, execOp, Option.map_some, Option.map_none]; rw [q2]
          first | (go_simp; done) | (go_simp; rfl) | rfl
        · refine RU.ObT.pure rfl rfl rfl (fun a V hf hp ev he hc W => ?_)
          have q8 : ev (.tmp 8) = .int .i64 (k : Int) := (he (.tmp 8)).trans (hp 0 8 rfl)
          have q9 : ev (.tmp 9) = .int .i64 (k : Int) := (he (.tmp 9)).trans (hp 1 9 rfl)
          simp only [List.getElem_toArray, List.getElem_cons_succ, List.getElem_cons_zero, execOp, Option.map_some, Option.map_none]; rw [q8, q9]
          have hkm : ¬ (k : Int) < (k : Int) := by omega
          have hkm2 : ¬ k < k := by omega
          first | (go_simp; done) | (go_simp; rfl) | rfl
        · refine RU.ObT.pure rfl rfl rfl (fun a V hf hp ev he hc W => ?_)
          have q10 : ev (.tmp 10) = .bool false := (he (.tmp 10)).trans (hp 2 10 rfl)
          simp only [List.getElem_toArray, List.getElem_cons_succ, List.getElem_cons_zero, execOp, Option.map_some, Option.map_none]; rw [q10]
          first | (go_simp; done) | (go_simp; rfl) | rfl
        · exact RU.ObT.skip (g := 3) (d := 11) rfl rfl rfl rfl rfl rfl (fun U h => by cases h) rfl
        · exact RU.ObT.skip (g := 3) (d := 11) rfl rfl rfl rfl rfl rfl (fun U h => by cases h) rfl
        · exact RU.ObT.skip (g := 3) (d := 11) rfl rfl rfl rfl rfl rfl (fun U h => by cases h) rfl
        · exact RU.ObT.skip (g := 3) (d := 11) rfl rfl rfl rfl rfl rfl (fun U h => by cases h) rfl
        · exact RU.ObT.skip (g := 3) (d := 11) rfl rfl rfl rfl rfl rfl (fun U h => by cases h) rfl
        · exact RU.ObT.skip (g := 3) (d := 11) rfl rfl rfl rfl rfl rfl (fun U h => by cases h) rfl
        · exact RU.ObT.skip (g := 3) (d := 11) rfl rfl rfl rfl rfl rfl (fun U h => by cases h) rfl
        · refine RU.ObT.pure rfl rfl rfl (fun a V hf hp ev he hc W => ?_)
          have q11 : ev (.tmp 11) = .bool false := (he (.tmp 11)).trans (hp 3 11 rfl)
          have q18 : ev (.tmp 18) = undef := (he (.tmp 18)).trans (hp 10 18 rfl)
          simp only [List.getElem_toArray, List.getElem_cons_succ, List.getElem_cons_zero, execOp, Option.map_some, Option.map_none]; rw [q11, q18]
          try simp only [hc]
          first | (go_simp; done) | (go_simp; rfl) | rfl
      intro W1 VW1 hOW1
      have BW1 : Hid (Below wr.heap.size wr W1) := hOW1
      clear hOW1
      simp only [RU.lay, RU.val, RU.at', cmr2f, Act.put]
      simp only [List.setIfInBounds_toArray, List.set_cons_succ, List.set_cons_zero]
      go_wp2_with fail
      go_ret
      exact ⟨by rw [E.out]; rfl, BU.out.trans ((H4.out.trans (BW1.out.mono H4.out.size)).mono BU.out.size)⟩
end Go.Proofs.YtpojalbpekbfdabDoor
