/- The reference's number and Decode. -/
import Derived.Test.YtfnmdeekenjlgaaWirK
namespace Go.Proofs.Ytfnmdeekenjlgaa
open Go Go.RowKit
set_option linter.unusedSimpArgs false
set_option linter.unusedVariables false

theorem or_i64 (m y : Nat) (k : Nat) (hy : y < 2 ^ k) (hm : m * 2 ^ k + y < 9223372036854775808) : bits .or .i64 ((m * 2 ^ k : Nat) : Int) (y : Int) = ((m * 2 ^ k + y : Nat) : Int) := by
  show IntKind.i64.wrap ((BitVec.ofInt 64 ((m * 2 ^ k : Nat) : Int) ||| BitVec.ofInt 64 (y : Int)).toNat : Int) = _
  rw [BitVec.ofInt_natCast, BitVec.ofInt_natCast, BitVec.toNat_or, BitVec.toNat_ofNat, BitVec.toNat_ofNat, Nat.mod_eq_of_lt (by omega), Nat.mod_eq_of_lt (by omega)]
  have e2 : m * 2 ^ k ||| y = m * 2 ^ k + y := by
    have := Nat.shiftLeft_add_eq_or_of_lt (i := k) (b := y) hy m
    rw [Nat.shiftLeft_eq] at this; exact this.symm
  rw [e2, wrap_small _ (by omega) (by omega)]
theorem or4 (z0 z1 z2 z3 : Int) (a0 : 0 ≤ z0) (a0' : z0 ≤ 255) (a1 : 0 ≤ z1) (a1' : z1 ≤ 255) (a2 : 0 ≤ z2) (a2' : z2 ≤ 255) (a3 : 0 ≤ z3) (a3' : z3 ≤ 255) :
    bits .or .i64 (bits .or .i64 (bits .or .i64 (z0 * 16777216) (z1 * 65536)) (z2 * 256)) z3 = z0 * 16777216 + z1 * 65536 + z2 * 256 + z3 := by
  obtain ⟨n0, rfl⟩ := Int.eq_ofNat_of_zero_le a0
  obtain ⟨n1, rfl⟩ := Int.eq_ofNat_of_zero_le a1
  obtain ⟨n2, rfl⟩ := Int.eq_ofNat_of_zero_le a2
  obtain ⟨n3, rfl⟩ := Int.eq_ofNat_of_zero_le a3
  have e1 := or_i64 n0 (n1 * 65536) 24 (by omega) (by omega)
  have e2 := or_i64 (n0 * 256 + n1) (n2 * 256) 16 (by omega) (by omega)
  have e3 := or_i64 (n0 * 65536 + n1 * 256 + n2) n3 8 (by omega) (by omega)
  have f1 : ((n0 : Int) * 16777216) = ((n0 * 2 ^ 24 : Nat) : Int) := by omega
  have f2 : ((n1 : Int) * 65536) = ((n1 * 65536 : Nat) : Int) := by omega
  have f3 : ((n2 : Int) * 256) = ((n2 * 256 : Nat) : Int) := by omega
  have g1 : n0 * 2 ^ 24 + n1 * 65536 = (n0 * 256 + n1) * 2 ^ 16 := by omega
  have g2 : (n0 * 256 + n1) * 2 ^ 16 + n2 * 256 = (n0 * 65536 + n1 * 256 + n2) * 2 ^ 8 := by
    show (n0 * 256 + n1) * 65536 + n2 * 256 = (n0 * 65536 + n1 * 256 + n2) * 256
    clear e1 e2 e3 f1 f2 f3 g1
    rw [Nat.add_mul, Nat.add_mul, Nat.add_mul, Nat.mul_assoc, Nat.mul_assoc, Nat.mul_assoc]
  rw [f1, f2, f3, e1, g1, e2, g2, e3]
  omega
theorem four_of (l : List Int) (h : 4 ≤ l.length) : l.take 4 = [gi l 0, gi l 1, gi l 2, gi l 3] := by
  match l, h with
  | a :: b :: c :: d :: l, _ => rfl
  | [], h => simp at h
  | [_], h => simp at h
  | [_, _], h => simp at h
  | [_, _, _], h => simp at h
theorem cnt_four {xs : List Int} (hb : Byt xs) (at' : Nat) (h : at' + 4 ≤ xs.length) : (cnt (xs.drop at') : Int) = gi xs at' * 16777216 + gi xs (at' + 1) * 65536 + gi xs (at' + 2) * 256 + gi xs (at' + 3) := by
  rw [← (cnt_nm (hb.drop at')).1, nm_plain _ ((hb.drop at').take 4) (by rw [List.length_take]; omega), four_of _ (by rw [List.length_drop]; omega), gi_drop, gi_drop, gi_drop, gi_drop]
  simp only [pv, List.length_cons, List.length_nil, Nat.add_zero]
  omega
set_option maxHeartbeats 1000000 in
theorem number_no (xs : List Int) (at' : Nat) (v : Value) (w : World) (hs : Sl w v xs) (hl : xs.length ≤ 1048576) (ha : at' ≤ 1048576) (h : xs.length < at' + 4) :
    Calls Try.prog 74 #[v, .int .i64 (at' : Int)] w fun e w' => e = .returned (.int .i64 (-1)) ∧ w' = w := by
  obtain ⟨ad, cap, rfl, hc, -⟩ := hs
  have g : (xs.length : Int) - 4 < (at' : Int) := by omega
  go_enter Try.func74, Try.ntmps74
  go_wp2
  go_ret
  exact ⟨rfl, rfl⟩
set_option maxHeartbeats 1000000 in
theorem number_yes (xs : List Int) (at' : Nat) (b o cap : Nat) (w : World) (hb : Byt xs) (hs : Sl w (.slice (some ⟨b, o, none⟩) xs.length cap) xs) (hl : xs.length ≤ 1048576) (h : at' + 4 ≤ xs.length) :
    Calls Try.prog 74 #[.slice (some ⟨b, o, none⟩) xs.length cap, .int .i64 (at' : Int)] w fun e w' => e = .returned (.int .i64 (cnt (xs.drop at') : Int)) ∧ Below w.heap.size w w' := by
  have g : ¬ (xs.length : Int) - 4 < (at' : Int) := by omega
  have g0 : (at' : Int) < (xs.length : Int) := by omega
  have g1 : (at' : Int) + 1 < (xs.length : Int) := by omega
  have g2 : (at' : Int) + 2 < (xs.length : Int) := by omega
  have g3 : (at' : Int) + 3 < (xs.length : Int) := by omega
  obtain ⟨b0, b0'⟩ := Byt.get hb (show at' < xs.length by omega)
  obtain ⟨b1, b1'⟩ := Byt.get hb (show at' + 1 < xs.length by omega)
  obtain ⟨b2, b2'⟩ := Byt.get hb (show at' + 2 < xs.length by omega)
  obtain ⟨b3, b3'⟩ := Byt.get hb (show at' + 3 < xs.length by omega)
  obtain ⟨ad, cap', hv, hc, hx⟩ := hs
  rcases hx with ⟨rfl, _⟩ | ⟨b', o', he, hlt, hm⟩
  · simp at h
  · simp only [Value.slice.injEq] at hv
    obtain ⟨rfl, -, rfl⟩ := hv
    simp only [Option.some.injEq, Addr.mk.injEq, and_true] at he
    obtain ⟨rfl, rfl⟩ := he
    have c0 := hm at' (by omega)
    have c1 := hm (at' + 1) (by omega)
    have c2 := hm (at' + 2) (by omega)
    have c3 := hm (at' + 3) (by omega)
    have HB : Hid (Byt xs) := hb
    clear hm hb
    obtain ⟨z0, e0⟩ : ∃ z, gi xs at' = z := ⟨_, rfl⟩
    obtain ⟨z1, e1⟩ : ∃ z, gi xs (at' + 1) = z := ⟨_, rfl⟩
    obtain ⟨z2, e2⟩ : ∃ z, gi xs (at' + 2) = z := ⟨_, rfl⟩
    obtain ⟨z3, e3⟩ : ∃ z, gi xs (at' + 3) = z := ⟨_, rfl⟩
    rw [e0] at b0 b0' c0
    rw [e1] at b1 b1' c1
    rw [e2] at b2 b2' c2
    rw [e3] at b3 b3' c3
    have HE : Hid _ := And.intro e0 (And.intro e1 (And.intro e2 e3))
    clear e0 e1 e2 e3
    go_enter Try.func74, Try.ntmps74
    go_wp2
    go_quiet (fail)
    rw [or4 z0 z1 z2 z3 b0 b0' b1 b1' b2 b2' b3 b3']
    have HC : Hid ((cnt (xs.drop at') : Int) = z0 * 16777216 + z1 * 65536 + z2 * 256 + z3) := by
      obtain ⟨e0, e1, e2, e3⟩ := HE.out
      show (cnt (xs.drop at') : Int) = _
      rw [cnt_four HB.out at' h, e0, e1, e2, e3]
    have HD : Hid (Below w.heap.size w (w.drewN nq)) := below_drewN (Below.refl _ _) nq
    rw [← HC.out]
    go_wp2
    go_ret
    exact ⟨rfl, HD.out⟩
/-- A piece of a slice. -/
theorem Sl.mid {w : World} {b o l cap : Nat} {xs : List Int} (h : Sl w (.slice (some ⟨b, o, none⟩) l cap) xs) (n m : Nat) (hn : n + m ≤ l) :
    Sl w (.slice (if cap = n then some ⟨b, o, none⟩ else some ⟨b, o + n, none⟩) m (cap - n)) ((xs.drop n).take m) := by
  have h2 := (h.cut n (by omega)).2
  obtain ⟨ad, cap', hv, hc, h⟩ := h
  simp only [Value.slice.injEq] at hv
  obtain ⟨rfl, rfl, rfl⟩ := hv
  by_cases e : cap = n
  · obtain rfl : m = 0 := by omega
    rw [if_pos e, List.take_zero]
    exact ⟨_, cap - n, rfl, by simp, .inl ⟨rfl, fun e => by cases e⟩⟩
  · rw [if_neg e] at h2 ⊢
    have := (h2.cut m (by omega)).1
    exact this
set_option maxHeartbeats 1000000 in
theorem rdecode_any (xs : List Int) (v : Value) (w : World) (hb : Byt xs) (hs : Sl w v xs) (hl : xs.length ≤ 140737488355328) :
    Calls Try.prog 64 #[v] w fun e w' => ∃ v' us, e = .returned (.tuple #[v', .int .i64 (decE xs)]) ∧ OL w.heap.size w' v' us (decL xs) ∧ Below w.heap.size w w' := by
  have HS : Hid (Sl w v xs) := hs
  have HB : Hid (Byt xs) := hb
  by_cases hlarge : 1048576 < xs.length
  · have E : Hid _ := dec_large hlarge
    obtain ⟨ad, cap, rfl, -, -⟩ := hs
    have g : (1048576 : Int) < (xs.length : Int) := by omega
    clear hb
    go_enter Try.func64, Try.ntmps64
    go_wp2
    go_ret2
    exact ⟨_, [], by rw [E.out.1]; rfl, by rw [E.out.2]; exact OL.nil _ _, Below.refl _ _⟩
  have g0 : ¬ (1048576 : Int) < (xs.length : Int) := by omega
  by_cases h4 : xs.length < 4
  · have E : Hid _ := dec_form hlarge (.inl h4)
    obtain ⟨ad, cap, rfl, -, -⟩ := hs
    clear hb
    go_enter Try.func64, Try.ntmps64
    go_wp2_with (go_at_call 74; refine (number_no xs 0 _ w HS.out (by omega) (by omega) (by omega)).mono ?_; rintro e w' ⟨rfl, rfl⟩)
    go_ret2
    exact ⟨_, [], by rw [E.out.1]; rfl, by rw [E.out.2]; exact OL.nil _ _, Below.refl _ _⟩
  obtain ⟨b, o, cap, rfl, hc, hbw⟩ := hs.lies (by omega)
  have HBW : Hid (b < w.heap.size) := hbw
  clear hbw
  have h4' : 4 ≤ xs.length := by omega
  obtain ⟨c, hcc⟩ : ∃ c, cnt xs = c := ⟨_, rfl⟩
  have EC : Hid (cnt (xs.drop 0) = c) := hcc
  have EC' : Hid (cnt xs = c) := hcc
  have hlx : xs.length ≤ 1048576 := by omega
  by_cases hcb : 65536 < c
  · have E : Hid _ := dec_form hlarge (.inr (by rw [hcc]; exact hcb))
    have g1 : (65536 : Int) < (c : Int) := by omega
    clear hb hs hcc
    go_enter Try.func64, Try.ntmps64
    go_wp2_with (go_at_call 74; refine (number_yes xs 0 b o cap w HB.out HS.out hlx (by omega)).mono ?_; rintro e w1 ⟨rfl, h7⟩; rw [EC.out]; have H7 : Hid _ := h7; clear h7)
    go_ret2
    exact ⟨_, [], by rw [E.out.1]; rfl, by rw [E.out.2]; exact OL.nil _ _, H7.out⟩
  have g1 : ¬ (65536 : Int) < (c : Int) := by omega
  have hform : Hid (¬ (xs.length < 4 ∨ 65536 < cnt xs)) := by show ¬ (xs.length < 4 ∨ 65536 < cnt xs); rw [hcc]; omega
  have HLG : Hid (¬ 1048576 < xs.length) := hlarge
  clear hb hs hcc
  go_enter Try.func64, Try.ntmps64
  go_wp2_with (go_at_call 74; refine (number_yes xs 0 b o cap w HB.out HS.out hlx (by omega)).mono ?_; rintro e w1 ⟨rfl, h7⟩; rw [EC.out]; have H7 : Hid _ := h7; clear h7)
  go_loopw [5, 6, 20] (fun av lv i wr => ∃ (k at' : Nat) (l : List (List Int)) (us : List Value), k ≤ c ∧ i = .int .i64 (k : Int) ∧ at' ≤ xs.length ∧ av = .int .i64 (at' : Int) ∧ dk xs k = some (l, xs.drop at') ∧ OL w.heap.size wr lv us l ∧ Below w.heap.size w wr) (fun _ _ i _ => c - (intOf i).toNat)
  case atStart => exact ⟨0, 4, [], [], Nat.zero_le _, rfl, h4', rfl, rfl, OL.nil _ _, H7.out⟩
  case round =>
    obtain ⟨k, at', l, us, hk, rfl, hat, rfl, hd, h9, h10⟩ := hrel
    have HD : Hid (dk xs k = some (l, xs.drop at')) := hd
    have H9 : Hid (OL w.heap.size wr _ us l) := h9
    have H10 : Hid (Below w.heap.size w wr) := h10
    have HI : Hid _ := dk_inv HB.out hd
    have HSR : Hid (Sl wr (.slice (some ⟨b, o, none⟩) xs.length cap) xs) := HS.out.below h10 (Nat.le_refl _)
    clear hd h9 h10 H7
    by_cases hlt : k < c
    · have gk : (k : Int) < (c : Int) := by omega
      have hZR : Hid (w.heap.size ≤ wr.heap.size) := H10.out.size
      by_cases hn4 : xs.length < at' + 4
      · have hm : hasM (xs.drop at') = false := decide_eq_false (by rw [List.length_drop]; omega)
        have E : Hid _ := dec_none HLG.out hform.out (by rw [EC'.out, show c = k + 1 + (c - (k + 1)) by omega]; exact dk_no HD.out hm _)
        clear hm
        go_wp2_with (go_at_call 74; refine (number_no xs at' _ wr HSR.out hlx (by omega) hn4).mono ?_; rintro e w2 ⟨rfl, rfl⟩)
        go_ret2
        exact ⟨_, [], by rw [E.out.1]; rfl, by rw [E.out.2]; exact OL.nil _ _, H10.out⟩
      have hn4' : at' + 4 ≤ xs.length := by omega
      obtain ⟨z, hz⟩ : ∃ z, cnt (xs.drop at') = z := ⟨_, rfl⟩
      have EZ : Hid (cnt (xs.drop at') = z) := hz
      by_cases hzb : xs.length - at' - 4 < z
      · have hm : hasM (xs.drop at') = false := decide_eq_false (by rw [List.length_drop, hz]; omega)
        have E : Hid _ := dec_none HLG.out hform.out (by rw [EC'.out, show c = k + 1 + (c - (k + 1)) by omega]; exact dk_no HD.out hm _)
        have gz : (xs.length : Int) - (at' : Int) - 4 < (z : Int) := by omega
        clear hm hz
        go_wp2_with (go_at_call 74; refine (number_yes xs at' b o cap wr HB.out HSR.out hlx hn4').mono ?_; rintro e w2 ⟨rfl, h11⟩; rw [EZ.out]; have H11 : Hid _ := h11; clear h11)
        go_ret2
        exact ⟨_, [], by rw [E.out.1]; rfl, by rw [E.out.2]; exact OL.nil _ _, H10.out.trans (H11.out.mono hZR.out)⟩
      · have hm : hasM (xs.drop at') = true := decide_eq_true (by rw [List.length_drop, hz]; omega)
        have gz : ¬ (xs.length : Int) - (at' : Int) - 4 < (z : Int) := by omega
        have hzl : at' + 4 + z ≤ xs.length := by omega
        have HY : Hid (dk xs (k + 1) = some (l ++ [(xs.drop (at' + 4)).take z], xs.drop (at' + 4 + z))) := by
          have := dk_yes HD.out hm
          unfold mem1 rest1 at this
          rw [hz, List.drop_drop, List.drop_drop, ← Nat.add_assoc] at this; exact this
        have HU : Hid (us.length = k) := H9.out.len.trans HI.out.1
        have HM : Hid (Sl w (.slice (if cap = at' + 4 then some ⟨b, o, none⟩ else some ⟨b, o + (at' + 4), none⟩) z (cap - (at' + 4))) ((xs.drop (at' + 4)).take z)) := HS.out.mid (at' + 4) z (by omega)
        have HML : Hid (((xs.drop (at' + 4)).take z).length = z) := by show ((xs.drop (at' + 4)).take z).length = z; rw [List.length_take, List.length_drop]; omega
        obtain ⟨M, hMM⟩ : ∃ M, (xs.drop (at' + 4)).take z = M := ⟨_, rfl⟩
        rw [hMM] at HY HM HML
        clear hm hz hMM
        go_wp2_with (first
          | (go_at_call 74; refine (number_yes xs at' b o cap wr HB.out HSR.out hlx hn4').mono ?_; rintro e w2 ⟨rfl, h11⟩; rw [EZ.out]; have H11 : Hid (Below wr.heap.size wr w2) := h11; clear h11)
          | (at_builtin; refine app_u8 (B0 := w2.heap.size) rfl (.tmp 37) (.tmp 45) rfl (by simp) _ [] rfl (Ow.lit w2 [] #[] 0 rfl rfl (by simp)) _ rfl M (by show Sl _ (.slice (if cap = at' + 4 then some ⟨b, o, none⟩ else some ⟨b, o + (at' + 4), none⟩) (at' + 4 + z - (at' + 4)) (cap - (at' + 4))) M; rw [show at' + 4 + z - (at' + 4) = z by omega]; exact HM.out.below ((H10.out.trans (H11.out.mono hZR.out)).alloc (Nat.le_trans hZR.out H11.out.size) _) (Nat.le_refl _)) (by rw [HML.out]; simp; omega) ?_; intro v1 w3 h1 h2 h3 h4; rw [List.nil_append] at h1; obtain ⟨ad1, cp1, hv1, -, -⟩ := h1.sl; rw [HML.out] at hv1; subst hv1; have H15 : Hid (Ow w2.heap.size w3 (.slice ad1 z cp1) M) := h1; have H16 : Hid (Below w2.heap.size w2 w3) := ((Below.refl _ w2).alloc (Nat.le_refl _) _).trans h3; clear h1 h2 h3 h4)
          | (at_builtin; refine app_sl (B0 := w.heap.size) rfl (.tmp 36) (.tmp 47) rfl (by have h1 := H11.out.size; have h2 := hZR.out; have h3 := H16.out.size; simp; omega) _ us l rfl (((H9.out.below H11.out).below H16.out).alloc _) (.slice ad1 z cp1) M ⟨w3.heap.size, 0, none⟩ 1 rfl (cell_alloc w3 #[.slice ad1 z cp1] _ _ 0) ((H15.out.mono (Nat.le_trans hZR.out H11.out.size)).alloc _) (fun b hb => ⟨by have := H15.out.lt b hb; simp; omega, fun e => by have h1 := H15.out.blk b hb; have h2 := (H9.out.blk b e).2; have h3 := H11.out.size; omega⟩) (fun b hb i u' hi e => by have h1 := H15.out.blk b hb; have h2 := (H9.out.apart i u' hi b e).1; have h3 := H11.out.size; omega) (by rw [HU.out]; omega) ?_; intro v4 w4 h4 h5 h6; have H20 : Hid (OL w.heap.size w4 v4 _ (l ++ [M])) := h4; have B34 : Hid (Below w.heap.size w3 w4) := ((Below.refl _ w3).alloc (by have h1 := H11.out.size; have h2 := hZR.out; have h3 := H16.out.size; omega) _).trans h6; clear h4 h5 h6))
        have Z1 : Hid (w.heap.size ≤ w2.heap.size) := Nat.le_trans hZR.out H11.out.size
        exact ⟨⟨k + 1, at' + 4 + z, _, _, hlt, by go_num, hzl, by go_num, HY.out, H20.out, H10.out.trans ((H11.out.mono hZR.out).trans ((H16.out.mono Z1.out).trans B34.out))⟩, by simp [intOf]; omega⟩
    · obtain rfl : k = c := by omega
      by_cases hr : at' = xs.length
      · have E : Hid _ := dec_ok HLG.out hform.out (by rw [EC'.out]; exact HD.out) (by rw [List.length_drop]; omega)
        subst hr
        go_wp2
        go_ret2
        exact ⟨_, us, by rw [E.out.1]; rfl, by rw [E.out.2]; exact H9.out, H10.out⟩
      · have E : Hid _ := dec_rest HLG.out hform.out (by rw [EC'.out]; exact HD.out) (by rw [List.length_drop]; omega)
        have gr : ¬ ((at' : Int) = (xs.length : Int)) := by omega
        go_wp2
        go_ret2
        exact ⟨_, [], by rw [E.out.1]; rfl, by rw [E.out.2]; exact OL.nil _ _, H10.out⟩
end Go.Proofs.Ytfnmdeekenjlgaa
