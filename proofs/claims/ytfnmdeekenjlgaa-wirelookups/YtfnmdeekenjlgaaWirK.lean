/- Decode. -/
import Derived.Test.YtfnmdeekenjlgaaWirJ
namespace Go.Proofs.Ytfnmdeekenjlgaa
open Go Go.RowKit
set_option linter.unusedSimpArgs false
set_option linter.unusedVariables false

/-- The member at the beginning, and what is behind it. -/
def mem1 (r : List Int) : List Int := (r.drop 4).take (cnt r)
def rest1 (r : List Int) : List Int := r.drop (4 + cnt r)
/-- Behind k members. -/
def dk (xs : List Int) : Nat → Option (List (List Int) × List Int)
  | 0 => some ([], xs.drop 4)
  | k + 1 => (dk xs k).bind fun p => if hasM p.2 = true then some (p.1 ++ [mem1 p.2], rest1 p.2) else none
theorem dk_yes {xs : List Int} {k : Nat} {l : List (List Int)} {r : List Int} (h : dk xs k = some (l, r)) (hm : hasM r = true) : dk xs (k + 1) = some (l ++ [mem1 r], rest1 r) := by
  simp only [dk, h, Option.bind_some, hm, if_true]
theorem dk_no {xs : List Int} {k : Nat} {l : List (List Int)} {r : List Int} (h : dk xs k = some (l, r)) (hm : hasM r = false) : ∀ j, dk xs (k + 1 + j) = none
  | 0 => by simp only [dk, h, Option.bind_some, hm]; rfl
  | j + 1 => by rw [← Nat.add_assoc]; simp only [dk, dk_no h hm j, Option.bind_none]
theorem dk_inv {xs : List Int} (hb : Byt xs) : ∀ {k : Nat} {l : List (List Int)} {r : List Int}, dk xs k = some (l, r) → l.length = k ∧ Byt r ∧ r.length ≤ xs.length ∧ (∀ m ∈ l, Byt m ∧ m.length ≤ xs.length)
  | 0, l, r, h => by
    simp only [dk, Option.some.injEq, Prod.mk.injEq] at h
    obtain ⟨rfl, rfl⟩ := h
    exact ⟨rfl, hb.drop 4, by rw [List.length_drop]; omega, fun m hm => by cases hm⟩
  | k + 1, l, r, h => by
    simp only [dk] at h
    cases hd : dk xs k with
    | none => rw [hd] at h; cases h
    | some p =>
      obtain ⟨l', r'⟩ := p
      rw [hd] at h
      obtain ⟨h1, h2, h3, h4⟩ := dk_inv hb hd
      simp only [Option.bind_some] at h
      split at h
      · simp only [Option.some.injEq, Prod.mk.injEq] at h
        obtain ⟨rfl, rfl⟩ := h
        refine ⟨by simp [h1], h2.drop _, by unfold rest1; rw [List.length_drop]; omega, fun m hm => ?_⟩
        rcases List.mem_append.1 hm with hm | hm
        · exact h4 m hm
        · simp at hm; subst hm
          exact ⟨(h2.drop 4).take _, by unfold mem1; rw [List.length_take, List.length_drop]; omega⟩
      · cases h
/-- What Decode answers. -/
def decP (xs : List Int) : Int × List (List Int) :=
  if 1048576 < xs.length then (6, []) else
  if xs.length < 4 ∨ 65536 < cnt xs then (2, []) else
  match dk xs (cnt xs) with
  | none => (2, [])
  | some (l, r) => if r.length = 0 then (0, l) else (2, [])
def decE (xs : List Int) : Int := (decP xs).1
def decL (xs : List Int) : List (List Int) := (decP xs).2
theorem dec_large {xs : List Int} (h : 1048576 < xs.length) : decE xs = 6 ∧ decL xs = [] := by unfold decE decL decP; rw [if_pos h]; exact ⟨rfl, rfl⟩
theorem dec_form {xs : List Int} (h : ¬ 1048576 < xs.length) (h' : xs.length < 4 ∨ 65536 < cnt xs) : decE xs = 2 ∧ decL xs = [] := by unfold decE decL decP; rw [if_neg h, if_pos h']; exact ⟨rfl, rfl⟩
theorem dec_none {xs : List Int} (h : ¬ 1048576 < xs.length) (h' : ¬ (xs.length < 4 ∨ 65536 < cnt xs)) (hd : dk xs (cnt xs) = none) : decE xs = 2 ∧ decL xs = [] := by
  unfold decE decL decP; rw [if_neg h, if_neg h', hd]; exact ⟨rfl, rfl⟩
theorem dec_rest {xs : List Int} {l : List (List Int)} {r : List Int} (h : ¬ 1048576 < xs.length) (h' : ¬ (xs.length < 4 ∨ 65536 < cnt xs)) (hd : dk xs (cnt xs) = some (l, r)) (hr : r.length ≠ 0) : decE xs = 2 ∧ decL xs = [] := by
  unfold decE decL decP; rw [if_neg h, if_neg h', hd]; simp [hr]
theorem dec_ok {xs : List Int} {l : List (List Int)} {r : List Int} (h : ¬ 1048576 < xs.length) (h' : ¬ (xs.length < 4 ∨ 65536 < cnt xs)) (hd : dk xs (cnt xs) = some (l, r)) (hr : r.length = 0) : decE xs = 0 ∧ decL xs = l := by
  unfold decE decL decP; rw [if_neg h, if_neg h', hd]; simp [hr]
set_option maxHeartbeats 1000000 in
theorem decode_any (xs : List Int) (v : Value) (w : World) (hb : Byt xs) (hs : Sl w v xs) (hl : xs.length ≤ 140737488355328) :
    Calls Try.prog 60 #[v] w fun e w' => ∃ v' us, e = .returned (.tuple #[v', .int .i64 (decE xs)]) ∧ OL w.heap.size w' v' us (decL xs) ∧ Below w.heap.size w w' := by
  have HS : Hid (Sl w v xs) := hs
  have HB : Hid (Byt xs) := hb
  by_cases hlarge : 1048576 < xs.length
  · have E : Hid _ := dec_large hlarge
    obtain ⟨ad, cap, rfl, -, -⟩ := hs
    have g : (1048576 : Int) < (xs.length : Int) := by omega
    clear hb
    go_enter Try.func60, Try.ntmps60
    go_wp2
    go_ret2
    exact ⟨_, [], by rw [E.out.1]; rfl, by rw [E.out.2]; exact OL.nil _ _, Below.refl _ _⟩
  have g0 : ¬ (1048576 : Int) < (xs.length : Int) := by omega
  by_cases h4 : xs.length < 4
  · have E : Hid _ := dec_form hlarge (.inl h4)
    obtain ⟨ad, cap, rfl, -, -⟩ := hs
    clear hb
    go_enter Try.func60, Try.ntmps60
    go_wp2_with (go_at_call 68; refine (cutCount_no xs _ w HS.out h4).mono ?_; rintro e w' ⟨rfl, rfl⟩)
    go_ret2
    exact ⟨_, [], by rw [E.out.1]; rfl, by rw [E.out.2]; exact OL.nil _ _, Below.refl _ _⟩
  obtain ⟨b, o, cap, rfl, hc, hbw⟩ := hs.lies (by omega)
  have HBW : Hid (b < w.heap.size) := hbw
  clear hbw
  have h4' : 4 ≤ xs.length := by omega
  obtain ⟨c, hcc⟩ : ∃ c, cnt xs = c := ⟨_, rfl⟩
  have EC : Hid (cnt xs = c) := hcc
  by_cases hcb : 65536 < c
  · have E : Hid _ := dec_form hlarge (.inr (by rw [hcc]; exact hcb))
    have g1 : (65536 : Int) < (c : Int) := by omega
    clear hb hs hcc
    go_enter Try.func60, Try.ntmps60
    go_wp2_with (go_at_call 68; refine (cutCount_yes xs b o cap w HB.out HS.out h4' hc).mono ?_; rintro e w1 ⟨⟨o1, rfl, h6⟩, h7⟩; rw [EC.out]; have H7 : Hid _ := h7; clear h6 h7)
    go_ret2
    exact ⟨_, [], by rw [E.out.1]; rfl, by rw [E.out.2]; exact OL.nil _ _, H7.out⟩
  have g1 : ¬ (65536 : Int) < (c : Int) := by omega
  have hform : Hid (¬ (xs.length < 4 ∨ 65536 < cnt xs)) := by show ¬ (xs.length < 4 ∨ 65536 < cnt xs); rw [hcc]; omega
  have HLG : Hid (¬ 1048576 < xs.length) := hlarge
  clear hb hs hcc
  go_enter Try.func60, Try.ntmps60
  go_wp2_with (go_at_call 68; refine (cutCount_yes xs b o cap w HB.out HS.out h4' hc).mono ?_; rintro e w1 ⟨⟨o1, rfl, h6⟩, h7⟩; rw [EC.out]; have H6 : Hid _ := h6; have H7 : Hid _ := h7; clear h6 h7)
  go_loopw [5, 7, 25] (fun rv lv i wr => ∃ (k : Nat) (l : List (List Int)) (r : List Int) (us : List Value), k ≤ c ∧ i = .int .u64 (k : Int) ∧ dk xs k = some (l, r) ∧ Sl wr rv r ∧ rv.ownBlock = some b ∧ OL w.heap.size wr lv us l ∧ Below w.heap.size w wr) (fun _ _ i _ => c - (intOf i).toNat)
  case atStart => exact ⟨0, [], _, [], Nat.zero_le _, rfl, rfl, H6.out, rfl, OL.nil _ _, H7.out⟩
  case round =>
    obtain ⟨k, l, r, us, hk, rfl, hd, h8, h8b, h9, h10⟩ := hrel
    have H8B : Hid (Value.ownBlock _ = some b) := h8b
    clear h8b
    have HD : Hid (dk xs k = some (l, r)) := hd
    have H8 : Hid (Sl wr _ r) := h8
    have H9 : Hid (OL w.heap.size wr _ us l) := h9
    have H10 : Hid (Below w.heap.size w wr) := h10
    have HI : Hid _ := dk_inv HB.out hd
    clear hd h9 h10 H6 H7
    have hrl : r.length ≤ 1048576 := by have := HI.out.2.2.1; have := HLG.out; omega
    by_cases hlt : k < c
    · have gk : (k : Int) < (c : Int) := by omega
      have hZR : Hid (w.heap.size ≤ wr.heap.size) := H10.out.size
      cases hm : hasM r with
      | false =>
        have E : Hid _ := dec_none HLG.out hform.out (by rw [EC.out, show c = k + 1 + (c - (k + 1)) by omega]; exact dk_no HD.out hm _)
        clear h8
        go_wp2_with (go_at_call 69; refine (cutMember_no r _ wr HI.out.2.1 H8.out hrl hm).mono ?_; rintro e w2 ⟨rfl, h11⟩; have H11 : Hid _ := h11; clear h11)
        go_ret2
        exact ⟨_, [], by rw [E.out.1]; rfl, by rw [E.out.2]; exact OL.nil _ _, H10.out.trans (H11.out.mono hZR.out)⟩
      | true =>
        have HY : Hid _ := dk_yes HD.out hm
        have HU : Hid (us.length = k) := H9.out.len.trans HI.out.1
        have HML : Hid ((mem1 r).length ≤ 1048576) := by show ((r.drop 4).take (cnt r)).length ≤ 1048576; rw [List.length_take, List.length_drop]; omega
        clear h8
        go_wp2_with (first
          | (go_at_call 69; refine (cutMember_yes r _ wr HI.out.2.1 H8.out hrl hm).mono ?_; rintro e w2 ⟨m, rr, rfl, h11, h12, h13, h13b, h14⟩; have H13B : Hid (rr.ownBlock = some b) := h13b.trans H8B.out; clear h13b; have H11 : Hid (Sl w2 m (mem1 r)) := h11; have H12 : Hid (Sl w2 rr (rest1 r)) := h12; have H13 : Hid _ := h13; have H14 : Hid (Below wr.heap.size wr w2) := h14; clear h11 h12 h13 h14)
          | (go_at_call 70; refine (clone_any (mem1 r) m w2 H11.out HML.out H13.out).mono ?_; rintro e w3 ⟨v3, rfl, h15, h16⟩; obtain ⟨ad3, cp3, hv3, -, -⟩ := h15.sl; subst hv3; have H15 : Hid (Ow w2.heap.size w3 (.slice ad3 (mem1 r).length cp3) (mem1 r)) := h15; have H16 : Hid (Below w2.heap.size w2 w3) := h16; clear h15 h16)
          | (at_builtin; refine app_sl (B0 := w.heap.size) rfl (.tmp 35) (.tmp 38) rfl (by have h1 := H14.out.size; have h2 := hZR.out; have h3 := H16.out.size; simp; omega) _ us l rfl (((H9.out.below H14.out).below H16.out).alloc _) (.slice ad3 (mem1 r).length cp3) (mem1 r) ⟨w3.heap.size, 0, none⟩ 1 rfl (cell_alloc w3 #[.slice ad3 (mem1 r).length cp3] _ _ 0) ((H15.out.mono (Nat.le_trans hZR.out H14.out.size)).alloc _) (fun b hb => ⟨by have := H15.out.lt b hb; simp; omega, fun e => by have h1 := H15.out.blk b hb; have h2 := (H9.out.blk b e).2; have h3 := H14.out.size; omega⟩) (fun b hb i u' hi e => by have h1 := H15.out.blk b hb; have h2 := (H9.out.apart i u' hi b e).1; have h3 := H14.out.size; omega) (by rw [HU.out]; omega) ?_; intro v4 w4 h4 h5 h6; have H20 : Hid (OL w.heap.size w4 v4 _ (l ++ [mem1 r])) := h4; have B34 : Hid (Below w.heap.size w3 w4) := ((Below.refl _ w3).alloc (by have h1 := H14.out.size; have h2 := hZR.out; have h3 := H16.out.size; omega) _).trans h6; clear h4 h5 h6))
        have Z1 : Hid (w.heap.size ≤ w2.heap.size) := Nat.le_trans hZR.out H14.out.size
        have S3 : Hid (Sl w4 rr (rest1 r)) := (H12.out.below H16.out (Nat.le_refl _)).keep B34.out.size (fun bb e => by rw [H13B.out] at e; cases e; exact B34.out.block b HBW.out)
        exact ⟨⟨k + 1, _, _, _, hlt, by go_num, HY.out, S3.out, H13B.out, H20.out, H10.out.trans ((H14.out.mono hZR.out).trans ((H16.out.mono Z1.out).trans B34.out))⟩, by simp [intOf]; omega⟩
    · obtain rfl : k = c := by omega
      obtain ⟨rad, rcp, rfl, -, -⟩ := h8
      by_cases hr : r.length = 0
      · have E : Hid _ := dec_ok HLG.out hform.out (by rw [EC.out]; exact HD.out) hr
        go_wp2
        go_ret2
        exact ⟨_, us, by rw [E.out.1]; rfl, by rw [E.out.2]; exact H9.out, H10.out⟩
      · have E : Hid _ := dec_rest HLG.out hform.out (by rw [EC.out]; exact HD.out) hr
        have gr : (0 : Int) < (r.length : Int) := by omega
        go_wp2
        go_ret2
        exact ⟨_, [], by rw [E.out.1]; rfl, by rw [E.out.2]; exact OL.nil _ _, H10.out⟩
end Go.Proofs.Ytfnmdeekenjlgaa
