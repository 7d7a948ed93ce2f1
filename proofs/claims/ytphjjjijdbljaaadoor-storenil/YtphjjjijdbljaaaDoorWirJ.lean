/- Cutting counts and members off: cutCount, cutMember, bytes.Clone. -/
import Derived.Test.YtphjjjijdbljaaaDoorWirF
import Derived.Deep.QuietTactic
import Derived.BigQuiet
import Derived.WalkSmall
namespace Go.Proofs.YtphjjjijdbljaaaDoor
open Go Go.RowKit
set_option linter.unusedSimpArgs false
set_option linter.unusedVariables false

theorem Byt.take {xs : List Int} (h : Byt xs) (n : Nat) : Byt (xs.take n) := fun z hz => h z (List.mem_of_mem_take hz)
theorem Byt.drop {xs : List Int} (h : Byt xs) (n : Nat) : Byt (xs.drop n) := fun z hz => h z (List.mem_of_mem_drop hz)
theorem pv_lt : ∀ xs : List Int, Byt xs → pv xs < 256 ^ xs.length
  | [], _ => by decide
  | x :: xs, h => by
    have h1 := pv_lt xs (fun z hz => h z (by simp [hz]))
    have h2 := (h x (by simp)).2
    have h3 : (0 : Int) < 256 ^ xs.length := Int.pow_pos (by decide)
    have h4 : x * 256 ^ xs.length ≤ 255 * 256 ^ xs.length := Int.mul_le_mul_of_nonneg_right h2 (Int.le_of_lt h3)
    simp only [pv, List.length_cons, Int.pow_succ]
    omega
/-- The count at the beginning. -/
def cnt (xs : List Int) : Nat := (nm (xs.take 4)).toNat
theorem cnt_nm {xs : List Int} (h : Byt xs) : nm (xs.take 4) = (cnt xs : Int) ∧ cnt xs < 4294967296 := by
  have hl : (xs.take 4).length ≤ 4 := by rw [List.length_take]; omega
  have e := nm_plain (xs.take 4) (h.take 4) (by omega)
  have h1 := pv_nonneg _ (h.take 4)
  have h2 := pv_lt _ (h.take 4)
  have h3 : (256 : Int) ^ (xs.take 4).length ≤ 256 ^ 4 := by
    have h := Nat.pow_le_pow_right (n := 256) (by decide) hl
    have h' : ((256 ^ (xs.take 4).length : Nat) : Int) ≤ ((256 ^ 4 : Nat) : Int) := Int.ofNat_le.2 h
    rw [Int.natCast_pow, Int.natCast_pow] at h'; exact h'
  have e4 : (256 : Int) ^ 4 = 4294967296 := by decide
  unfold cnt
  rw [e]
  omega
theorem gi_take {xs : List Int} {i n : Nat} (h : i < n) : gi (xs.take n) i = gi xs i := by
  unfold gi; simp only [List.getD_eq_getElem?_getD, List.getElem?_take, if_pos h]
theorem gi_drop {xs : List Int} {i n : Nat} : gi (xs.drop n) i = gi xs (n + i) := by
  unfold gi; simp only [List.getD_eq_getElem?_getD, List.getElem?_drop]
/-- A slice's beginning, and what is behind it. -/
theorem Sl.cut {w : World} {b o l cap : Nat} {xs : List Int} (h : Sl w (.slice (some ⟨b, o, none⟩) l cap) xs) (n : Nat) (hn : n ≤ l) :
    Sl w (.slice (some ⟨b, o, none⟩) n cap) (xs.take n) ∧ Sl w (.slice (if cap = n then some ⟨b, o, none⟩ else some ⟨b, o + n, none⟩) (l - n) (cap - n)) (xs.drop n) := by
  obtain ⟨ad, cap', hv, hc, h⟩ := h
  simp only [Value.slice.injEq] at hv
  obtain ⟨rfl, rfl, rfl⟩ := hv
  have l1 : (xs.take n).length = n := by rw [List.length_take]; omega
  have l2 : (xs.drop n).length = xs.length - n := List.length_drop ..
  refine ⟨⟨_, cap, by rw [l1], by rw [l1]; omega, ?_⟩, ⟨_, cap - n, by rw [l2], by rw [l2]; omega, ?_⟩⟩
  · rcases h with ⟨rfl, _⟩ | ⟨b', o', he, hlt, hm⟩
    · exact .inl ⟨by simp, fun e => by cases e⟩
    · simp only [Option.some.injEq, Addr.mk.injEq, and_true] at he
      obtain ⟨rfl, rfl⟩ := he
      exact .inr ⟨b, o, rfl, hlt, fun i hi => by rw [l1] at hi; rw [gi_take hi]; exact hm i (by omega)⟩
  · rcases h with ⟨rfl, _⟩ | ⟨b', o', he, hlt, hm⟩
    · exact .inl ⟨by simp, fun e => by split at e <;> cases e⟩
    · simp only [Option.some.injEq, Addr.mk.injEq, and_true] at he
      obtain ⟨rfl, rfl⟩ := he
      by_cases e : cap = n
      · rw [if_pos e]
        exact .inl ⟨List.drop_eq_nil_of_le (by omega), fun e => by cases e⟩
      · rw [if_neg e]
        exact .inr ⟨b, o + n, rfl, hlt, fun i hi => by rw [l2] at hi; rw [gi_drop, Nat.add_assoc]; exact hm (n + i) (by omega)⟩
/-- A slice that is not empty lies somewhere. -/
theorem Sl.lies {w : World} {v : Value} {xs : List Int} (h : Sl w v xs) (h0 : 0 < xs.length) : ∃ b o cap, v = .slice (some ⟨b, o, none⟩) xs.length cap ∧ xs.length ≤ cap ∧ b < w.heap.size := by
  obtain ⟨ad, cap, rfl, hc, h⟩ := h
  rcases h with ⟨rfl, _⟩ | ⟨b, o, rfl, hb, _⟩
  · simp at h0
  · exact ⟨b, o, cap, rfl, hc, hb⟩
set_option maxHeartbeats 1000000 in
theorem cutCount_no (xs : List Int) (v : Value) (w : World) (hs : Sl w v xs) (hl : xs.length < 4) :
    Calls Tryd.prog 63 #[v] w fun e w' => e = .returned (.tuple #[.int .u64 0, .slice none 0 0, .bool false]) ∧ w' = w := by
  obtain ⟨ad, cap, rfl, hc, -⟩ := hs
  have hl' : (xs.length : Int) < 4 := by omega
  go_enter Tryd.func63, Tryd.ntmps63
  go_wp2
  go_ret3
  exact ⟨rfl, rfl⟩
set_option maxHeartbeats 1000000 in
theorem cutCount_yes (xs : List Int) (b o cap : Nat) (w : World) (hb : Byt xs) (hs : Sl w (.slice (some ⟨b, o, none⟩) xs.length cap) xs) (hl : 4 ≤ xs.length) (hc : xs.length ≤ cap) :
    Calls Tryd.prog 63 #[.slice (some ⟨b, o, none⟩) xs.length cap] w fun e w' => (∃ o', e = .returned (.tuple #[.int .u64 (cnt xs : Int), .slice (some ⟨b, o', none⟩) (xs.length - 4) (cap - 4), .bool true]) ∧ Sl w' (.slice (some ⟨b, o', none⟩) (xs.length - 4) (cap - 4)) (xs.drop 4)) ∧ Below w.heap.size w w' := by
  have H1 : Hid _ := hs.cut 4 hl
  have HB : Hid (Byt (xs.take 4)) := hb.take 4
  have HC : Hid _ := (cnt_nm hb).1
  have HT : Hid ((xs.take 4).length = 4) := by show (xs.take 4).length = 4; rw [List.length_take]; omega
  have hl' : ¬ (xs.length : Int) < 4 := by omega
  clear hb hs
  go_enter Tryd.func63, Tryd.ntmps63
  go_wp2
  go_quiet ((go_at_call 71; refine Calls.quiet_of_same ((numberOf_any (xs.take 4) _ _ HB.out H1.out.1 (by rw [HT.out]; omega)))))
  have hbd : Below w.heap.size w (w.drewN nq) := below_drewN (Below.refl _ _) nq
  have HS2 : Hid (Sl (w.drewN nq) _ (xs.drop 4)) := H1.out.2.below hbd (Nat.le_refl _)
  rw [HC.out]
  by_cases h4 : cap = 4
  · rw [if_pos h4] at HS2
    subst h4
    rw [Nat.sub_self, show xs.length - 4 = 0 by omega] at HS2
    have HD : Hid _ := hbd
    clear hbd
    go_wp2
    go_ret3
    exact ⟨⟨o, rfl, HS2.out⟩, HD.out⟩
  · rw [if_neg h4] at HS2
    have HD : Hid _ := hbd
    clear hbd
    go_wp2
    go_ret3
    exact ⟨⟨o + 4, rfl, HS2.out⟩, HD.out⟩
/-- A member at the beginning: there, and what is behind it. -/
def hasM (xs : List Int) : Bool := decide (4 ≤ xs.length ∧ cnt xs ≤ xs.length - 4)
set_option maxHeartbeats 1000000 in
theorem cutMember_no (xs : List Int) (v : Value) (w : World) (hb : Byt xs) (hs : Sl w v xs) (hl : xs.length ≤ 1048576) (hm : hasM xs = false) :
    Calls Tryd.prog 64 #[v] w fun e w' => e = .returned (.tuple #[.slice none 0 0, .slice none 0 0, .bool false]) ∧ Below w.heap.size w w' := by
  by_cases h4 : xs.length < 4
  · have HS : Hid (Sl w v xs) := hs
    obtain ⟨ad, cap, rfl, hc, -⟩ := hs
    clear hm hb
    go_enter Tryd.func64, Tryd.ntmps64
    go_wp2_with (go_at_call 63; refine (cutCount_no xs _ w HS.out h4).mono ?_; rintro e w' ⟨rfl, rfl⟩)
    go_ret3
    exact ⟨rfl, Below.refl _ _⟩
  · have HS : Hid (Sl w v xs) := hs
    obtain ⟨b, o, cap, rfl, hc, -⟩ := hs.lies (by omega)
    have hcn : xs.length - 4 < cnt xs := by
      have := of_decide_eq_false hm; omega
    have h4' : 4 ≤ xs.length := by omega
    have HC : Hid _ := cnt_nm hb
    have HB : Hid (Byt xs) := hb
    obtain ⟨c, hcc⟩ : ∃ c, cnt xs = c := ⟨_, rfl⟩
    have h5 : (cnt xs) < 4294967296 := HC.out.2
    have E : Hid (cnt xs = c) := hcc
    rw [hcc] at hcn h5
    have g1 : (xs.length : Int) - 4 < (c : Int) := by omega
    clear hm hb hs hcc
    go_enter Tryd.func64, Tryd.ntmps64
    go_wp2_with (go_at_call 63; refine (cutCount_yes xs b o cap w HB.out HS.out h4' hc).mono ?_; rintro e w1 ⟨⟨o1, rfl, h6⟩, h7⟩; rw [E.out]; have H7 : Hid _ := h7; clear h6 h7)
    go_ret3
    exact ⟨rfl, H7.out⟩
set_option maxHeartbeats 1000000 in
theorem cutMember_yes (xs : List Int) (v : Value) (w : World) (hb : Byt xs) (hs : Sl w v xs) (hl : xs.length ≤ 1048576) (hm : hasM xs = true) :
    Calls Tryd.prog 64 #[v] w fun e w' => ∃ m r, e = .returned (.tuple #[m, r, .bool true]) ∧ Sl w' m ((xs.drop 4).take (cnt xs)) ∧ Sl w' r (xs.drop (4 + cnt xs)) ∧ (∃ ad l c, m = .slice (some ad) l c) ∧ r.ownBlock = v.ownBlock ∧ Below w.heap.size w w' := by
  have hcn := of_decide_eq_true hm
  obtain ⟨h4, hcn⟩ := hcn
  have HS : Hid (Sl w v xs) := hs
  obtain ⟨b, o, cap, rfl, hc, -⟩ := hs.lies (by omega)
  have HB : Hid (Byt xs) := hb
  obtain ⟨c, hcc⟩ : ∃ c, cnt xs = c := ⟨_, rfl⟩
  have E : Hid (cnt xs = c) := hcc
  rw [hcc] at hcn ⊢
  have g1 : ¬ (xs.length : Int) - 4 < (c : Int) := by omega
  clear hm hb hs hcc
  go_enter Tryd.func64, Tryd.ntmps64
  go_wp2_with (go_at_call 63; refine (cutCount_yes xs b o cap w HB.out HS.out h4 hc).mono ?_; rintro e w1 ⟨⟨o1, rfl, h6⟩, h7⟩; rw [E.out]; have H6 : Hid _ := h6.cut c hcn; have H7 : Hid _ := h7; clear h6 h7)
  go_quiet (fail)
  rw [List.drop_drop] at H6
  obtain ⟨o2, hR⟩ : ∃ o2, (if cap - 4 = c then some (⟨b, o1, none⟩ : Addr) else some ⟨b, o1 + c, none⟩) = some ⟨b, o2, none⟩ := by split <;> exact ⟨_, rfl⟩
  rw [hR] at H6 ⊢
  obtain ⟨L1, hL1⟩ : ∃ L1, xs.length - 4 - c = L1 := ⟨_, rfl⟩
  obtain ⟨C1, hC1⟩ : ∃ C1, cap - 4 - c = C1 := ⟨_, rfl⟩
  obtain ⟨C2, hC2⟩ : ∃ C2, cap - 4 = C2 := ⟨_, rfl⟩
  rw [hL1, hC1, hC2] at H6
  rw [hL1, hC1, hC2]
  clear hR hL1 hC1 hC2 g1 h4 hc hcn hl
  have HD : Hid (Below w1.heap.size w1 (w1.drewN nq)) := below_drewN (Below.refl _ _) nq
  go_wp2
  go_ret3
  exact ⟨_, _, rfl, H6.out.1.below HD.out (Nat.le_refl _), H6.out.2.below HD.out (Nat.le_refl _), ⟨_, _, _, rfl⟩, rfl, H7.out.trans (HD.out.mono H7.out.size)⟩
theorem not_nil (ad : Addr) (l c : Nat) (w : World) : (binOp .eql 71 (.slice (some ad) l c) (.slice none 0 0)).run Tryd.prog w = .ok (.bool false) w := by kernel_rfl
set_option maxHeartbeats 1000000 in
/-- A copy. -/
theorem clone_any (xs : List Int) (v : Value) (w : World) (hs : Sl w v xs) (hl : xs.length ≤ 1048576) (hv : ∃ ad l c, v = .slice (some ad) l c) :
    Calls Tryd.prog 30 #[v] w fun e w' => ∃ v', e = .returned v' ∧ Ow w.heap.size w' v' xs ∧ Below w.heap.size w w' := by
  have HS : Hid (Sl w v xs) := hs
  obtain ⟨ad, l, c, rfl⟩ := hv
  obtain rfl : l = xs.length := by obtain ⟨_, _, h, _⟩ := hs; simp at h; exact h.2.1
  clear hs
  have hnn := not_nil ad xs.length c w
  go_enter Tryd.func30, Tryd.ntmps30
  go_wp2_with (at_builtin; refine app_u8 (B0 := w.heap.size) rfl _ _ rfl (by simp) _ [] rfl (Ow.lit w [] #[] 0 rfl rfl (by simp)) _ rfl xs (HS.out.below ((Below.refl _ w).alloc (Nat.le_refl _) _) (Nat.le_refl _)) (by simp; omega) ?_; intro v1 w1 h1 h2 h3 h4; rw [List.nil_append] at h1; have H1 : Hid (Ow w.heap.size w1 v1 xs) := h1; have H3 : Hid (Below w.heap.size w w1) := ((Below.refl _ w).alloc (Nat.le_refl _) _).trans h3; clear h1 h2 h3 h4)
  go_ret
  exact ⟨_, rfl, H1.out, H3.out⟩
end Go.Proofs.YtphjjjijdbljaaaDoor
/- Decode. -/
namespace Go.Proofs.YtphjjjijdbljaaaDoor
open Go Go.RowKit
set_option linter.unusedSimpArgs false
set_option linter.unusedVariables false

/-- The member at the beginning, and what is behind it. -/
def mem1 (r : List Int) : List Int := (r.drop 4).take (cnt r)
def rest1 (r : List Int) : List Int := r.drop (4 + cnt r)
/-- Behind k members. -/
def dk (xs : List Int) : Nat → Option (List (List Int) × List Int)
  | 0 => some ([], xs.drop 4)
  | k + 1 => (dk xs k).bind fun p => if hasM p.2 = true then some (p.1 ++ [mem1 p.2], rest1 p.2) else none
theorem dk_yes {xs : List Int} {k : Nat} {l : List (List Int)} {r : List Int} (h : dk xs k = some (l, r)) (hm : hasM r = true) : dk xs (k + 1) = some (l ++ [mem1 r], rest1 r) := by
  simp only [dk, h, Option.bind_some, hm, if_true]
theorem dk_no {xs : List Int} {k : Nat} {l : List (List Int)} {r : List Int} (h : dk xs k = some (l, r)) (hm : hasM r = false) : ∀ j, dk xs (k + 1 + j) = none
  | 0 => by simp only [dk, h, Option.bind_some, hm]; rfl
  | j + 1 => by rw [← Nat.add_assoc]; simp only [dk, dk_no h hm j, Option.bind_none]
theorem dk_inv {xs : List Int} (hb : Byt xs) : ∀ {k : Nat} {l : List (List Int)} {r : List Int}, dk xs k = some (l, r) → l.length = k ∧ Byt r ∧ r.length ≤ xs.length ∧ (∀ m ∈ l, Byt m ∧ m.length ≤ xs.length)
  | 0, l, r, h => by
    simp only [dk, Option.some.injEq, Prod.mk.injEq] at h
    obtain ⟨rfl, rfl⟩ := h
    exact ⟨rfl, hb.drop 4, by rw [List.length_drop]; omega, fun m hm => by cases hm⟩
  | k + 1, l, r, h => by
    simp only [dk] at h
    cases hd : dk xs k with
    | none => rw [hd] at h; cases h
    | some p =>
      obtain ⟨l', r'⟩ := p
      rw [hd] at h
      obtain ⟨h1, h2, h3, h4⟩ := dk_inv hb hd
      simp only [Option.bind_some] at h
      split at h
      · simp only [Option.some.injEq, Prod.mk.injEq] at h
        obtain ⟨rfl, rfl⟩ := h
        refine ⟨by simp [h1], h2.drop _, by unfold rest1; rw [List.length_drop]; omega, fun m hm => ?_⟩
        rcases List.mem_append.1 hm with hm | hm
        · exact h4 m hm
        · simp at hm; subst hm
          exact ⟨(h2.drop 4).take _, by unfold mem1; rw [List.length_take, List.length_drop]; omega⟩
      · cases h
/-- What Decode answers. -/
def decP (xs : List Int) : Int × List (List Int) :=
  if 1048576 < xs.length then (6, []) else
  if xs.length < 4 ∨ 65536 < cnt xs then (2, []) else
  match dk xs (cnt xs) with
  | none => (2, [])
  | some (l, r) => if r.length = 0 then (0, l) else (2, [])
def decE (xs : List Int) : Int := (decP xs).1
def decL (xs : List Int) : List (List Int) := (decP xs).2
theorem dec_large {xs : List Int} (h : 1048576 < xs.length) : decE xs = 6 ∧ decL xs = [] := by unfold decE decL decP; rw [if_pos h]; exact ⟨rfl, rfl⟩
theorem dec_form {xs : List Int} (h : ¬ 1048576 < xs.length) (h' : xs.length < 4 ∨ 65536 < cnt xs) : decE xs = 2 ∧ decL xs = [] := by unfold decE decL decP; rw [if_neg h, if_pos h']; exact ⟨rfl, rfl⟩
theorem dec_none {xs : List Int} (h : ¬ 1048576 < xs.length) (h' : ¬ (xs.length < 4 ∨ 65536 < cnt xs)) (hd : dk xs (cnt xs) = none) : decE xs = 2 ∧ decL xs = [] := by
  unfold decE decL decP; rw [if_neg h, if_neg h', hd]; exact ⟨rfl, rfl⟩
theorem dec_rest {xs : List Int} {l : List (List Int)} {r : List Int} (h : ¬ 1048576 < xs.length) (h' : ¬ (xs.length < 4 ∨ 65536 < cnt xs)) (hd : dk xs (cnt xs) = some (l, r)) (hr : r.length ≠ 0) : decE xs = 2 ∧ decL xs = [] := by
  unfold decE decL decP; rw [if_neg h, if_neg h', hd]; simp [hr]
theorem dec_ok {xs : List Int} {l : List (List Int)} {r : List Int} (h : ¬ 1048576 < xs.length) (h' : ¬ (xs.length < 4 ∨ 65536 < cnt xs)) (hd : dk xs (cnt xs) = some (l, r)) (hr : r.length = 0) : decE xs = 0 ∧ decL xs = l := by
  unfold decE decL decP; rw [if_neg h, if_neg h', hd]; simp [hr]
set_option maxHeartbeats 1000000 in
theorem decode_any (xs : List Int) (v : Value) (w : World) (hb : Byt xs) (hs : Sl w v xs) (hl : xs.length ≤ 140737488355328) :
    Calls Tryd.prog 46 #[v] w fun e w' => ∃ v' us, e = .returned (.tuple #[v', .int .i64 (decE xs)]) ∧ OL w.heap.size w' v' us (decL xs) ∧ Below w.heap.size w w' := by
  have HS : Hid (Sl w v xs) := hs
  have HB : Hid (Byt xs) := hb
  by_cases hlarge : 1048576 < xs.length
  · have E : Hid _ := dec_large hlarge
    obtain ⟨ad, cap, rfl, -, -⟩ := hs
    have g : (1048576 : Int) < (xs.length : Int) := by omega
    clear hb
    go_enter Tryd.func46, Tryd.ntmps46
    go_wp2
    go_ret2
    exact ⟨_, [], by rw [E.out.1]; rfl, by rw [E.out.2]; exact OL.nil _ _, Below.refl _ _⟩
  have g0 : ¬ (1048576 : Int) < (xs.length : Int) := by omega
  by_cases h4 : xs.length < 4
  · have E : Hid _ := dec_form hlarge (.inl h4)
    obtain ⟨ad, cap, rfl, -, -⟩ := hs
    clear hb
    go_enter Tryd.func46, Tryd.ntmps46
    go_wp2_with (go_at_call 63; refine (cutCount_no xs _ w HS.out h4).mono ?_; rintro e w' ⟨rfl, rfl⟩)
    go_ret2
    exact ⟨_, [], by rw [E.out.1]; rfl, by rw [E.out.2]; exact OL.nil _ _, Below.refl _ _⟩
  obtain ⟨b, o, cap, rfl, hc, hbw⟩ := hs.lies (by omega)
  have HBW : Hid (b < w.heap.size) := hbw
  clear hbw
  have h4' : 4 ≤ xs.length := by omega
  obtain ⟨c, hcc⟩ : ∃ c, cnt xs = c := ⟨_, rfl⟩
  have EC : Hid (cnt xs = c) := hcc
  by_cases hcb : 65536 < c
  · have E : Hid _ := dec_form hlarge (.inr (by rw [hcc]; exact hcb))
    have g1 : (65536 : Int) < (c : Int) := by omega
    clear hb hs hcc
    go_enter Tryd.func46, Tryd.ntmps46
    go_wp2_with (go_at_call 63; refine (cutCount_yes xs b o cap w HB.out HS.out h4' hc).mono ?_; rintro e w1 ⟨⟨o1, rfl, h6⟩, h7⟩; rw [EC.out]; have H7 : Hid _ := h7; clear h6 h7)
    go_ret2
    exact ⟨_, [], by rw [E.out.1]; rfl, by rw [E.out.2]; exact OL.nil _ _, H7.out⟩
  have g1 : ¬ (65536 : Int) < (c : Int) := by omega
  have hform : Hid (¬ (xs.length < 4 ∨ 65536 < cnt xs)) := by show ¬ (xs.length < 4 ∨ 65536 < cnt xs); rw [hcc]; omega
  have HLG : Hid (¬ 1048576 < xs.length) := hlarge
  clear hb hs hcc
  go_enter Tryd.func46, Tryd.ntmps46
  go_wp2_with (go_at_call 63; refine (cutCount_yes xs b o cap w HB.out HS.out h4' hc).mono ?_; rintro e w1 ⟨⟨o1, rfl, h6⟩, h7⟩; rw [EC.out]; have H6 : Hid _ := h6; have H7 : Hid _ := h7; clear h6 h7)
  go_loopw [5, 7, 25] (fun rv lv i wr => ∃ (k : Nat) (l : List (List Int)) (r : List Int) (us : List Value), k ≤ c ∧ i = .int .u64 (k : Int) ∧ dk xs k = some (l, r) ∧ Sl wr rv r ∧ rv.ownBlock = some b ∧ OL w.heap.size wr lv us l ∧ Below w.heap.size w wr) (fun _ _ i _ => c - (intOf i).toNat)
  case atStart => exact ⟨0, [], _, [], Nat.zero_le _, rfl, rfl, H6.out, rfl, OL.nil _ _, H7.out⟩
  case round =>
    obtain ⟨k, l, r, us, hk, rfl, hd, h8, h8b, h9, h10⟩ := hrel
    have H8B : Hid (Value.ownBlock _ = some b) := h8b
    clear h8b
    have HD : Hid (dk xs k = some (l, r)) := hd
    have H8 : Hid (Sl wr _ r) := h8
    have H9 : Hid (OL w.heap.size wr _ us l) := h9
    have H10 : Hid (Below w.heap.size w wr) := h10
    have HI : Hid _ := dk_inv HB.out hd
    clear hd h9 h10 H6 H7
    have hrl : r.length ≤ 1048576 := by have := HI.out.2.2.1; have := HLG.out; omega
    by_cases hlt : k < c
    · have gk : (k : Int) < (c : Int) := by omega
      have hZR : Hid (w.heap.size ≤ wr.heap.size) := H10.out.size
      cases hm : hasM r with
      | false =>
        have E : Hid _ := dec_none HLG.out hform.out (by rw [EC.out, show c = k + 1 + (c - (k + 1)) by omega]; exact dk_no HD.out hm _)
        clear h8
        go_wp2_with (go_at_call 64; refine (cutMember_no r _ wr HI.out.2.1 H8.out hrl hm).mono ?_; rintro e w2 ⟨rfl, h11⟩; have H11 : Hid _ := h11; clear h11)
        go_ret2
        exact ⟨_, [], by rw [E.out.1]; rfl, by rw [E.out.2]; exact OL.nil _ _, H10.out.trans (H11.out.mono hZR.out)⟩
      | true =>
        have HY : Hid _ := dk_yes HD.out hm
        have HU : Hid (us.length = k) := H9.out.len.trans HI.out.1
        have HML : Hid ((mem1 r).length ≤ 1048576) := by show ((r.drop 4).take (cnt r)).length ≤ 1048576; rw [List.length_take, List.length_drop]; omega
        clear h8
        go_wp2_with (first
          | (go_at_call 64; refine (cutMember_yes r _ wr HI.out.2.1 H8.out hrl hm).mono ?_; rintro e w2 ⟨m, rr, rfl, h11, h12, h13, h13b, h14⟩; have H13B : Hid (rr.ownBlock = some b) := h13b.trans H8B.out; clear h13b; have H11 : Hid (Sl w2 m (mem1 r)) := h11; have H12 : Hid (Sl w2 rr (rest1 r)) := h12; have H13 : Hid _ := h13; have H14 : Hid (Below wr.heap.size wr w2) := h14; clear h11 h12 h13 h14)
          | (go_at_call 30; refine (clone_any (mem1 r) m w2 H11.out HML.out H13.out).mono ?_; rintro e w3 ⟨v3, rfl, h15, h16⟩; obtain ⟨ad3, cp3, hv3, -, -⟩ := h15.sl; subst hv3; have H15 : Hid (Ow w2.heap.size w3 (.slice ad3 (mem1 r).length cp3) (mem1 r)) := h15; have H16 : Hid (Below w2.heap.size w2 w3) := h16; clear h15 h16)
          | (at_builtin; refine app_sl (B0 := w.heap.size) rfl (.tmp 35) (.tmp 38) rfl (by have h1 := H14.out.size; have h2 := hZR.out; have h3 := H16.out.size; simp; omega) _ us l rfl (((H9.out.below H14.out).below H16.out).alloc _) (.slice ad3 (mem1 r).length cp3) (mem1 r) ⟨w3.heap.size, 0, none⟩ 1 rfl (cell_alloc w3 #[.slice ad3 (mem1 r).length cp3] _ _ 0) ((H15.out.mono (Nat.le_trans hZR.out H14.out.size)).alloc _) (fun b hb => ⟨by have := H15.out.lt b hb; simp; omega, fun e => by have h1 := H15.out.blk b hb; have h2 := (H9.out.blk b e).2; have h3 := H14.out.size; omega⟩) (fun b hb i u' hi e => by have h1 := H15.out.blk b hb; have h2 := (H9.out.apart i u' hi b e).1; have h3 := H14.out.size; omega) (by rw [HU.out]; omega) ?_; intro v4 w4 h4 h5 h6; have H20 : Hid (OL w.heap.size w4 v4 _ (l ++ [mem1 r])) := h4; have B34 : Hid (Below w.heap.size w3 w4) := ((Below.refl _ w3).alloc (by have h1 := H14.out.size; have h2 := hZR.out; have h3 := H16.out.size; omega) _).trans h6; clear h4 h5 h6))
        have Z1 : Hid (w.heap.size ≤ w2.heap.size) := Nat.le_trans hZR.out H14.out.size
        have S3 : Hid (Sl w4 rr (rest1 r)) := (H12.out.below H16.out (Nat.le_refl _)).keep B34.out.size (fun bb e => by rw [H13B.out] at e; cases e; exact B34.out.block b HBW.out)
        exact ⟨⟨k + 1, _, _, _, hlt, by go_num, HY.out, S3.out, H13B.out, H20.out, H10.out.trans ((H14.out.mono hZR.out).trans ((H16.out.mono Z1.out).trans B34.out))⟩, by simp [intOf]; omega⟩
    · obtain rfl : k = c := by omega
      obtain ⟨rad, rcp, rfl, -, -⟩ := h8
      by_cases hr : r.length = 0
      · have E : Hid _ := dec_ok HLG.out hform.out (by rw [EC.out]; exact HD.out) hr
        go_wp2
        go_ret2
        exact ⟨_, us, by rw [E.out.1]; rfl, by rw [E.out.2]; exact H9.out, H10.out⟩
      · have E : Hid _ := dec_rest HLG.out hform.out (by rw [EC.out]; exact HD.out) hr
        have gr : (0 : Int) < (r.length : Int) := by omega
        go_wp2
        go_ret2
        exact ⟨_, [], by rw [E.out.1]; rfl, by rw [E.out.2]; exact OL.nil _ _, H10.out⟩
end Go.Proofs.YtphjjjijdbljaaaDoor
