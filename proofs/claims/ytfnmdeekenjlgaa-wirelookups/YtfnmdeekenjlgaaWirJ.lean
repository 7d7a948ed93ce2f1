/- Cutting counts and members off: cutCount, cutMember, bytes.Clone. -/
import Derived.Test.YtfnmdeekenjlgaaWirH
import Derived.Deep.QuietTactic
import Derived.BigQuiet
import Derived.WalkSmall
namespace Go.Proofs.Ytfnmdeekenjlgaa
open Go Go.RowKit
set_option linter.unusedSimpArgs false
set_option linter.unusedVariables false

theorem Byt.take {xs : List Int} (h : Byt xs) (n : Nat) : Byt (xs.take n) := fun z hz => h z (List.mem_of_mem_take hz)
theorem Byt.drop {xs : List Int} (h : Byt xs) (n : Nat) : Byt (xs.drop n) := fun z hz => h z (List.mem_of_mem_drop hz)
theorem pv_lt : ∀ xs : List Int, Byt xs → pv xs < 256 ^ xs.length
  | [], _ => by decide
  | x :: xs, h => by
    have h1 := pv_lt xs (fun z hz => h z (by simp [hz]))
    have h2 := (h x (by simp)).2
    have h3 : (0 : Int) < 256 ^ xs.length := Int.pow_pos (by decide)
    have h4 : x * 256 ^ xs.length ≤ 255 * 256 ^ xs.length := Int.mul_le_mul_of_nonneg_right h2 (Int.le_of_lt h3)
    simp only [pv, List.length_cons, Int.pow_succ]
    omega
/-- The count at the beginning. -/
def cnt (xs : List Int) : Nat := (nm (xs.take 4)).toNat
theorem cnt_nm {xs : List Int} (h : Byt xs) : nm (xs.take 4) = (cnt xs : Int) ∧ cnt xs < 4294967296 := by
  have hl : (xs.take 4).length ≤ 4 := by rw [List.length_take]; omega
  have e := nm_plain (xs.take 4) (h.take 4) (by omega)
  have h1 := pv_nonneg _ (h.take 4)
  have h2 := pv_lt _ (h.take 4)
  have h3 : (256 : Int) ^ (xs.take 4).length ≤ 256 ^ 4 := by
    have h := Nat.pow_le_pow_right (n := 256) (by decide) hl
    have h' : ((256 ^ (xs.take 4).length : Nat) : Int) ≤ ((256 ^ 4 : Nat) : Int) := Int.ofNat_le.2 h
    rw [Int.natCast_pow, Int.natCast_pow] at h'; exact h'
  have e4 : (256 : Int) ^ 4 = 4294967296 := by decide
  unfold cnt
  rw [e]
  omega
theorem gi_take {xs : List Int} {i n : Nat} (h : i < n) : gi (xs.take n) i = gi xs i := by
  unfold gi; simp only [List.getD_eq_getElem?_getD, List.getElem?_take, if_pos h]
theorem gi_drop {xs : List Int} {i n : Nat} : gi (xs.drop n) i = gi xs (n + i) := by
  unfold gi; simp only [List.getD_eq_getElem?_getD, List.getElem?_drop]
/-- A slice's beginning, and what is behind it. -/
theorem Sl.cut {w : World} {b o l cap : Nat} {xs : List Int} (h : Sl w (.slice (some ⟨b, o, none⟩) l cap) xs) (n : Nat) (hn : n ≤ l) :
    Sl w (.slice (some ⟨b, o, none⟩) n cap) (xs.take n) ∧ Sl w (.slice (if cap = n then some ⟨b, o, none⟩ else some ⟨b, o + n, none⟩) (l - n) (cap - n)) (xs.drop n) := by
  obtain ⟨ad, cap', hv, hc, h⟩ := h
  simp only [Value.slice.injEq] at hv
  obtain ⟨rfl, rfl, rfl⟩ := hv
  have l1 : (xs.take n).length = n := by rw [List.length_take]; omega
  have l2 : (xs.drop n).length = xs.length - n := List.length_drop ..
  refine ⟨⟨_, cap, by rw [l1], by rw [l1]; omega, ?_⟩, ⟨_, cap - n, by rw [l2], by rw [l2]; omega, ?_⟩⟩
  · rcases h with ⟨rfl, _⟩ | ⟨b', o', he, hlt, hm⟩
    · exact .inl ⟨by simp, fun e => by cases e⟩
    · simp only [Option.some.injEq, Addr.mk.injEq, and_true] at he
      obtain ⟨rfl, rfl⟩ := he
      exact .inr ⟨b, o, rfl, hlt, fun i hi => by rw [l1] at hi; rw [gi_take hi]; exact hm i (by omega)⟩
  · rcases h with ⟨rfl, _⟩ | ⟨b', o', he, hlt, hm⟩
    · exact .inl ⟨by simp, fun e => by split at e <;> cases e⟩
    · simp only [Option.some.injEq, Addr.mk.injEq, and_true] at he
      obtain ⟨rfl, rfl⟩ := he
      by_cases e : cap = n
      · rw [if_pos e]
        exact .inl ⟨List.drop_eq_nil_of_le (by omega), fun e => by cases e⟩
      · rw [if_neg e]
        exact .inr ⟨b, o + n, rfl, hlt, fun i hi => by rw [l2] at hi; rw [gi_drop, Nat.add_assoc]; exact hm (n + i) (by omega)⟩
/-- A slice that is not empty lies somewhere. -/
theorem Sl.lies {w : World} {v : Value} {xs : List Int} (h : Sl w v xs) (h0 : 0 < xs.length) : ∃ b o cap, v = .slice (some ⟨b, o, none⟩) xs.length cap ∧ xs.length ≤ cap ∧ b < w.heap.size := by
  obtain ⟨ad, cap, rfl, hc, h⟩ := h
  rcases h with ⟨rfl, _⟩ | ⟨b, o, rfl, hb, _⟩
  · simp at h0
  · exact ⟨b, o, cap, rfl, hc, hb⟩
set_option maxHeartbeats 1000000 in
theorem cutCount_no (xs : List Int) (v : Value) (w : World) (hs : Sl w v xs) (hl : xs.length < 4) :
    Calls Try.prog 68 #[v] w fun e w' => e = .returned (.tuple #[.int .u64 0, .slice none 0 0, .bool false]) ∧ w' = w := by
  obtain ⟨ad, cap, rfl, hc, -⟩ := hs
  have hl' : (xs.length : Int) < 4 := by omega
  go_enter Try.func68, Try.ntmps68
  go_wp2
  go_ret3
  exact ⟨rfl, rfl⟩
set_option maxHeartbeats 1000000 in
theorem cutCount_yes (xs : List Int) (b o cap : Nat) (w : World) (hb : Byt xs) (hs : Sl w (.slice (some ⟨b, o, none⟩) xs.length cap) xs) (hl : 4 ≤ xs.length) (hc : xs.length ≤ cap) :
    Calls Try.prog 68 #[.slice (some ⟨b, o, none⟩) xs.length cap] w fun e w' => (∃ o', e = .returned (.tuple #[.int .u64 (cnt xs : Int), .slice (some ⟨b, o', none⟩) (xs.length - 4) (cap - 4), .bool true]) ∧ Sl w' (.slice (some ⟨b, o', none⟩) (xs.length - 4) (cap - 4)) (xs.drop 4)) ∧ Below w.heap.size w w' := by
  have H1 : Hid _ := hs.cut 4 hl
  have HB : Hid (Byt (xs.take 4)) := hb.take 4
  have HC : Hid _ := (cnt_nm hb).1
  have HT : Hid ((xs.take 4).length = 4) := by show (xs.take 4).length = 4; rw [List.length_take]; omega
  have hl' : ¬ (xs.length : Int) < 4 := by omega
  clear hb hs
  go_enter Try.func68, Try.ntmps68
  go_wp2
  go_quiet ((go_at_call 62; refine Calls.quiet_of_same ((numberOf_any (xs.take 4) _ _ HB.out H1.out.1 (by rw [HT.out]; omega)))))
  have hbd : Below w.heap.size w (w.drewN nq) := below_drewN (Below.refl _ _) nq
  have HS2 : Hid (Sl (w.drewN nq) _ (xs.drop 4)) := H1.out.2.below hbd (Nat.le_refl _)
  rw [HC.out]
  by_cases h4 : cap = 4
  · rw [if_pos h4] at HS2
    subst h4
    rw [Nat.sub_self, show xs.length - 4 = 0 by omega] at HS2
    have HD : Hid _ := hbd
    clear hbd
    go_wp2
    go_ret3
    exact ⟨⟨o, rfl, HS2.out⟩, HD.out⟩
  · rw [if_neg h4] at HS2
    have HD : Hid _ := hbd
    clear hbd
    go_wp2
    go_ret3
    exact ⟨⟨o + 4, rfl, HS2.out⟩, HD.out⟩
/-- A member at the beginning: there, and what is behind it. -/
def hasM (xs : List Int) : Bool := decide (4 ≤ xs.length ∧ cnt xs ≤ xs.length - 4)
set_option maxHeartbeats 1000000 in
theorem cutMember_no (xs : List Int) (v : Value) (w : World) (hb : Byt xs) (hs : Sl w v xs) (hl : xs.length ≤ 1048576) (hm : hasM xs = false) :
    Calls Try.prog 69 #[v] w fun e w' => e = .returned (.tuple #[.slice none 0 0, .slice none 0 0, .bool false]) ∧ Below w.heap.size w w' := by
  by_cases h4 : xs.length < 4
  · have HS : Hid (Sl w v xs) := hs
    obtain ⟨ad, cap, rfl, hc, -⟩ := hs
    clear hm hb
    go_enter Try.func69, Try.ntmps69
    go_wp2_with (go_at_call 68; refine (cutCount_no xs _ w HS.out h4).mono ?_; rintro e w' ⟨rfl, rfl⟩)
    go_ret3
    exact ⟨rfl, Below.refl _ _⟩
  · have HS : Hid (Sl w v xs) := hs
    obtain ⟨b, o, cap, rfl, hc, -⟩ := hs.lies (by omega)
    have hcn : xs.length - 4 < cnt xs := by
      have := of_decide_eq_false hm; omega
    have h4' : 4 ≤ xs.length := by omega
    have HC : Hid _ := cnt_nm hb
    have HB : Hid (Byt xs) := hb
    obtain ⟨c, hcc⟩ : ∃ c, cnt xs = c := ⟨_, rfl⟩
    have h5 : (cnt xs) < 4294967296 := HC.out.2
    have E : Hid (cnt xs = c) := hcc
    rw [hcc] at hcn h5
    have g1 : (xs.length : Int) - 4 < (c : Int) := by omega
    clear hm hb hs hcc
    go_enter Try.func69, Try.ntmps69
    go_wp2_with (go_at_call 68; refine (cutCount_yes xs b o cap w HB.out HS.out h4' hc).mono ?_; rintro e w1 ⟨⟨o1, rfl, h6⟩, h7⟩; rw [E.out]; have H7 : Hid _ := h7; clear h6 h7)
    go_ret3
    exact ⟨rfl, H7.out⟩
set_option maxHeartbeats 1000000 in
theorem cutMember_yes (xs : List Int) (v : Value) (w : World) (hb : Byt xs) (hs : Sl w v xs) (hl : xs.length ≤ 1048576) (hm : hasM xs = true) :
    Calls Try.prog 69 #[v] w fun e w' => ∃ m r, e = .returned (.tuple #[m, r, .bool true]) ∧ Sl w' m ((xs.drop 4).take (cnt xs)) ∧ Sl w' r (xs.drop (4 + cnt xs)) ∧ (∃ ad l c, m = .slice (some ad) l c) ∧ r.ownBlock = v.ownBlock ∧ Below w.heap.size w w' := by
  have hcn := of_decide_eq_true hm
  obtain ⟨h4, hcn⟩ := hcn
  have HS : Hid (Sl w v xs) := hs
  obtain ⟨b, o, cap, rfl, hc, -⟩ := hs.lies (by omega)
  have HB : Hid (Byt xs) := hb
  obtain ⟨c, hcc⟩ : ∃ c, cnt xs = c := ⟨_, rfl⟩
  have E : Hid (cnt xs = c) := hcc
  rw [hcc] at hcn ⊢
  have g1 : ¬ (xs.length : Int) - 4 < (c : Int) := by omega
  clear hm hb hs hcc
  go_enter Try.func69, Try.ntmps69
  go_wp2_with (go_at_call 68; refine (cutCount_yes xs b o cap w HB.out HS.out h4 hc).mono ?_; rintro e w1 ⟨⟨o1, rfl, h6⟩, h7⟩; rw [E.out]; have H6 : Hid _ := h6.cut c hcn; have H7 : Hid _ := h7; clear h6 h7)
  go_quiet (fail)
  rw [List.drop_drop] at H6
  obtain ⟨o2, hR⟩ : ∃ o2, (if cap - 4 = c then some (⟨b, o1, none⟩ : Addr) else some ⟨b, o1 + c, none⟩) = some ⟨b, o2, none⟩ := by split <;> exact ⟨_, rfl⟩
  rw [hR] at H6 ⊢
  obtain ⟨L1, hL1⟩ : ∃ L1, xs.length - 4 - c = L1 := ⟨_, rfl⟩
  obtain ⟨C1, hC1⟩ : ∃ C1, cap - 4 - c = C1 := ⟨_, rfl⟩
  obtain ⟨C2, hC2⟩ : ∃ C2, cap - 4 = C2 := ⟨_, rfl⟩
  rw [hL1, hC1, hC2] at H6
  rw [hL1, hC1, hC2]
  clear hR hL1 hC1 hC2 g1 h4 hc hcn hl
  have HD : Hid (Below w1.heap.size w1 (w1.drewN nq)) := below_drewN (Below.refl _ _) nq
  go_wp2
  go_ret3
  exact ⟨_, _, rfl, H6.out.1.below HD.out (Nat.le_refl _), H6.out.2.below HD.out (Nat.le_refl _), ⟨_, _, _, rfl⟩, rfl, H7.out.trans (HD.out.mono H7.out.size)⟩
theorem not_nil (ad : Addr) (l c : Nat) (w : World) : (binOp .eql 34 (.slice (some ad) l c) (.slice none 0 0)).run Try.prog w = .ok (.bool false) w := by kernel_rfl
set_option maxHeartbeats 1000000 in
/-- A copy. -/
theorem clone_any (xs : List Int) (v : Value) (w : World) (hs : Sl w v xs) (hl : xs.length ≤ 1048576) (hv : ∃ ad l c, v = .slice (some ad) l c) :
    Calls Try.prog 70 #[v] w fun e w' => ∃ v', e = .returned v' ∧ Ow w.heap.size w' v' xs ∧ Below w.heap.size w w' := by
  have HS : Hid (Sl w v xs) := hs
  obtain ⟨ad, l, c, rfl⟩ := hv
  obtain rfl : l = xs.length := by obtain ⟨_, _, h, _⟩ := hs; simp at h; exact h.2.1
  clear hs
  have hnn := not_nil ad xs.length c w
  go_enter Try.func70, Try.ntmps70
  go_wp2_with (at_builtin; refine app_u8 (B0 := w.heap.size) rfl _ _ rfl (by simp) _ [] rfl (Ow.lit w [] #[] 0 rfl rfl (by simp)) _ rfl xs (HS.out.below ((Below.refl _ w).alloc (Nat.le_refl _) _) (Nat.le_refl _)) (by simp; omega) ?_; intro v1 w1 h1 h2 h3 h4; rw [List.nil_append] at h1; have H1 : Hid (Ow w.heap.size w1 v1 xs) := h1; have H3 : Hid (Below w.heap.size w w1) := ((Below.refl _ w).alloc (Nat.le_refl _) _).trans h3; clear h1 h2 h3 h4)
  go_ret
  exact ⟨_, rfl, H1.out, H3.out⟩
end Go.Proofs.Ytfnmdeekenjlgaa
