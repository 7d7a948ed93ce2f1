/- The reference: DecodeLookup. -/
import Derived.Test.YtfnmdeekenjlgaaWsU
namespace Go.Proofs.Ytfnmdeekenjlgaa
open Go Go.RowKit
set_option linter.unusedSimpArgs false
set_option linter.unusedVariables false
set_option maxRecDepth 100000

theorem Sl.open {w : World} {v : Value} {xs : List Int} (h : Sl w v xs) : ∃ a c, v = .slice a xs.length c := by obtain ⟨a, c, e, _⟩ := h; exact ⟨a, c, e⟩
theorem YS.sl {w : World} {v : Value} {l : List (List Int)} (h : YS w v l) : ∃ a n c, v = .slice a n c := by obtain ⟨a, c, e, _⟩ := h; exact ⟨a, _, c, e⟩
theorem rdh_rdy (xs : List Int) : rdh 1 xs = rdy xs := rfl
theorem mid_put {α : Type} (A Z B P : List α) (n : Nat) (hA : A.length = n) (hz : Z.length = P.length) : (A ++ (Z ++ B)).take n ++ P ++ (A ++ (Z ++ B)).drop (n + P.length) = A ++ (P ++ B) := by
  subst hA
  rw [List.take_left' rfl, ← List.drop_drop, List.drop_left' rfl, ← hz, List.drop_left' rfl, List.append_assoc]
theorem lc_put1 {R : Rt} (hR : R.cells.length = 163) (S : ByteArray) (z : Int) {o p : List Int} (q : List Int) (ho : o.length = 80) (hp : p.length = 80) (dv nv mv : Value) : (lc ⟨R, S, z, [], o, [], q, []⟩ dv nv mv).take 166 ++ bv p ++ (lc ⟨R, S, z, [], o, [], q, []⟩ dv nv mv).drop (166 + (bv p).length) = lc ⟨R, S, z, [], p, [], q, []⟩ dv nv mv := by
  have e : ∀ y : List Int, lc ⟨R, S, z, [], y, [], q, []⟩ dv nv mv = (R.cells ++ [.string S, .int .u64 z, dv]) ++ (bv y ++ ([nv] ++ (bv q ++ [mv]))) := fun y => by simp [lc]
  rw [e, e]
  exact mid_put _ _ _ _ _ (by simp [hR]) (by rw [bv_length, bv_length, ho, hp])
theorem lc_put2 {R : Rt} (hR : R.cells.length = 163) (S : ByteArray) (z : Int) {o p q : List Int} (ho : o.length = 80) (hp : p.length = 80) (hq : q.length = 80) (dv nv mv : Value) : (lc ⟨R, S, z, [], q, [], o, []⟩ dv nv mv).take 247 ++ bv p ++ (lc ⟨R, S, z, [], q, [], o, []⟩ dv nv mv).drop (247 + (bv p).length) = lc ⟨R, S, z, [], q, [], p, []⟩ dv nv mv := by
  have e : ∀ y : List Int, lc ⟨R, S, z, [], q, [], y, []⟩ dv nv mv = (R.cells ++ ([.string S, .int .u64 z, dv] ++ (bv q ++ [nv]))) ++ (bv y ++ [mv]) := fun y => by simp [lc]
  rw [e, e]
  exact mid_put _ _ _ _ _ (by simp [hR, bv_length, hq]) (by rw [bv_length, bv_length, ho, hp])
theorem lc_len {R : Rt} (hR : R.cells.length = 163) (S : ByteArray) (z : Int) {p q : List Int} (hp : p.length = 80) (hq : q.length = 80) (dv nv mv : Value) : (lc ⟨R, S, z, [], p, [], q, []⟩ dv nv mv).length = 328 := by simp [lc, hR, hp, hq, bv_length]
theorem sl_at80 {w : World} {a : Option Addr} {c : Nat} {xs : List Int} (h : Sl w (.slice a 80 c) xs) (hl : xs.length = 80) : ∃ b o, a = some ⟨b, o, none⟩ ∧ b < w.heap.size ∧ w.rangeAt b o (bv xs) := by
  obtain ⟨ad, cap, e, hc, hx⟩ := h
  injection e with e1 e2 e3
  subst e1
  rcases hx with ⟨h0, _⟩ | ⟨b, o, e9, hlt, hm⟩
  · exact absurd (congrArg List.length h0) (by rw [hl]; simp)
  · refine ⟨b, o, e9, hlt, ?_⟩
    have q := cut_range (w := w) (b := b) (o := o) (off := 0) (n := 80) hm (by omega)
    have e5 : cut xs 0 80 = xs := by unfold cut; rw [List.drop_zero, List.take_of_length_le (by omega)]
    rw [e5] at q
    exact q
theorem row_setCell {w : World} {E j : Nat} {A : List Value} {t : TypeId} (v : Value) (h : w.heap[E]? = some (.cells A.toArray t (0, 0))) : (w.setCell ⟨E, j, none⟩ v).heap[E]? = some (.cells (A.set j v).toArray t (0, 0)) := by
  unfold World.setCell
  simp [Array.getElem?_modify, h]
theorem lc_set1 {R : Rt} (hR : R.cells.length = 163) (S : ByteArray) (z : Int) {p q : List Int} (hp : p.length = 80) (dv nv mv nv' : Value) : (lc ⟨R, S, z, [], p, [], q, []⟩ dv nv mv).set 246 nv' = lc ⟨R, S, z, [], p, [], q, []⟩ dv nv' mv := by
  have e : ∀ y : Value, lc ⟨R, S, z, [], p, [], q, []⟩ dv y mv = (R.cells ++ ([.string S, .int .u64 z, dv] ++ bv p)) ++ (y :: (bv q ++ [mv])) := fun y => by simp [lc]
  rw [e, e, List.set_append_right _ _ (by simp [hR, hp, bv_length])]
  have : 246 - (R.cells ++ ([Value.string S, .int .u64 z, dv] ++ bv p)).length = 0 := by simp [hR, hp, bv_length]
  rw [this]; rfl
theorem lc_set2 {R : Rt} (hR : R.cells.length = 163) (S : ByteArray) (z : Int) {p q : List Int} (hp : p.length = 80) (hq : q.length = 80) (dv nv mv mv' : Value) : (lc ⟨R, S, z, [], p, [], q, []⟩ dv nv mv).set 327 mv' = lc ⟨R, S, z, [], p, [], q, []⟩ dv nv mv' := by
  have e : ∀ y : Value, lc ⟨R, S, z, [], p, [], q, []⟩ dv nv y = (R.cells ++ ([.string S, .int .u64 z, dv] ++ (bv p ++ ([nv] ++ bv q)))) ++ [y] := fun y => by simp [lc]
  rw [e, e, List.set_append_right _ _ (by simp [hR, hp, hq, bv_length])]
  have : 327 - (R.cells ++ ([Value.string S, .int .u64 z, dv] ++ (bv p ++ ([nv] ++ bv q)))).length = 0 := by simp [hR, hp, hq, bv_length]
  rw [this]; rfl
theorem YO.setc {B b : Nat} {w : World} {v : Value} {l : List (List Int)} {A : List Value} (h : YO B w v l) (hb : b < B) : YS (w.setCells b 0 A) v l := by
  refine ys_row h.2.1 (h.1.kept (w' := w.setCells b 0 A) (row := some b) ⟨(below_setCells (B := 0) (Nat.zero_le _) A 0 (Below.refl 0 w)).os, (below_setCells (B := 0) (Nat.zero_le _) A 0 (Below.refl 0 w)).tape, (below_setCells (B := 0) (Nat.zero_le _) A 0 (Below.refl 0 w)).output, Nat.le_of_eq (size_setCells b A 0 w).symm, fun j _ hj => setc_other (fun e => hj (by rw [e]))⟩ ?_)
  rcases h.1.2 with ⟨rfl, _⟩ | ⟨g, c, cur, rfl, hg, _⟩
  · exact .inl rfl
  · exact .inr (fun e => Nat.lt_irrefl _ (Nat.lt_of_lt_of_le hb (by have e9 : g = b := (by simpa [Value.ownBlock] using e); rw [← e9]; exact hg)))
theorem below_setCell {B b j : Nat} {w W : World} {v : Value} (h : Below B w W) (hb : B ≤ b) : Below B w (W.setCell ⟨b, j, none⟩ v) := by
  have := below_setCells (B := B) hb [v] j h
  exact this
/-- A lookup laid in a new block. -/
def rlΩ (W0 : World) (A : List Value) : Nat → (Nat → Value) → World → Prop
  | 0, _, W => W = W0
  | 1, U, W => U 0 = .pointer (some ⟨W0.heap.size, 0, none⟩) ∧ W = W0.alloc (.cells z328.toArray 33)
  | _ + 2, U, W => U 0 = .pointer (some ⟨W0.heap.size, 0, none⟩) ∧ W = (W0.alloc (.cells z328.toArray 33)).setCells W0.heap.size 0 A
def rl11f (R : Rt) (S : ByteArray) (vv : Int) (fb fo cap n1 c1 : Nat) (a1 : Option Addr) (u2 : Value) : Nat → Value
  | 0 => .agg R.cells.toArray
  | 1 => .slice (some ⟨fb, fo, none⟩) 9 cap
  | 2 => .pointer (some ⟨fb, fo + 2, none⟩)
  | 3 => u2
  | 4 => .string S
  | 5 => .int .u64 vv
  | 6 => .slice a1 n1 c1
  | 7 => .agg (lc ⟨R, S, vv, [], z80, [], z80, []⟩ (.slice a1 n1 c1) (.slice none 0 0) (.slice none 0 0)).toArray
  | 8 => undef
  | 9 => undef
  | _ => undef
/-- A row written over. -/
def rmΩ (W0 W1 : World) : Nat → (Nat → Value) → World → Prop
  | 0, _, W => W = W0
  | _ + 1, U, W => W = W1
def rl12f (fb fo cap E b5 o5 c5 : Nat) : Nat → Value
  | 0 => .pointer (some ⟨E, 166, none⟩)
  | 1 => .pointer (some ⟨E, 166, none⟩)
  | 2 => .slice (some ⟨E, 166, none⟩) 80 80
  | 3 => .slice (some ⟨fb, fo, none⟩) 9 cap
  | 4 => .pointer (some ⟨fb, fo + 5, none⟩)
  | 5 => .slice (some ⟨b5, o5, none⟩) 80 c5
  | 6 => undef
  | _ => undef
def rl13f (fb fo cap E b7 o7 c7 : Nat) : Nat → Value
  | 0 => .pointer (some ⟨E, 247, none⟩)
  | 1 => .pointer (some ⟨E, 247, none⟩)
  | 2 => .slice (some ⟨E, 247, none⟩) 80 80
  | 3 => .slice (some ⟨fb, fo, none⟩) 9 cap
  | 4 => .pointer (some ⟨fb, fo + 7, none⟩)
  | 5 => .slice (some ⟨b7, o7, none⟩) 80 c7
  | 6 => undef
  | _ => undef
set_option maxHeartbeats 8000000 in
theorem rdecodeLookup_any (xs : List Int) (v : Value) (w : World) (hb : Byt xs) (hs : Sl w v xs) (hl : xs.length ≤ 140737488355328) :
    Calls Try.prog 9 #[v] w fun e w' => ∃ A, e = .returned (.tuple #[.agg A.toArray, .int .i64 (dlE xs)]) ∧ LV w' A (dLp xs) ∧ Below w.heap.size w w' := by
  have HS : Hid (Sl w v xs) := hs
  have HB : Hid (Byt xs) := hb
  clear hb hs
  have hz := zero_look
  have hz2 := zero_root
  go_enter Try.func9, Try.ntmps9
  go_wp2_with fail
  generalize hW : w.alloc _ = w0
  have H0 : Hid (Hd w w0 328) := by rw [← hW]; exact Hd.new w z328_length
  clear hW
  refine (parts_any xs lookS 8 9 (by decide) v w0 HB.out (HS.out.below H0.out.bel (Nat.le_refl _)) hl (by omega) (by omega)).mono ?_
  rintro e w1 ⟨⟨v1, rfl, h1⟩, h3⟩
  have H1 : Hid (Hd w w1 328) := H0.out.step h3
  clear h3
  cases hF : hasF xs lookS 8 with
  | false =>
    have HU : Hid (isL xs = false) := by show isL xs = false; unfold isL; rw [hF]; rfl
    clear h1
    have E0 : Hid (dLp xs = zLp ∧ dlE xs = 2) := dl_no HU.out
    go_wp2_with (first
     | (refine wp_build0s 33 rfl rfl z328.toArray (build_zl w1) ?_)
     | (refine wpList_store_mid rfl 33 _ _ rfl w.heap.size 0 z328.toArray rfl rfl (there_of H1.out.there z328_length) (size_look z328_length) z328_one ?_))
    refine bodyPost_ret (v := .tuple #[.agg z328.toArray, .int .i64 2]) ?_ rfl ⟨z328, by rw [E0.out.2], by rw [E0.out.1]; exact z_lv _, (H1.out.put z328_length).1⟩
    have q := (H1.out.put z328_length).2
    simp only [results, Try.results9]
    simp [asAddr, run_loadVar_mid _ w.heap.size 0 33 z328 _ q Try.underlying33 rfl (by rw [z328_length]; exact look_size)]
  | true =>
    have HQ : Hid (LL w1 v1 (decL xs)) := h1
    clear h1
    have hlen : (decL xs).length = 9 := by
      unfold hasF at hF
      simp only [Bool.and_eq_true, decide_eq_true_eq] at hF
      exact hF.2.1
    obtain ⟨fb, fo, cap, hv, hcap, hlt, hm⟩ := HQ.out.at' (by omega)
    subst hv
    rw [hlen] at hcap hm ⊢
    obtain ⟨u1, k1, s1⟩ := hm 1 (by omega)
    obtain ⟨u2, k2, s2⟩ := hm 2 (by omega)
    obtain ⟨u3, k3, s3⟩ := hm 3 (by omega)
    obtain ⟨u4, k4, s4⟩ := hm 4 (by omega)
    obtain ⟨u5, k5, s5⟩ := hm 5 (by omega)
    obtain ⟨u6, k6, s6⟩ := hm 6 (by omega)
    obtain ⟨u7, k7, s7⟩ := hm 7 (by omega)
    obtain ⟨u8, k8, s8⟩ := hm 8 (by omega)
    have HLB : Hid (∀ i, Byt (mi (decL xs) i) ∧ (mi (decL xs) i).length ≤ 1048576) := fun i => decL_mi HB.out i
    obtain ⟨X1, hX1⟩ : ∃ X, mi (decL xs) 1 = X := ⟨_, rfl⟩
    obtain ⟨X2, hX2⟩ : ∃ X, mi (decL xs) 2 = X := ⟨_, rfl⟩
    obtain ⟨X3, hX3⟩ : ∃ X, mi (decL xs) 3 = X := ⟨_, rfl⟩
    obtain ⟨X4, hX4⟩ : ∃ X, mi (decL xs) 4 = X := ⟨_, rfl⟩
    obtain ⟨X5, hX5⟩ : ∃ X, mi (decL xs) 5 = X := ⟨_, rfl⟩
    obtain ⟨X6, hX6⟩ : ∃ X, mi (decL xs) 6 = X := ⟨_, rfl⟩
    obtain ⟨X7, hX7⟩ : ∃ X, mi (decL xs) 7 = X := ⟨_, rfl⟩
    obtain ⟨X8, hX8⟩ : ∃ X, mi (decL xs) 8 = X := ⟨_, rfl⟩
    have Q1 : Hid (Sl w1 u1 X1 ∧ Byt X1 ∧ X1.length ≤ 1048576 ∧ mi (decL xs) 1 = X1) := ⟨hX1 ▸ s1, hX1 ▸ (HLB.out 1).1, hX1 ▸ (HLB.out 1).2, hX1⟩
    have C1 : Hid (w1.cell? ⟨fb, fo + 1, none⟩ = some u1) := k1
    have Q2 : Hid (Sl w1 u2 X2 ∧ Byt X2 ∧ X2.length ≤ 1048576 ∧ mi (decL xs) 2 = X2) := ⟨hX2 ▸ s2, hX2 ▸ (HLB.out 2).1, hX2 ▸ (HLB.out 2).2, hX2⟩
    have C2 : Hid (w1.cell? ⟨fb, fo + 2, none⟩ = some u2) := k2
    have Q3 : Hid (Sl w1 u3 X3 ∧ Byt X3 ∧ X3.length ≤ 1048576 ∧ mi (decL xs) 3 = X3) := ⟨hX3 ▸ s3, hX3 ▸ (HLB.out 3).1, hX3 ▸ (HLB.out 3).2, hX3⟩
    have C3 : Hid (w1.cell? ⟨fb, fo + 3, none⟩ = some u3) := k3
    have Q4 : Hid (Sl w1 u4 X4 ∧ Byt X4 ∧ X4.length ≤ 1048576 ∧ mi (decL xs) 4 = X4) := ⟨hX4 ▸ s4, hX4 ▸ (HLB.out 4).1, hX4 ▸ (HLB.out 4).2, hX4⟩
    have C4 : Hid (w1.cell? ⟨fb, fo + 4, none⟩ = some u4) := k4
    have Q5 : Hid (Sl w1 u5 X5 ∧ Byt X5 ∧ X5.length ≤ 1048576 ∧ mi (decL xs) 5 = X5) := ⟨hX5 ▸ s5, hX5 ▸ (HLB.out 5).1, hX5 ▸ (HLB.out 5).2, hX5⟩
    have C5 : Hid (w1.cell? ⟨fb, fo + 5, none⟩ = some u5) := k5
    have Q6 : Hid (Sl w1 u6 X6 ∧ Byt X6 ∧ X6.length ≤ 1048576 ∧ mi (decL xs) 6 = X6) := ⟨hX6 ▸ s6, hX6 ▸ (HLB.out 6).1, hX6 ▸ (HLB.out 6).2, hX6⟩
    have C6 : Hid (w1.cell? ⟨fb, fo + 6, none⟩ = some u6) := k6
    have Q7 : Hid (Sl w1 u7 X7 ∧ Byt X7 ∧ X7.length ≤ 1048576 ∧ mi (decL xs) 7 = X7) := ⟨hX7 ▸ s7, hX7 ▸ (HLB.out 7).1, hX7 ▸ (HLB.out 7).2, hX7⟩
    have C7 : Hid (w1.cell? ⟨fb, fo + 7, none⟩ = some u7) := k7
    have Q8 : Hid (Sl w1 u8 X8 ∧ Byt X8 ∧ X8.length ≤ 1048576 ∧ mi (decL xs) 8 = X8) := ⟨hX8 ▸ s8, hX8 ▸ (HLB.out 8).1, hX8 ▸ (HLB.out 8).2, hX8⟩
    have C8 : Hid (w1.cell? ⟨fb, fo + 8, none⟩ = some u8) := k8
    have HFB : Hid (fb < w1.heap.size) := hlt
    have HF : Hid (hasF xs lookS 8 = true) := hF
    clear hm hF hlen hlt s1 hX1 s2 hX2 s3 hX3 s4 hX4 s5 hX5 s6 hX6 s7 hX7 s8 hX8 k1 k2 k3 k4 k6 k8
    have HIS : Hid (isL xs = (isR X1 && (decide (rnErr X3 = 0) && (decide (X4.length % 32 = 0) && (oOk X5 X6 && oOk X7 X8))))) := by
      show isL xs = _
      unfold isL
      rw [HF.out, Q1.out.2.2.2, Q3.out.2.2.2, Q4.out.2.2.2, Q5.out.2.2.2, Q6.out.2.2.2, Q7.out.2.2.2, Q8.out.2.2.2]; rfl
    obtain ⟨a5, c5, rfl⟩ := Q5.out.1.open
    obtain ⟨a7, c7, rfl⟩ := Q7.out.1.open
    obtain ⟨l5, hl5⟩ : ∃ l, X5.length = l := ⟨_, rfl⟩
    obtain ⟨l7, hl7⟩ : ∃ l, X7.length = l := ⟨_, rfl⟩
    have L5 : Hid (X5.length = l5) := hl5
    have L7 : Hid (X7.length = l7) := hl7
    rw [hl5] at k5 Q5 C5
    rw [hl7] at k7 Q7 C7
    clear hl5 hl7
    by_cases h5 : (l5 : Int) = 80
    case neg =>
      have HU : Hid (isL xs = false) := by
        show isL xs = false
        rw [HIS.out]
        have : oOk X5 X6 = false := by unfold oOk; rw [L5.out, decide_eq_false (by omega)]; simp
        rw [this]; simp
      have E0 : Hid (dLp xs = zLp ∧ dlE xs = 2) := dl_no HU.out
      go_wp2_with (first
       | (refine wp_build0s 33 rfl rfl z328.toArray (build_zl w1) ?_)
       | (refine wpList_store_mid rfl 33 _ _ rfl w.heap.size 0 z328.toArray rfl rfl (there_of H1.out.there z328_length) (size_look z328_length) z328_one ?_))
      refine bodyPost_ret (v := .tuple #[.agg z328.toArray, .int .i64 2]) ?_ rfl ⟨z328, by rw [E0.out.2], by rw [E0.out.1]; exact z_lv _, (H1.out.put z328_length).1⟩
      have q := (H1.out.put z328_length).2
      simp only [results, Try.results9]
      simp [asAddr, run_loadVar_mid _ w.heap.size 0 33 z328 _ q Try.underlying33 rfl (by rw [z328_length]; exact look_size)]
    by_cases h7 : (l7 : Int) = 80
    case neg =>
      have HU : Hid (isL xs = false) := by
        show isL xs = false
        rw [HIS.out]
        have : oOk X7 X8 = false := by unfold oOk; rw [L7.out, decide_eq_false (by omega)]; simp
        rw [this]; simp
      have E0 : Hid (dLp xs = zLp ∧ dlE xs = 2) := dl_no HU.out
      go_wp2_with (first
       | (refine wp_build0s 33 rfl rfl z328.toArray (build_zl w1) ?_)
       | (refine wpList_store_mid rfl 33 _ _ rfl w.heap.size 0 z328.toArray rfl rfl (there_of H1.out.there z328_length) (size_look z328_length) z328_one ?_))
      refine bodyPost_ret (v := .tuple #[.agg z328.toArray, .int .i64 2]) ?_ rfl ⟨z328, by rw [E0.out.2], by rw [E0.out.1]; exact z_lv _, (H1.out.put z328_length).1⟩
      have q := (H1.out.put z328_length).2
      simp only [results, Try.results9]
      simp [asAddr, run_loadVar_mid _ w.heap.size 0 33 z328 _ q Try.underlying33 rfl (by rw [z328_length]; exact look_size)]
    obtain rfl : l5 = 80 := by omega
    obtain rfl : l7 = 80 := by omega
    have k1 := C1.out
    go_wp2_with fail
    clear h5 h7 k5 k7
    refine (rdecodeRoot_any X1 u1 w1 Q1.out.2.1 Q1.out.1 (by have := Q1.out.2.2.1; omega)).mono ?_
    rintro e w2 ⟨rfl, h6⟩
    rw [drA_cells]
    have HRL : Hid (aRt X1).L := aRt_L Q1.out.2.1
    have HCL : Hid ((aRt X1).cells.length = 163) := HRL.out.size
    have B2 : Hid (Below w1.heap.size w1 w2) := h6
    clear h6
    obtain ⟨er, her⟩ : ∃ e, drE X1 = e := ⟨_, rfl⟩
    rw [her]
    have HER : Hid (drE X1 = er) := her
    clear her
    go_upto_region 5 with (refine wpList_store_mid rfl 26 _ _ rfl w2.heap.size 0 (aRt X1).cells.toArray rfl rfl (start_there w2 HCL.out) (size_of HCL.out) (cells_one _) ?_)
    generalize hW3 : World.setCells _ _ _ _ = W3
    have H4 := after_store HCL.out hW3
    clear hW3
    have B3 : Hid (Below w1.heap.size w1 W3) := B2.out.trans (H4.out.1.mono B2.out.size)
    have RD : Hid (W3.rangeAt w2.heap.size 0 (aRt X1).cells ∧ w2.heap.size < W3.heap.size) := ⟨H4.out.2.1, (by
      have := H4.out.2.1 0 _ (List.getElem?_eq_getElem (by rw [HCL.out]; decide))
      exact (addr_lt this))⟩
    obtain ⟨D, hD⟩ : ∃ D, w2.heap.size = D := ⟨_, rfl⟩
    rw [hD] at RD ⊢
    clear hD H4 B2 k1
    have k3 : W3.cell? ⟨fb, fo + 3, none⟩ = some u3 := (B3.out.cell (p := ⟨fb, fo + 3, none⟩) HFB.out).trans C3.out
    go_wp2_with fail
    refine (rreadNum_any X3 u3 W3 Q3.out.2.1 (Q3.out.1.below B3.out (Nat.le_refl _)) (by have := Q3.out.2.2.1; omega)).mono ?_
    rintro e W3 ⟨rfl, rfl⟩
    obtain ⟨ev, hev⟩ : ∃ e, rnErr X3 = e := ⟨_, rfl⟩
    obtain ⟨vv, hvv⟩ : ∃ e, rnVal X3 = e := ⟨_, rfl⟩
    rw [hev, hvv]
    have HEV : Hid (rnErr X3 = ev ∧ rnVal X3 = vv) := ⟨hev, hvv⟩
    clear hev hvv k3
    have k4 : W3.cell? ⟨fb, fo + 4, none⟩ = some u4 := (B3.out.cell (p := ⟨fb, fo + 4, none⟩) HFB.out).trans C4.out
    go_wp2_with fail
    refine (rreadHashes_any 1 (by decide) (by decide) X4 u4 W3 Q4.out.2.1 (Q4.out.1.below B3.out (Nat.le_refl _)) Q4.out.2.2.1).mono ?_
    rintro e w5 ⟨dv, rfl, g1, g2⟩
    rw [show 32 * 1 = 32 from rfl]
    have Y5 : Hid (YO W3.heap.size w5 dv (rdy X4)) := g1
    have B5 : Hid (Below w1.heap.size w1 w5) := B3.out.trans (g2.mono B3.out.size)
    have R5 : Hid (w5.rangeAt D 0 (aRt X1).cells ∧ D < w5.heap.size) := ⟨range_below RD.out.1 g2 RD.out.2, Nat.lt_of_lt_of_le RD.out.2 g2.size⟩
    obtain ⟨a1, n1, c1, rfl⟩ := YS.sl g1.ys
    clear g1 g2 k4
    have k6 : w5.cell? ⟨fb, fo + 6, none⟩ = some u6 := (B5.out.cell (p := ⟨fb, fo + 6, none⟩) HFB.out).trans C6.out
    go_wp2_with fail
    refine (rreadNodes_any X6 u6 w5 Q6.out.2.1 (Q6.out.1.below B5.out (Nat.le_refl _)) Q6.out.2.2.1).mono ?_
    rintro e w6 ⟨nv, rfl, g1, g2⟩
    have N6 : Hid (NO w5.heap.size w6 nv (rdn X6)) := g1
    have Y6 : Hid (YO W3.heap.size w6 (.slice a1 n1 c1) (rdy X4)) := Y5.out.below g2
    have B6 : Hid (Below w1.heap.size w1 w6) := B5.out.trans (g2.mono B5.out.size)
    have R6 : Hid (w6.rangeAt D 0 (aRt X1).cells ∧ D < w6.heap.size) := ⟨range_below R5.out.1 g2 R5.out.2, Nat.lt_of_lt_of_le R5.out.2 g2.size⟩
    obtain ⟨a2, n2, c2, rfl⟩ := NS.sl g1.ns
    clear g1 g2 k6 Y5
    have k8 : w6.cell? ⟨fb, fo + 8, none⟩ = some u8 := (B6.out.cell (p := ⟨fb, fo + 8, none⟩) HFB.out).trans C8.out
    go_wp2_with fail
    refine (rreadNodes_any X8 u8 w6 Q8.out.2.1 (Q8.out.1.below B6.out (Nat.le_refl _)) Q8.out.2.2.1).mono ?_
    rintro e w7 ⟨mv, rfl, g1, g2⟩
    have M7 : Hid (NO w6.heap.size w7 mv (rdn X8)) := g1
    have N7 : Hid (NO w5.heap.size w7 (.slice a2 n2 c2) (rdn X6)) := N6.out.below g2
    have Y7 : Hid (YO W3.heap.size w7 (.slice a1 n1 c1) (rdy X4)) := Y6.out.below g2
    have B7 : Hid (Below w1.heap.size w1 w7) := B6.out.trans (g2.mono B6.out.size)
    have R7 : Hid (w7.rangeAt D 0 (aRt X1).cells ∧ D < w7.heap.size) := ⟨range_below R6.out.1 g2 R6.out.2, Nat.lt_of_lt_of_le R6.out.2 g2.size⟩
    have H7 : Hid (Hd w w7 328) := H1.out.step B7.out
    have HLT : Hid (w.heap.size < W3.heap.size ∧ w.heap.size < w5.heap.size ∧ w.heap.size < w6.heap.size) := by
      have e1 := H1.out.size
      have e2 := B3.out.size
      have e3 := B5.out.size
      have e4 := B6.out.size
      exact ⟨by omega, by omega, by omega⟩
    obtain ⟨a3, n3, c3, rfl⟩ := NS.sl g1.ns
    clear g1 g2 k8 Y6 N6
    obtain ⟨b4, hb4⟩ : ∃ b, decide (X4.length % 32 = 0) = b := ⟨_, rfl⟩
    obtain ⟨b6, hb6⟩ : ∃ b, rnb X6 = b := ⟨_, rfl⟩
    obtain ⟨b8, hb8⟩ : ∃ b, rnb X8 = b := ⟨_, rfl⟩
    have HIT : Hid (isL xs = (isR X1 && (decide (ev = 0) && (b4 && (b6 && b8))))) := by
      show isL xs = _
      rw [HIS.out]
      unfold oOk
      rw [L5.out, L7.out, HEV.out.1, hb4, hb6, hb8]; simp
    rw [hb4, hb6, hb8]
    have HBB : Hid (decide (X4.length % 32 = 0) = b4 ∧ rnb X6 = b6 ∧ rnb X8 = b8) := ⟨hb4, hb6, hb8⟩
    clear hb4 hb6 hb8 HIS
    go_upto_region 9 with (fail)
    cases hq1 : isR X1 with
    | false =>
      have her : er = 2 := by rw [← HER.out]; unfold drE; rw [hq1]
      subst her
      have HU : Hid (isL xs = false) := by rw [HIT.out, hq1]; rfl
      have E0 : Hid (dLp xs = zLp ∧ dlE xs = 2) := dl_no HU.out
      go_wp2_with (first
       | (refine wp_build0s 33 rfl rfl z328.toArray (build_zl w7) ?_)
       | (refine wpList_store_mid rfl 33 _ _ rfl w.heap.size 0 z328.toArray rfl rfl (there_of H7.out.there z328_length) (size_look z328_length) z328_one ?_))
      refine bodyPost_ret (v := .tuple #[.agg z328.toArray, .int .i64 2]) ?_ rfl ⟨z328, by rw [E0.out.2], by rw [E0.out.1]; exact z_lv _, (H7.out.put z328_length).1⟩
      have q := (H7.out.put z328_length).2
      simp only [results, Try.results9]
      simp [asAddr, run_loadVar_mid _ w.heap.size 0 33 z328 _ q Try.underlying33 rfl (by rw [z328_length]; exact look_size)]
    | true =>
    have her : er = 0 := by rw [← HER.out]; unfold drE; rw [hq1]
    subst her
    rw [hq1] at HIT
    have hart : aRt X1 = dRt X1 := by unfold aRt; rw [hq1]
    have HART : Hid (aRt X1 = dRt X1) := hart
    clear hq1 hart
    by_cases hev : ev = 0
    case neg =>
      have HU : Hid (isL xs = false) := by rw [HIT.out, decide_eq_false hev]; rfl
      have E0 : Hid (dLp xs = zLp ∧ dlE xs = 2) := dl_no HU.out
      go_wp2_with (first
       | (refine wp_build0s 33 rfl rfl z328.toArray (build_zl w7) ?_)
       | (refine wpList_store_mid rfl 33 _ _ rfl w.heap.size 0 z328.toArray rfl rfl (there_of H7.out.there z328_length) (size_look z328_length) z328_one ?_))
      refine bodyPost_ret (v := .tuple #[.agg z328.toArray, .int .i64 2]) ?_ rfl ⟨z328, by rw [E0.out.2], by rw [E0.out.1]; exact z_lv _, (H7.out.put z328_length).1⟩
      have q := (H7.out.put z328_length).2
      simp only [results, Try.results9]
      simp [asAddr, run_loadVar_mid _ w.heap.size 0 33 z328 _ q Try.underlying33 rfl (by rw [z328_length]; exact look_size)]
    subst hev
    cases b4 with
    | false =>
      have HU : Hid (isL xs = false) := by rw [HIT.out]; rfl
      have E0 : Hid (dLp xs = zLp ∧ dlE xs = 2) := dl_no HU.out
      go_wp2_with (first
       | (refine wp_build0s 33 rfl rfl z328.toArray (build_zl w7) ?_)
       | (refine wpList_store_mid rfl 33 _ _ rfl w.heap.size 0 z328.toArray rfl rfl (there_of H7.out.there z328_length) (size_look z328_length) z328_one ?_))
      refine bodyPost_ret (v := .tuple #[.agg z328.toArray, .int .i64 2]) ?_ rfl ⟨z328, by rw [E0.out.2], by rw [E0.out.1]; exact z_lv _, (H7.out.put z328_length).1⟩
      have q := (H7.out.put z328_length).2
      simp only [results, Try.results9]
      simp [asAddr, run_loadVar_mid _ w.heap.size 0 33 z328 _ q Try.underlying33 rfl (by rw [z328_length]; exact look_size)]
    | true =>
    cases b6 with
    | false =>
      have HU : Hid (isL xs = false) := by rw [HIT.out]; rfl
      have E0 : Hid (dLp xs = zLp ∧ dlE xs = 2) := dl_no HU.out
      go_wp2_with (first
       | (refine wp_build0s 33 rfl rfl z328.toArray (build_zl w7) ?_)
       | (refine wpList_store_mid rfl 33 _ _ rfl w.heap.size 0 z328.toArray rfl rfl (there_of H7.out.there z328_length) (size_look z328_length) z328_one ?_))
      refine bodyPost_ret (v := .tuple #[.agg z328.toArray, .int .i64 2]) ?_ rfl ⟨z328, by rw [E0.out.2], by rw [E0.out.1]; exact z_lv _, (H7.out.put z328_length).1⟩
      have q := (H7.out.put z328_length).2
      simp only [results, Try.results9]
      simp [asAddr, run_loadVar_mid _ w.heap.size 0 33 z328 _ q Try.underlying33 rfl (by rw [z328_length]; exact look_size)]
    | true =>
    cases b8 with
    | false =>
      have HU : Hid (isL xs = false) := by rw [HIT.out]; rfl
      have E0 : Hid (dLp xs = zLp ∧ dlE xs = 2) := dl_no HU.out
      go_wp2_with (first
       | (refine wp_build0s 33 rfl rfl z328.toArray (build_zl w7) ?_)
       | (refine wpList_store_mid rfl 33 _ _ rfl w.heap.size 0 z328.toArray rfl rfl (there_of H7.out.there z328_length) (size_look z328_length) z328_one ?_))
      refine bodyPost_ret (v := .tuple #[.agg z328.toArray, .int .i64 2]) ?_ rfl ⟨z328, by rw [E0.out.2], by rw [E0.out.1]; exact z_lv _, (H7.out.put z328_length).1⟩
      have q := (H7.out.put z328_length).2
      simp only [results, Try.results9]
      simp [asAddr, run_loadVar_mid _ w.heap.size 0 33 z328 _ q Try.underlying33 rfl (by rw [z328_length]; exact look_size)]
    | true =>
    have HU : isL xs = true := by rw [HIT.out]; rfl
    have E0 := dl_yes HU
    rw [Q1.out.2.2.2, Q2.out.2.2.2, Q3.out.2.2.2, Q4.out.2.2.2, Q5.out.2.2.2, Q6.out.2.2.2, Q7.out.2.2.2, Q8.out.2.2.2, HEV.out.2, ← HART.out] at E0
    have E1 : Hid (dLp xs = ⟨aRt X1, strOfNums X2, vv, rdy X4, X5, rdn X6, X7, rdn X8⟩ ∧ dlE xs = 0) := E0
    clear E0 HU
    obtain ⟨W8, hW8⟩ : ∃ W, w7.drew = W := ⟨_, rfl⟩
    have HW8 : Hid (w7.drew = W8) := hW8
    obtain ⟨R, hR⟩ : ∃ R, aRt X1 = R := ⟨_, rfl⟩
    rw [hR] at HRL HCL R7 E1
    obtain ⟨S, hS⟩ : ∃ S, strOfNums X2 = S := ⟨_, rfl⟩
    have HSS : Hid (strOfNums X2 = S) := hS
    rw [hS] at E1
    have HF7 : Hid (fb < w7.heap.size ∧ w7.cell? ⟨fb, fo + 2, none⟩ = some u2) := ⟨Nat.lt_of_lt_of_le HFB.out B7.out.size, (B7.out.cell (p := ⟨fb, fo + 2, none⟩) HFB.out).trans C2.out⟩
    clear hW8 hR hS HART HER HIT HEV HBB R5 R6 RD
    go_upto_region 11 with (fail)
    refine RU.wp_rgn' [8, 9] (rl11f R S vv fb fo cap n1 c1 a1 u2) (fun _ => 1) (rlΩ W8 (lc ⟨R, S, vv, [], z80, [], z80, []⟩ (.slice a1 n1 c1) (.slice none 0 0) (.slice none 0 0))) (by kernel_rfl) (by kernel_rfl) HW8.out ?_ ?_
    · refine ⟨?_, ?_, ?_, ?_, ?_, ?_, ?_, ?_, ?_, ?_, trivial⟩
      · refine RU.ObT.silent rfl (fun a W k0 V hO hf hp hk => ?_)
        have hk9 : k0 ≤ 1 := hk
        have hB9 : Below w7.heap.size w7 W := by
          rcases Nat.lt_or_ge k0 1 with h9 | h9
          · obtain rfl : k0 = 0 := by omega
            have e9 : W = W8 := hO
            rw [e9, ← HW8.out]; exact (Below.refl _ w7).drew
          · obtain rfl : k0 = 1 := by omega
            have e9 : W = W8.alloc (.cells z328.toArray 33) := hO.2
            rw [e9, ← HW8.out]; exact (Below.refl _ w7).drew.alloc (Nat.le_refl _) _
        clear hk9
        have q6 : a.eval (.tmp 6) = .pointer (some ⟨D, 0, none⟩) := hf 6 rfl
        exact RU.ob_op rfl (RU.wanted_none rfl) (wp_load_mid 26 (.tmp 6) rfl D 0 q6 R.cells _ (range_below R7.out.1 hB9 R7.out.2) Try.underlying26 rfl (by rw [HCL.out]; exact root_size) ⟨rfl, hO⟩)
      · refine RU.ObT.pure rfl rfl rfl (fun a V hf hp ev he hc W => ?_)
        have q4 : ev (.tmp 4) = .slice (some ⟨fb, fo, none⟩) 9 cap := (he (.tmp 4)).trans (hf 4 rfl)
        simp only [List.getElem_toArray, List.getElem_cons_succ, List.getElem_cons_zero, execOp, Option.map_some, Option.map_none]; rw [q4]
        first | (go_simp; done) | (go_simp; rfl) | rfl
      · refine RU.ObT.pure rfl rfl rfl (fun a V hf hp ev he hc W => ?_)
        have q94 : ev (.tmp 94) = .slice (some ⟨fb, fo, none⟩) 9 cap := (he (.tmp 94)).trans (hp 1 94 rfl)
        simp only [List.getElem_toArray, List.getElem_cons_succ, List.getElem_cons_zero, execOp, Option.map_some, Option.map_none]; rw [q94]
        try simp only [hc]
        first | (go_simp; done) | (go_simp; rfl) | rfl
      · refine RU.ObT.silent rfl (fun a W k0 V hO hf hp hk => ?_)
        have hk9 : k0 ≤ 1 := hk
        have hB9 : Below w7.heap.size w7 W := by
          rcases Nat.lt_or_ge k0 1 with h9 | h9
          · obtain rfl : k0 = 0 := by omega
            have e9 : W = W8 := hO
            rw [e9, ← HW8.out]; exact (Below.refl _ w7).drew
          · obtain rfl : k0 = 1 := by omega
            have e9 : W = W8.alloc (.cells z328.toArray 33) := hO.2
            rw [e9, ← HW8.out]; exact (Below.refl _ w7).drew.alloc (Nat.le_refl _) _
        clear hk9
        have hcl9 : W.cell? ⟨fb, fo + 2, none⟩ = some u2 := (hB9.cell (p := ⟨fb, fo + 2, none⟩) HF7.out.1).trans HF7.out.2
        refine RU.ob_val rfl (RU.wanted_none rfl) (fun ev he hc => ?_) ⟨rfl, hO⟩
        have q95 : ev (.tmp 95) = .pointer (some ⟨fb, fo + 2, none⟩) := (he (.tmp 95)).trans (hp 2 95 rfl)
        simp only [List.getElem_toArray, List.getElem_cons_succ, List.getElem_cons_zero, execOp]; rw [q95]
        first | (go_simp; done) | (go_simp; rfl) | rfl
      · refine RU.ObT.silent rfl (fun a W k0 V hO hf hp hk => ?_)
        have hk9 : k0 ≤ 1 := hk
        have hB9 : Below w7.heap.size w7 W := by
          rcases Nat.lt_or_ge k0 1 with h9 | h9
          · obtain rfl : k0 = 0 := by omega
            have e9 : W = W8 := hO
            rw [e9, ← HW8.out]; exact (Below.refl _ w7).drew
          · obtain rfl : k0 = 1 := by omega
            have e9 : W = W8.alloc (.cells z328.toArray 33) := hO.2
            rw [e9, ← HW8.out]; exact (Below.refl _ w7).drew.alloc (Nat.le_refl _) _
        clear hk9
        have hs9 : (convert 34 9 u2).run Try.prog W = .ok (.string S) W := by rw [← HSS.out]; exact Sl.str (Q2.out.1.below (B7.out.trans (hB9.mono B7.out.size)) (Nat.le_refl _))
        refine RU.ob_val rfl (RU.wanted_none rfl) (fun ev he hc => ?_) ⟨rfl, hO⟩
        have q96 : ev (.tmp 96) = u2 := (he (.tmp 96)).trans (hp 3 96 rfl)
        simp only [List.getElem_toArray, List.getElem_cons_succ, List.getElem_cons_zero, execOp]; rw [q96]
        first | exact hs9 | (rw [hs9]; done) | (simp only [Sem.run_bind, hs9, Result.andThen_ok, Sem.run_pure]; done) | (simp only [Sem.run_bind, hs9, Result.andThen_ok, Sem.run_pure]; rfl)
      · refine RU.ObT.pure rfl rfl rfl (fun a V hf hp ev he hc W => ?_)
        have q8 : ev (.tmp 8) = .int .u64 vv := (he (.tmp 8)).trans (hf 8 rfl)
        simp only [List.getElem_toArray, List.getElem_cons_succ, List.getElem_cons_zero, execOp, Option.map_some, Option.map_none]; rw [q8]
        first | (go_simp; done) | (go_simp; rfl) | rfl
      · refine RU.ObT.pure rfl rfl rfl (fun a V hf hp ev he hc W => ?_)
        have q10 : ev (.tmp 10) = .slice a1 n1 c1 := (he (.tmp 10)).trans (hf 10 rfl)
        simp only [List.getElem_toArray, List.getElem_cons_succ, List.getElem_cons_zero, execOp, Option.map_some, Option.map_none]; rw [q10]
        first | (go_simp; done) | (go_simp; rfl) | rfl
      · refine RU.ObT.pure rfl rfl rfl (fun a V hf hp ev he hc W => ?_)
        have q93 : ev (.tmp 93) = .agg R.cells.toArray := (he (.tmp 93)).trans (hp 0 93 rfl)
        have q97 : ev (.tmp 97) = .string S := (he (.tmp 97)).trans (hp 4 97 rfl)
        have q98 : ev (.tmp 98) = .int .u64 vv := (he (.tmp 98)).trans (hp 5 98 rfl)
        have q99 : ev (.tmp 99) = .slice a1 n1 c1 := (he (.tmp 99)).trans (hp 6 99 rfl)
        simp only [List.getElem_toArray, List.getElem_cons_succ, List.getElem_cons_zero, execOp, List.map_toArray, List.map_cons, List.map_nil, q93, q97, q98, q99, Sem.run_bind, build_l4 HRL.out S vv a1 none none n1 0 0 c1 0 0 W, Result.andThen_ok, Sem.run_pure]
        rfl
      · refine RU.ObT.loud (j := 0) rfl (fun a W V hO hf hp => ?_)
        have hW : W = W8 := hO
        subst hW
        refine RU.ob_run (v := .pointer (some ⟨W.heap.size, 0, none⟩)) (w' := W.alloc (.cells z328.toArray 33)) rfl (RU.wanted_none rfl) (fun ev he hc => ?_) ⟨_, rfl, rfl, rfl⟩
        have hz9 := zero_look W
        simp only [List.getElem_toArray, List.getElem_cons_succ, List.getElem_cons_zero, execOp]
        first | (go_simp; done) | (go_simp; rfl) | rfl
      · refine RU.ObT.loud (j := 1) rfl (fun a W V hO hf hp => ?_)
        have q1 : a.eval (.tmp 16) = .pointer (some ⟨W8.heap.size, 0, none⟩) := (hp 8 16 rfl).trans hO.1
        have q2 : a.eval (.tmp 100) = .agg (lc ⟨R, S, vv, [], z80, [], z80, []⟩ (.slice a1 n1 c1) (.slice none 0 0) (.slice none 0 0)).toArray := hp 7 100 rfl
        have hW : W = W8.alloc (.cells z328.toArray 33) := hO.2
        rw [hW]
        exact RU.ob_op rfl (RU.wanted_none rfl) (wp_store_mid 33 (.tmp 16) (.tmp 100) rfl W8.heap.size 0 (lc ⟨R, S, vv, [], z80, [], z80, []⟩ (.slice a1 n1 c1) (.slice none 0 0) (.slice none 0 0)).toArray q1 q2 (there_new W8 (by rw [List.size_toArray, List.size_toArray, lc_len HCL.out S vv z80_ok.1 z80_ok.1, z328_length])) (size_look (lc_len HCL.out S vv z80_ok.1 z80_ok.1 _ _ _)) (lc_one _ _ _ _ _ _ _ _ _ _) ⟨_, rfl, hO.1, rfl⟩)
    intro W9 VW9 hOW9
    have PW9 : Hid (VW9 0 = .pointer (some ⟨W8.heap.size, 0, none⟩) ∧ W9 = (W8.alloc (.cells z328.toArray 33)).setCells W8.heap.size 0 (lc ⟨R, S, vv, [], z80, [], z80, []⟩ (.slice a1 n1 c1) (.slice none 0 0) (.slice none 0 0))) := hOW9
    clear hOW9
    simp only [RU.lay, RU.val, show RU.at' [8, 9] 0 = none from rfl, show RU.at' [8, 9] 1 = none from rfl, show RU.at' [8, 9] 2 = none from rfl, show RU.at' [8, 9] 3 = none from rfl, show RU.at' [8, 9] 4 = none from rfl, show RU.at' [8, 9] 5 = none from rfl, show RU.at' [8, 9] 6 = none from rfl, show RU.at' [8, 9] 7 = none from rfl, show RU.at' [8, 9] 8 = some 0 from rfl, show RU.at' [8, 9] 9 = some 1 from rfl, rl11f, Act.put]
    simp only [List.setIfInBounds_toArray, List.set_cons_succ, List.set_cons_zero]
    obtain ⟨E, hE⟩ : ∃ E, W8.heap.size = E := ⟨_, rfl⟩
    have e3 := PW9.out.1
    rw [hE] at e3
    rw [e3]
    have hEw : w7.heap.size = E := by rw [← hE, ← HW8.out]; rfl
    have HEW : Hid (w7.heap.size = E) := hEw
    obtain ⟨b5, o5, rfl, hb5, r5⟩ := sl_at80 Q5.out.1 L5.out
    obtain ⟨b7, o7, rfl, hb7, r7⟩ := sl_at80 Q7.out.1 L7.out
    have D9 : W9.heap[E]? = some (.cells (lc ⟨R, S, vv, [], z80, [], z80, []⟩ (.slice a1 n1 c1) (.slice none 0 0) (.slice none 0 0)).toArray 33 (0, 0)) := by
      rw [PW9.out.2, ← hE]; exact laid_whole W8 _ (by rw [List.size_toArray, lc_len HCL.out S vv z80_ok.1 z80_ok.1, z328_length])
    have B9 : Below w7.heap.size w7 W9 := by rw [PW9.out.2, ← HW8.out]; exact below_setCells (Nat.le_refl _) _ _ ((Below.refl _ w7).drew.alloc (Nat.le_refl _) _)
    have HB9 : Hid (Below w7.heap.size w7 W9) := B9
    have HOLD : Hid (∀ W, Below w7.heap.size w7 W → (W.rangeAt b5 o5 (bv X5) ∧ W.rangeAt b7 o7 (bv X7)) ∧ W.cell? ⟨fb, fo + 5, none⟩ = some (.slice (some ⟨b5, o5, none⟩) 80 c5) ∧ W.cell? ⟨fb, fo + 7, none⟩ = some (.slice (some ⟨b7, o7, none⟩) 80 c7)) := fun W q => by
      have q' : Below w1.heap.size w1 W := B7.out.trans (q.mono B7.out.size)
      exact ⟨⟨range_below r5 q' hb5, range_below r7 q' hb7⟩, (q'.cell (p := ⟨fb, fo + 5, none⟩) HFB.out).trans C5.out, (q'.cell (p := ⟨fb, fo + 7, none⟩) HFB.out).trans C7.out⟩
    obtain ⟨V2, hV2⟩ : ∃ V, W9.drew = V := ⟨_, rfl⟩
    have HV2 : Hid (W9.drew = V2) := hV2
    have HDV2 : Hid (V2.heap[E]? = some (.cells (lc ⟨R, S, vv, [], z80, [], z80, []⟩ (.slice a1 n1 c1) (.slice none 0 0) (.slice none 0 0)).toArray 33 (0, 0))) := by rw [← hV2]; exact D9
    have BV2 : Below w7.heap.size w7 V2 := by rw [← hV2]; exact B9.drew
    have RR5 : Hid (V2.rangeAt b5 o5 (bv X5)) := (HOLD.out V2 BV2).1.1
    have KK5 : Hid (V2.cell? ⟨fb, fo + 5, none⟩ = some (.slice (some ⟨b5, o5, none⟩) 80 c5)) := (HOLD.out V2 BV2).2.1
    clear e3 hE hEw hb5 hb7 r5 r7 D9 B9 hV2 BV2 PW9
    go_upto_region 12 with (fail)
    refine RU.wp_rgn' [6] (rl12f fb fo cap E b5 o5 c5) (fun _ => 0) (rmΩ V2 (V2.setRow E (lc ⟨R, S, vv, [], X5, [], z80, []⟩ (.slice a1 n1 c1) (.slice none 0 0) (.slice none 0 0)).toArray)) (by kernel_rfl) (by kernel_rfl) HV2.out ?_ ?_
    · refine ⟨?_, ?_, ?_, ?_, ?_, ?_, ?_, trivial⟩
      · refine RU.ObT.pure rfl rfl rfl (fun a V hf hp ev he hc W => ?_)
        have q16 : ev (.tmp 16) = .pointer (some ⟨E, 0, none⟩) := (he (.tmp 16)).trans (hf 16 rfl)
        simp only [List.getElem_toArray, List.getElem_cons_succ, List.getElem_cons_zero, execOp, Option.map_some, Option.map_none]; rw [q16]
        first | (go_simp; done) | (go_simp; rfl) | rfl
      · refine RU.ObT.pure rfl rfl rfl (fun a V hf hp ev he hc W => ?_)
        have q101 : ev (.tmp 101) = .pointer (some ⟨E, 166, none⟩) := (he (.tmp 101)).trans (hp 0 101 rfl)
        simp only [List.getElem_toArray, List.getElem_cons_succ, List.getElem_cons_zero, execOp, Option.map_some, Option.map_none]; rw [q101]
        first | (go_simp; done) | (go_simp; rfl) | rfl
      · refine RU.ObT.pure rfl rfl rfl (fun a V hf hp ev he hc W => ?_)
        have q102 : ev (.tmp 102) = .pointer (some ⟨E, 166, none⟩) := (he (.tmp 102)).trans (hp 1 102 rfl)
        simp only [List.getElem_toArray, List.getElem_cons_succ, List.getElem_cons_zero, execOp, Option.map_some, Option.map_none]; rw [q102]
        first | (go_simp; done) | (go_simp; rfl) | rfl
      · refine RU.ObT.pure rfl rfl rfl (fun a V hf hp ev he hc W => ?_)
        have q4 : ev (.tmp 4) = .slice (some ⟨fb, fo, none⟩) 9 cap := (he (.tmp 4)).trans (hf 4 rfl)
        simp only [List.getElem_toArray, List.getElem_cons_succ, List.getElem_cons_zero, execOp, Option.map_some, Option.map_none]; rw [q4]
        first | (go_simp; done) | (go_simp; rfl) | rfl
      · refine RU.ObT.pure rfl rfl rfl (fun a V hf hp ev he hc W => ?_)
        have q104 : ev (.tmp 104) = .slice (some ⟨fb, fo, none⟩) 9 cap := (he (.tmp 104)).trans (hp 3 104 rfl)
        simp only [List.getElem_toArray, List.getElem_cons_succ, List.getElem_cons_zero, execOp, Option.map_some, Option.map_none]; rw [q104]
        try simp only [hc]
        first | (go_simp; done) | (go_simp; rfl) | rfl
      · refine RU.ObT.silent rfl (fun a W k0 V hO hf hp hk => ?_)
        have hk9 : k0 ≤ 0 := hk
        obtain rfl : k0 = 0 := by omega
        have e9 : W = V2 := hO
        have hcl9 : W.cell? ⟨fb, fo + 5, none⟩ = some (.slice (some ⟨b5, o5, none⟩) 80 c5) := by rw [e9]; exact KK5.out
        clear e9
        refine RU.ob_val rfl (RU.wanted_none rfl) (fun ev he hc => ?_) ⟨rfl, hO⟩
        have q9 : ev (.tmp 105) = .pointer (some ⟨fb, fo + 5, none⟩) := (he (.tmp 105)).trans (hp 4 105 rfl)
        simp only [List.getElem_toArray, List.getElem_cons_succ, List.getElem_cons_zero, execOp]; rw [q9]
        first | (go_simp; done) | (go_simp; rfl) | rfl
      · refine RU.ObT.loud (j := 0) rfl (fun a W V hO hf hp => ?_)
        have q1 : a.eval (.tmp 103) = .slice (some ⟨E, 166, none⟩) 80 80 := hp 2 103 rfl
        have q2 : a.eval (.tmp 106) = .slice (some ⟨b5, o5, none⟩) 80 c5 := hp 5 106 rfl
        have hW : W = V2 := hO
        subst hW
        have hrun := run_copy_row (P := Try.prog) W 34 34 3 5 E 166 80 80 ⟨b5, o5, none⟩ 80 c5 (lc ⟨R, S, vv, [], z80, [], z80, []⟩ (.slice a1 n1 c1) (.slice none 0 0) (.slice none 0 0)).toArray 33 (bv X5) Try.underlying34 size_u8W1 HDV2.out (by rw [bv_length, L5.out]; rfl) (fun j u hu => by rw [addr_add0]; exact RR5.out j u hu) (by rw [List.size_toArray, lc_len HCL.out S vv z80_ok.1 z80_ok.1, bv_length, L5.out]; omega) (bv_one _)
        rw [show (lc ⟨R, S, vv, [], z80, [], z80, []⟩ (.slice a1 n1 c1) (.slice none 0 0) (.slice none 0 0)).toArray.toList = (lc ⟨R, S, vv, [], z80, [], z80, []⟩ (.slice a1 n1 c1) (.slice none 0 0) (.slice none 0 0)) from rfl, lc_put1 HCL.out S vv z80 z80_ok.1 L5.out] at hrun
        refine RU.ob_run (v := goInt (bv X5).length) (w' := W.setRow E (lc ⟨R, S, vv, [], X5, [], z80, []⟩ (.slice a1 n1 c1) (.slice none 0 0) (.slice none 0 0)).toArray) rfl (RU.wanted_none rfl) (fun ev he hc => ?_) ⟨_, rfl, rfl⟩
        have e1 := (he (.tmp 103)).trans q1
        have e2 := (he (.tmp 106)).trans q2
        simp only [List.getElem_toArray, List.getElem_cons_succ, List.getElem_cons_zero, execOp, resolve, invoke, builtin, Sem.run_bind, Sem.run_pure, Result.andThen_ok, List.map_toArray, List.map_cons, List.map_nil, e1, e2, hrun]
    intro V3 VV3 hOV3
    have PV3 : Hid (V3 = V2.setRow E (lc ⟨R, S, vv, [], X5, [], z80, []⟩ (.slice a1 n1 c1) (.slice none 0 0) (.slice none 0 0)).toArray) := hOV3
    clear hOV3
    simp only [RU.lay, RU.val, show RU.at' [6] 0 = none from rfl, show RU.at' [6] 1 = none from rfl, show RU.at' [6] 2 = none from rfl, show RU.at' [6] 3 = none from rfl, show RU.at' [6] 4 = none from rfl, show RU.at' [6] 5 = none from rfl, show RU.at' [6] 6 = some 0 from rfl, rl12f, Act.put]
    simp only [List.setIfInBounds_toArray, List.set_cons_succ, List.set_cons_zero]
    have D3 : V3.heap[E]? = some (.cells (lc ⟨R, S, vv, [], X5, [], z80, []⟩ (.slice a1 n1 c1) (.slice none 0 0) (.slice none 0 0)).toArray 33 (0, 0)) := by rw [PV3.out]; exact setRow_same HDV2.out
    have BV3 : Hid (Below w7.heap.size w7 V3) := by rw [PV3.out, ← HV2.out]; exact below_setRow HB9.out.drew (Nat.le_of_eq HEW.out)
    obtain ⟨V4, hV4⟩ : ∃ V, V3.drew = V := ⟨_, rfl⟩
    have HV4 : Hid (V3.drew = V4) := hV4
    have HDV4 : Hid (V4.heap[E]? = some (.cells (lc ⟨R, S, vv, [], X5, [], z80, []⟩ (.slice a1 n1 c1) (.slice none 0 0) (.slice none 0 0)).toArray 33 (0, 0))) := by rw [← hV4]; exact D3
    have BV4 : Below w7.heap.size w7 V4 := by rw [← hV4]; exact BV3.out.drew
    have RR7 : Hid (V4.rangeAt b7 o7 (bv X7)) := (HOLD.out V4 BV4).1.2
    have KK7 : Hid (V4.cell? ⟨fb, fo + 7, none⟩ = some (.slice (some ⟨b7, o7, none⟩) 80 c7)) := (HOLD.out V4 BV4).2.2
    clear D3 hV4 BV4 PV3
    go_upto_region 13 with (fail)
    refine RU.wp_rgn' [6] (rl13f fb fo cap E b7 o7 c7) (fun _ => 0) (rmΩ V4 (V4.setRow E (lc ⟨R, S, vv, [], X5, [], X7, []⟩ (.slice a1 n1 c1) (.slice none 0 0) (.slice none 0 0)).toArray)) (by kernel_rfl) (by kernel_rfl) HV4.out ?_ ?_
    · refine ⟨?_, ?_, ?_, ?_, ?_, ?_, ?_, trivial⟩
      · refine RU.ObT.pure rfl rfl rfl (fun a V hf hp ev he hc W => ?_)
        have q16 : ev (.tmp 16) = .pointer (some ⟨E, 0, none⟩) := (he (.tmp 16)).trans (hf 16 rfl)
        simp only [List.getElem_toArray, List.getElem_cons_succ, List.getElem_cons_zero, execOp, Option.map_some, Option.map_none]; rw [q16]
        first | (go_simp; done) | (go_simp; rfl) | rfl
      · refine RU.ObT.pure rfl rfl rfl (fun a V hf hp ev he hc W => ?_)
        have q108 : ev (.tmp 108) = .pointer (some ⟨E, 247, none⟩) := (he (.tmp 108)).trans (hp 0 108 rfl)
        simp only [List.getElem_toArray, List.getElem_cons_succ, List.getElem_cons_zero, execOp, Option.map_some, Option.map_none]; rw [q108]
        first | (go_simp; done) | (go_simp; rfl) | rfl
      · refine RU.ObT.pure rfl rfl rfl (fun a V hf hp ev he hc W => ?_)
        have q109 : ev (.tmp 109) = .pointer (some ⟨E, 247, none⟩) := (he (.tmp 109)).trans (hp 1 109 rfl)
        simp only [List.getElem_toArray, List.getElem_cons_succ, List.getElem_cons_zero, execOp, Option.map_some, Option.map_none]; rw [q109]
        first | (go_simp; done) | (go_simp; rfl) | rfl
      · refine RU.ObT.pure rfl rfl rfl (fun a V hf hp ev he hc W => ?_)
        have q4 : ev (.tmp 4) = .slice (some ⟨fb, fo, none⟩) 9 cap := (he (.tmp 4)).trans (hf 4 rfl)
        simp only [List.getElem_toArray, List.getElem_cons_succ, List.getElem_cons_zero, execOp, Option.map_some, Option.map_none]; rw [q4]
        first | (go_simp; done) | (go_simp; rfl) | rfl
      · refine RU.ObT.pure rfl rfl rfl (fun a V hf hp ev he hc W => ?_)
        have q111 : ev (.tmp 111) = .slice (some ⟨fb, fo, none⟩) 9 cap := (he (.tmp 111)).trans (hp 3 111 rfl)
        simp only [List.getElem_toArray, List.getElem_cons_succ, List.getElem_cons_zero, execOp, Option.map_some, Option.map_none]; rw [q111]
        try simp only [hc]
        first | (go_simp; done) | (go_simp; rfl) | rfl
      · refine RU.ObT.silent rfl (fun a W k0 V hO hf hp hk => ?_)
        have hk9 : k0 ≤ 0 := hk
        obtain rfl : k0 = 0 := by omega
        have e9 : W = V4 := hO
        have hcl9 : W.cell? ⟨fb, fo + 7, none⟩ = some (.slice (some ⟨b7, o7, none⟩) 80 c7) := by rw [e9]; exact KK7.out
        clear e9
        refine RU.ob_val rfl (RU.wanted_none rfl) (fun ev he hc => ?_) ⟨rfl, hO⟩
        have q9 : ev (.tmp 112) = .pointer (some ⟨fb, fo + 7, none⟩) := (he (.tmp 112)).trans (hp 4 112 rfl)
        simp only [List.getElem_toArray, List.getElem_cons_succ, List.getElem_cons_zero, execOp]; rw [q9]
        first | (go_simp; done) | (go_simp; rfl) | rfl
      · refine RU.ObT.loud (j := 0) rfl (fun a W V hO hf hp => ?_)
        have q1 : a.eval (.tmp 110) = .slice (some ⟨E, 247, none⟩) 80 80 := hp 2 110 rfl
        have q2 : a.eval (.tmp 113) = .slice (some ⟨b7, o7, none⟩) 80 c7 := hp 5 113 rfl
        have hW : W = V4 := hO
        subst hW
        have hrun := run_copy_row (P := Try.prog) W 34 34 3 5 E 247 80 80 ⟨b7, o7, none⟩ 80 c7 (lc ⟨R, S, vv, [], X5, [], z80, []⟩ (.slice a1 n1 c1) (.slice none 0 0) (.slice none 0 0)).toArray 33 (bv X7) Try.underlying34 size_u8W1 HDV4.out (by rw [bv_length, L7.out]; rfl) (fun j u hu => by rw [addr_add0]; exact RR7.out j u hu) (by rw [List.size_toArray, lc_len HCL.out S vv L5.out z80_ok.1, bv_length, L7.out]; omega) (bv_one _)
        rw [show (lc ⟨R, S, vv, [], X5, [], z80, []⟩ (.slice a1 n1 c1) (.slice none 0 0) (.slice none 0 0)).toArray.toList = (lc ⟨R, S, vv, [], X5, [], z80, []⟩ (.slice a1 n1 c1) (.slice none 0 0) (.slice none 0 0)) from rfl, lc_put2 HCL.out S vv z80_ok.1 L7.out L5.out] at hrun
        refine RU.ob_run (v := goInt (bv X7).length) (w' := W.setRow E (lc ⟨R, S, vv, [], X5, [], X7, []⟩ (.slice a1 n1 c1) (.slice none 0 0) (.slice none 0 0)).toArray) rfl (RU.wanted_none rfl) (fun ev he hc => ?_) ⟨_, rfl, rfl⟩
        have e1 := (he (.tmp 110)).trans q1
        have e2 := (he (.tmp 113)).trans q2
        simp only [List.getElem_toArray, List.getElem_cons_succ, List.getElem_cons_zero, execOp, resolve, invoke, builtin, Sem.run_bind, Sem.run_pure, Result.andThen_ok, List.map_toArray, List.map_cons, List.map_nil, e1, e2, hrun]
    intro V5 VV5 hOV5
    have PV5 : Hid (V5 = V4.setRow E (lc ⟨R, S, vv, [], X5, [], X7, []⟩ (.slice a1 n1 c1) (.slice none 0 0) (.slice none 0 0)).toArray) := hOV5
    clear hOV5
    simp only [RU.lay, RU.val, show RU.at' [6] 0 = none from rfl, show RU.at' [6] 1 = none from rfl, show RU.at' [6] 2 = none from rfl, show RU.at' [6] 3 = none from rfl, show RU.at' [6] 4 = none from rfl, show RU.at' [6] 5 = none from rfl, show RU.at' [6] 6 = some 0 from rfl, rl13f, Act.put]
    simp only [List.setIfInBounds_toArray, List.set_cons_succ, List.set_cons_zero]
    have D5 : V5.heap[E]? = some (.cells (lc ⟨R, S, vv, [], X5, [], X7, []⟩ (.slice a1 n1 c1) (.slice none 0 0) (.slice none 0 0)).toArray 33 (0, 0)) := by rw [PV5.out]; exact setRow_same HDV4.out
    have BV5 : Hid (Below w7.heap.size w7 V5) := by rw [PV5.out, ← HV4.out]; exact below_setRow BV3.out.drew (Nat.le_of_eq HEW.out)
    have HD5 : Hid (V5.heap[E]? = some (.cells (lc ⟨R, S, vv, [], X5, [], X7, []⟩ (.slice a1 n1 c1) (.slice none 0 0) (.slice none 0 0)).toArray 33 (0, 0))) := D5
    have hc1 : V5.cell? ⟨E, 246, none⟩ = some (.slice none 0 0) := by rw [cell_of_row V5 E 246 _ _ _ D5, List.getElem?_toArray]; exact (lc_at (L := ⟨R, S, vv, [], X5, [], X7, []⟩) ⟨HCL.out, L5.out, L7.out⟩ _ _ _).nv
    have hc2 : V5.cell? ⟨E, 327, none⟩ = some (.slice none 0 0) := by rw [cell_of_row V5 E 327 _ _ _ D5, List.getElem?_toArray]; exact (lc_at (L := ⟨R, S, vv, [], X5, [], X7, []⟩) ⟨HCL.out, L5.out, L7.out⟩ _ _ _).mv
    have hf1 : V5.frozen? ⟨E, 246, none⟩ = false := frozen_of_row _ _ _ _ _ D5
    have hf2 : V5.frozen? ⟨E, 327, none⟩ = false := frozen_of_row _ _ _ _ _ D5
    clear D5 PV5
    go_upto_region 15 with (fail)
    generalize hV6 : World.setCell (World.setCell V5 _ _) _ _ = V6
    have D6 : V6.heap[E]? = some (.cells (lc ⟨R, S, vv, [], X5, [], X7, []⟩ (.slice a1 n1 c1) (.slice a2 n2 c2) (.slice a3 n3 c3)).toArray 33 (0, 0)) := by
      have q1 := row_setCell (j := 246) (.slice a2 n2 c2) HD5.out
      rw [lc_set1 HCL.out S vv L5.out] at q1
      have q2 := row_setCell (j := 327) (.slice a3 n3 c3) q1
      rw [lc_set2 HCL.out S vv L5.out L7.out] at q2
      rw [← hV6]; exact q2
    have B6' : Below w7.heap.size w7 V6 := by
      rw [← hV6]; exact below_setCell (below_setCell BV5.out (Nat.le_of_eq HEW.out)) (Nat.le_of_eq HEW.out)
    have RE : Hid (V6.rangeAt E 0 (lc ⟨R, S, vv, [], X5, [], X7, []⟩ (.slice a1 n1 c1) (.slice a2 n2 c2) (.slice a3 n3 c3))) := fun j u hj => by rw [cell_of_row V6 E (0 + j) _ _ _ D6]; simpa using hj
    have Y9 : Hid (YO W3.heap.size V6 (.slice a1 n1 c1) (rdy X4)) := Y7.out.below B6'
    have N9 : Hid (NO w5.heap.size V6 (.slice a2 n2 c2) (rdn X6)) := N7.out.below B6'
    have M9 : Hid (NO w6.heap.size V6 (.slice a3 n3 c3) (rdn X8)) := M7.out.below B6'
    have H9 : Hid (Hd w V6 328) := H7.out.step B6'
    have HSL : Hid ((lc ⟨R, S, vv, [], X5, [], X7, []⟩ (.slice a1 n1 c1) (.slice a2 n2 c2) (.slice a3 n3 c3)).length = 328) := lc_len HCL.out S vv L5.out L7.out _ _ _
    clear D6 B6' hV6 hc1 hc2 hf1 hf2 HD5 HDV4 HDV2 HOLD
    go_wp2_with (first
      | (refine wpList_load_mid rfl 33 _ rfl E 0 rfl (lc ⟨R, S, vv, [], X5, [], X7, []⟩ (.slice a1 n1 c1) (.slice a2 n2 c2) (.slice a3 n3 c3)) _ RE.out Try.underlying33 rfl (by rw [HSL.out]; exact look_size) ?_)
      | (refine wpList_store_mid rfl 33 _ _ rfl w.heap.size 0 (lc ⟨R, S, vv, [], X5, [], X7, []⟩ (.slice a1 n1 c1) (.slice a2 n2 c2) (.slice a3 n3 c3)).toArray rfl rfl (there_of H9.out.there HSL.out) (size_look HSL.out) (lc_one _ _ _ _ _ _ _ _ _ _) ?_))
    refine bodyPost_ret (v := .tuple #[.agg (lc ⟨R, S, vv, [], X5, [], X7, []⟩ (.slice a1 n1 c1) (.slice a2 n2 c2) (.slice a3 n3 c3)).toArray, .int .i64 0]) ?_ rfl ⟨_, by rw [E1.out.2], by rw [E1.out.1]; exact ⟨_, _, _, rfl, Y9.out.setc HLT.out.1, N9.out.setc HLT.out.2.1, M9.out.setc HLT.out.2.2⟩, (H9.out.put HSL.out).1⟩
    have q := (H9.out.put HSL.out).2
    simp only [results, Try.results9]
    simp [asAddr, run_loadVar_mid _ w.heap.size 0 33 (lc ⟨R, S, vv, [], X5, [], X7, []⟩ (.slice a1 n1 c1) (.slice a2 n2 c2) (.slice a3 n3 c3)) _ q Try.underlying33 rfl (by rw [HSL.out]; exact look_size)]
end Go.Proofs.Ytfnmdeekenjlgaa
