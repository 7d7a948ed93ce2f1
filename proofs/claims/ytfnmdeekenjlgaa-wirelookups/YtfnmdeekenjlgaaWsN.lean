/- The reference: ReadLinks. -/
import Derived.Test.YtfnmdeekenjlgaaWsM
namespace Go.Proofs.Ytfnmdeekenjlgaa
open Go Go.RowKit
set_option linter.unusedSimpArgs false
set_option linter.unusedVariables false
set_option maxRecDepth 100000

theorem row_mono {B0 B1 : Nat} {e : TypeId} {s n : Nat} {xs : List Value} {w : World} {v : Value} (h : w.ownsRow B0 e s v n xs) (hB : B1 ≤ B0) : w.ownsRow B1 e s v n xs := by
  obtain ⟨h1, h2⟩ := h
  refine ⟨h1, ?_⟩
  rcases h2 with h2 | ⟨g, cap, cur, h3, h4, h5⟩
  · exact .inl h2
  · exact .inr ⟨g, cap, cur, h3, Nat.le_trans hB h4, h5⟩
theorem KO.mono {B0 B1 : Nat} {w : World} {v : Value} {l : List Lk} (h : KO B0 w v l) (hB : B1 ≤ B0) : KO B1 w v l := ⟨row_mono h.1 hB, h.2.1, Nat.le_trans hB h.2.2⟩
theorem LO.mono {B0 B1 : Nat} {w : World} {v : Value} {l : List Lf} (h : LO B0 w v l) (hB : B1 ≤ B0) : LO B1 w v l := ⟨row_mono h.1 hB, h.2.1, Nat.le_trans hB h.2.2⟩
theorem NO.mono {B0 B1 : Nat} {w : World} {v : Value} {l : List Nd} (h : NO B0 w v l) (hB : B1 ≤ B0) : NO B1 w v l := ⟨row_mono h.1 hB, h.2.1, Nat.le_trans hB h.2.2⟩
theorem YO.mono {B0 B1 : Nat} {w : World} {v : Value} {l : List (List Int)} (h : YO B0 w v l) (hB : B1 ≤ B0) : YO B1 w v l := ⟨row_mono h.1 hB, h.2.1, Nat.le_trans hB h.2.2⟩
/-- What lies about a region that builds one thing, puts it behind the others and keeps the row in a slot. -/
def rcΩ (W0 W1 : World) (sl : Value) (P2 : Value → World → Prop) : Nat → (Nat → Value) → World → Prop
  | 0, _, W => W = W0
  | 1, U, W => U 0 = sl ∧ W = W1
  | 2, U, W => P2 (U 1) W
  | _ + 3, U, W => P2 (U 2) W
def rlkf (v : Value) (b o N cap I0 I1 I2 : Nat) (x : Lk) : Nat → Value
  | 0 => v
  | 1 => .slice (some ⟨b, o, none⟩) N cap
  | 2 => .int .i64 (I0 : Int)
  | 3 => .pointer (some ⟨b, o + I0 * 32, none⟩)
  | 4 => .agg (bv x.o).toArray
  | 5 => .slice (some ⟨b, o, none⟩) N cap
  | 6 => .int .i64 (I0 : Int)
  | 7 => .int .i64 (I1 : Int)
  | 8 => .pointer (some ⟨b, o + I1 * 32, none⟩)
  | 9 => .agg (bv x.n).toArray
  | 10 => .slice (some ⟨b, o, none⟩) N cap
  | 11 => .int .i64 (I0 : Int)
  | 12 => .int .i64 (I2 : Int)
  | 13 => .pointer (some ⟨b, o + I2 * 32, none⟩)
  | 14 => .agg (bv x.q).toArray
  | 15 => .agg (lkc x).toArray
  | 16 => undef
  | 17 => undef
  | 18 => undef
  | _ => undef
theorem lkAt_dv (xs : List Int) (j : Nat) : lkAt xs j = ⟨dvAt xs (j * 3), dvAt xs (j * 3 + 1), dvAt xs (j * 3 + 2)⟩ := by
  unfold lkAt dvAt
  rw [show j * 3 * 32 = j * 96 by omega, show (j * 3 + 1) * 32 = j * 96 + 32 by omega, show (j * 3 + 2) * 32 = j * 96 + 64 by omega]
theorem lfAt_dv (xs : List Int) (j : Nat) : lfAt xs j = ⟨dvAt xs (j * 2), dvAt xs (j * 2 + 1)⟩ := by
  unfold lfAt dvAt
  rw [show j * 2 * 32 = j * 64 by omega, show (j * 2 + 1) * 32 = j * 64 + 32 by omega]
set_option maxHeartbeats 4000000 in
theorem rReadLinks_any (xs : List Int) (v : Value) (w : World) (hb : Byt xs) (hs : Sl w v xs) (hl : xs.length ≤ 1048576) :
    Calls Try.prog 47 #[v] w fun e w' => ∃ v', e = .returned (.tuple #[v', .bool (decide (xs.length % 96 = 0))]) ∧ KO w.heap.size w' v' (rdk xs) ∧ Below w.heap.size w w' := by
  obtain ⟨bo, hbo⟩ : ∃ q, decide (xs.length % 96 = 0) = q := ⟨_, rfl⟩
  rw [hbo]
  obtain ⟨m, hm, hrd, hrk⟩ : ∃ m, m * 96 ≤ 1048576 ∧ rdh 3 xs = (List.range (m * 3)).map (dvAt xs) ∧ rdk xs = (List.range m).map (lkAt xs) := by
    by_cases h0 : xs.length % 96 = 0
    · refine ⟨xs.length / 96, by omega, ?_, ?_⟩
      · unfold rdh; rw [if_pos h0, show xs.length / 32 = xs.length / 96 * 3 by omega]
      · unfold rdk; rw [if_pos h0]
    · refine ⟨0, by omega, ?_, ?_⟩
      · unfold rdh; rw [if_neg h0]; rfl
      · unfold rdk; rw [if_neg h0]; rfl
  rw [hrk]
  have HR : Hid (Calls Try.prog 36 #[v, .int .i64 3] w fun e' w' => ∃ v', e' = .returned (.tuple #[v', .bool bo]) ∧ YO w.heap.size w' v' ((List.range (m * 3)).map (dvAt xs)) ∧ Below w.heap.size w w') := by
    have := rreadHashes_any 3 (by decide) (by decide) xs v w hb hs hl
    rw [show 32 * 3 = 96 from rfl, hbo, hrd] at this
    exact this
  clear hrd hrk hbo hs
  go_enter Try.func47, Try.ntmps47
  go_wp2_with (go_at_call 36; refine HR.out.mono ?_; rintro e w1 ⟨v1, rfl, h1, h2⟩; have Y1 : Hid (YO w.heap.size w1 v1 ((List.range (m * 3)).map (dvAt xs))) := h1; have G1 : Hid (Below w.heap.size w w1) := h2; clear h1 h2)
  have HYS := Y1.out.ys
  have HYK : Hid (∀ x ∈ (List.range (m * 3)).map (dvAt xs), L32 x) := Y1.out.2.1
  obtain ⟨ad, cap, rfl, hc, hx⟩ := HYS
  rw [List.length_map, List.length_range] at hc ⊢
  have HXX : Hid (((List.range (m * 3)).map (dvAt xs) = [] ∧ (ad = none → cap = 0)) ∨ ∃ b o, ad = some ⟨b, o, none⟩ ∧ b < w1.heap.size ∧ ∀ (i : Nat) (x : List Int), ((List.range (m * 3)).map (dvAt xs))[i]? = some x → w1.rangeAt b (o + i * 32) (bv x)) := hx
  obtain ⟨N, hN⟩ : ∃ N, m * 3 = N := ⟨_, rfl⟩
  have HN : Hid (m * 3 = N) := hN
  rw [hN] at hc ⊢
  obtain ⟨B0, hB0⟩ : ∃ B0, w1.heap.size = B0 := ⟨_, rfl⟩
  have HB0 : Hid (w1.heap.size = B0) := hB0
  rw [hB0] at HXX
  clear hx hN hB0
  go_loopw [6, 7] (fun ov i wr => ∃ k : Nat, k ≤ m ∧ i = .int .i64 ((k * 3 : Nat) : Int) ∧ KO B0 wr ov ((List.range k).map (lkAt xs)) ∧ Below B0 w1 wr) (fun _ i _ => N - (intOf i).toNat)
  case atStart => exact ⟨0, Nat.zero_le _, rfl, KO.nil' (Nat.le_of_eq HB0.out.symm), Below.refl _ _⟩
  case round =>
    obtain ⟨k, hkn, rfl, h1, h2⟩ := hrel
    by_cases hlt : k < m
    · obtain ⟨x, hxe⟩ : ∃ x, lkAt xs k = x := ⟨_, rfl⟩
      have hin : ∀ i, i < m * 3 → ((List.range (m * 3)).map (dvAt xs))[i]? = some (dvAt xs i) := fun i hi => by simp [hi]
      have hok : ∀ i, i < m * 3 → L32 (dvAt xs i) := fun i hi => HYK.out _ (List.mem_of_getElem? (hin i hi))
      rcases HXX.out with ⟨h0, _⟩ | ⟨b, o, rfl, hlb, hmm⟩
      · have := congrArg List.length h0; simp at this; omega
      have HXK : Hid x.Ok := by rw [← hxe, lkAt_dv]; exact ⟨hok _ (by omega), hok _ (by omega), hok _ (by omega)⟩
      obtain ⟨ls, hls⟩ : ∃ ls, (List.range k).map (lkAt xs) = ls := ⟨_, rfl⟩
      have HLN : Hid (ls.length + 1 ≤ 1460000000000) := by show _ ≤ _; rw [← hls, List.length_map, List.length_range]; omega
      have HSN : Hid ((List.range (k + 1)).map (lkAt xs) = ls ++ [x]) := by show _ = _; rw [List.range_succ, List.map_append, hls, ← hxe]; rfl
      rw [hls] at h1
      obtain ⟨W2, hW2⟩ : ∃ W2, wr.drew = W2 := ⟨_, rfl⟩
      have HW2 : Hid (wr.drew = W2) := hW2
      have b3 : Below B0 w1 W2 := by rw [← hW2]; exact h2.drew
      have HRW : Hid (KO B0 W2 u6 ls) := by rw [← hW2]; exact h1
      have BW2 : Hid (Below B0 w1 W2) := b3
      obtain ⟨I0, hI0⟩ : ∃ I, k * 3 = I := ⟨_, rfl⟩
      obtain ⟨I1, hI1⟩ : ∃ I, k * 3 + 1 = I := ⟨_, rfl⟩
      obtain ⟨I2, hI2⟩ : ∃ I, k * 3 + 2 = I := ⟨_, rfl⟩
      have RP0 : W2.rangeAt b (o + I0 * 32) (bv x.o) := by rw [← hxe, lkAt_dv, ← hI0]; exact range_low9 (hmm _ _ (hin _ (by omega))) b3 hlb
      have RP1 : W2.rangeAt b (o + I1 * 32) (bv x.n) := by rw [← hxe, lkAt_dv, ← hI1]; exact range_low9 (hmm _ _ (hin _ (by omega))) b3 hlb
      have RP2 : W2.rangeAt b (o + I2 * 32) (bv x.q) := by rw [← hxe, lkAt_dv, ← hI2]; exact range_low9 (hmm _ _ (hin _ (by omega))) b3 hlb
      have HNN := HN.out
      have hw1 : IntKind.i64.wrap ((I0 : Int) + 1) = (I1 : Int) := by rw [IntKind.wrap_i64]; omega
      have hw2 : IntKind.i64.wrap ((I0 : Int) + 2) = (I2 : Int) := by rw [IntKind.wrap_i64]; omega
      have hlt0 : (I0 : Int) < (N : Int) := by omega
      have hlt1 : (I1 : Int) < (N : Int) := by omega
      have hlt2 : (I2 : Int) < (N : Int) := by omega
      have HI0 : Hid (k * 3 = I0) := hI0
      rw [hI0]
      clear hxe hin hok hmm hls h1 h2 b3 hI1 hI2 hI0 hW2
      go_upto_region 6 with (fail)
      refine RU.wp_rgn' [16, 17, 18] (rlkf u6 b o N cap I0 I1 I2 x) (fun i => if i = 0 then 1 else 0) (rcΩ W2 (W2.alloc (.cells (lkc x).toArray 110)) (.slice (some ⟨W2.heap.size, 0, none⟩) 1 1) (fun v9 w1 => KO B0 w1 v9 (ls ++ [x]) ∧ Below B0 W2 w1)) (by kernel_rfl) (by kernel_rfl) HW2.out ?_ ?_
      · refine ⟨?_, ?_, ?_, ?_, ?_, ?_, ?_, ?_, ?_, ?_, ?_, ?_, ?_, ?_, ?_, ?_, ?_, ?_, ?_, trivial⟩
        · refine RU.ObT.pure rfl rfl rfl (fun a V hf hp ev he hc W => ?_)
          have q6 : ev (.tmp 6) = u6 := (he (.tmp 6)).trans (hf 6 rfl)
          simp only [List.getElem_toArray, List.getElem_cons_succ, List.getElem_cons_zero, execOp, Option.map_some, Option.map_none]; rw [q6]
          first | (go_simp; done) | (go_simp; rfl) | rfl
        · refine RU.ObT.pure rfl rfl rfl (fun a V hf hp ev he hc W => ?_)
          have q4 : ev (.tmp 4) = .slice (some ⟨b, o, none⟩) N cap := (he (.tmp 4)).trans (hf 4 rfl)
          simp only [List.getElem_toArray, List.getElem_cons_succ, List.getElem_cons_zero, execOp, Option.map_some, Option.map_none]; rw [q4]
          first | (go_simp; done) | (go_simp; rfl) | rfl
        · refine RU.ObT.pure rfl rfl rfl (fun a V hf hp ev he hc W => ?_)
          have q7 : ev (.tmp 7) = .int .i64 (I0 : Int) := (he (.tmp 7)).trans (hf 7 rfl)
          simp only [List.getElem_toArray, List.getElem_cons_succ, List.getElem_cons_zero, execOp, Option.map_some, Option.map_none]; rw [q7]
          first | (go_simp; done) | (go_simp; rfl) | rfl
        · refine RU.ObT.pure rfl rfl rfl (fun a V hf hp ev he hc W => ?_)
          have q20 : ev (.tmp 20) = .slice (some ⟨b, o, none⟩) N cap := (he (.tmp 20)).trans (hp 1 20 rfl)
          have q21 : ev (.tmp 21) = .int .i64 (I0 : Int) := (he (.tmp 21)).trans (hp 2 21 rfl)
          simp only [List.getElem_toArray, List.getElem_cons_succ, List.getElem_cons_zero, execOp, Option.map_some, Option.map_none]; rw [q20, q21]
          have hk9 := hlt0
          first | (go_simp; done) | (go_simp; rfl) | rfl
        · refine RU.ObT.silent rfl (fun a W k0 V hO hf hp hk => ?_)
          have q22 : a.eval (.tmp 22) = .pointer (some ⟨b, o + I0 * 32, none⟩) := hp 3 22 rfl
          exact RU.ob_op rfl (RU.wanted_none rfl) (wp_load_mid 23 (.tmp 22) rfl (b) (o + I0 * 32) q22 (bv x.o) _ ((by rw [show W = _ from (by obtain rfl := Nat.le_zero.1 hk; exact hO)]; exact RP0)) Try.underlying23 rfl (size_l32 HXK.out.o) ⟨rfl, hO⟩)
        · refine RU.ObT.pure rfl rfl rfl (fun a V hf hp ev he hc W => ?_)
          have q4 : ev (.tmp 4) = .slice (some ⟨b, o, none⟩) N cap := (he (.tmp 4)).trans (hf 4 rfl)
          simp only [List.getElem_toArray, List.getElem_cons_succ, List.getElem_cons_zero, execOp, Option.map_some, Option.map_none]; rw [q4]
          first | (go_simp; done) | (go_simp; rfl) | rfl
        · refine RU.ObT.pure rfl rfl rfl (fun a V hf hp ev he hc W => ?_)
          have q7 : ev (.tmp 7) = .int .i64 (I0 : Int) := (he (.tmp 7)).trans (hf 7 rfl)
          simp only [List.getElem_toArray, List.getElem_cons_succ, List.getElem_cons_zero, execOp, Option.map_some, Option.map_none]; rw [q7]
          first | (go_simp; done) | (go_simp; rfl) | rfl
        · refine RU.ObT.pure rfl rfl rfl (fun a V hf hp ev he hc W => ?_)
          have q25 : ev (.tmp 25) = .int .i64 (I0 : Int) := (he (.tmp 25)).trans (hp 6 25 rfl)
          simp only [List.getElem_toArray, List.getElem_cons_succ, List.getElem_cons_zero, execOp, Option.map_some, Option.map_none]; rw [q25]
          try simp only [hc]
          have hw9 := hw1
          first | (go_simp; done) | (go_simp; rfl) | rfl
        · refine RU.ObT.pure rfl rfl rfl (fun a V hf hp ev he hc W => ?_)
          have q24 : ev (.tmp 24) = .slice (some ⟨b, o, none⟩) N cap := (he (.tmp 24)).trans (hp 5 24 rfl)
          have q26 : ev (.tmp 26) = .int .i64 (I1 : Int) := (he (.tmp 26)).trans (hp 7 26 rfl)
          simp only [List.getElem_toArray, List.getElem_cons_succ, List.getElem_cons_zero, execOp, Option.map_some, Option.map_none]; rw [q24, q26]
          have hk9 := hlt1
          first | (go_simp; done) | (go_simp; rfl) | rfl
        · refine RU.ObT.silent rfl (fun a W k0 V hO hf hp hk => ?_)
          have q27 : a.eval (.tmp 27) = .pointer (some ⟨b, o + I1 * 32, none⟩) := hp 8 27 rfl
          exact RU.ob_op rfl (RU.wanted_none rfl) (wp_load_mid 23 (.tmp 27) rfl (b) (o + I1 * 32) q27 (bv x.n) _ ((by rw [show W = _ from (by obtain rfl := Nat.le_zero.1 hk; exact hO)]; exact RP1)) Try.underlying23 rfl (size_l32 HXK.out.n) ⟨rfl, hO⟩)
        · refine RU.ObT.pure rfl rfl rfl (fun a V hf hp ev he hc W => ?_)
          have q4 : ev (.tmp 4) = .slice (some ⟨b, o, none⟩) N cap := (he (.tmp 4)).trans (hf 4 rfl)
          simp only [List.getElem_toArray, List.getElem_cons_succ, List.getElem_cons_zero, execOp, Option.map_some, Option.map_none]; rw [q4]
          first | (go_simp; done) | (go_simp; rfl) | rfl
        · refine RU.ObT.pure rfl rfl rfl (fun a V hf hp ev he hc W => ?_)
          have q7 : ev (.tmp 7) = .int .i64 (I0 : Int) := (he (.tmp 7)).trans (hf 7 rfl)
          simp only [List.getElem_toArray, List.getElem_cons_succ, List.getElem_cons_zero, execOp, Option.map_some, Option.map_none]; rw [q7]
          first | (go_simp; done) | (go_simp; rfl) | rfl
        · refine RU.ObT.pure rfl rfl rfl (fun a V hf hp ev he hc W => ?_)
          have q30 : ev (.tmp 30) = .int .i64 (I0 : Int) := (he (.tmp 30)).trans (hp 11 30 rfl)
          simp only [List.getElem_toArray, List.getElem_cons_succ, List.getElem_cons_zero, execOp, Option.map_some, Option.map_none]; rw [q30]
          try simp only [hc]
          have hw9 := hw2
          first | (go_simp; done) | (go_simp; rfl) | rfl
        · refine RU.ObT.pure rfl rfl rfl (fun a V hf hp ev he hc W => ?_)
          have q29 : ev (.tmp 29) = .slice (some ⟨b, o, none⟩) N cap := (he (.tmp 29)).trans (hp 10 29 rfl)
          have q31 : ev (.tmp 31) = .int .i64 (I2 : Int) := (he (.tmp 31)).trans (hp 12 31 rfl)
          simp only [List.getElem_toArray, List.getElem_cons_succ, List.getElem_cons_zero, execOp, Option.map_some, Option.map_none]; rw [q29, q31]
          have hk9 := hlt2
          first | (go_simp; done) | (go_simp; rfl) | rfl
        · refine RU.ObT.silent rfl (fun a W k0 V hO hf hp hk => ?_)
          have q32 : a.eval (.tmp 32) = .pointer (some ⟨b, o + I2 * 32, none⟩) := hp 13 32 rfl
          exact RU.ob_op rfl (RU.wanted_none rfl) (wp_load_mid 23 (.tmp 32) rfl (b) (o + I2 * 32) q32 (bv x.q) _ ((by rw [show W = _ from (by obtain rfl := Nat.le_zero.1 hk; exact hO)]; exact RP2)) Try.underlying23 rfl (size_l32 HXK.out.q) ⟨rfl, hO⟩)
        · refine RU.ObT.pure rfl rfl rfl (fun a V hf hp ev he hc W => ?_)
          have q23 : ev (.tmp 23) = .agg (bv x.o).toArray := (he (.tmp 23)).trans (hp 4 23 rfl)
          have q28 : ev (.tmp 28) = .agg (bv x.n).toArray := (he (.tmp 28)).trans (hp 9 28 rfl)
          have q33 : ev (.tmp 33) = .agg (bv x.q).toArray := (he (.tmp 33)).trans (hp 14 33 rfl)
          simp only [List.getElem_toArray, List.getElem_cons_succ, List.getElem_cons_zero, execOp, List.map_toArray, List.map_cons, List.map_nil, q23, q28, q33, Sem.run_bind, build_lk HXK.out W, Result.andThen_ok, Sem.run_pure]
          rfl
        · refine RU.ObT.loud (j := 0) rfl (fun a W V hO hf hp => ?_)
          have q1 : a.eval (.tmp 34) = .agg (lkc x).toArray := hp 15 34 rfl
          have hW : W = W2 := hO
          subst hW
          refine RU.ob_run (v := .slice (some ⟨W.heap.size, 0, none⟩) 1 1) (w' := W.alloc (.cells (lkc x).toArray 110)) rfl (RU.wanted_none rfl) (fun ev he hc => ?_) ⟨_, rfl, rfl, rfl⟩
          have e1 := (he (.tmp 34)).trans q1
          simp only [List.getElem_toArray, List.getElem_cons_succ, List.getElem_cons_zero, execOp, List.map_toArray, List.map_cons, List.map_nil, e1, Sem.run_bind, run_onek W HXK.out, Result.andThen_ok, Sem.run_pure]
        · refine RU.ObT.loud (j := 1) rfl (fun a W V hO hf hp => ?_)
          have q1 : a.eval (.tmp 19) = u6 := hp 0 19 rfl
          have q2 : a.eval (.tmp 35) = .slice (some ⟨W2.heap.size, 0, none⟩) 1 1 := (hp 16 35 rfl).trans hO.1
          have hW : W = W2.alloc (.cells (lkc x).toArray 110) := hO.2
          obtain ⟨v', w', hr, p1, p2, p3⟩ := app_kown (HRW.out.alloc (.cells (lkc x).toArray 110)) (m := [x]) (fun y hy => by rw [List.mem_singleton.1 hy]; exact HXK.out) (ks_one W2 x 110) (by have := HLN.out; simp only [List.length_cons, List.length_nil]; omega)
          refine RU.ob_run (v := v') (w' := w') rfl (RU.wanted_none rfl) (fun ev he hc => ?_) ⟨_, rfl, ⟨p1, ((Below.refl _ W2).alloc HRW.out.2.2 _).trans p2⟩⟩
          have e1 := (he (.tmp 19)).trans q1
          have e2 := (he (.tmp 35)).trans q2
          rw [hW]
          simp only [List.getElem_toArray, List.getElem_cons_succ, List.getElem_cons_zero, execOp, resolve, invoke, builtin, Sem.run_bind, Sem.run_pure, Result.andThen_ok, List.map_toArray, List.map_cons, List.map_nil, e1, e2, hr]
        · refine RU.ObT.loud (j := 2) rfl (fun a W V hO hf hp => ?_)
          have q1 : a.eval (.tmp 36) = V 1 := hp 17 36 rfl
          refine RU.ob_val (v := V 1) rfl (RU.wanted_none rfl) (fun ev he hc => ?_) ⟨_, rfl, hO⟩
          have e1 := (he (.tmp 36)).trans q1
          simp only [List.getElem_toArray, List.getElem_cons_succ, List.getElem_cons_zero, execOp]
          rw [e1]
          first | rfl | go_simp
      intro W1 VW1 hOW1
      have PW1 : Hid (KO B0 W1 (VW1 2) (ls ++ [x]) ∧ Below B0 W2 W1) := hOW1
      clear hOW1
      simp only [RU.lay, RU.val, show RU.at' [16, 17, 18] 0 = none from rfl, show RU.at' [16, 17, 18] 1 = none from rfl, show RU.at' [16, 17, 18] 2 = none from rfl, show RU.at' [16, 17, 18] 3 = none from rfl, show RU.at' [16, 17, 18] 4 = none from rfl, show RU.at' [16, 17, 18] 5 = none from rfl, show RU.at' [16, 17, 18] 6 = none from rfl, show RU.at' [16, 17, 18] 7 = none from rfl, show RU.at' [16, 17, 18] 8 = none from rfl, show RU.at' [16, 17, 18] 9 = none from rfl, show RU.at' [16, 17, 18] 10 = none from rfl, show RU.at' [16, 17, 18] 11 = none from rfl, show RU.at' [16, 17, 18] 12 = none from rfl, show RU.at' [16, 17, 18] 13 = none from rfl, show RU.at' [16, 17, 18] 14 = none from rfl, show RU.at' [16, 17, 18] 15 = none from rfl, show RU.at' [16, 17, 18] 16 = some 0 from rfl, show RU.at' [16, 17, 18] 17 = some 1 from rfl, show RU.at' [16, 17, 18] 18 = some 2 from rfl, rlkf, Act.put]
      simp only [List.setIfInBounds_toArray, List.set_cons_succ, List.set_cons_zero]
      have O6 : Hid (KO B0 W1 (VW1 2) ((List.range (k + 1)).map (lkAt xs))) := by rw [HSN.out]; exact PW1.out.1
      have G6 : Hid (Below B0 w1 W1) := BW2.out.trans PW1.out.2
      obtain ⟨v9, hv9⟩ : ∃ q, VW1 2 = q := ⟨_, rfl⟩
      rw [hv9] at O6 ⊢
      clear hv9 PW1
      go_wp2_with fail
      exact ⟨⟨k + 1, hlt, by rw [Nat.add_mul, HI0.out]; rfl, O6.out, G6.out⟩, by simp [intOf]; omega⟩
    · obtain rfl : k = m := by omega
      have O9 : Hid (KO w.heap.size wr u6 ((List.range k).map (lkAt xs)) ∧ Below w.heap.size w wr) := ⟨h1.mono (HB0.out ▸ G1.out.size), G1.out.trans (h2.mono (HB0.out ▸ G1.out.size))⟩
      have h9 : ¬ ((k * 3 : Nat) : Int) < (N : Int) := by rw [HN.out]; omega
      clear h1 h2
      go_wp2_with fail
      go_ret2
      exact ⟨_, rfl, O9.out.1, O9.out.2⟩
end Go.Proofs.Ytfnmdeekenjlgaa
