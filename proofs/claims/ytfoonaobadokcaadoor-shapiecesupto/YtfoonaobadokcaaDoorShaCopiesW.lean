/- The walk of ShaCopies. -/
import Derived.Test.YtfoonaobadokcaaDoorShaR
import Derived.Test.YtfoonaobadokcaaDoorRefE
namespace Go.Proofs.YtfoonaobadokcaaDoor
open Go Go.RowKit
set_option linter.unusedSimpArgs false
set_option linter.unusedVariables false

/-- n bytes of f, then those of g. -/
def cat (n : Nat) (f g : Nat → BitVec 8) : Nat → BitVec 8 := fun i => if i < n then f i else g (i - n)
theorem cat_lo (n : Nat) (f g : Nat → BitVec 8) (i : Nat) (h : i < n) : cat n f g i = f i := if_pos h
theorem cat_hi (n : Nat) (f g : Nat → BitVec 8) (i : Nat) : cat n f g (n + i) = g i := by
  rw [cat, if_neg (by omega), show n + i - n = i by omega]
theorem Own.src {w wr : World} {v : Value} {k : Nat} {f : Nat → BitVec 8} (h : Own w wr v k f) : ∃ ad cap, v = .slice ad k cap ∧ Src wr ad k cap f := by
  by_cases hk : 0 < k
  · obtain ⟨g, cap, hv, _, hlt, _, hc⟩ := h.form hk
    exact ⟨_, cap, hv, .inr ⟨g, 0, rfl, hlt, fun i hi => by rw [Nat.zero_add]; exact hc i hi⟩⟩
  · obtain rfl : k = 0 := by omega
    rcases h.own.2 with ⟨hv, _⟩ | ⟨g, cap, cur, hv, _, hg, _⟩
    · exact ⟨none, 0, hv, .inl ⟨rfl, rfl⟩⟩
    · exact ⟨_, cap, hv, .inr ⟨g, 0, rfl, (Array.getElem?_eq_some_iff.1 hg).1, fun i hi => by omega⟩⟩
theorem HInv.congr {K : Nat → BitVec 32} {s0 : St} {M M' : Nat → BitVec 8} {w : World} {hb N : Nat} (h : HInv K s0 M w hb N) (he : ∀ i, i < N → M i = M' i) : HInv K s0 M' w hb N := by
  obtain ⟨buf, h1, h2⟩ := h
  refine ⟨buf, ?_, fun i hi => (h2 i hi).trans (he _ (by omega))⟩
  rw [← blocks_congr K s0 M M' (N / 64) (fun i hi => he i (by omega))]; exact h1
theorem Bytes.below {w w' : World} {v : Value} {n hb hb' B0 : Nat} {m : Nat → BitVec 8} (h : Bytes w v n m w.heap.size) (hb1 : Below w.heap.size w w') (hb2 : w.heap.size ≤ hb') : Bytes w' v n m hb' := h.mono hb1 hb2
theorem Bytes.congr {w : World} {v : Value} {n hb : Nat} {m m' : Nat → BitVec 8} (h : Bytes w v n m hb) (he : ∀ i, i < n → m i = m' i) : Bytes w v n m' hb := by
  rcases h with h | ⟨b, off, cap, rfl, h1, h2, h3, hm⟩
  · exact .inl h
  · exact .inr ⟨b, off, cap, rfl, h1, h2, h3, fun i hi => (he i hi) ▸ hm i hi⟩
/-- The sums, with a letter for the state that they end at. -/
theorem sum_at (S : St) (K : Nat → BitVec 32) (s0 : St) (M : Nat → BitVec 8) (hb N : Nat) (hS : sumSt K s0 M N = S) (hN : N < 1152921504606846976) (w : World) (hw : HInv K s0 M w hb N)
    (hK : ∀ i, i < 64 → w.cell? ⟨3, i, none⟩ = some (U (K i))) :
    Calls Tryd.prog 18 #[.pointer (some ⟨hb, 0, none⟩)] w fun e w' => e = .returned (.agg (srow S)) ∧ Below w.heap.size w w' := by
  subst hS; exact sum_any K s0 M hb N hN w hw hK
theorem rsum_at (S : St) (m : Nat → BitVec 8) (ad : Option Addr) (n cap : Nat) (hS : sumSt K256 H256 m n = S) (hn : n < 140737488350000) (w : World) (hm : Src w ad n cap m) :
    Calls Tryd.prog 11 #[.slice ad n cap] w fun e w' => e = .returned (.agg (srow S)) ∧ Below w.heap.size w w' := by
  subst hS; exact rsum_walk m ad n cap hn w hm

set_option maxRecDepth 100000 in
set_option maxHeartbeats 1000000 in
theorem shaCopies_walk (m0 m1 m2 : Nat → BitVec 8) (n0 n1 n2 c0 c1 c2 N1 N2 : Nat) (a0 a1 a2 : Option Addr) (e1 : N1 = n0 + n1) (e2 : N2 = n0 + n2) (l1 : N1 < 140737488350000) (l2 : N2 < 140737488350000) (w : World) (hT : Tabs w K256 H256)
    (h0 : Bytes w (.slice a0 n0 c0) n0 m0 w.heap.size) (h1 : Bytes w (.slice a1 n1 c1) n1 m1 w.heap.size) (h2 : Bytes w (.slice a2 n2 c2) n2 m2 w.heap.size) :
    Calls Tryd.prog 6 #[.slice a0 n0 c0, .slice a1 n1 c1, .slice a2 n2 c2] w fun e w' => e = .returned (.bool true) ∧ Below w.heap.size w w' := by
  have HT : Hid (Tabs w K256 H256) := hT
  have H0 : Hid (Bytes w (.slice a0 n0 c0) n0 m0 w.heap.size) := h0
  have H1 : Hid (Bytes w (.slice a1 n1 c1) n1 m1 w.heap.size) := h1
  have H2 : Hid (Bytes w (.slice a2 n2 c2) n2 m2 w.heap.size) := h2
  have HE1 : Hid (N1 = n0 + n1) := e1
  have HE2 : Hid (N2 = n0 + n2) := e2
  have hl : Hid (1 < w.heap.size ∧ 3 < w.heap.size) := hT.lt
  have HS0 : Hid (Src w a0 n0 c0 m0) := by obtain ⟨ad, cap, hv, hs⟩ := h0.src; cases hv; exact hs
  have HS1 : Hid (Src w a1 n1 c1 m1) := by obtain ⟨ad, cap, hv, hs⟩ := h1.src; cases hv; exact hs
  have HS2 : Hid (Src w a2 n2 c2 m2) := by obtain ⟨ad, cap, hv, hs⟩ := h2.src; cases hv; exact hs
  have g1 : (N1 : Int) < 140737488350000 := by omega
  have g2 : (N2 : Int) < 140737488350000 := by omega
  have k0 : Hid (n0 < 140737488350000) := by show n0 < 140737488350000; omega
  clear hT h0 h1 h2 e1 e2
  obtain ⟨M1, hM1⟩ : ∃ M1, M1 = cat n0 m0 m1 := ⟨_, rfl⟩
  obtain ⟨M2, hM2⟩ : ∃ M2, M2 = cat n0 m0 m2 := ⟨_, rfl⟩
  have p1 : Hid (∀ i, i < n0 → m0 i = M1 i) := fun i hi => by rw [hM1, cat_lo _ _ _ _ hi]
  have p2 : Hid (∀ i, i < n0 → m0 i = M2 i) := fun i hi => by rw [hM2, cat_lo _ _ _ _ hi]
  have q1 : Hid (∀ i, m1 i = M1 (n0 + i)) := fun i => by rw [hM1, cat_hi]
  have q2 : Hid (∀ i, m2 i = M2 (n0 + i)) := fun i => by rw [hM2, cat_hi]
  have p12 : Hid (∀ i, i < n0 → M1 i = M2 i) := fun i hi => by rw [← p1.out i hi, p2.out i hi]
  clear hM1 hM2
  obtain ⟨S1, hS1⟩ : ∃ S1, sumSt K256 H256 M1 N1 = S1 := ⟨_, rfl⟩
  obtain ⟨S2, hS2⟩ : ∃ S2, sumSt K256 H256 M2 N2 = S2 := ⟨_, rfl⟩
  have HQ1 : Hid (sumSt K256 H256 M1 N1 = S1) := hS1
  have HQ2 : Hid (sumSt K256 H256 M2 N2 = S2) := hS2
  clear hS1 hS2
  have he := eq_same
  go_enter Tryd.func6, Tryd.ntmps6
  go_wp2_with fail
  refine (awake_any w HT.out).mono ?_
  rintro e w1 ⟨rfl, hb1⟩
  have B1 : Hid (Below w.heap.size w w1) := hb1
  clear hb1
  go_wp2_with fail
  refine (new_any K256 H256 w1 (HT.out.below B1.out hl.out.1 hl.out.2)).mono ?_
  rintro e w2 ⟨hb, rfl, hb2, hle2, hrow2⟩
  have B2 : Hid (Below w.heap.size w w2) := B1.out.trans (hb2.mono B1.out.size)
  have hle : Hid (w.heap.size ≤ hb) := Nat.le_trans B1.out.size hle2
  have I2 : Hid (HInv K256 H256 M1 w2 hb 0) := HInv.new _ _ _ _ _ hrow2
  clear hb2 hle2 hrow2
  go_wp2_with fail
  refine (write_any K256 H256 M1 hb 0 n0 _ (by have := k0.out; omega) (by have h := hl.out.2; have h' := hle.out; omega) w2 I2.out ((H0.out.mono B2.out hle.out).congr fun i hi => by rw [Nat.zero_add]; exact p1.out i hi) (HT.out.below B2.out hl.out.1 hl.out.2).cu).mono ?_
  rintro e w3 ⟨rfl, hg3, hi3⟩
  rw [Nat.zero_add] at hi3
  have B3 : Hid (Below w.heap.size w w3) := below_of_grown B2.out hg3 B2.out.size hle.out
  obtain ⟨buf, hr3, hf3⟩ := hi3
  have R3 : Hid (HRow w3 hb (blocks K256 H256 M1 (n0 / 64)) buf n0) := hr3
  have F3 : Hid (∀ i, i < n0 % 64 → buf i = M1 (64 * (n0 / 64) + i)) := hf3
  clear hg3 hr3 hf3 I2
  go_wp2_with fail
  refine (copy_any hb _ buf n0 w3 R3.out).mono ?_
  rintro e w4 ⟨hc, rfl, hb4, hle4, hrow4⟩
  have B4 : Hid (Below w.heap.size w w4) := B3.out.trans (hb4.mono B3.out.size)
  have hlt4 : Hid (hb < hc) := Nat.lt_of_lt_of_le R3.out.lt hle4
  have I4 : Hid (HInv K256 H256 M1 w4 hb n0) := ⟨buf, R3.out.below hb4, F3.out⟩
  have J4 : Hid (HInv K256 H256 M2 w4 hc n0) := (show HInv K256 H256 M1 w4 hc n0 from ⟨buf, hrow4, F3.out⟩).congr p12.out
  have hc4 : Hid (hc < w4.heap.size) := hrow4.lt
  clear hb4 hle4 hrow4 R3 F3
  go_wp2_with fail
  refine (write_any K256 H256 M1 hb n0 n1 _ (by have := HE1.out; omega) (by have h := hl.out.2; have h' := hle.out; omega) w4 I4.out ((H1.out.mono B4.out hle.out).congr fun i _ => q1.out i) (HT.out.below B4.out hl.out.1 hl.out.2).cu).mono ?_
  rintro e w5 ⟨rfl, hg5, hi5⟩
  rw [← HE1.out] at hi5
  have B5 : Hid (Below w.heap.size w w5) := below_of_grown B4.out hg5 B4.out.size hle.out
  have I5 : Hid (HInv K256 H256 M1 w5 hb N1) := hi5
  have J5 : Hid (HInv K256 H256 M2 w5 hc n0) := J4.out.grown (hg5.block hc hc4.out (by have := hlt4.out; intro h; cases h; omega))
  have hb5 : Hid (hb < w5.heap.size) := by have h1 := hg5.size; have h2 := hc4.out; have h3 := hlt4.out; show hb < w5.heap.size; omega
  clear hg5 hi5 I4 J4
  go_wp2_with fail
  refine (write_any K256 H256 M2 hc n0 n2 _ (by have := HE2.out; omega) (by have h := hl.out.2; have h' := hle.out; have h3 := hlt4.out; omega) w5 J5.out ((H2.out.mono B5.out (by have h' := hle.out; have h3 := hlt4.out; omega)).congr fun i _ => q2.out i) (HT.out.below B5.out hl.out.1 hl.out.2).cu).mono ?_
  rintro e w6 ⟨rfl, hg6, hi6⟩
  rw [← HE2.out] at hi6
  have B6 : Hid (Below w.heap.size w w6) := below_of_grown B5.out hg6 B5.out.size (by have h' := hle.out; have h3 := hlt4.out; omega)
  have J6 : Hid (HInv K256 H256 M2 w6 hc N2) := hi6
  have I6 : Hid (HInv K256 H256 M1 w6 hb N1) := I5.out.grown (hg6.block hb hb5.out (by have := hlt4.out; intro h; cases h; omega))
  have hz6 : Hid (hb < w6.heap.size ∧ hc < w6.heap.size) := ⟨by obtain ⟨_, h, _⟩ := I6.out; exact h.lt, by obtain ⟨_, h, _⟩ := J6.out; exact h.lt⟩
  clear hg6 hi6 I5 J5
  have HO1 : Hid (Own w6 (w6.alloc (.cells #[] 5)) (.slice (some ⟨w6.heap.size, 0, none⟩) 0 0) 0 M1) := Own.start w6 _
  have HG1 : Hid (Src (w6.alloc (.cells #[] 5)) a0 n0 c0 (fun i => M1 (0 + i))) :=
    ((HS0.out.below B6.out (Nat.le_refl _)).below ((Below.refl w6.heap.size w6).alloc (Nat.le_refl _) _) (Nat.le_refl _)).congr (fun i hi => by rw [Nat.zero_add]; exact p1.out i hi)
  go_wp2_with (first | (at_builtin; refine app_src rfl (.tmp 25) (.tmp 26) rfl _ 0 M1 rfl HO1.out a0 n0 c0 rfl M1 (fun _ _ => rfl) HG1.out (by have := k0.out; omega) ?_; intro v7 w7 h7 hs7; rw [Nat.zero_add] at h7; have O7 : Hid (Own w6 w7 v7 n0 M1) := h7; clear h7) | (at_builtin; refine app_src rfl (.tmp 27) (.tmp 28) rfl _ n0 M1 rfl O7.out a1 n1 c1 rfl M1 (fun _ _ => rfl) (((HS1.out.below B6.out (Nat.le_refl _)).below O7.out.below (Nat.le_refl _)).congr (fun i hi => q1.out i)) (by have := HE1.out; omega) ?_; intro v8 w8 h8 hs8; rw [← HE1.out] at h8; have O8 : Hid (Own w6 w8 v8 N1 M1) := h8; clear h8; obtain ⟨x8, y8, hv8, hx8⟩ := O8.out.src; rw [hv8]; have S8 : Hid (Src w8 x8 N1 y8 M1) := hx8; clear hx8) | (at_builtin; refine app_src rfl (.tmp 30) (.tmp 31) rfl _ 0 M2 rfl (Own.start w8 M2) a0 n0 c0 rfl M2 (fun _ _ => rfl) (((HS0.out.below (B6.out.trans (O8.out.below.mono B6.out.size)) (Nat.le_refl _)).below ((Below.refl w8.heap.size w8).alloc (Nat.le_refl _) _) (Nat.le_refl _)).congr (fun i hi => by rw [Nat.zero_add]; exact p2.out i hi)) (by have := k0.out; omega) ?_; intro v9 w9 h9 hs9; rw [Nat.zero_add] at h9; have O9 : Hid (Own w8 w9 v9 n0 M2) := h9; clear h9) | (at_builtin; refine app_src rfl (.tmp 32) (.tmp 33) rfl _ n0 M2 rfl O9.out a2 n2 c2 rfl M2 (fun _ _ => rfl) (((HS2.out.below (B6.out.trans (O8.out.below.mono B6.out.size)) (Nat.le_refl _)).below O9.out.below (Nat.le_refl _)).congr (fun i hi => q2.out i)) (by have := HE2.out; omega) ?_; intro v10 w10 h10 hs10; rw [← HE2.out] at h10; have O10 : Hid (Own w8 w10 v10 N2 M2) := h10; clear h10; obtain ⟨x10, y10, hv10, hx10⟩ := O10.out.src; rw [hv10]; have S10 : Hid (Src w10 x10 N2 y10 M2) := hx10; clear hx10))
  clear HO1 HG1 O7
  have B8 : Hid (Below w.heap.size w w8) := B6.out.trans (O8.out.below.mono B6.out.size)
  have I8 : Hid (HInv K256 H256 M1 w8 hb N1) := I6.out.grown (O8.out.below.block hb hz6.out.1)
  have J8 : Hid (HInv K256 H256 M2 w8 hc N2) := J6.out.grown (O8.out.below.block hc hz6.out.2)
  have hz8 : Hid (hb < w8.heap.size ∧ hc < w8.heap.size) := ⟨by obtain ⟨_, h, _⟩ := I8.out; exact h.lt, by obtain ⟨_, h, _⟩ := J8.out; exact h.lt⟩
  clear hv8 O8 I6 J6 hz6 hs7 hs8
  clear O9
  have B10 : Hid (Below w.heap.size w w10) := B8.out.trans (O10.out.below.mono B8.out.size)
  have I10 : Hid (HInv K256 H256 M1 w10 hb N1) := I8.out.grown (O10.out.below.block hb hz8.out.1)
  have J10 : Hid (HInv K256 H256 M2 w10 hc N2) := J8.out.grown (O10.out.below.block hc hz8.out.2)
  have S8' : Hid (Src w10 x8 N1 y8 M1) := S8.out.below O10.out.below (Nat.le_refl _)
  have hz10 : Hid (hb < w10.heap.size ∧ hc < w10.heap.size) := ⟨by obtain ⟨_, h, _⟩ := I10.out; exact h.lt, by obtain ⟨_, h, _⟩ := J10.out; exact h.lt⟩
  clear hv10 O10 I8 J8 hz8 hs9 hs10 S8
  refine (sum_at S1 K256 H256 M1 hb N1 HQ1.out (by omega) w10 I10.out (HT.out.below B10.out hl.out.1 hl.out.2).cu).mono ?_
  rintro e w11 ⟨rfl, hb11⟩
  have C11 : Hid (Below w10.heap.size w10 w11) := hb11
  clear hb11
  go_wp2_with fail
  refine (rsum_at S1 M1 x8 N1 y8 HQ1.out l1 w11 (S8'.out.below C11.out (Nat.le_refl _))).mono ?_
  rintro e w12 ⟨rfl, hb12⟩
  have C12 : Hid (Below w10.heap.size w10 w12) := C11.out.trans (hb12.mono C11.out.size)
  clear hb12 C11
  go_wp2_with fail
  refine (sum_at S2 K256 H256 M2 hc N2 HQ2.out (by omega) w12 (J10.out.grown (C12.out.block hc hz10.out.2)) (HT.out.below (B10.out.trans (C12.out.mono B10.out.size)) hl.out.1 hl.out.2).cu).mono ?_
  rintro e w13 ⟨rfl, hb13⟩
  have C13 : Hid (Below w10.heap.size w10 w13) := C12.out.trans (hb13.mono C12.out.size)
  clear hb13 C12
  go_wp2_with fail
  refine (rsum_at S2 M2 x10 N2 y10 HQ2.out l2 w13 (S10.out.below C13.out (Nat.le_refl _))).mono ?_
  rintro e w14 ⟨rfl, hb14⟩
  have C14 : Hid (Below w10.heap.size w10 w14) := C13.out.trans (hb14.mono C13.out.size)
  clear hb14 C13
  obtain ⟨b1, r1, -⟩ := I10.out
  obtain ⟨b2, r2, -⟩ := J10.out
  have R1 : Hid (HRow w14 hb (blocks K256 H256 M1 (N1 / 64)) b1 N1) := (C14.out.block hb hz10.out.1).trans r1
  have R2 : Hid (HRow w14 hc (blocks K256 H256 M2 (N2 / 64)) b2 N2) := (C14.out.block hc hz10.out.2).trans r2
  clear r1 r2
  go_wp2_with fail
  refine (len_any hb _ b1 N1 w14 R1.out).mono ?_
  rintro e w15 ⟨rfl, rfl⟩
  go_wp2_with fail
  refine (len_any hc _ b2 N2 w15 R2.out).mono ?_
  rintro e w16 ⟨rfl, rfl⟩
  go_wp2
  go_ret
  exact ⟨rfl, B10.out.trans (C14.out.mono B10.out.size)⟩
theorem shaCopiesProof.walk (a0 : Option Addr) (len0 cap0 : Nat) (m0 : Nat → BitVec 8) {w : World} (h0 : Bytes w (.slice a0 len0 cap0) len0 m0 w.heap.size) (a1 : Option Addr) (len1 cap1 : Nat) (m1 : Nat → BitVec 8) (h1 : Bytes w (.slice a1 len1 cap1) len1 m1 w.heap.size) (a2 : Option Addr) (len2 cap2 : Nat) (m2 : Nat → BitVec 8) (h2 : Bytes w (.slice a2 len2 cap2) len2 m2 w.heap.size)
    (W : World) (hT : Tabs w K256 H256) (hk : len0 + len1 + len2 ≤ 1048576) :
    Calls Tryd.prog 6 #[.slice a0 len0 cap0, .slice a1 len1 cap1, .slice a2 len2 cap2] w fun e w' => e = .returned (.bool true) ∧ Below w.heap.size w w' :=
  shaCopies_walk m0 m1 m2 len0 len1 len2 cap0 cap1 cap2 _ _ a0 a1 a2 rfl rfl (by omega) (by omega) w hT h0 h1 h2
end Go.Proofs.YtfoonaobadokcaaDoor
