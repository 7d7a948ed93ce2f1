/- Package wire: DecodeLookup. -/
import Derived.Test.YtfnmdeekenjlgaaWireLookupsW
import Derived.Test.YtfnmdeekenjlgaaRgnG
namespace Go.Proofs.Ytfnmdeekenjlgaa
open Go Go.RowKit
set_option linter.unusedSimpArgs false
set_option linter.unusedVariables false
set_option maxRecDepth 100000

/-- An opening read and laid in a new block, in whatever order. -/
structure opI (W0 : World) (vl : Value → Nat → Value) (p : List Int) (n : List Nd) (d : Nat → Bool) (V : Nat → Value) (w : World) (a : Option Addr) (l c b : Nat) : Prop where
  be : Below W0.heap.size W0 w
  vals : ∀ i, i ≠ 10 → i ≠ 11 → d i = true → V i = vl (.slice a l c) i
  cl : d 6 = false → d 7 = false ∧ d 8 = false ∧ d 9 = false ∧ d 11 = false ∧ d 12 = false
  al : d 10 = true → V 10 = .pointer (some ⟨b, 0, none⟩) ∧ W0.heap.size ≤ b ∧ b < w.heap.size
  th : d 10 = true → d 11 = false → w.there b 0 81
  no : d 6 = true → NO W0.heap.size w (.slice a l c) n
  ap : d 6 = true → d 10 = true → (Value.slice a l c).ownBlock ≠ some b
  st : d 11 = true → w.rangeAt b 0 (oc p (.slice a l c))
def OpI (W0 : World) (vl : Value → Nat → Value) (p : List Int) (n : List Nd) (d : Nat → Bool) (V : Nat → Value) (w : World) : Prop := ∃ a l c b, opI W0 vl p n d V w a l c b
theorem setd_ne {d : Nat → Bool} {i j : Nat} (h : j ≠ i) : RG.setd d i j = d j := by unfold RG.setd; rw [if_neg h]
theorem setd_eq {d : Nat → Bool} {i : Nat} : RG.setd d i i = true := by unfold RG.setd; rw [if_pos rfl]
theorem updV_ne {V : Nat → Value} {i j : Nat} {v : Value} (h : j ≠ i) : RG.updV V i v j = V j := by unfold RG.updV; rw [if_neg h]
theorem updV_eq {V : Nat → Value} {i : Nat} {v : Value} : RG.updV V i v i = v := by unfold RG.updV; rw [if_pos rfl]
section
variable {W0 : World} {vl : Value → Nat → Value} {p : List Int} {n : List Nd} {d : Nat → Bool} {V : Nat → Value} {w : World} {a : Option Addr} {l c b : Nat}
theorem OpI.start (W0 : World) (vl : Value → Nat → Value) (p : List Int) (n : List Nd) {w : World} (h : Below W0.heap.size W0 w) : OpI W0 vl p n (fun _ => false) (fun _ => undef) w :=
  ⟨none, 0, 0, 0, h, (fun _ _ _ h => by cases h), (fun _ => ⟨rfl, rfl, rfl, rfl, rfl⟩), (fun h => by cases h), (fun h => by cases h), (fun h => by cases h), (fun h => by cases h), (fun h => by cases h)⟩
theorem opI.pure (h : opI W0 vl p n d V w a l c b) (i : Nat) (h6 : i ≠ 6) (h10 : i ≠ 10) (h11 : i ≠ 11) (hc : i < 6 ∨ d 6 = true) : OpI W0 vl p n (RG.setd d i) (RG.updV V i (vl (.slice a l c) i)) w := by
  refine ⟨a, l, c, b, h.be, fun j j1 j2 j3 => ?_, fun j => ?_, fun j => ?_, fun j k => ?_, fun j => ?_, fun j k => ?_, fun j => ?_⟩
  · by_cases e : j = i
    · subst e; rw [updV_eq]
    · rw [updV_ne e]; rw [setd_ne e] at j3; exact h.vals j j1 j2 j3
  · rw [setd_ne (Ne.symm h6)] at j
    have hi : i < 6 := by rcases hc with hc | hc; exact hc; rw [hc] at j; cases j
    rw [setd_ne (by omega), setd_ne (by omega), setd_ne (by omega), setd_ne (by omega), setd_ne (by omega)]
    exact h.cl j
  · rw [setd_ne (Ne.symm h10)] at j; rw [updV_ne (Ne.symm h10)]; exact h.al j
  · rw [setd_ne (Ne.symm h10)] at j; rw [setd_ne (Ne.symm h11)] at k; exact h.th j k
  · rw [setd_ne (Ne.symm h6)] at j; exact h.no j
  · rw [setd_ne (Ne.symm h6)] at j; rw [setd_ne (Ne.symm h10)] at k; exact h.ap j k
  · rw [setd_ne (Ne.symm h11)] at j; exact h.st j
theorem opI.call (h : opI W0 vl p n d V w a l c b) (h0 : d 6 = false) (hv : ∀ s s' i, i ≠ 6 → i ≠ 7 → i ≠ 8 → i ≠ 9 → i ≠ 12 → vl s i = vl s' i) {w' : World} (hb : Below w.heap.size w w') {a' : Option Addr} {l' c' : Nat} (hn : NO w.heap.size w' (.slice a' l' c') n) : OpI W0 vl p n (RG.setd d 6) (RG.updV V 6 (vl (.slice a' l' c') 6)) w' := by
  obtain ⟨c7, c8, c9, c11, c12⟩ := h.cl h0
  refine ⟨a', l', c', b, h.be.trans (hb.mono h.be.size), fun j j1 j2 j3 => ?_, fun j => ?_, fun j => ?_, fun j k => ?_, fun j => ?_, fun j k => ?_, fun j => ?_⟩
  · by_cases e : j = 6
    · subst e; rw [updV_eq]
    · rw [updV_ne e]; rw [setd_ne e] at j3
      rw [h.vals j j1 j2 j3]
      exact hv _ _ j e (fun e9 => by rw [e9, c7] at j3; cases j3) (fun e9 => by rw [e9, c8] at j3; cases j3) (fun e9 => by rw [e9, c9] at j3; cases j3) (fun e9 => by rw [e9, c12] at j3; cases j3)
  · rw [setd_eq] at j; cases j
  · rw [setd_ne (by decide)] at j; rw [updV_ne (by decide)]
    obtain ⟨q1, q2, q3⟩ := h.al j
    exact ⟨q1, q2, Nat.lt_of_lt_of_le q3 hb.size⟩
  · rw [setd_ne (by decide)] at j k
    exact there_below (h.th j k) (hb.mono (h.al j).2.2)
  · exact NO.mono hn h.be.size
  · rw [setd_ne (by decide)] at k
    intro e
    have hlt := (h.al k).2.2
    rcases hn.1.2 with ⟨e1, _⟩ | ⟨g, c9, cur, e1, hg, _⟩
    · rw [e1] at e; cases e
    · rw [e1] at e
      have e9 : g = b := by simpa [Value.ownBlock] using e
      omega
  · rw [setd_ne (by decide), c11] at j; cases j
theorem opI.alloc (h : opI W0 vl p n d V w a l c b) (h11 : d 11 = false) (t : TypeId) : OpI W0 vl p n (RG.setd d 10) (RG.updV V 10 (.pointer (some ⟨w.heap.size, 0, none⟩))) (w.alloc (.cells z81.toArray t)) := by
  refine ⟨a, l, c, w.heap.size, h.be.alloc h.be.size _, fun j j1 j2 j3 => ?_, fun j => ?_, fun j => ?_, fun j k => ?_, fun j => ?_, fun j k => ?_, fun j => ?_⟩
  · rw [updV_ne j1]; rw [setd_ne j1] at j3; exact h.vals j j1 j2 j3
  · rw [setd_ne (by decide)] at j
    rw [setd_ne (by decide), setd_ne (by decide), setd_ne (by decide), setd_ne (by decide), setd_ne (by decide)]
    exact h.cl j
  · rw [updV_eq]; exact ⟨rfl, h.be.size, by simp⟩
  · exact there_new w (by rw [List.size_toArray, z81_length])
  · rw [setd_ne (by decide)] at j; exact (h.no j).alloc _
  · rw [setd_ne (by decide)] at j
    intro e
    rcases (h.no j).1.2 with ⟨e1, _⟩ | ⟨g, c9, cur, e1, hg, hh, _⟩
    · rw [e1] at e; cases e
    · rw [e1] at e
      have e9 : g = w.heap.size := by simpa [Value.ownBlock] using e
      have := (Array.getElem?_eq_some_iff.1 hh).1
      omega
  · rw [setd_ne (by decide), h11] at j; cases j
theorem opI.store (h : opI W0 vl p n d V w a l c b) (h6 : d 6 = true) (h10 : d 10 = true) (h11 : d 11 = false) (hp : p.length = 80) (v : Value) : OpI W0 vl p n (RG.setd d 11) (RG.updV V 11 v) (w.setCells b 0 (oc p (.slice a l c))) := by
  obtain ⟨q1, q2, q3⟩ := h.al h10
  have hbe : Below W0.heap.size W0 (w.setCells b 0 (oc p (.slice a l c))) := below_setCells q2 _ _ h.be
  refine ⟨a, l, c, b, hbe, fun j j1 j2 j3 => ?_, fun j => ?_, fun j => ?_, fun j k => ?_, fun j => ?_, fun j k => ?_, fun j => ?_⟩
  · rw [updV_ne j2]; rw [setd_ne j2] at j3; exact h.vals j j1 j2 j3
  · rw [setd_ne (by decide), h6] at j; cases j
  · rw [updV_ne (by decide)]; exact ⟨q1, q2, by rw [size_setCells]; exact q3⟩
  · rw [setd_eq] at k; cases k
  · have hn := h.no h6
    refine ⟨hn.1.kept (w' := w.setCells b 0 (oc p (.slice a l c))) (row := some b) ⟨(below_setCells (B := 0) (Nat.zero_le _) _ 0 (Below.refl 0 w)).os, (below_setCells (B := 0) (Nat.zero_le _) _ 0 (Below.refl 0 w)).tape, (below_setCells (B := 0) (Nat.zero_le _) _ 0 (Below.refl 0 w)).output, Nat.le_of_eq (size_setCells b _ 0 w).symm, fun j _ hj => setc_other (fun e => hj (by rw [e]))⟩ (.inr (h.ap h6 h10)), hn.2.1, by rw [size_setCells]; exact hn.2.2⟩
  · exact h.ap h6 h10
  · exact World.rangeAt_setCells_same _ _ _ _ (by rw [oc_length hp]; exact h.th h10 h11)
end
theorem opI.six {W0 : World} {vl : Value → Nat → Value} {p : List Int} {n : List Nd} {d : Nat → Bool} {V : Nat → Value} {w : World} {a : Option Addr} {l c b : Nat} (h : opI W0 vl p n d V w a l c b) {j : Nat} (hj : j = 7 ∨ j = 8 ∨ j = 9 ∨ j = 12) (hd : d j = true) : d 6 = true := by
  cases h6 : d 6 with
  | true => rfl
  | false =>
    obtain ⟨c7, c8, c9, c11, c12⟩ := h.cl h6
    rcases hj with rfl | rfl | rfl | rfl
    · rw [c7] at hd; cases hd
    · rw [c8] at hd; cases hd
    · rw [c9] at hd; cases hd
    · rw [c12] at hd; cases hd
def opv (fb fo cap i1 i2 : Nat) (ux uy : Value) (p : List Int) (ok : Bool) (s : Value) : Nat → Value
  | 0 => .slice (some ⟨fb, fo, none⟩) 8 cap
  | 1 => .pointer (some ⟨fb, fo + i1, none⟩)
  | 2 => ux
  | 3 => .slice (some ⟨fb, fo, none⟩) 8 cap
  | 4 => .pointer (some ⟨fb, fo + i2, none⟩)
  | 5 => uy
  | 6 => .tuple #[.agg (oc p s).toArray, .bool ok]
  | 7 => .tuple #[.agg (oc p s).toArray, .bool ok]
  | 8 => .agg (oc p s).toArray
  | 9 => .bool ok
  | 12 => .bool ok
  | _ => undef
theorem opv_ind (fb fo cap i1 i2 : Nat) (ux uy : Value) (p : List Int) (ok : Bool) (s s' : Value) (i : Nat) (h6 : i ≠ 6) (h7 : i ≠ 7) (h8 : i ≠ 8) (h9 : i ≠ 9) (h12 : i ≠ 12) : opv fb fo cap i1 i2 ux uy p ok s i = opv fb fo cap i1 i2 ux uy p ok s' i := by
  unfold opv
  split <;> first | rfl | (exfalso; omega) | skip
  all_goals first | rfl | (exfalso; omega)
theorem oP_len (ps xs : List Int) : (oP ps xs).length = 80 := by
  cases h : oOk ps xs with
  | true => rw [(o_yes h).1]; exact (oOk_iff h).2
  | false => rw [(o_no h).1]; exact z80_ok.1
/-- A row written over. -/
def rdΩ (W0 W1 : World) : Nat → (Nat → Value) → World → Prop
  | 0, _, W => W = W0
  | _ + 1, U, W => W = W1
def rd11f (R : Rt) (S : ByteArray) (vv : Int) (fb fo cap n1 c1 n2 c2 n3 c3 : Nat) (a1 a2 a3 : Option Addr) (u2 : Value) (X5 X7 : List Int) : Nat → Value
  | 0 => .agg R.cells.toArray
  | 1 => .slice (some ⟨fb, fo, none⟩) 8 cap
  | 2 => .pointer (some ⟨fb, fo + 1, none⟩)
  | 3 => u2
  | 4 => .string S
  | 5 => .int .u64 vv
  | 6 => .slice a1 n1 c1
  | 7 => .agg (oc X5 (.slice a2 n2 c2)).toArray
  | 8 => .agg (oc X7 (.slice a3 n3 c3)).toArray
  | 9 => .agg (lc ⟨R, S, vv, [], X5, [], X7, []⟩ (.slice a1 n1 c1) (.slice a2 n2 c2) (.slice a3 n3 c3)).toArray
  | 10 => undef
  | 11 => .int .i64 0
  | _ => undef
set_option maxHeartbeats 8000000 in
theorem decodeLookup_any : DLc := by
  intro xs v w hb hs hl
  have HS : Hid (Sl w v xs) := hs
  have HB : Hid (Byt xs) := hb
  clear hb hs
  have hz := zero_look
  have hz2 := zero_root
  go_enter Try.func8, Try.ntmps8
  go_wp2_with fail
  generalize hW : w.alloc _ = w0
  have H0 : Hid (Hd w w0 328) := by rw [← hW]; exact Hd.new w z328_length
  clear hW
  refine (fields_any xs lookS 8 v w0 HB.out (HS.out.below H0.out.bel (Nat.le_refl _)) hl (by omega) (by omega)).mono ?_
  rintro e w1 ⟨⟨v1, rfl, h1, h2⟩, h3⟩
  have H1 : Hid (Hd w w1 328) := H0.out.step h3
  clear h3
  cases hF : hasF xs lookS 8 with
  | false =>
    rw [h2 hF]
    have HU : Hid (isL xs = false) := by show isL xs = false; unfold isL; rw [hF]; rfl
    clear h1 h2
    have E0 : Hid (dLp xs = zLp ∧ dlE xs = 2) := dl_no HU.out
    go_wp2_with (first
     | (refine wp_build0s 33 rfl rfl z328.toArray (build_zl w1) ?_)
     | (refine wpList_store_mid rfl 33 _ _ rfl w.heap.size 0 z328.toArray rfl rfl (there_of H1.out.there z328_length) (size_look z328_length) z328_one ?_))
    refine bodyPost_ret (v := .tuple #[.agg z328.toArray, .int .i64 2]) ?_ rfl ⟨z328, by rw [E0.out.2], by rw [E0.out.1]; exact z_lv _, (H1.out.put z328_length).1⟩
    have q := (H1.out.put z328_length).2
    simp only [results, Try.results8]
    simp [asAddr, run_loadVar_mid _ w.heap.size 0 33 z328 _ q Try.underlying33 rfl (by rw [z328_length]; exact look_size)]
  | true =>
    have HQ : Hid (LF w0.heap.size w1 v1 ((decL xs).drop 1)) := h1 hF
    clear h1 h2
    have hlen : (decL xs).length = 9 := by
      unfold hasF at hF
      simp only [Bool.and_eq_true, decide_eq_true_eq] at hF
      exact hF.2.1
    obtain ⟨fb, fo, cap, hv, hcap, hlt, hm⟩ := HQ.out.ll.at' (by rw [List.length_drop]; omega)
    subst hv
    rw [List.length_drop, hlen] at hcap hm ⊢
    simp only [mi_drop] at hm
    obtain ⟨u1, k1, s1⟩ := hm 0 (by omega)
    obtain ⟨u2, k2, s2⟩ := hm 1 (by omega)
    obtain ⟨u3, k3, s3⟩ := hm 2 (by omega)
    obtain ⟨u4, k4, s4⟩ := hm 3 (by omega)
    obtain ⟨u5, k5, s5⟩ := hm 4 (by omega)
    obtain ⟨u6, k6, s6⟩ := hm 5 (by omega)
    obtain ⟨u7, k7, s7⟩ := hm 6 (by omega)
    obtain ⟨u8, k8, s8⟩ := hm 7 (by omega)
    rw [Nat.add_zero] at k1
    have HLB : Hid (∀ i, Byt (mi (decL xs) i) ∧ (mi (decL xs) i).length ≤ 1048576) := fun i => decL_mi HB.out i
    obtain ⟨X1, hX1⟩ : ∃ X, mi (decL xs) 1 = X := ⟨_, rfl⟩
    obtain ⟨X2, hX2⟩ : ∃ X, mi (decL xs) 2 = X := ⟨_, rfl⟩
    obtain ⟨X3, hX3⟩ : ∃ X, mi (decL xs) 3 = X := ⟨_, rfl⟩
    obtain ⟨X4, hX4⟩ : ∃ X, mi (decL xs) 4 = X := ⟨_, rfl⟩
    obtain ⟨X5, hX5⟩ : ∃ X, mi (decL xs) 5 = X := ⟨_, rfl⟩
    obtain ⟨X6, hX6⟩ : ∃ X, mi (decL xs) 6 = X := ⟨_, rfl⟩
    obtain ⟨X7, hX7⟩ : ∃ X, mi (decL xs) 7 = X := ⟨_, rfl⟩
    obtain ⟨X8, hX8⟩ : ∃ X, mi (decL xs) 8 = X := ⟨_, rfl⟩
    have Q1 : Hid (Sl w1 u1 X1 ∧ Byt X1 ∧ X1.length ≤ 1048576 ∧ mi (decL xs) 1 = X1) := ⟨hX1 ▸ s1, hX1 ▸ (HLB.out 1).1, hX1 ▸ (HLB.out 1).2, hX1⟩
    have C1 : Hid (w1.cell? ⟨fb, fo, none⟩ = some u1) := k1
    have Q2 : Hid (Sl w1 u2 X2 ∧ Byt X2 ∧ X2.length ≤ 1048576 ∧ mi (decL xs) 2 = X2) := ⟨hX2 ▸ s2, hX2 ▸ (HLB.out 2).1, hX2 ▸ (HLB.out 2).2, hX2⟩
    have C2 : Hid (w1.cell? ⟨fb, fo + 1, none⟩ = some u2) := k2
    have Q3 : Hid (Sl w1 u3 X3 ∧ Byt X3 ∧ X3.length ≤ 1048576 ∧ mi (decL xs) 3 = X3) := ⟨hX3 ▸ s3, hX3 ▸ (HLB.out 3).1, hX3 ▸ (HLB.out 3).2, hX3⟩
    have C3 : Hid (w1.cell? ⟨fb, fo + 2, none⟩ = some u3) := k3
    have Q4 : Hid (Sl w1 u4 X4 ∧ Byt X4 ∧ X4.length ≤ 1048576 ∧ mi (decL xs) 4 = X4) := ⟨hX4 ▸ s4, hX4 ▸ (HLB.out 4).1, hX4 ▸ (HLB.out 4).2, hX4⟩
    have C4 : Hid (w1.cell? ⟨fb, fo + 3, none⟩ = some u4) := k4
    have Q5 : Hid (Sl w1 u5 X5 ∧ Byt X5 ∧ X5.length ≤ 1048576 ∧ mi (decL xs) 5 = X5) := ⟨hX5 ▸ s5, hX5 ▸ (HLB.out 5).1, hX5 ▸ (HLB.out 5).2, hX5⟩
    have C5 : Hid (w1.cell? ⟨fb, fo + 4, none⟩ = some u5) := k5
    have Q6 : Hid (Sl w1 u6 X6 ∧ Byt X6 ∧ X6.length ≤ 1048576 ∧ mi (decL xs) 6 = X6) := ⟨hX6 ▸ s6, hX6 ▸ (HLB.out 6).1, hX6 ▸ (HLB.out 6).2, hX6⟩
    have C6 : Hid (w1.cell? ⟨fb, fo + 5, none⟩ = some u6) := k6
    have Q7 : Hid (Sl w1 u7 X7 ∧ Byt X7 ∧ X7.length ≤ 1048576 ∧ mi (decL xs) 7 = X7) := ⟨hX7 ▸ s7, hX7 ▸ (HLB.out 7).1, hX7 ▸ (HLB.out 7).2, hX7⟩
    have C7 : Hid (w1.cell? ⟨fb, fo + 6, none⟩ = some u7) := k7
    have Q8 : Hid (Sl w1 u8 X8 ∧ Byt X8 ∧ X8.length ≤ 1048576 ∧ mi (decL xs) 8 = X8) := ⟨hX8 ▸ s8, hX8 ▸ (HLB.out 8).1, hX8 ▸ (HLB.out 8).2, hX8⟩
    have C8 : Hid (w1.cell? ⟨fb, fo + 7, none⟩ = some u8) := k8
    have HFB : Hid (fb < w1.heap.size) := hlt
    have HF : Hid (hasF xs lookS 8 = true) := hF
    clear hm hF hlen hlt s1 hX1 s2 hX2 s3 hX3 s4 hX4 s5 hX5 s6 hX6 s7 hX7 s8 hX8 k2 k3 k4 k5 k6 k7 k8
    have HIS : Hid (isL xs = (isR X1 && (decide (rnErr X3 = 0) && (decide (X4.length % 32 = 0) && (oOk X5 X6 && oOk X7 X8))))) := by
      show isL xs = _
      unfold isL
      rw [HF.out, Q1.out.2.2.2, Q3.out.2.2.2, Q4.out.2.2.2, Q5.out.2.2.2, Q6.out.2.2.2, Q7.out.2.2.2, Q8.out.2.2.2]; rfl
    go_wp2_with fail
    refine (decodeRoot_any X1 u1 w1 Q1.out.2.1 Q1.out.1 (by have := Q1.out.2.2.1; omega)).mono ?_
    rintro e w2 ⟨rfl, h6⟩
    rw [drA_cells]
    have HRL : Hid (aRt X1).L := aRt_L Q1.out.2.1
    have HCL : Hid ((aRt X1).cells.length = 163) := HRL.out.size
    have B2 : Hid (Below w1.heap.size w1 w2) := h6
    clear h6
    obtain ⟨er, her⟩ : ∃ e, drE X1 = e := ⟨_, rfl⟩
    rw [her]
    have HER : Hid (drE X1 = er) := her
    clear her
    go_upto_region 5 with (refine wpList_store_mid rfl 26 _ _ rfl w2.heap.size 0 (aRt X1).cells.toArray rfl rfl (start_there w2 HCL.out) (size_of HCL.out) (cells_one _) ?_)
    generalize hW3 : World.setCells _ _ _ _ = W3
    have H4 := after_store HCL.out hW3
    clear hW3
    have B3 : Hid (Below w1.heap.size w1 W3) := B2.out.trans (H4.out.1.mono B2.out.size)
    have RD : Hid (W3.rangeAt w2.heap.size 0 (aRt X1).cells ∧ w2.heap.size < W3.heap.size) := ⟨H4.out.2.1, (by
      have := H4.out.2.1 0 _ (List.getElem?_eq_getElem (by rw [HCL.out]; decide))
      exact (addr_lt this))⟩
    obtain ⟨D, hD⟩ : ∃ D, w2.heap.size = D := ⟨_, rfl⟩
    rw [hD] at RD ⊢
    clear hD H4 B2 k1
    have k3 : W3.cell? ⟨fb, fo + 2, none⟩ = some u3 := (B3.out.cell (p := ⟨fb, fo + 2, none⟩) HFB.out).trans C3.out
    go_wp2_with fail
    refine (readNum_any X3 u3 W3 Q3.out.2.1 (Q3.out.1.below B3.out (Nat.le_refl _)) (by have := Q3.out.2.2.1; omega)).mono ?_
    rintro e W3 ⟨rfl, rfl⟩
    obtain ⟨ev, hev⟩ : ∃ e, rnErr X3 = e := ⟨_, rfl⟩
    obtain ⟨vv, hvv⟩ : ∃ e, rnVal X3 = e := ⟨_, rfl⟩
    rw [hev, hvv]
    have HEV : Hid (rnErr X3 = ev ∧ rnVal X3 = vv) := ⟨hev, hvv⟩
    clear hev hvv k3
    have k4 : W3.cell? ⟨fb, fo + 3, none⟩ = some u4 := (B3.out.cell (p := ⟨fb, fo + 3, none⟩) HFB.out).trans C4.out
    go_wp2_with fail
    refine (readDevices_any X4 u4 W3 Q4.out.2.1 (Q4.out.1.below B3.out (Nat.le_refl _)) Q4.out.2.2.1).mono ?_
    rintro e w5 ⟨dv, rfl, g1, g2⟩
    have Y5 : Hid (YO W3.heap.size w5 dv (rdy X4)) := g1
    have B5 : Hid (Below w1.heap.size w1 w5) := B3.out.trans (g2.mono B3.out.size)
    have R5 : Hid (w5.rangeAt D 0 (aRt X1).cells ∧ D < w5.heap.size) := ⟨range_below RD.out.1 g2 RD.out.2, Nat.lt_of_lt_of_le RD.out.2 g2.size⟩
    obtain ⟨a1, n1, c1, rfl⟩ := YS.sl g1.ys
    clear g1 g2 k4
    go_upto_region 7 with (fail)
    refine RG.wp_rgn' (OpI w5 (opv fb fo cap 4 5 u5 u6 (oP X5 X6) (oOk X5 X6)) (oP X5 X6) (oN X5 X6)) (by kernel_rfl) (by kernel_rfl) (OpI.start _ _ _ _ (show Below w5.heap.size w5 _ from (Below.refl _ _).drew)) ?_ ?_
    · refine ⟨?_, ?_, ?_, ?_, ?_, ?_, ?_, ?_, ?_, ?_, ?_, ?_, ?_, trivial⟩
      · intro a W d V hI hd hpx hbk hf hp
        obtain ⟨aa, ll, cc, bb, hJ⟩ := hI
        refine RU.ob_val (v := .slice (some ⟨fb, fo, none⟩) 8 cap) rfl (RU.wanted_none rfl) (fun ev he hc => ?_) ⟨_, rfl, hJ.pure 0 (by decide) (by decide) (by decide) (.inl (by decide))⟩
        have q : ev (.tmp 4) = .slice (some ⟨fb, fo, none⟩) 8 cap := (he (.tmp 4)).trans (hf 4 rfl)
        simp only [List.getElem_toArray, List.getElem_cons_succ, List.getElem_cons_zero, execOp, Option.map_some, Option.map_none]; rw [q]
        first | (go_simp; done) | (go_simp; rfl) | rfl
      · intro a W d V hI hd hpx hbk hf hp
        obtain ⟨aa, ll, cc, bb, hJ⟩ := hI
        refine RU.ob_val (v := .pointer (some ⟨fb, fo + 4, none⟩)) rfl (RU.wanted_none rfl) (fun ev he hc => ?_) ⟨_, rfl, hJ.pure 1 (by decide) (by decide) (by decide) (.inl (by decide))⟩
        have q : ev (.tmp 46) = .slice (some ⟨fb, fo, none⟩) 8 cap := (he (.tmp 46)).trans ((hp 0 46 rfl).trans (hJ.vals 0 (by decide) (by decide) (hpx 0 rfl)))
        simp only [List.getElem_toArray, List.getElem_cons_succ, List.getElem_cons_zero, execOp, Option.map_some, Option.map_none]; rw [q]
        try simp only [hc]
        first | (go_simp; done) | (go_simp; rfl) | rfl
      · intro a W d V hI hd hpx hbk hf hp
        obtain ⟨aa, ll, cc, bb, hJ⟩ := hI
        have hcl9 : W.cell? ⟨fb, fo + 4, none⟩ = some u5 := ((B5.out.trans (hJ.be.mono B5.out.size)).cell (p := ⟨fb, fo + 4, none⟩) HFB.out).trans C5.out
        refine RU.ob_val (v := u5) rfl (RU.wanted_none rfl) (fun ev he hc => ?_) ⟨_, rfl, hJ.pure 2 (by decide) (by decide) (by decide) (.inl (by decide))⟩
        have q : ev (.tmp 47) = .pointer (some ⟨fb, fo + 4, none⟩) := (he (.tmp 47)).trans ((hp 1 47 rfl).trans (hJ.vals 1 (by decide) (by decide) (hpx 1 rfl)))
        simp only [List.getElem_toArray, List.getElem_cons_succ, List.getElem_cons_zero, execOp, Option.map_some, Option.map_none]; rw [q]
        first | (go_simp; done) | (go_simp; rfl) | rfl
      · intro a W d V hI hd hpx hbk hf hp
        obtain ⟨aa, ll, cc, bb, hJ⟩ := hI
        refine RU.ob_val (v := .slice (some ⟨fb, fo, none⟩) 8 cap) rfl (RU.wanted_none rfl) (fun ev he hc => ?_) ⟨_, rfl, hJ.pure 3 (by decide) (by decide) (by decide) (.inl (by decide))⟩
        have q : ev (.tmp 4) = .slice (some ⟨fb, fo, none⟩) 8 cap := (he (.tmp 4)).trans (hf 4 rfl)
        simp only [List.getElem_toArray, List.getElem_cons_succ, List.getElem_cons_zero, execOp, Option.map_some, Option.map_none]; rw [q]
        first | (go_simp; done) | (go_simp; rfl) | rfl
      · intro a W d V hI hd hpx hbk hf hp
        obtain ⟨aa, ll, cc, bb, hJ⟩ := hI
        refine RU.ob_val (v := .pointer (some ⟨fb, fo + 5, none⟩)) rfl (RU.wanted_none rfl) (fun ev he hc => ?_) ⟨_, rfl, hJ.pure 4 (by decide) (by decide) (by decide) (.inl (by decide))⟩
        have q : ev (.tmp 49) = .slice (some ⟨fb, fo, none⟩) 8 cap := (he (.tmp 49)).trans ((hp 3 49 rfl).trans (hJ.vals 3 (by decide) (by decide) (hpx 3 rfl)))
        simp only [List.getElem_toArray, List.getElem_cons_succ, List.getElem_cons_zero, execOp, Option.map_some, Option.map_none]; rw [q]
        try simp only [hc]
        first | (go_simp; done) | (go_simp; rfl) | rfl
      · intro a W d V hI hd hpx hbk hf hp
        obtain ⟨aa, ll, cc, bb, hJ⟩ := hI
        have hcl9 : W.cell? ⟨fb, fo + 5, none⟩ = some u6 := ((B5.out.trans (hJ.be.mono B5.out.size)).cell (p := ⟨fb, fo + 5, none⟩) HFB.out).trans C6.out
        refine RU.ob_val (v := u6) rfl (RU.wanted_none rfl) (fun ev he hc => ?_) ⟨_, rfl, hJ.pure 5 (by decide) (by decide) (by decide) (.inl (by decide))⟩
        have q : ev (.tmp 50) = .pointer (some ⟨fb, fo + 5, none⟩) := (he (.tmp 50)).trans ((hp 4 50 rfl).trans (hJ.vals 4 (by decide) (by decide) (hpx 4 rfl)))
        simp only [List.getElem_toArray, List.getElem_cons_succ, List.getElem_cons_zero, execOp, Option.map_some, Option.map_none]; rw [q]
        first | (go_simp; done) | (go_simp; rfl) | rfl
      · intro a W d V hI hd hpx hbk hf hp
        obtain ⟨aa, ll, cc, bb, hJ⟩ := hI
        have e1 : a.eval (.tmp 48) = u5 := (hp 2 48 rfl).trans (hJ.vals 2 (by decide) (by decide) (hpx 2 rfl))
        have e2 : a.eval (.tmp 51) = u6 := (hp 5 51 rfl).trans (hJ.vals 5 (by decide) (by decide) (hpx 5 rfl))
        have hB9 : Below w1.heap.size w1 W := B5.out.trans (hJ.be.mono B5.out.size)
        refine RU.ob_call (g := 32) (args := #[u5, u6]) rfl (RU.wanted_none rfl) (fun ev he hc => ?_) ((readOpening_any X5 X6 u5 u6 W Q6.out.2.1 (Q5.out.1.below hB9 (Nat.le_refl _)) (Q6.out.1.below hB9 (Nat.le_refl _)) Q6.out.2.2.1 Q5.out.2.2.1).mono ?_)
        · have h1 := (he (.tmp 48)).trans e1
          have h2 := (he (.tmp 51)).trans e2
          have hfn := he (.func 32)
          simp only [List.getElem_toArray, List.getElem_cons_succ, List.getElem_cons_zero, execOp, Option.map_some, Option.map_none]
          simp only [resolve, invoke, Sem.run_bind, Sem.run_pure, Result.andThen_ok, List.map_toArray, List.map_cons, List.map_nil, h1, h2, hfn, Act.eval, hc]
          rfl
        · rintro e' W9 ⟨a9, l9, c9, rfl, hn2, hb2⟩
          exact ⟨_, rfl, ⟨_, rfl, hJ.call hd (opv_ind fb fo cap 4 5 u5 u6 (oP X5 X6) (oOk X5 X6)) hb2 hn2⟩⟩
      · intro a W d V hI hd hpx hbk hf hp
        obtain ⟨aa, ll, cc, bb, hJ⟩ := hI
        refine RU.ob_val (v := .tuple #[.agg (oc (oP X5 X6) (.slice aa ll cc)).toArray, .bool (oOk X5 X6)]) rfl (RU.wanted_none rfl) (fun ev he hc => ?_) ⟨_, rfl, hJ.pure 7 (by decide) (by decide) (by decide) (.inr (hpx 6 rfl))⟩
        have q : ev (.tmp 52) = .tuple #[.agg (oc (oP X5 X6) (.slice aa ll cc)).toArray, .bool (oOk X5 X6)] := (he (.tmp 52)).trans ((hp 6 52 rfl).trans (hJ.vals 6 (by decide) (by decide) (hpx 6 rfl)))
        simp only [List.getElem_toArray, List.getElem_cons_succ, List.getElem_cons_zero, execOp, Option.map_some, Option.map_none]; rw [q]
        first | (go_simp; done) | (go_simp; rfl) | rfl
      · intro a W d V hI hd hpx hbk hf hp
        obtain ⟨aa, ll, cc, bb, hJ⟩ := hI
        refine RU.ob_val (v := .agg (oc (oP X5 X6) (.slice aa ll cc)).toArray) rfl (RU.wanted_none rfl) (fun ev he hc => ?_) ⟨_, rfl, hJ.pure 8 (by decide) (by decide) (by decide) (.inr (hJ.six (j := 7) (by simp) (hpx 7 rfl)))⟩
        have q : ev (.tmp 45) = .tuple #[.agg (oc (oP X5 X6) (.slice aa ll cc)).toArray, .bool (oOk X5 X6)] := (he (.tmp 45)).trans ((hp 7 45 rfl).trans (hJ.vals 7 (by decide) (by decide) (hpx 7 rfl)))
        simp only [List.getElem_toArray, List.getElem_cons_succ, List.getElem_cons_zero, execOp, Option.map_some, Option.map_none]; rw [q]
        first | (go_simp; done) | (go_simp; rfl) | rfl
      · intro a W d V hI hd hpx hbk hf hp
        obtain ⟨aa, ll, cc, bb, hJ⟩ := hI
        refine RU.ob_val (v := .bool (oOk X5 X6)) rfl (RU.wanted_none rfl) (fun ev he hc => ?_) ⟨_, rfl, hJ.pure 9 (by decide) (by decide) (by decide) (.inr (hJ.six (j := 7) (by simp) (hpx 7 rfl)))⟩
        have q : ev (.tmp 45) = .tuple #[.agg (oc (oP X5 X6) (.slice aa ll cc)).toArray, .bool (oOk X5 X6)] := (he (.tmp 45)).trans ((hp 7 45 rfl).trans (hJ.vals 7 (by decide) (by decide) (hpx 7 rfl)))
        simp only [List.getElem_toArray, List.getElem_cons_succ, List.getElem_cons_zero, execOp, Option.map_some, Option.map_none]; rw [q]
        first | (go_simp; done) | (go_simp; rfl) | rfl
      · intro a W d V hI hd hpx hbk hf hp
        obtain ⟨aa, ll, cc, bb, hJ⟩ := hI
        refine RU.ob_run (v := .pointer (some ⟨W.heap.size, 0, none⟩)) (w' := W.alloc (.cells z81.toArray 31)) rfl (RU.wanted_none rfl) (fun ev he hc => ?_) ⟨_, rfl, hJ.alloc (hbk 11 rfl) _⟩
        have hz9 := zero_opn W
        simp only [List.getElem_toArray, List.getElem_cons_succ, List.getElem_cons_zero, execOp, Option.map_some, Option.map_none]
        first | (go_simp; done) | (go_simp; rfl) | rfl
      · intro a W d V hI hd hpx hbk hf hp
        obtain ⟨aa, ll, cc, bb, hJ⟩ := hI
        have q1 : a.eval (.tmp 12) = .pointer (some ⟨bb, 0, none⟩) := (hp 10 12 rfl).trans (hJ.al (hpx 10 rfl)).1
        have q2 : a.eval (.tmp 53) = .agg (oc (oP X5 X6) (.slice aa ll cc)).toArray := (hp 8 53 rfl).trans (hJ.vals 8 (by decide) (by decide) (hpx 8 rfl))
        exact RU.ob_op rfl (RU.wanted_none rfl) (wp_store_mid 31 (.tmp 12) (.tmp 53) rfl bb 0 (oc (oP X5 X6) (.slice aa ll cc)).toArray q1 q2 (by rw [List.size_toArray, oc_length (oP_len _ _)]; exact hJ.th (hpx 10 rfl) hd) (size_opn (oc_length (oP_len _ _) _)) (oc_one _ _ _ _) ⟨undef, rfl, hJ.store (hJ.six (j := 8) (by simp) (hpx 8 rfl)) (hpx 10 rfl) hd (oP_len _ _) undef⟩)
      · intro a W d V hI hd hpx hbk hf hp
        obtain ⟨aa, ll, cc, bb, hJ⟩ := hI
        refine RU.ob_val (v := .bool (oOk X5 X6)) rfl (RU.wanted_none rfl) (fun ev he hc => ?_) ⟨_, rfl, hJ.pure 12 (by decide) (by decide) (by decide) (.inr (hJ.six (j := 9) (by simp) (hpx 9 rfl)))⟩
        have q : ev (.tmp 54) = .bool (oOk X5 X6) := (he (.tmp 54)).trans ((hp 9 54 rfl).trans (hJ.vals 9 (by decide) (by decide) (hpx 9 rfl)))
        simp only [List.getElem_toArray, List.getElem_cons_succ, List.getElem_cons_zero, execOp, Option.map_some, Option.map_none]; rw [q]
        first | (go_simp; done) | (go_simp; rfl) | rfl
    intro w6 d V hall hI
    obtain ⟨a2, n2, c2, E1, hJ⟩ := hI
    have e10 : V 10 = .pointer (some ⟨E1, 0, none⟩) := (hJ.al (hall 10 (by decide))).1
    have e12 : V 12 = .bool (oOk X5 X6) := hJ.vals 12 (by decide) (by decide) (hall 12 (by decide))
    have Bw6 : Hid (Below w5.heap.size w5 w6) := hJ.be
    have Nw6 : Hid (NO w5.heap.size w6 (.slice a2 n2 c2) (oN X5 X6)) := hJ.no (hall 6 (by decide))
    have Rw6 : Hid (w6.rangeAt E1 0 (oc (oP X5 X6) (.slice a2 n2 c2)) ∧ E1 < w6.heap.size) := ⟨hJ.st (hall 11 (by decide)), (hJ.al (hall 10 (by decide))).2.2⟩
    clear hJ hall
    simp only [RU.lay, Act.put]
    simp only [List.setIfInBounds_toArray, List.set_cons_succ, List.set_cons_zero, Nat.zero_add, Nat.reduceAdd]
    rw [e10, e12]
    obtain ⟨b6, hb6⟩ : ∃ b, (oOk X5 X6) = b := ⟨_, rfl⟩
    have Hb6 : Hid ((oOk X5 X6) = b6) := hb6
    rw [hb6]
    clear hb6 e10 e12
    have B6 : Hid (Below w1.heap.size w1 w6) := B5.out.trans (Bw6.out.mono B5.out.size)
    go_upto_region 8 with (fail)
    refine RG.wp_rgn' (OpI w6 (opv fb fo cap 6 7 u7 u8 (oP X7 X8) (oOk X7 X8)) (oP X7 X8) (oN X7 X8)) (by kernel_rfl) (by kernel_rfl) (OpI.start _ _ _ _ (show Below w6.heap.size w6 _ from (Below.refl _ _).drew)) ?_ ?_
    · refine ⟨?_, ?_, ?_, ?_, ?_, ?_, ?_, ?_, ?_, ?_, ?_, ?_, ?_, trivial⟩
      · intro a W d V hI hd hpx hbk hf hp
        obtain ⟨aa, ll, cc, bb, hJ⟩ := hI
        refine RU.ob_val (v := .slice (some ⟨fb, fo, none⟩) 8 cap) rfl (RU.wanted_none rfl) (fun ev he hc => ?_) ⟨_, rfl, hJ.pure 0 (by decide) (by decide) (by decide) (.inl (by decide))⟩
        have q : ev (.tmp 4) = .slice (some ⟨fb, fo, none⟩) 8 cap := (he (.tmp 4)).trans (hf 4 rfl)
        simp only [List.getElem_toArray, List.getElem_cons_succ, List.getElem_cons_zero, execOp, Option.map_some, Option.map_none]; rw [q]
        first | (go_simp; done) | (go_simp; rfl) | rfl
      · intro a W d V hI hd hpx hbk hf hp
        obtain ⟨aa, ll, cc, bb, hJ⟩ := hI
        refine RU.ob_val (v := .pointer (some ⟨fb, fo + 6, none⟩)) rfl (RU.wanted_none rfl) (fun ev he hc => ?_) ⟨_, rfl, hJ.pure 1 (by decide) (by decide) (by decide) (.inl (by decide))⟩
        have q : ev (.tmp 56) = .slice (some ⟨fb, fo, none⟩) 8 cap := (he (.tmp 56)).trans ((hp 0 56 rfl).trans (hJ.vals 0 (by decide) (by decide) (hpx 0 rfl)))
        simp only [List.getElem_toArray, List.getElem_cons_succ, List.getElem_cons_zero, execOp, Option.map_some, Option.map_none]; rw [q]
        try simp only [hc]
        first | (go_simp; done) | (go_simp; rfl) | rfl
      · intro a W d V hI hd hpx hbk hf hp
        obtain ⟨aa, ll, cc, bb, hJ⟩ := hI
        have hcl9 : W.cell? ⟨fb, fo + 6, none⟩ = some u7 := ((B6.out.trans (hJ.be.mono B6.out.size)).cell (p := ⟨fb, fo + 6, none⟩) HFB.out).trans C7.out
        refine RU.ob_val (v := u7) rfl (RU.wanted_none rfl) (fun ev he hc => ?_) ⟨_, rfl, hJ.pure 2 (by decide) (by decide) (by decide) (.inl (by decide))⟩
        have q : ev (.tmp 57) = .pointer (some ⟨fb, fo + 6, none⟩) := (he (.tmp 57)).trans ((hp 1 57 rfl).trans (hJ.vals 1 (by decide) (by decide) (hpx 1 rfl)))
        simp only [List.getElem_toArray, List.getElem_cons_succ, List.getElem_cons_zero, execOp, Option.map_some, Option.map_none]; rw [q]
        first | (go_simp; done) | (go_simp; rfl) | rfl
      · intro a W d V hI hd hpx hbk hf hp
        obtain ⟨aa, ll, cc, bb, hJ⟩ := hI
        refine RU.ob_val (v := .slice (some ⟨fb, fo, none⟩) 8 cap) rfl (RU.wanted_none rfl) (fun ev he hc => ?_) ⟨_, rfl, hJ.pure 3 (by decide) (by decide) (by decide) (.inl (by decide))⟩
        have q : ev (.tmp 4) = .slice (some ⟨fb, fo, none⟩) 8 cap := (he (.tmp 4)).trans (hf 4 rfl)
        simp only [List.getElem_toArray, List.getElem_cons_succ, List.getElem_cons_zero, execOp, Option.map_some, Option.map_none]; rw [q]
        first | (go_simp; done) | (go_simp; rfl) | rfl
      · intro a W d V hI hd hpx hbk hf hp
        obtain ⟨aa, ll, cc, bb, hJ⟩ := hI
        refine RU.ob_val (v := .pointer (some ⟨fb, fo + 7, none⟩)) rfl (RU.wanted_none rfl) (fun ev he hc => ?_) ⟨_, rfl, hJ.pure 4 (by decide) (by decide) (by decide) (.inl (by decide))⟩
        have q : ev (.tmp 59) = .slice (some ⟨fb, fo, none⟩) 8 cap := (he (.tmp 59)).trans ((hp 3 59 rfl).trans (hJ.vals 3 (by decide) (by decide) (hpx 3 rfl)))
        simp only [List.getElem_toArray, List.getElem_cons_succ, List.getElem_cons_zero, execOp, Option.map_some, Option.map_none]; rw [q]
        try simp only [hc]
        first | (go_simp; done) | (go_simp; rfl) | rfl
      · intro a W d V hI hd hpx hbk hf hp
        obtain ⟨aa, ll, cc, bb, hJ⟩ := hI
        have hcl9 : W.cell? ⟨fb, fo + 7, none⟩ = some u8 := ((B6.out.trans (hJ.be.mono B6.out.size)).cell (p := ⟨fb, fo + 7, none⟩) HFB.out).trans C8.out
        refine RU.ob_val (v := u8) rfl (RU.wanted_none rfl) (fun ev he hc => ?_) ⟨_, rfl, hJ.pure 5 (by decide) (by decide) (by decide) (.inl (by decide))⟩
        have q : ev (.tmp 60) = .pointer (some ⟨fb, fo + 7, none⟩) := (he (.tmp 60)).trans ((hp 4 60 rfl).trans (hJ.vals 4 (by decide) (by decide) (hpx 4 rfl)))
        simp only [List.getElem_toArray, List.getElem_cons_succ, List.getElem_cons_zero, execOp, Option.map_some, Option.map_none]; rw [q]
        first | (go_simp; done) | (go_simp; rfl) | rfl
      · intro a W d V hI hd hpx hbk hf hp
        obtain ⟨aa, ll, cc, bb, hJ⟩ := hI
        have e1 : a.eval (.tmp 58) = u7 := (hp 2 58 rfl).trans (hJ.vals 2 (by decide) (by decide) (hpx 2 rfl))
        have e2 : a.eval (.tmp 61) = u8 := (hp 5 61 rfl).trans (hJ.vals 5 (by decide) (by decide) (hpx 5 rfl))
        have hB9 : Below w1.heap.size w1 W := B6.out.trans (hJ.be.mono B6.out.size)
        refine RU.ob_call (g := 32) (args := #[u7, u8]) rfl (RU.wanted_none rfl) (fun ev he hc => ?_) ((readOpening_any X7 X8 u7 u8 W Q8.out.2.1 (Q7.out.1.below hB9 (Nat.le_refl _)) (Q8.out.1.below hB9 (Nat.le_refl _)) Q8.out.2.2.1 Q7.out.2.2.1).mono ?_)
        · have h1 := (he (.tmp 58)).trans e1
          have h2 := (he (.tmp 61)).trans e2
          have hfn := he (.func 32)
          simp only [List.getElem_toArray, List.getElem_cons_succ, List.getElem_cons_zero, execOp, Option.map_some, Option.map_none]
          simp only [resolve, invoke, Sem.run_bind, Sem.run_pure, Result.andThen_ok, List.map_toArray, List.map_cons, List.map_nil, h1, h2, hfn, Act.eval, hc]
          rfl
        · rintro e' W9 ⟨a9, l9, c9, rfl, hn2, hb2⟩
          exact ⟨_, rfl, ⟨_, rfl, hJ.call hd (opv_ind fb fo cap 6 7 u7 u8 (oP X7 X8) (oOk X7 X8)) hb2 hn2⟩⟩
      · intro a W d V hI hd hpx hbk hf hp
        obtain ⟨aa, ll, cc, bb, hJ⟩ := hI
        refine RU.ob_val (v := .tuple #[.agg (oc (oP X7 X8) (.slice aa ll cc)).toArray, .bool (oOk X7 X8)]) rfl (RU.wanted_none rfl) (fun ev he hc => ?_) ⟨_, rfl, hJ.pure 7 (by decide) (by decide) (by decide) (.inr (hpx 6 rfl))⟩
        have q : ev (.tmp 62) = .tuple #[.agg (oc (oP X7 X8) (.slice aa ll cc)).toArray, .bool (oOk X7 X8)] := (he (.tmp 62)).trans ((hp 6 62 rfl).trans (hJ.vals 6 (by decide) (by decide) (hpx 6 rfl)))
        simp only [List.getElem_toArray, List.getElem_cons_succ, List.getElem_cons_zero, execOp, Option.map_some, Option.map_none]; rw [q]
        first | (go_simp; done) | (go_simp; rfl) | rfl
      · intro a W d V hI hd hpx hbk hf hp
        obtain ⟨aa, ll, cc, bb, hJ⟩ := hI
        refine RU.ob_val (v := .agg (oc (oP X7 X8) (.slice aa ll cc)).toArray) rfl (RU.wanted_none rfl) (fun ev he hc => ?_) ⟨_, rfl, hJ.pure 8 (by decide) (by decide) (by decide) (.inr (hJ.six (j := 7) (by simp) (hpx 7 rfl)))⟩
        have q : ev (.tmp 55) = .tuple #[.agg (oc (oP X7 X8) (.slice aa ll cc)).toArray, .bool (oOk X7 X8)] := (he (.tmp 55)).trans ((hp 7 55 rfl).trans (hJ.vals 7 (by decide) (by decide) (hpx 7 rfl)))
        simp only [List.getElem_toArray, List.getElem_cons_succ, List.getElem_cons_zero, execOp, Option.map_some, Option.map_none]; rw [q]
        first | (go_simp; done) | (go_simp; rfl) | rfl
      · intro a W d V hI hd hpx hbk hf hp
        obtain ⟨aa, ll, cc, bb, hJ⟩ := hI
        refine RU.ob_val (v := .bool (oOk X7 X8)) rfl (RU.wanted_none rfl) (fun ev he hc => ?_) ⟨_, rfl, hJ.pure 9 (by decide) (by decide) (by decide) (.inr (hJ.six (j := 7) (by simp) (hpx 7 rfl)))⟩
        have q : ev (.tmp 55) = .tuple #[.agg (oc (oP X7 X8) (.slice aa ll cc)).toArray, .bool (oOk X7 X8)] := (he (.tmp 55)).trans ((hp 7 55 rfl).trans (hJ.vals 7 (by decide) (by decide) (hpx 7 rfl)))
        simp only [List.getElem_toArray, List.getElem_cons_succ, List.getElem_cons_zero, execOp, Option.map_some, Option.map_none]; rw [q]
        first | (go_simp; done) | (go_simp; rfl) | rfl
      · intro a W d V hI hd hpx hbk hf hp
        obtain ⟨aa, ll, cc, bb, hJ⟩ := hI
        refine RU.ob_run (v := .pointer (some ⟨W.heap.size, 0, none⟩)) (w' := W.alloc (.cells z81.toArray 31)) rfl (RU.wanted_none rfl) (fun ev he hc => ?_) ⟨_, rfl, hJ.alloc (hbk 11 rfl) _⟩
        have hz9 := zero_opn W
        simp only [List.getElem_toArray, List.getElem_cons_succ, List.getElem_cons_zero, execOp, Option.map_some, Option.map_none]
        first | (go_simp; done) | (go_simp; rfl) | rfl
      · intro a W d V hI hd hpx hbk hf hp
        obtain ⟨aa, ll, cc, bb, hJ⟩ := hI
        have q1 : a.eval (.tmp 14) = .pointer (some ⟨bb, 0, none⟩) := (hp 10 14 rfl).trans (hJ.al (hpx 10 rfl)).1
        have q2 : a.eval (.tmp 63) = .agg (oc (oP X7 X8) (.slice aa ll cc)).toArray := (hp 8 63 rfl).trans (hJ.vals 8 (by decide) (by decide) (hpx 8 rfl))
        exact RU.ob_op rfl (RU.wanted_none rfl) (wp_store_mid 31 (.tmp 14) (.tmp 63) rfl bb 0 (oc (oP X7 X8) (.slice aa ll cc)).toArray q1 q2 (by rw [List.size_toArray, oc_length (oP_len _ _)]; exact hJ.th (hpx 10 rfl) hd) (size_opn (oc_length (oP_len _ _) _)) (oc_one _ _ _ _) ⟨undef, rfl, hJ.store (hJ.six (j := 8) (by simp) (hpx 8 rfl)) (hpx 10 rfl) hd (oP_len _ _) undef⟩)
      · intro a W d V hI hd hpx hbk hf hp
        obtain ⟨aa, ll, cc, bb, hJ⟩ := hI
        refine RU.ob_val (v := .bool (oOk X7 X8)) rfl (RU.wanted_none rfl) (fun ev he hc => ?_) ⟨_, rfl, hJ.pure 12 (by decide) (by decide) (by decide) (.inr (hJ.six (j := 9) (by simp) (hpx 9 rfl)))⟩
        have q : ev (.tmp 64) = .bool (oOk X7 X8) := (he (.tmp 64)).trans ((hp 9 64 rfl).trans (hJ.vals 9 (by decide) (by decide) (hpx 9 rfl)))
        simp only [List.getElem_toArray, List.getElem_cons_succ, List.getElem_cons_zero, execOp, Option.map_some, Option.map_none]; rw [q]
        first | (go_simp; done) | (go_simp; rfl) | rfl
    intro w7 d V hall hI
    obtain ⟨a3, n3, c3, E2, hJ⟩ := hI
    have e10 : V 10 = .pointer (some ⟨E2, 0, none⟩) := (hJ.al (hall 10 (by decide))).1
    have e12 : V 12 = .bool (oOk X7 X8) := hJ.vals 12 (by decide) (by decide) (hall 12 (by decide))
    have Bw7 : Hid (Below w6.heap.size w6 w7) := hJ.be
    have Nw7 : Hid (NO w6.heap.size w7 (.slice a3 n3 c3) (oN X7 X8)) := hJ.no (hall 6 (by decide))
    have Rw7 : Hid (w7.rangeAt E2 0 (oc (oP X7 X8) (.slice a3 n3 c3)) ∧ E2 < w7.heap.size) := ⟨hJ.st (hall 11 (by decide)), (hJ.al (hall 10 (by decide))).2.2⟩
    clear hJ hall
    simp only [RU.lay, Act.put]
    simp only [List.setIfInBounds_toArray, List.set_cons_succ, List.set_cons_zero, Nat.zero_add, Nat.reduceAdd]
    rw [e10, e12]
    obtain ⟨b8, hb8⟩ : ∃ b, (oOk X7 X8) = b := ⟨_, rfl⟩
    have Hb8 : Hid ((oOk X7 X8) = b8) := hb8
    rw [hb8]
    clear hb8 e10 e12
    have B7 : Hid (Below w1.heap.size w1 w7) := B6.out.trans (Bw7.out.mono B6.out.size)
    have R7 : Hid (w7.rangeAt D 0 (aRt X1).cells ∧ D < w7.heap.size) := rt_below (rt_below R5.out Bw6.out) Bw7.out
    have O7 : Hid (w7.rangeAt E1 0 (oc (oP X5 X6) (.slice a2 n2 c2)) ∧ E1 < w7.heap.size) := rt_below Rw6.out Bw7.out
    have Y7 : Hid (YO W3.heap.size w7 (.slice a1 n1 c1) (rdy X4)) := (Y5.out.below Bw6.out).below Bw7.out
    have N7 : Hid (NO w5.heap.size w7 (.slice a2 n2 c2) (oN X5 X6)) := Nw6.out.below Bw7.out
    have H7 : Hid (Hd w w7 328) := H1.out.step B7.out
    have HLT : Hid (w.heap.size < W3.heap.size ∧ w.heap.size < w5.heap.size ∧ w.heap.size < w6.heap.size) := by
      have e1 := H1.out.size
      have e2 := B3.out.size
      have e3 := B5.out.size
      have e4 := B6.out.size
      exact ⟨by omega, by omega, by omega⟩
    clear Nw6 Rw6 Y5 R5 RD
    obtain ⟨b4, hb4⟩ : ∃ b, decide (X4.length % 32 = 0) = b := ⟨_, rfl⟩
    have HIT : Hid (isL xs = (isR X1 && (decide (ev = 0) && (b4 && (b6 && b8))))) := by
      show isL xs = _
      rw [HIS.out, HEV.out.1, hb4, Hb6.out, Hb8.out]
    rw [hb4]
    clear hb4 HIS
    go_upto_region 9 with (fail)
    cases hq1 : isR X1 with
    | false =>
      have her : er = 2 := by rw [← HER.out]; unfold drE; rw [hq1]
      subst her
      have HU : Hid (isL xs = false) := by rw [HIT.out, hq1]; rfl
      have E0 : Hid (dLp xs = zLp ∧ dlE xs = 2) := dl_no HU.out
      go_wp2_with (first
       | (refine wp_build0s 33 rfl rfl z328.toArray (build_zl w7) ?_)
       | (refine wpList_store_mid rfl 33 _ _ rfl w.heap.size 0 z328.toArray rfl rfl (there_of H7.out.there z328_length) (size_look z328_length) z328_one ?_))
      refine bodyPost_ret (v := .tuple #[.agg z328.toArray, .int .i64 2]) ?_ rfl ⟨z328, by rw [E0.out.2], by rw [E0.out.1]; exact z_lv _, (H7.out.put z328_length).1⟩
      have q := (H7.out.put z328_length).2
      simp only [results, Try.results8]
      simp [asAddr, run_loadVar_mid _ w.heap.size 0 33 z328 _ q Try.underlying33 rfl (by rw [z328_length]; exact look_size)]
    | true =>
    have her : er = 0 := by rw [← HER.out]; unfold drE; rw [hq1]
    subst her
    rw [hq1] at HIT
    have hart : aRt X1 = dRt X1 := by unfold aRt; rw [hq1]
    have HART : Hid (aRt X1 = dRt X1) := hart
    clear hq1 hart
    by_cases hev : ev = 0
    case neg =>
      have HU : Hid (isL xs = false) := by rw [HIT.out, decide_eq_false hev]; rfl
      have E0 : Hid (dLp xs = zLp ∧ dlE xs = 2) := dl_no HU.out
      go_wp2_with (first
       | (refine wp_build0s 33 rfl rfl z328.toArray (build_zl w7) ?_)
       | (refine wpList_store_mid rfl 33 _ _ rfl w.heap.size 0 z328.toArray rfl rfl (there_of H7.out.there z328_length) (size_look z328_length) z328_one ?_))
      refine bodyPost_ret (v := .tuple #[.agg z328.toArray, .int .i64 2]) ?_ rfl ⟨z328, by rw [E0.out.2], by rw [E0.out.1]; exact z_lv _, (H7.out.put z328_length).1⟩
      have q := (H7.out.put z328_length).2
      simp only [results, Try.results8]
      simp [asAddr, run_loadVar_mid _ w.heap.size 0 33 z328 _ q Try.underlying33 rfl (by rw [z328_length]; exact look_size)]
    subst hev
    cases b4 with
    | false =>
      have HU : Hid (isL xs = false) := by rw [HIT.out]; rfl
      have E0 : Hid (dLp xs = zLp ∧ dlE xs = 2) := dl_no HU.out
      go_wp2_with (first
       | (refine wp_build0s 33 rfl rfl z328.toArray (build_zl w7) ?_)
       | (refine wpList_store_mid rfl 33 _ _ rfl w.heap.size 0 z328.toArray rfl rfl (there_of H7.out.there z328_length) (size_look z328_length) z328_one ?_))
      refine bodyPost_ret (v := .tuple #[.agg z328.toArray, .int .i64 2]) ?_ rfl ⟨z328, by rw [E0.out.2], by rw [E0.out.1]; exact z_lv _, (H7.out.put z328_length).1⟩
      have q := (H7.out.put z328_length).2
      simp only [results, Try.results8]
      simp [asAddr, run_loadVar_mid _ w.heap.size 0 33 z328 _ q Try.underlying33 rfl (by rw [z328_length]; exact look_size)]
    | true =>
    cases b6 with
    | false =>
      have HU : Hid (isL xs = false) := by rw [HIT.out]; rfl
      have E0 : Hid (dLp xs = zLp ∧ dlE xs = 2) := dl_no HU.out
      go_wp2_with (first
       | (refine wp_build0s 33 rfl rfl z328.toArray (build_zl w7) ?_)
       | (refine wpList_store_mid rfl 33 _ _ rfl w.heap.size 0 z328.toArray rfl rfl (there_of H7.out.there z328_length) (size_look z328_length) z328_one ?_))
      refine bodyPost_ret (v := .tuple #[.agg z328.toArray, .int .i64 2]) ?_ rfl ⟨z328, by rw [E0.out.2], by rw [E0.out.1]; exact z_lv _, (H7.out.put z328_length).1⟩
      have q := (H7.out.put z328_length).2
      simp only [results, Try.results8]
      simp [asAddr, run_loadVar_mid _ w.heap.size 0 33 z328 _ q Try.underlying33 rfl (by rw [z328_length]; exact look_size)]
    | true =>
    cases b8 with
    | false =>
      have HU : Hid (isL xs = false) := by rw [HIT.out]; rfl
      have E0 : Hid (dLp xs = zLp ∧ dlE xs = 2) := dl_no HU.out
      go_wp2_with (first
       | (refine wp_build0s 33 rfl rfl z328.toArray (build_zl w7) ?_)
       | (refine wpList_store_mid rfl 33 _ _ rfl w.heap.size 0 z328.toArray rfl rfl (there_of H7.out.there z328_length) (size_look z328_length) z328_one ?_))
      refine bodyPost_ret (v := .tuple #[.agg z328.toArray, .int .i64 2]) ?_ rfl ⟨z328, by rw [E0.out.2], by rw [E0.out.1]; exact z_lv _, (H7.out.put z328_length).1⟩
      have q := (H7.out.put z328_length).2
      simp only [results, Try.results8]
      simp [asAddr, run_loadVar_mid _ w.heap.size 0 33 z328 _ q Try.underlying33 rfl (by rw [z328_length]; exact look_size)]
    | true =>
    have HU : isL xs = true := by rw [HIT.out]; rfl
    have E0 := dl_yes HU
    rw [Q1.out.2.2.2, Q2.out.2.2.2, Q3.out.2.2.2, Q4.out.2.2.2, Q5.out.2.2.2, Q6.out.2.2.2, Q7.out.2.2.2, Q8.out.2.2.2, HEV.out.2, ← HART.out] at E0
    have E9 : Hid (dLp xs = ⟨aRt X1, strOfNums X2, vv, rdy X4, X5, rdn X6, X7, rdn X8⟩ ∧ dlE xs = 0) := E0
    clear E0 HU
    have L5 : Hid (X5.length = 80) := (oOk_iff Hb6.out).2
    have L7 : Hid (X7.length = 80) := (oOk_iff Hb8.out).2
    rw [(o_yes Hb6.out).1] at O7
    rw [(o_yes Hb6.out).2] at N7
    rw [(o_yes Hb8.out).1] at Rw7
    rw [(o_yes Hb8.out).2] at Nw7
    obtain ⟨W8, hW8⟩ : ∃ W, w7.drew = W := ⟨_, rfl⟩
    have HW8 : Hid (w7.drew = W8) := hW8
    obtain ⟨R, hR⟩ : ∃ R, aRt X1 = R := ⟨_, rfl⟩
    rw [hR] at HRL HCL R7 E9
    obtain ⟨S, hS⟩ : ∃ S, strOfNums X2 = S := ⟨_, rfl⟩
    have HSS : Hid (strOfNums X2 = S) := hS
    rw [hS] at E9
    have HF7 : Hid (fb < w7.heap.size ∧ w7.cell? ⟨fb, fo + 1, none⟩ = some u2) := ⟨Nat.lt_of_lt_of_le HFB.out B7.out.size, (B7.out.cell (p := ⟨fb, fo + 1, none⟩) HFB.out).trans C2.out⟩
    have HSL : Hid ((lc ⟨R, S, vv, [], X5, [], X7, []⟩ (.slice a1 n1 c1) (.slice a2 n2 c2) (.slice a3 n3 c3)).length = 328) := lc_len HCL.out S vv L5.out L7.out _ _ _
    clear hW8 hR hS HART HER HIT HEV Hb6 Hb8
    go_upto_region 11 with (fail)
    refine RU.wp_rgn' [10] (rd11f R S vv fb fo cap n1 c1 n2 c2 n3 c3 a1 a2 a3 u2 X5 X7) (fun i => if i = 11 then 1 else 0) (rdΩ W8 (W8.setCells w.heap.size 0 (lc ⟨R, S, vv, [], X5, [], X7, []⟩ (.slice a1 n1 c1) (.slice a2 n2 c2) (.slice a3 n3 c3)))) (by kernel_rfl) (by kernel_rfl) HW8.out ?_ ?_
    · refine ⟨?_, ?_, ?_, ?_, ?_, ?_, ?_, ?_, ?_, ?_, ?_, ?_, trivial⟩
      · refine RU.ObT.silent rfl (fun a W k0 V hO hf hp hk => ?_)
        have hk9 : k0 ≤ 0 := hk
        obtain rfl : k0 = 0 := by omega
        have e9 : W = W8 := hO
        have hB9 : Below w7.heap.size w7 W := by rw [e9, ← HW8.out]; exact (Below.refl _ w7).drew
        clear e9 hk9
        have q6 : a.eval (.tmp 6) = .pointer (some ⟨D, 0, none⟩) := hf 6 rfl
        exact RU.ob_op rfl (RU.wanted_none rfl) (wp_load_mid 26 (.tmp 6) rfl D 0 q6 R.cells _ (range_below R7.out.1 hB9 R7.out.2) Try.underlying26 rfl (by rw [HCL.out]; exact root_size) ⟨rfl, hO⟩)
      · refine RU.ObT.pure rfl rfl rfl (fun a V hf hp ev he hc W => ?_)
        have q4 : ev (.tmp 4) = .slice (some ⟨fb, fo, none⟩) 8 cap := (he (.tmp 4)).trans (hf 4 rfl)
        simp only [List.getElem_toArray, List.getElem_cons_succ, List.getElem_cons_zero, execOp, Option.map_some, Option.map_none]; rw [q4]
        first | (go_simp; done) | (go_simp; rfl) | rfl
      · refine RU.ObT.pure rfl rfl rfl (fun a V hf hp ev he hc W => ?_)
        have q85 : ev (.tmp 85) = .slice (some ⟨fb, fo, none⟩) 8 cap := (he (.tmp 85)).trans (hp 1 85 rfl)
        simp only [List.getElem_toArray, List.getElem_cons_succ, List.getElem_cons_zero, execOp, Option.map_some, Option.map_none]; rw [q85]
        try simp only [hc]
        first | (go_simp; done) | (go_simp; rfl) | rfl
      · refine RU.ObT.silent rfl (fun a W k0 V hO hf hp hk => ?_)
        have hk9 : k0 ≤ 0 := hk
        obtain rfl : k0 = 0 := by omega
        have e9 : W = W8 := hO
        have hB9 : Below w7.heap.size w7 W := by rw [e9, ← HW8.out]; exact (Below.refl _ w7).drew
        clear e9 hk9
        have hcl9 : W.cell? ⟨fb, fo + 1, none⟩ = some u2 := (hB9.cell (p := ⟨fb, fo + 1, none⟩) HF7.out.1).trans HF7.out.2
        refine RU.ob_val rfl (RU.wanted_none rfl) (fun ev he hc => ?_) ⟨rfl, hO⟩
        have q95 : ev (.tmp 86) = .pointer (some ⟨fb, fo + 1, none⟩) := (he (.tmp 86)).trans (hp 2 86 rfl)
        simp only [List.getElem_toArray, List.getElem_cons_succ, List.getElem_cons_zero, execOp]; rw [q95]
        first | (go_simp; done) | (go_simp; rfl) | rfl
      · refine RU.ObT.silent rfl (fun a W k0 V hO hf hp hk => ?_)
        have hk9 : k0 ≤ 0 := hk
        obtain rfl : k0 = 0 := by omega
        have e9 : W = W8 := hO
        have hB9 : Below w7.heap.size w7 W := by rw [e9, ← HW8.out]; exact (Below.refl _ w7).drew
        clear e9 hk9
        have hs9 : (convert 34 9 u2).run Try.prog W = .ok (.string S) W := by rw [← HSS.out]; exact Sl.str (Q2.out.1.below (B7.out.trans (hB9.mono B7.out.size)) (Nat.le_refl _))
        refine RU.ob_val rfl (RU.wanted_none rfl) (fun ev he hc => ?_) ⟨rfl, hO⟩
        have q96 : ev (.tmp 87) = u2 := (he (.tmp 87)).trans (hp 3 87 rfl)
        simp only [List.getElem_toArray, List.getElem_cons_succ, List.getElem_cons_zero, execOp]; rw [q96]
        first | exact hs9 | (rw [hs9]; done) | (simp only [Sem.run_bind, hs9, Result.andThen_ok, Sem.run_pure]; done) | (simp only [Sem.run_bind, hs9, Result.andThen_ok, Sem.run_pure]; rfl)
      · refine RU.ObT.pure rfl rfl rfl (fun a V hf hp ev he hc W => ?_)
        have q8 : ev (.tmp 8) = .int .u64 vv := (he (.tmp 8)).trans (hf 8 rfl)
        simp only [List.getElem_toArray, List.getElem_cons_succ, List.getElem_cons_zero, execOp, Option.map_some, Option.map_none]; rw [q8]
        first | (go_simp; done) | (go_simp; rfl) | rfl
      · refine RU.ObT.pure rfl rfl rfl (fun a V hf hp ev he hc W => ?_)
        have q10 : ev (.tmp 10) = .slice a1 n1 c1 := (he (.tmp 10)).trans (hf 10 rfl)
        simp only [List.getElem_toArray, List.getElem_cons_succ, List.getElem_cons_zero, execOp, Option.map_some, Option.map_none]; rw [q10]
        first | (go_simp; done) | (go_simp; rfl) | rfl
      · refine RU.ObT.silent rfl (fun a W k0 V hO hf hp hk => ?_)
        have hk9 : k0 ≤ 0 := hk
        obtain rfl : k0 = 0 := by omega
        have e9 : W = W8 := hO
        have hB9 : Below w7.heap.size w7 W := by rw [e9, ← HW8.out]; exact (Below.refl _ w7).drew
        clear e9 hk9
        have q6 : a.eval (.tmp 12) = .pointer (some ⟨E1, 0, none⟩) := hf 12 rfl
        exact RU.ob_op rfl (RU.wanted_none rfl) (wp_load_mid 31 (.tmp 12) rfl E1 0 q6 (oc X5 (.slice a2 n2 c2)) _ (range_below O7.out.1 hB9 O7.out.2) Try.underlying31 rfl (by rw [oc_length L5.out]; exact opn_size) ⟨rfl, hO⟩)
      · refine RU.ObT.silent rfl (fun a W k0 V hO hf hp hk => ?_)
        have hk9 : k0 ≤ 0 := hk
        obtain rfl : k0 = 0 := by omega
        have e9 : W = W8 := hO
        have hB9 : Below w7.heap.size w7 W := by rw [e9, ← HW8.out]; exact (Below.refl _ w7).drew
        clear e9 hk9
        have q6 : a.eval (.tmp 14) = .pointer (some ⟨E2, 0, none⟩) := hf 14 rfl
        exact RU.ob_op rfl (RU.wanted_none rfl) (wp_load_mid 31 (.tmp 14) rfl E2 0 q6 (oc X7 (.slice a3 n3 c3)) _ (range_below Rw7.out.1 hB9 Rw7.out.2) Try.underlying31 rfl (by rw [oc_length L7.out]; exact opn_size) ⟨rfl, hO⟩)
      · refine RU.ObT.pure rfl rfl rfl (fun a V hf hp ev he hc W => ?_)
        have q84 : ev (.tmp 84) = .agg R.cells.toArray := (he (.tmp 84)).trans (hp 0 84 rfl)
        have q88 : ev (.tmp 88) = .string S := (he (.tmp 88)).trans (hp 4 88 rfl)
        have q89 : ev (.tmp 89) = .int .u64 vv := (he (.tmp 89)).trans (hp 5 89 rfl)
        have q90 : ev (.tmp 90) = .slice a1 n1 c1 := (he (.tmp 90)).trans (hp 6 90 rfl)
        have q91 : ev (.tmp 91) = .agg (oc X5 (.slice a2 n2 c2)).toArray := (he (.tmp 91)).trans (hp 7 91 rfl)
        have q92 : ev (.tmp 92) = .agg (oc X7 (.slice a3 n3 c3)).toArray := (he (.tmp 92)).trans (hp 8 92 rfl)
        simp only [List.getElem_toArray, List.getElem_cons_succ, List.getElem_cons_zero, execOp, List.map_toArray, List.map_cons, List.map_nil, q84, q88, q89, q90, q91, q92, Sem.run_bind, build_l6 HRL.out L5.out L7.out S vv a1 a2 a3 n1 n2 n3 c1 c2 c3 W, Result.andThen_ok, Sem.run_pure]
        rfl
      · refine RU.ObT.loud (j := 0) rfl (fun a W V hO hf hp => ?_)
        have q1 : a.eval (.tmp 2) = .pointer (some ⟨w.heap.size, 0, none⟩) := hf 2 rfl
        have q2 : a.eval (.tmp 93) = .agg (lc ⟨R, S, vv, [], X5, [], X7, []⟩ (.slice a1 n1 c1) (.slice a2 n2 c2) (.slice a3 n3 c3)).toArray := hp 9 93 rfl
        have hW : W = W8 := hO
        rw [hW]
        have ht9 : W8.there w.heap.size 0 328 := by rw [← HW8.out]; exact H7.out.there
        exact RU.ob_op rfl (RU.wanted_none rfl) (wp_store_mid 33 (.tmp 2) (.tmp 93) rfl w.heap.size 0 (lc ⟨R, S, vv, [], X5, [], X7, []⟩ (.slice a1 n1 c1) (.slice a2 n2 c2) (.slice a3 n3 c3)).toArray q1 q2 (there_of ht9 HSL.out) (size_look HSL.out) (lc_one _ _ _ _ _ _ _ _ _ _) ⟨_, rfl, rfl⟩)
      · refine RU.ObT.pure rfl rfl rfl (fun a V hf hp ev he hc W => ?_)
        simp only [List.getElem_toArray, List.getElem_cons_succ, List.getElem_cons_zero, execOp, Option.map_some, Option.map_none]
        try simp only [hc]
        first | (go_simp; done) | (go_simp; rfl) | rfl
    intro W9 VW9 hOW9
    have PW9 : Hid (W9 = W8.setCells w.heap.size 0 (lc ⟨R, S, vv, [], X5, [], X7, []⟩ (.slice a1 n1 c1) (.slice a2 n2 c2) (.slice a3 n3 c3))) := hOW9
    clear hOW9
    simp only [RU.lay, RU.val, show RU.at' [10] 0 = none from rfl, show RU.at' [10] 1 = none from rfl, show RU.at' [10] 2 = none from rfl, show RU.at' [10] 3 = none from rfl, show RU.at' [10] 4 = none from rfl, show RU.at' [10] 5 = none from rfl, show RU.at' [10] 6 = none from rfl, show RU.at' [10] 7 = none from rfl, show RU.at' [10] 8 = none from rfl, show RU.at' [10] 9 = none from rfl, show RU.at' [10] 10 = some 0 from rfl, show RU.at' [10] 11 = none from rfl, rd11f, Act.put]
    simp only [List.setIfInBounds_toArray, List.set_cons_succ, List.set_cons_zero]
    have hbl : Below w7.heap.size w7 W8 := by rw [← HW8.out]; exact (Below.refl _ w7).drew
    have Y9 : Hid (YO W3.heap.size W8 (.slice a1 n1 c1) (rdy X4)) := Y7.out.below hbl
    have N9 : Hid (NO w5.heap.size W8 (.slice a2 n2 c2) (rdn X6)) := N7.out.below hbl
    have M9 : Hid (NO w6.heap.size W8 (.slice a3 n3 c3) (rdn X8)) := Nw7.out.below hbl
    have H9 : Hid (Hd w W8 328) := H7.out.step hbl
    clear hbl
    rw [PW9.out]
    go_wp2_with fail
    refine bodyPost_ret (v := .tuple #[.agg (lc ⟨R, S, vv, [], X5, [], X7, []⟩ (.slice a1 n1 c1) (.slice a2 n2 c2) (.slice a3 n3 c3)).toArray, .int .i64 0]) ?_ rfl ⟨_, by rw [E9.out.2], by rw [E9.out.1]; exact ⟨_, _, _, rfl, Y9.out.setc HLT.out.1, N9.out.setc HLT.out.2.1, M9.out.setc HLT.out.2.2⟩, (H9.out.put HSL.out).1⟩
    have q := (H9.out.put HSL.out).2
    simp only [results, Try.results8]
    simp [asAddr, run_loadVar_mid _ w.heap.size 0 33 (lc ⟨R, S, vv, [], X5, [], X7, []⟩ (.slice a1 n1 c1) (.slice a2 n2 c2) (.slice a3 n3 c3)) _ q Try.underlying33 rfl (by rw [HSL.out]; exact look_size)]
end Go.Proofs.Ytfnmdeekenjlgaa
