/- DiskFuse, walked. -/
import Derived.Test.YtmlialabdijcoaaDskL
namespace Go.Proofs.Ytmlialabdijcoaa
open Go Go.RowKit
set_option linter.unusedSimpArgs false
set_option linter.unusedVariables false
set_option maxRecDepth 100000

/-- A slice that holds these bools. -/
def Bl (w : World) (v : Value) (n : Nat) (f : Nat → Bool) : Prop := ∃ ad cap, v = .slice ad n cap ∧ (n = 0 ∨ ∃ b o, ad = some ⟨b, o, none⟩ ∧ b < w.heap.size ∧ ∀ i, i < n → w.cell? ⟨b, o + i, none⟩ = some (.bool (f i)))
/-- The disk behind k operations of which n are done. -/
structure FI (s : Dk) (n k : Nat) : Prop where
  num : s.n = 64
  fu : s.fu = false
  len : s.wt.length ≤ k ∧ s.wt.length ≤ n
  lo : k ≤ n → s.dn = false ∧ s.fz = some (n - k)
  hi : n < k → s.dn = true
theorem FI.lost {s : Dk} {n k : Nat} (h : FI s n k) (hk : n ≤ k) : s.lost = true := by
  unfold Dk.lost
  rcases Nat.eq_or_lt_of_le hk with e | e
  · obtain ⟨h1, h2⟩ := h.lo (by omega)
    rw [h2, show n - k = 0 by omega]; simp
  · rw [h.hi e]; rfl
theorem FI.live {s : Dk} {n k : Nat} (h : FI s n k) (hk : k < n) : s.lost = false := by
  unfold Dk.lost
  obtain ⟨h1, h2⟩ := h.lo (by omega)
  rw [h1, h2]
  simp; omega
theorem FI.burn {s : Dk} {n k : Nat} (h : FI s n k) : FI s.burn n (k + 1) := by
  obtain ⟨b1, b2, b3, b4⟩ := burn_n s
  refine ⟨b1.trans h.num, b3.trans h.fu, by rw [b2]; exact ⟨Nat.le_succ_of_le h.len.1, h.len.2⟩, fun hk => ?_, fun hk => ?_⟩
  · obtain ⟨h1, h2⟩ := h.lo (by omega)
    unfold Dk.burn
    obtain ⟨m, hm⟩ : ∃ m, n - k = m + 1 := ⟨n - k - 1, by omega⟩
    rw [hm] at h2
    simp only [h1, h2]
    refine ⟨trivial, ?_⟩
    congr 1; omega
  · unfold Dk.burn
    rcases Nat.eq_or_lt_of_le (Nat.le_of_lt_succ hk) with e | e
    · obtain ⟨h1, h2⟩ := h.lo (by omega)
      rw [show n - k = 0 by omega] at h2
      simp only [h1, h2]
    · have h1 := h.hi e
      simp only [h1]
theorem FI.sync {s : Dk} {n k : Nat} (h : FI s n k) : FI (syS s) n (k + 1) ∧ (k < n → syE s = 0) ∧ (n ≤ k → syE s = 9) := by
  refine ⟨?_, fun hk => by simp [syE, h.live hk], fun hk => by simp [syE, h.lost hk]⟩
  cases hl : s.lost with
  | true => simp only [syS, hl]; exact h.burn
  | false =>
    have hb := h.burn
    simp only [syS, hl]
    exact ⟨hb.num, hb.fu, ⟨Nat.zero_le _, Nat.zero_le _⟩, hb.lo, hb.hi⟩
theorem FI.write {s : Dk} {n k : Nat} (h : FI s n k) {i : Int} (hi : 0 ≤ i ∧ i < 64) (x : List Int) : FI (wrS s i x) n (k + 1) ∧ (k < n → wrE s i = 0) ∧ (n ≤ k → wrE s i = 9) := by
  have hh : hasB s.n i = true := by rw [h.num]; unfold hasB; simp; omega
  refine ⟨?_, fun hk => by simp [wrE, h.live hk, hh, h.fu], fun hk => by simp [wrE, h.lost hk, hh]⟩
  cases hl : s.lost with
  | true => simp only [wrS, hl, hh]; exact h.burn
  | false =>
    have hb := h.burn
    simp only [wrS, hl, hh, h.fu]
    have hk : k < n := by
      rcases Nat.lt_or_ge k n with e | e
      · exact e
      · rw [h.lost e] at hl; cases hl
    exact ⟨hb.num, hb.fu, by simp; have := h.len; omega, hb.lo, hb.hi⟩
theorem FI.rest {s : Dk} {n k : Nat} (h : FI s n k) : syE (rsS s []) = 0 ∧ (syS (rsS s [])).dn = false := by
  constructor
  · rfl
  · rfl
set_option maxHeartbeats 4000000 in
theorem diskFuse_walk (n : Int) (L : Nat) (f : Nat → Bool) (v : Value) (hn : 0 ≤ n ∧ n ≤ 255) (hL : L ≤ 140737488355328) (w : World) (hv : Bl w v L f) : Calls Try.prog 5 #[.int .u8 n, v] w fun e w' => e = .returned (.bool true) ∧ Below w.heap.size w w' := by
  obtain ⟨n, rfl⟩ : ∃ m : Nat, n = (m : Int) := ⟨n.toNat, by omega⟩
  obtain ⟨hn0, hn1⟩ := hn
  obtain ⟨ad, cap, rfl, hx⟩ := hv
  have HX : Hid _ := hx
  clear hx
  go_enter Try.func5, Try.ntmps5
  go_wp2_with fail
  refine (awake_any w).mono ?_
  rintro e w1 ⟨rfl, h1⟩
  have B1 : Hid (Below w.heap.size w w1) := h1
  clear h1
  go_wp2_with fail
  refine (new_any w1 64 (by decide) (by decide)).mono ?_
  rintro e w2 ⟨g, rfl, h2⟩
  have A2 : Hid (Ax (fun b => b < w.heap.size) w w2 g (dk0 64)) := h2.ax ⟨B1.out.os, B1.out.tape, B1.out.output, B1.out.size, fun c hc => B1.out.block c hc⟩ (fun c hc => Nat.lt_of_lt_of_le hc B1.out.size)
  clear h2
  go_wp2_with fail
  refine (A2.out.setFuse (n : Int) (by omega)).mono ?_
  rintro e w3 ⟨rfl, h3⟩
  have A3 : Hid (∃ s, Ax (fun b => b < w.heap.size) w w3 g s ∧ FI s n 0) := ⟨_, h3, ⟨rfl, rfl, ⟨Nat.zero_le _, Nat.zero_le _⟩, fun _ => ⟨rfl, by show fuseOf (n : Int) = _; unfold fuseOf; rw [if_pos (by omega)]; simp⟩, fun e => by omega⟩⟩
  clear h3
  go_wp2_with fail
  go_loopw [23] (fun c wr => ∃ k : Nat, k ≤ L ∧ c = .int .i64 (k : Int) ∧ Hid (∃ s, Ax (fun b => b < w.heap.size) w wr g s ∧ FI s n k)) (fun c _ => L - (intOf c).toNat)
  case atStart => exact ⟨0, Nat.zero_le _, rfl, A3⟩
  case round =>
    obtain ⟨k, hk, rfl, HK⟩ := hrel
    by_cases hlt : k < L
    · obtain ⟨s, ha, hi⟩ := HK.out
      have A : Hid (Ax (fun b => b < w.heap.size) w wr g s) := ha
      have I : Hid (FI s n k) := hi
      clear ha hi
      obtain ⟨cb, co, rfl, hcl, hcm⟩ : ∃ cb co, ad = some ⟨cb, co, none⟩ ∧ cb < w.heap.size ∧ ∀ i, i < L → w.cell? ⟨cb, co + i, none⟩ = some (.bool (f i)) := by
        rcases HX.out with h | h
        · omega
        · exact h
      have hc := (World.cell?_of_block (w := w) (w' := wr) (a := ⟨cb, co + k, none⟩) (A.out.kept.same cb hcl)).trans (hcm k hlt)
      clear hcm hcl
      have hwl : s.wt.length ≤ 255 := by have := I.out.len.2; omega
      cases hf : f k with
      | true =>
        rw [hf] at hc
        go_wp2_with fail
        refine (A.out.sync).mono ?_
        rintro e w4 ⟨rfl, h4⟩
        have A4 : Hid (Ax (fun b => b < w.heap.size) w w4 g (syS s)) := h4
        have I4 : Hid (FI (syS s) n (k + 1)) := I.out.sync.1
        clear h4
        by_cases hkn : k < n
        · have hkn' : (k : Int) < (n : Int) := by omega
          rw [I.out.sync.2.1 hkn]
          go_wp2_with fail
          refine (A4.out.down).mono ?_
          rintro e w5 ⟨rfl, rfl⟩
          rw [(I4.out.lo (by omega)).1]
          go_wp2_with fail
          exact ⟨⟨k + 1, hlt, by go_num, ⟨_, A4.out, I4.out⟩⟩, by simp [intOf]; omega⟩
        · have hkn' : ¬ (k : Int) < (n : Int) := by omega
          rw [I.out.sync.2.2 (by omega)]
          go_wp2_with fail
          refine (A4.out.down).mono ?_
          rintro e w5 ⟨rfl, rfl⟩
          rw [I4.out.hi (by omega)]
          go_wp2_with fail
          exact ⟨⟨k + 1, hlt, by go_num, ⟨_, A4.out, I4.out⟩⟩, by simp [intOf]; omega⟩
      | false =>
        rw [hf] at hc
        go_wp2_with fail
        refine (filled_any 7 (by decide) wr).mono ?_
        rintro e w4 ⟨rfl, h4⟩
        have A4 : Hid (Ax (fun b => b < w.heap.size) w w4 g s) := A.out.below h4
        clear h4
        go_wp2_with fail
        refine (A4.out.write ((k : Int) % 64) (fill 7) (fill_length 7) (by omega)).mono ?_
        rintro e w5 ⟨rfl, h5⟩
        have A5 : Hid (Ax (fun b => b < w.heap.size) w w5 g (wrS s ((k : Int) % 64) (fill 7))) := h5
        have hm : 0 ≤ (k : Int) % 64 ∧ (k : Int) % 64 < 64 := by omega
        have I5 : Hid (FI (wrS s ((k : Int) % 64) (fill 7)) n (k + 1)) := (I.out.write hm (fill 7)).1
        clear h5
        by_cases hkn : k < n
        · have hkn' : (k : Int) < (n : Int) := by omega
          rw [(I.out.write hm (fill 7)).2.1 hkn]
          clear hm
          go_wp2_with fail
          refine (A5.out.down).mono ?_
          rintro e w6 ⟨rfl, rfl⟩
          rw [(I5.out.lo (by omega)).1]
          go_wp2_with fail
          exact ⟨⟨k + 1, hlt, by go_num, ⟨_, A5.out, I5.out⟩⟩, by simp [intOf]; omega⟩
        · have hkn' : ¬ (k : Int) < (n : Int) := by omega
          rw [(I.out.write hm (fill 7)).2.2 (by omega)]
          clear hm
          go_wp2_with fail
          refine (A5.out.down).mono ?_
          rintro e w6 ⟨rfl, rfl⟩
          rw [I5.out.hi (by omega)]
          go_wp2_with fail
          exact ⟨⟨k + 1, hlt, by go_num, ⟨_, A5.out, I5.out⟩⟩, by simp [intOf]; omega⟩
    · obtain rfl : k = L := by omega
      obtain ⟨s, ha, hi⟩ := HK.out
      have A : Hid (Ax (fun b => b < w.heap.size) w wr g s) := ha
      have I : Hid (FI s n k) := hi
      clear ha hi
      go_wp2_with fail
      refine (A.out.restart [] _ ⟨none, 0, rfl, Nat.le_refl _, .inl ⟨rfl, fun _ => rfl⟩⟩ (fun b hb => by cases hb) (by simp)).mono ?_
      rintro e w4 ⟨rfl, h4⟩
      have A4 : Hid (Ax (fun b => b < w.heap.size) w w4 g (rsS s [])) := h4
      clear h4
      go_wp2_with fail
      refine (A4.out.sync).mono ?_
      rintro e w5 ⟨rfl, h5⟩
      have A5 : Hid (Ax (fun b => b < w.heap.size) w w5 g (syS (rsS s []))) := h5
      clear h5
      rw [I.out.rest.1]
      go_wp2_with fail
      refine (A5.out.down).mono ?_
      rintro e w6 ⟨rfl, rfl⟩
      rw [I.out.rest.2]
      go_wp2_with fail
      go_ret
      exact ⟨rfl, A5.out.kept.below (fun _ h => h)⟩
end Go.Proofs.Ytmlialabdijcoaa
