/- The reference's Encode. -/
import Derived.Test.YtfnmdeekenjlgaaWirF
namespace Go.Proofs.Ytfnmdeekenjlgaa
open Go Go.RowKit
set_option linter.unusedSimpArgs false
set_option linter.unusedVariables false

/-- A row that was just built. -/
theorem Ow.lit (w : World) (xs : List Int) (cs : Array Value) (n : Nat) (hc : cs.toList = bv xs) (hn : n = xs.length) (hl : xs.length ≤ 1048576) : Ow w.heap.size (w.alloc (.cells cs 5)) (.slice (some ⟨w.heap.size, 0, none⟩) n n) xs := by
  subst hn
  refine ⟨by rw [bv_length]; omega, .inr ⟨w.heap.size, xs.length, cs, rfl, Nat.le_refl _, by show (w.heap.push _)[w.heap.size]? = _; simp, Nat.le_refl _, by unfold maxLen; omega, ?_, ?_⟩⟩
  · rw [← Array.length_toList, hc, bv_length]; omega
  · rw [hc, List.take_of_length_le (by rw [bv_length]; omega)]
set_option maxHeartbeats 400000 in
theorem four_any (n : Int) (w : World) (h0 : 0 ≤ n) (h1 : n ≤ 1048576) :
    Calls Try.prog 58 #[.int .i64 n] w fun e w' => ∃ v', e = .returned v' ∧ Ow w.heap.size w' v' (be 4 n) ∧ Below w.heap.size w w' := by
  go_enter Try.func58, Try.ntmps58
  go_wp2
  go_ret
  refine ⟨_, rfl, Ow.lit w (be 4 n) _ 4 ?_ rfl (by rw [be_length]; omega), (Below.refl _ w).alloc (Nat.le_refl _) _⟩
  have : be 4 n = [n / 16777216 % 256, n / 65536 % 256, n / 256 % 256, n % 256] := by
    simp [be, dg, List.range, List.range.loop]
  rw [this, show n / 16777216 % 256 = n / 16777216 by omega, show n / 65536 % 256 = n / 65536 by omega]; rfl
set_option maxHeartbeats 1000000 in
theorem rencode_any (xss : List (List Int)) (v : Value) (w : World) (hs : LL w v xss) (hL : Lens xss) (hn : xss.length ≤ 140737488355328) :
    Calls Try.prog 24 #[v] w fun e w' => ∃ v', e = .returned (.tuple #[v', .int .i64 (encE xss)]) ∧ Ow w.heap.size w' v' (encB xss) ∧ Below w.heap.size w w' := by
  have HL : Hid (Lens xss) := hL
  obtain ⟨ad, cap, rfl, hc, hx⟩ := hs
  have HX : Hid _ := hx
  clear hx hL hc
  go_enter Try.func24, Try.ntmps24
  go_wp2
  go_loop [4, 10] (fun s i => ∃ k : Nat, k ≤ xss.length ∧ sz xss k ≤ 1048576 ∧ i = .int .i64 k ∧ s = .int .i64 (sz xss k)) (fun _ i => xss.length - (intOf i).toNat)
  case atStart => exact ⟨0, Nat.zero_le _, by simp [sz], rfl, rfl⟩
  case round =>
    obtain ⟨k, hk, hz, rfl, rfl⟩ := hrel
    by_cases hlt : k < xss.length
    · rcases HX.out with ⟨rfl, _⟩ | ⟨b, o, rfl, hlb, hm⟩
      · simp at hlt
      · obtain ⟨u, hc0, hu⟩ := hm k hlt
        have hl := HL.out k hlt
        obtain ⟨ad, cp, rfl, -, -⟩ := hu
        clear hm
        have HS : Hid (sz xss (k + 1) = sz xss k + 4 + (mi xss k).length) := rfl
        obtain ⟨Z, hZ⟩ : ∃ Z, sz xss k = Z := ⟨_, rfl⟩
        obtain ⟨L, hLL⟩ : ∃ L, (mi xss k).length = L := ⟨_, rfl⟩
        rw [hZ, hLL] at HS
        rw [hLL] at hl hc0
        rw [hZ] at hz ⊢
        by_cases hb0 : 1048576 < L
        · have E : Hid (encE xss = 6 ∧ encB xss = []) := encE_big (big_of (k := k + 1) hlt (by rw [HS.out]; omega))
          have hb' : (1048576 : Int) < (L : Int) := by omega
          clear hZ hLL
          go_wp2
          go_ret2
          exact ⟨_, by rw [E.out.1]; rfl, by rw [E.out.2]; exact Ow.nil _ _, Below.refl _ _⟩
        have hb1 : ¬ (1048576 : Int) < (L : Int) := by omega
        by_cases hb : 1048576 < Z + 4 + L
        · have E : Hid (encE xss = 6 ∧ encB xss = []) := encE_big (big_of (k := k + 1) hlt (by rw [HS.out]; exact hb))
          have hb' : (1048576 : Int) < (Z : Int) + 4 + (L : Int) := by omega
          clear hZ hLL
          go_wp2
          go_ret2
          exact ⟨_, by rw [E.out.1]; rfl, by rw [E.out.2]; exact Ow.nil _ _, Below.refl _ _⟩
        · have hb' : ¬ (1048576 : Int) < (Z : Int) + 4 + (L : Int) := by omega
          clear hZ hLL
          go_wp2
          go_round
          case rel => exact ⟨k + 1, by omega, by rw [HS.out]; omega, by go_num, by rw [HS.out]; go_num⟩
          case measure => simp [intOf]; omega
    · obtain rfl : k = xss.length := by omega
      by_cases h0 : 65536 < xss.length
      · have E : Hid (encE xss = 6 ∧ encB xss = []) := encE_big (decide_eq_true (.inl h0))
        have h0' : (65536 : Int) < (xss.length : Int) := by omega
        go_wp2
        go_ret2
        exact ⟨_, by rw [E.out.1]; rfl, by rw [E.out.2]; exact Ow.nil _ _, Below.refl _ _⟩
      · have F : Hid (encE xss = 0 ∧ encB xss = encK xss xss.length) := encE_ok (decide_eq_false (by omega))
        have HZ : Hid (∀ k, k ≤ xss.length → sz xss k ≤ 1048576) := fun k hk => Nat.le_trans (sz_mono xss _ hk) hz
        have h0' : ¬ (65536 : Int) < (xss.length : Int) := by omega
        have hz' : ¬ (1048576 : Int) < (sz xss xss.length : Int) := by omega
        go_wp2_with (go_at_call 58; refine (four_any _ _ (by omega) (by omega)).mono ?_; rintro e w1 ⟨v1, rfl, h1, h2⟩; have H1 : Hid (Ow w.heap.size w1 v1 (encK xss 0)) := h1; have H2 : Hid (Below w.heap.size w w1) := h2; clear h1 h2)
        go_loopw [6, 42] (fun b i wr => ∃ k : Nat, k ≤ xss.length ∧ i = .int .i64 (k : Int) ∧ Ow w.heap.size wr b (encK xss k) ∧ Below w.heap.size w wr) (fun _ i _ => xss.length - (intOf i).toNat)
        case atStart => exact ⟨0, Nat.zero_le _, rfl, H1.out, H2.out⟩
        case round =>
          obtain ⟨k, hk, rfl, h5, h6⟩ := hrel
          have H5 : Hid (Ow w.heap.size wr _ (encK xss k)) := h5
          have H6 : Hid (Below w.heap.size w wr) := h6
          clear h5 h6 H1 H2
          by_cases hlt : k < xss.length
          · rcases HX.out with ⟨rfl, _⟩ | ⟨b, o, rfl, hlb, hm⟩
            · simp at hlt
            · obtain ⟨u, hc0, hu⟩ := hm k hlt
              have hc1 := (H6.out.cell (p := ⟨b, o + k, none⟩) hlb).trans hc0
              have SU : Hid (Sl w u (mi xss k)) := hu
              obtain ⟨ad, cp, rfl, -, -⟩ := hu
              have HC0 : Hid _ := hc0
              have HLB : Hid (b < w.heap.size) := hlb
              clear hm hc0
              have ZK : Hid ((encK xss k).length ≤ 1048576) := by show (encK xss k).length ≤ 1048576; rw [encK_length]; exact HZ.out k hk
              have HK : Hid (encK xss (k + 1) = (encK xss k ++ be 4 ((mi xss k).length : Int)) ++ mi xss k) := rfl
              have GL : Hid ((mi xss k).length ≤ 1048576) := by
                have h1 := HZ.out (k + 1) hlt
                simp only [sz] at h1
                show (mi xss k).length ≤ 1048576; omega
              obtain ⟨M, hM⟩ : ∃ M, mi xss k = M := ⟨_, rfl⟩
              obtain ⟨L, hLL⟩ : ∃ L, M.length = L := ⟨_, rfl⟩
              rw [hM] at SU HK GL hc1 HC0
              have HLL : Hid (M.length = L) := hLL
              rw [hLL] at SU HK GL hc1 HC0
              have gl : L ≤ 1048576 := GL.out
              clear hM hLL GL
              have hZR : Hid (w.heap.size ≤ wr.heap.size) := H6.out.size
              go_wp2_with (first
                | (go_at_call 58; refine (four_any _ _ (by omega) (by omega)).mono ?_; rintro e w7 ⟨v7, rfl, h7, h8⟩; have H7 : Hid (Sl w7 v7 (be 4 (L : Int))) := h7.sl; have H8 : Hid (Below w.heap.size w w7) := H6.out.trans (h8.mono hZR.out); have H9 : Hid (Ow w.heap.size w7 u6 (encK xss k)) := H5.out.below h8; clear h7 h8)
                | (at_builtin; refine app_u8 rfl (.tmp 45) (.tmp 51) rfl H8.out.size u6 _ rfl H9.out _ rfl (be 4 (L : Int)) H7.out (by rw [be_length]; have := ZK.out; omega) ?_; intro v8 w8 h9 h10 h11 h12; have H10 : Hid (Ow w.heap.size w8 v8 (encK xss k ++ be 4 (L : Int))) := h9; have H11 : Hid (Below w.heap.size w w8) := H8.out.trans h11; have hc8 := (H11.out.cell (p := ⟨b, o + k, none⟩) HLB.out).trans HC0.out; clear h9 h10 h11 h12)
                | (at_builtin; refine app_u8 rfl (.tmp 53) (.tmp 57) rfl H11.out.size v8 _ rfl H10.out _ rfl M (SU.out.below H11.out (Nat.le_refl _)) (by rw [List.length_append, be_length, HLL.out]; have := ZK.out; omega) ?_; intro v9 w9 h9 h10 h11 h12; have H12 : Hid (Ow w.heap.size w9 v9 (encK xss (k + 1))) := (by rw [HK.out]; exact h9); have H13 : Hid (Below w.heap.size w w9) := H11.out.trans h11; clear h9 h10 h11 h12))
              exact ⟨⟨k + 1, hlt, by go_num, H12.out, H13.out⟩, by simp [intOf]; omega⟩
          · obtain rfl : k = xss.length := by omega
            go_wp2
            go_ret2
            exact ⟨_, by rw [F.out.1]; rfl, by rw [F.out.2]; exact H5.out, H6.out⟩
end Go.Proofs.Ytfnmdeekenjlgaa
