/- Numbers as bytes: appendNumber, Num, the reference's Num. -/
import Derived.Test.YtfnmdeekenjlgaaWirV
namespace Go.Proofs.Ytfnmdeekenjlgaa
open Go Go.RowKit
set_option linter.unusedSimpArgs false
set_option linter.unusedVariables false

/-- The byte at the place i of a number, from the least on. -/
def dg (n : Int) (i : Nat) : Int := n / 2 ^ (8 * i) % 256
/-- A number in s bytes, big-endian. -/
def be (s : Nat) (n : Int) : List Int := (List.range s).map fun t => dg n (s - 1 - t)
theorem be_length (s : Nat) (n : Int) : (be s n).length = s := by simp [be]
theorem be_snoc (s : Nat) (n : Int) (c : Nat) (h : c < s) : (be s n).take (c + 1) = (be s n).take c ++ [dg n (s - 1 - c)] := by
  rw [List.take_succ_eq_append_getElem (by rw [be_length]; exact h)]
  simp [be]
set_option maxHeartbeats 400000 in
theorem appendNumber_any (B0 : Nat) (xs : List Int) (n : Int) (s : Nat) (v : Value) (w : World) (h0 : Ow B0 w v xs) (hB : B0 ≤ w.heap.size) (hn : 0 ≤ n) (hn2 : n < 18446744073709551616) (hs : s ≤ 8) (hl : xs.length ≤ 140000000000000) :
    Calls Try.prog 52 #[v, .int .u64 n, .int .i64 (s : Int)] w fun e w' => ∃ v', e = .returned v' ∧ Ow B0 w' v' (xs ++ be s n) ∧ Gr w w' v v' := by
  have H0 : Hid (Ow B0 w v xs) := h0
  clear h0
  go_enter Try.func52, Try.ntmps52
  go_wp2
  go_loopw [0, 7] (fun b i wr => ∃ c : Nat, c ≤ s ∧ i = .int .i64 ((s : Int) - 1 - (c : Int)) ∧ Ow B0 wr b (xs ++ (be s n).take c) ∧ Gr w wr v b) (fun _ i _ => (1 + intOf i).toNat)
  case atStart => exact ⟨0, Nat.zero_le _, by go_num, by rw [List.take_zero, List.append_nil]; exact H0.out, Gr.refl _ _⟩
  case round =>
    obtain ⟨c, hc, rfl, h1, h2⟩ := hrel
    have H1 : Hid (Ow B0 _ _ _) := h1
    have H2 : Hid (Gr _ _ _ _) := h2
    clear h1 h2
    by_cases hlt : c < s
    · have HS : Hid _ := be_snoc s n c hlt
      have hpos : 0 ≤ (s : Int) - 1 - (c : Int) := by omega
      have hz : Hid (B0 ≤ wr.heap.size) := Nat.le_trans hB H2.out.grown.size
      have hln : Hid ((xs ++ (be s n).take c).length + 1 ≤ 140737488355328) := by
        show (xs ++ (be s n).take c).length + 1 ≤ 140737488355328
        rw [List.length_append, List.length_take]; omega
      go_wp2_with (at_builtin; refine app_u8 rfl (.tmp 14) (.tmp 20) rfl (by simpa using Nat.le_succ_of_le hz.out) u0 (xs ++ (be s n).take c) rfl (H1.out.alloc _) _ rfl [dg n (s - 1 - c)] (Sl.one _ _ _) hln.out ?_; intro v1 w1 hv1 hg1 hb1 hbl1; have G1 : Hid (Ow B0 w1 v1 (xs ++ (be s n).take (c + 1))) := (by rw [HS.out, ← List.append_assoc]; exact hv1); have G2 : Hid (Gr w w1 v v1) := (H2.out.alloc _).step hg1 hbl1; clear hv1 hg1 hb1 hbl1)
      go_roundw
      case rel => exact ⟨c + 1, hlt, by go_num, G1.out, G2.out⟩
      case measure => simp [intOf]; omega
    · obtain rfl : c = s := by omega
      go_wp2
      go_ret
      exact ⟨_, rfl, by have h := H1.out; rw [List.take_of_length_le (by rw [be_length]; omega)] at h; exact h, H2.out⟩
set_option maxHeartbeats 400000 in
/-- A number in 8 bytes. -/
theorem num_any (n : Int) (w : World) (hn : 0 ≤ n) (hn2 : n < 18446744073709551616) :
    Calls Try.prog 20 #[.int .u64 n] w fun e w' => ∃ v', e = .returned v' ∧ Ow w.heap.size w' v' (be 8 n) ∧ Below w.heap.size w w' := by
  go_enter Try.func20, Try.ntmps20
  go_wp2_with (first
    | (at_make; refine make_u8 _ rfl _ _ rfl .i64 .i64 8 8 rfl rfl rfl (by omega) ?_; intro w1 h1 h2; have H1 : Hid (Ow w.heap.size w1 _ []) := h1; have H2 : Hid (Below w.heap.size w w1) := h2; clear h1 h2)
    | (go_at_call 52; refine (appendNumber_any w.heap.size [] n 8 _ _ H1.out H2.out.size hn hn2 (by omega) (by simp)).mono ?_; rintro e w2 ⟨v2, rfl, h3, h4⟩; have H3 : Hid (Ow w.heap.size w2 v2 (be 8 n)) := h3; have H4 : Hid (Below w.heap.size w w2) := H2.out.trans (h4.below H2.out.size (fun b e => H1.out.blk b e)); clear h3 h4))
  go_ret
  exact ⟨_, rfl, H3.out, H4.out⟩
set_option maxHeartbeats 400000 in
/-- The reference's number in 8 bytes. -/
theorem rnum_any (n : Int) (w : World) (hn : 0 ≤ n) (hn2 : n < 18446744073709551616) :
    Calls Try.prog 26 #[.int .u64 n] w fun e w' => ∃ v', e = .returned v' ∧ Ow w.heap.size w' v' (be 8 n) ∧ Below w.heap.size w w' := by
  go_enter Try.func26, Try.ntmps26
  go_wp2_with (at_make; refine make_full _ rfl _ _ rfl .i64 .i64 8 8 8 rfl rfl rfl rfl (by omega) ?_; intro w1 h1 h2; have H1 : Hid (Ow w.heap.size w1 _ (List.replicate 8 0)) := h1; have H2 : Hid (Below w.heap.size w w1) := h2; clear h1 h2)
  obtain ⟨g, hg⟩ : ∃ g, w.heap.size = g := ⟨_, rfl⟩
  have HG : Hid (w.heap.size = g) := hg
  rw [hg] at H1 H2 ⊢
  clear hg
  go_loopw [6] (fun i wr => ∃ k : Nat, k ≤ 8 ∧ i = .int .i64 (k : Int) ∧ Ow g wr (.slice (some ⟨g, 0, none⟩) 8 8) ((be 8 n).take k ++ List.replicate (8 - k) 0) ∧ Below g w wr) (fun i _ => (8 - intOf i).toNat)
  case atStart => exact ⟨0, by omega, rfl, H1.out, H2.out⟩
  case round =>
    obtain ⟨k, hk, rfl, h1, h2⟩ := hrel
    have H3 : Hid (Ow g wr _ ((be 8 n).take k ++ List.replicate (8 - k) 0)) := h1
    have H4 : Hid (Below g w wr) := h2
    clear h1 h2
    by_cases hlt : k < 8
    · have HS : Hid (((be 8 n).take k ++ List.replicate (8 - k) 0).set k (dg n (7 - k)) = (be 8 n).take (k + 1) ++ List.replicate (8 - (k + 1)) 0) := by
        show ((be 8 n).take k ++ List.replicate (8 - k) 0).set k (dg n (7 - k)) = (be 8 n).take (k + 1) ++ List.replicate (8 - (k + 1)) 0
        rw [be_snoc 8 n k hlt, List.set_append_right k _ (by rw [List.length_take, be_length]; omega)]
        rw [List.length_take, be_length, show min k 8 = k by omega, Nat.sub_self, show 8 - k = (8 - (k + 1)) + 1 by omega, List.replicate_succ, List.set_cons_zero]
        simp
      obtain ⟨hc0, hf0⟩ := H3.out.cell (j := k) (by rw [List.length_append, List.length_take, be_length, List.length_replicate]; omega)
      have gk : (k : Int) ≤ 7 := by omega
      have HD : Hid (n / 2 ^ (56 - 8 * k) % 256 = dg n (7 - k)) := by
        show n / 2 ^ (56 - 8 * k) % 256 = n / 2 ^ (8 * (7 - k)) % 256
        rw [show 56 - 8 * k = 8 * (7 - k) by omega]
      go_wp2
      obtain ⟨s1, s2⟩ := H3.out.set k (dg n (7 - k))
      rw [HS.out] at s1
      rw [HD.out]
      refine ⟨⟨k + 1, hlt, by go_num, s1, H4.out.trans ?_⟩, by simp [intOf]; omega⟩
      exact (Below.refl g wr).grown s2 (by rw [← HG.out]; exact H4.out.size) (fun b e => by cases e; exact Nat.le_refl _)
    · obtain rfl : k = 8 := by omega
      rw [← HG.out] at H3 H4 ⊢
      go_wp2
      go_ret
      exact ⟨_, rfl, by have h := H3.out; rw [List.take_of_length_le (by rw [be_length]; omega)] at h; simpa using h, H4.out⟩
end Go.Proofs.Ytfnmdeekenjlgaa
