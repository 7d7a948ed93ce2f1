/- Lists of byte strings: sizeOf, Encode. -/
import Derived.Test.YtfnmdeekenjlgaaWirD
namespace Go.Proofs.Ytfnmdeekenjlgaa
open Go Go.RowKit
set_option linter.unusedSimpArgs false
set_option linter.unusedVariables false

/-- The member at a place. -/
def mi (xss : List (List Int)) (i : Nat) : List Int := xss.getD i []
theorem mi_get {xss : List (List Int)} {i : Nat} (h : i < xss.length) : mi xss i = xss[i] := by simp [mi, List.getD, List.getElem?_eq_getElem h]
/-- A slice that holds these byte strings. -/
def LL (w : World) (v : Value) (xss : List (List Int)) : Prop :=
  ∃ ad cap, v = .slice ad xss.length cap ∧ xss.length ≤ cap ∧ ((xss = [] ∧ (ad = none → cap = 0)) ∨ ∃ b o, ad = some ⟨b, o, none⟩ ∧ b < w.heap.size ∧ ∀ i, i < xss.length → ∃ u, w.cell? ⟨b, o + i, none⟩ = some u ∧ Sl w u (mi xss i))
theorem LL.below {w w' : World} {v : Value} {xss : List (List Int)} (h : LL w v xss) (hb : Below w.heap.size w w') : LL w' v xss := by
  obtain ⟨ad, cap, rfl, hc, h⟩ := h
  refine ⟨ad, cap, rfl, hc, ?_⟩
  rcases h with h | ⟨b, o, rfl, hlt, hm⟩
  · exact .inl h
  · refine .inr ⟨b, o, rfl, Nat.lt_of_lt_of_le hlt hb.size, fun i hi => ?_⟩
    obtain ⟨u, h1, h2⟩ := hm i hi
    exact ⟨u, (hb.cell (p := ⟨b, o + i, none⟩) hlt).trans h1, h2.below hb (Nat.le_refl _)⟩
/-- How many bytes the first k members take, and the count ahead of them. -/
def sz (xss : List (List Int)) : Nat → Nat
  | 0 => 4
  | k + 1 => sz xss k + 4 + (mi xss k).length
theorem sz_mono (xss : List (List Int)) {j : Nat} : ∀ k, j ≤ k → sz xss j ≤ sz xss k
  | 0, h => by obtain rfl : j = 0 := by omega
               exact Nat.le_refl _
  | k + 1, h => by
    by_cases e : j = k + 1
    · subst e; exact Nat.le_refl _
    · have := sz_mono xss k (show j ≤ k by omega); simp only [sz]; omega
/-- Too many members, or too many bytes. -/
def big (xss : List (List Int)) : Bool := decide (65536 < xss.length ∨ 1048576 < sz xss xss.length)
theorem big_of {xss : List (List Int)} {k : Nat} (hk : k ≤ xss.length) (h : 1048576 < sz xss k) : big xss = true :=
  decide_eq_true (.inr (Nat.lt_of_lt_of_le h (sz_mono xss _ hk)))
def szR (xss : List (List Int)) : Int := if big xss = true then 0 else (sz xss xss.length : Int)
def okR (xss : List (List Int)) : Bool := !big xss
theorem szR_big {xss : List (List Int)} (h : big xss = true) : szR xss = 0 ∧ okR xss = false := by unfold szR okR; rw [h]; exact ⟨rfl, rfl⟩
theorem szR_ok {xss : List (List Int)} (h : big xss = false) : szR xss = (sz xss xss.length : Int) ∧ okR xss = true := by unfold szR okR; rw [h]; exact ⟨rfl, rfl⟩
/-- Members of lengths that the model has. -/
def Lens (xss : List (List Int)) : Prop := ∀ i, i < xss.length → (mi xss i).length ≤ 140737488355328
set_option maxHeartbeats 400000 in
theorem sizeOf_any (xss : List (List Int)) (v : Value) (w : World) (hs : LL w v xss) (hL : Lens xss) (hn : xss.length ≤ 140737488355328) :
    Calls Try.prog 51 #[v] w fun e w' => e = .returned (.tuple #[.int .i64 (szR xss), .bool (okR xss)]) ∧ w' = w := by
  obtain ⟨ad, cap, rfl, hc, hx⟩ := hs
  have HX : Hid _ := hx
  have HL : Hid (Lens xss) := hL
  clear hx hL hc
  by_cases h0 : 65536 < xss.length
  · have E : Hid (szR xss = 0 ∧ okR xss = false) := szR_big (decide_eq_true (.inl h0))
    have h0' : (65536 : Int) < (xss.length : Int) := by omega
    go_enter Try.func51, Try.ntmps51
    go_wp2
    go_ret2
    exact ⟨by rw [E.out.1, E.out.2]; rfl, rfl⟩
  · have h0' : ¬ (65536 : Int) < (xss.length : Int) := by omega
    go_enter Try.func51, Try.ntmps51
    go_wp2
    go_loop [2, 11] (fun s i => ∃ k : Nat, k ≤ xss.length ∧ sz xss k ≤ 1048576 ∧ i = .int .i64 k ∧ s = .int .i64 (sz xss k)) (fun _ i => xss.length - (intOf i).toNat)
    case atStart => exact ⟨0, Nat.zero_le _, by simp [sz], rfl, rfl⟩
    case round =>
      obtain ⟨k, hk, hz, rfl, rfl⟩ := hrel
      by_cases hlt : k < xss.length
      · rcases HX.out with ⟨rfl, _⟩ | ⟨b, o, rfl, hlb, hm⟩
        · simp at hlt
        · obtain ⟨u, hc0, hu⟩ := hm k hlt
          have hl := HL.out k hlt
          obtain ⟨ad, cp, rfl, -, -⟩ := hu
          clear hm
          have HS : Hid (sz xss (k + 1) = sz xss k + 4 + (mi xss k).length) := rfl
          obtain ⟨Z, hZ⟩ : ∃ Z, sz xss k = Z := ⟨_, rfl⟩
          obtain ⟨L, hLL⟩ : ∃ L, (mi xss k).length = L := ⟨_, rfl⟩
          rw [hZ, hLL] at HS
          rw [hLL] at hl hc0
          rw [hZ] at hz ⊢
          by_cases hb : 1048576 < Z + 4 + L
          · have E : Hid (szR xss = 0 ∧ okR xss = false) := szR_big (big_of (k := k + 1) hlt (by rw [HS.out]; exact hb))
            have hb' : (1048576 : Int) - (Z : Int) - 4 < (L : Int) := by omega
            clear hZ hLL
            go_wp2
            go_ret2
            exact ⟨by rw [E.out.1, E.out.2]; rfl, rfl⟩
          · have hb' : ¬ (1048576 : Int) - (Z : Int) - 4 < (L : Int) := by omega
            clear hZ hLL
            go_wp2
            go_round
            case rel => exact ⟨k + 1, by omega, by rw [HS.out]; omega, by go_num, by rw [HS.out]; go_num⟩
            case measure => simp [intOf]; omega
      · obtain rfl : k = xss.length := by omega
        have E : Hid (szR xss = (sz xss xss.length : Int) ∧ okR xss = true) := szR_ok (decide_eq_false (by omega))
        go_wp2
        go_ret2
        exact ⟨by rw [E.out.1, E.out.2]; rfl, rfl⟩
/-- The bytes of a list's first k members, behind the count. -/
def encK (xss : List (List Int)) : Nat → List Int
  | 0 => be 4 (xss.length : Int)
  | k + 1 => (encK xss k ++ be 4 ((mi xss k).length : Int)) ++ mi xss k
theorem encK_length (xss : List (List Int)) : ∀ k, (encK xss k).length = sz xss k
  | 0 => be_length _ _
  | k + 1 => by simp only [encK, List.length_append, encK_length xss k, be_length, sz]
def encE (xss : List (List Int)) : Int := if big xss = true then 6 else 0
def encB (xss : List (List Int)) : List Int := if big xss = true then [] else encK xss xss.length
theorem encE_big {xss : List (List Int)} (h : big xss = true) : encE xss = 6 ∧ encB xss = [] := by unfold encE encB; rw [h]; exact ⟨rfl, rfl⟩
theorem encE_ok {xss : List (List Int)} (h : big xss = false) : encE xss = 0 ∧ encB xss = encK xss xss.length := by unfold encE encB; rw [h]; exact ⟨rfl, rfl⟩
theorem small_of {xss : List (List Int)} (h : big xss = false) : xss.length ≤ 65536 ∧ sz xss xss.length ≤ 1048576 := by
  have := of_decide_eq_false h; omega
set_option maxHeartbeats 400000 in
theorem encode_any (xss : List (List Int)) (v : Value) (w : World) (hs : LL w v xss) (hL : Lens xss) (hn : xss.length ≤ 140737488355328) :
    Calls Try.prog 16 #[v] w fun e w' => ∃ v', e = .returned (.tuple #[v', .int .i64 (encE xss)]) ∧ Ow w.heap.size w' v' (encB xss) ∧ Below w.heap.size w w' := by
  have HS : Hid (LL w v xss) := hs
  have HL : Hid (Lens xss) := hL
  obtain ⟨ad, cap, rfl, hc, hx⟩ := hs
  have HX : Hid _ := hx
  clear hx hL hc
  cases hb : big xss with
  | true =>
    have E : Hid (szR xss = 0 ∧ okR xss = false) := szR_big hb
    have F : Hid (encE xss = 6 ∧ encB xss = []) := encE_big hb
    clear hb
    go_enter Try.func16, Try.ntmps16
    go_wp2_with (go_at_call 51; refine (sizeOf_any xss _ w HS.out HL.out hn).mono ?_; rintro e w' ⟨rfl, rfl⟩; rw [E.out.1, E.out.2])
    go_ret2
    exact ⟨_, by rw [F.out.1]; rfl, by rw [F.out.2]; exact Ow.nil _ _, Below.refl _ _⟩
  | false =>
    have E : Hid (szR xss = (sz xss xss.length : Int) ∧ okR xss = true) := szR_ok hb
    have F : Hid (encE xss = 0 ∧ encB xss = encK xss xss.length) := encE_ok hb
    obtain ⟨hn1, hz1⟩ := small_of hb
    clear hb
    have HZ : Hid (∀ k, k ≤ xss.length → sz xss k ≤ 1048576) := fun k hk => Nat.le_trans (sz_mono xss _ hk) hz1
    obtain ⟨Z, hZ⟩ : ∃ Z, sz xss xss.length = Z := ⟨_, rfl⟩
    rw [hZ] at E hz1
    clear hZ
    go_enter Try.func16, Try.ntmps16
    go_wp2_with (first
      | (go_at_call 51; refine (sizeOf_any xss _ w HS.out HL.out hn).mono ?_; rintro e w' ⟨rfl, rfl⟩; rw [E.out.1, E.out.2])
      | (at_make; refine make_u8 _ rfl _ _ rfl .i64 .i64 Z Z rfl rfl rfl (by omega) ?_; intro w1 h1 h2; have H1 : Hid (Ow _ w1 _ []) := h1; have H2 : Hid (Below _ _ w1) := h2; clear h1 h2)
      | (go_at_call 52; refine (appendNumber_any _ [] (xss.length : Int) 4 _ _ H1.out H2.out.size (by omega) (by omega) (by omega) (by simp)).mono ?_; rintro e w2 ⟨v2, rfl, h3, h4⟩; have H3 : Hid (Ow _ w2 v2 (encK xss 0)) := h3; have H4 : Hid (Below _ _ w2) := H2.out.trans (h4.below H2.out.size (fun b e => H1.out.blk b e)); clear h3 h4))
    go_loopw [6, 24] (fun b i wr => ∃ k : Nat, k ≤ xss.length ∧ i = .int .i64 (k : Int) ∧ Ow w'.heap.size wr b (encK xss k) ∧ Below w'.heap.size w' wr) (fun _ i _ => xss.length - (intOf i).toNat)
    case atStart => exact ⟨0, Nat.zero_le _, rfl, H3.out, H4.out⟩
    case round =>
      obtain ⟨k, hk, rfl, h5, h6⟩ := hrel
      have H5 : Hid (Ow w'.heap.size wr u6 (encK xss k)) := h5
      have H6 : Hid (Below w'.heap.size w' wr) := h6
      clear h5 h6 H3 H4 H1 H2
      by_cases hlt : k < xss.length
      · rcases HX.out with ⟨rfl, _⟩ | ⟨b, o, rfl, hlb, hm⟩
        · simp at hlt
        · obtain ⟨u, hc0, hu⟩ := hm k hlt
          have hl := HL.out k hlt
          have hc1 := (H6.out.cell (p := ⟨b, o + k, none⟩) hlb).trans hc0
          have SU : Hid (Sl w' u (mi xss k)) := hu
          obtain ⟨ad, cp, rfl, -, -⟩ := hu
          clear hm hc0
          have ZK : Hid ((encK xss k).length ≤ 1048576) := by show (encK xss k).length ≤ 1048576; rw [encK_length]; exact HZ.out k hk
          have HK : Hid (encK xss (k + 1) = (encK xss k ++ be 4 ((mi xss k).length : Int)) ++ mi xss k) := rfl
          have GL : Hid ((mi xss k).length ≤ 1048576) := by
            have h1 := HZ.out (k + 1) hlt
            simp only [sz] at h1
            show (mi xss k).length ≤ 1048576; omega
          obtain ⟨M, hM⟩ : ∃ M, mi xss k = M := ⟨_, rfl⟩
          obtain ⟨L, hLL⟩ : ∃ L, M.length = L := ⟨_, rfl⟩
          rw [hM] at SU HK GL hl hc1
          have HLL : Hid (M.length = L) := hLL
          rw [hLL] at SU HK GL hl hc1
          have gl : L ≤ 1048576 := GL.out
          clear hM hLL GL
          go_wp2_with (first
            | (go_at_call 52; refine (appendNumber_any w'.heap.size (encK xss k) (L : Int) 4 _ _ H5.out H6.out.size (by omega) (by omega) (by omega) (by have := ZK.out; omega)).mono ?_; rintro e w7 ⟨v7, rfl, h7, h8⟩; have H7 : Hid (Ow w'.heap.size w7 v7 (encK xss k ++ be 4 (L : Int))) := h7; have H8 : Hid (Below w'.heap.size wr w7) := h8.below H6.out.size (fun b e => H5.out.blk b e); have S7 : Hid (Sl w7 (.slice ad L cp) M) := SU.out.below (H6.out.trans H8.out) (Nat.le_refl _); clear h7 h8)
            | (at_builtin; refine app_u8 rfl (.tmp 33) (.tmp 34) rfl (Nat.le_trans H6.out.size H8.out.size) v7 _ rfl H7.out _ rfl M S7.out (by rw [List.length_append, be_length, HLL.out]; have := ZK.out; omega) ?_; intro v8 w8 h9 h10 h11 h12; have H9 : Hid (Ow w'.heap.size w8 v8 (encK xss (k + 1))) := (by rw [HK.out]; exact h9); have H10 : Hid (Below w'.heap.size w' w8) := H6.out.trans (H8.out.trans h11); clear h9 h10 h11 h12))
          exact ⟨⟨k + 1, hlt, by go_num, H9.out, H10.out⟩, by simp [intOf]; omega⟩
      · obtain rfl : k = xss.length := by omega
        go_wp2
        go_ret2
        exact ⟨_, by rw [F.out.1]; rfl, by rw [F.out.2]; exact H5.out, H6.out⟩
end Go.Proofs.Ytfnmdeekenjlgaa
