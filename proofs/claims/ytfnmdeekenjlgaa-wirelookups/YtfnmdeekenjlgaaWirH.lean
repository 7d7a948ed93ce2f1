/- The reference's Encode. -/
import Derived.Test.YtfnmdeekenjlgaaWirF
namespace Go.Proofs.Ytfnmdeekenjlgaa
open Go Go.RowKit
set_option linter.unusedSimpArgs false
set_option linter.unusedVariables false

/-- A row that was just built. -/
theorem Ow.lit (w : World) (xs : List Int) (cs : Array Value) (n : Nat) (hc : cs.toList = bv xs) (hn : n = xs.length) (hl : xs.length ≤ 1048576) : Ow w.heap.size (w.alloc (.cells cs 5)) (.slice (some ⟨w.heap.size, 0, none⟩) n n) xs := by
  subst hn
  refine ⟨by rw [bv_length]; omega, .inr ⟨w.heap.size, xs.length, cs, rfl, Nat.le_refl _, by show (w.heap.push _)[w.heap.size]? = _; simp, Nat.le_refl _, by unfold maxLen; omega, ?_, ?_⟩⟩
  · rw [← Array.length_toList, hc, bv_length]; omega
  · rw [hc, List.take_of_length_le (by rw [bv_length]; omega)]
set_option maxHeartbeats 400000 in
theorem four_any (n : Int) (w : World) (h0 : 0 ≤ n) (h1 : n ≤ 1048576) :
    Calls Try.prog 58 #[.int .i64 n] w fun e w' => ∃ v', e = .returned v' ∧ Ow w.heap.size w' v' (be 4 n) ∧ Below w.heap.size w w' := by
  go_enter Try.func58, Try.ntmps58
  go_wp2
  go_ret
  refine ⟨_, rfl, Ow.lit w (be 4 n) _ 4 ?_ rfl (by rw [be_length]; omega), (Below.refl _ w).alloc (Nat.le_refl _) _⟩
  have : be 4 n = [n / 16777216 % 256, n / 65536 % 256, n / 256 % 256, n % 256] := by
    simp [be, dg, List.range, List.range.loop]
  rw [this, show n / 16777216 % 256 = n / 16777216 by omega, show n / 65536 % 256 = n / 65536 by omega]; rfl
set_option maxHeartbeats 1000000 in
theorem rencode_any (xss : List (List Int)) (v : Value) (w : World) (hs : LL w v xss) (hL : Lens xss) (hn : xss.length ≤ 140737488355328) :
    Calls Try.prog 24 #[v] w fun e w' => ∃ v', e = .returned (.tuple #[v', .int .i64 (encE xss)]) ∧ Ow w.heap.size w' v' (encB xss) ∧ Below w.heap.size w w' := by
  have HL : Hid (Lens xss) := hL
  obtain ⟨ad, cap, rfl, hc, hx⟩ := hs
  have HX : Hid _ := hx
  clear hx hL hc
  go_enter Try.func24, Try.ntmps24
  go_wp2
  go_loop [4, 10] (fun s i => ∃ k : Nat, k ≤ xss.length ∧ sz xss k ≤ 1048576 ∧ i = .int .i64 k ∧ s = .int .i64 (sz xss k)) (fun _ i => xss.length - (intOf i).toNat)
  case atStart => exact ⟨0, Nat.zero_le _, by simp [sz], rfl, rfl⟩
  case round =>
    obtain ⟨k, hk, hz, rfl, rfl⟩ := hrel
    by_cases hlt : k < xss.length
    · rcases HX.out with ⟨rfl, _⟩ | ⟨b, o, rfl, hlb, hm⟩
      · simp at hlt
      · obtain ⟨u, hc0, hu⟩ := hm k hlt
        have hl := HL.out k hlt
        obtain ⟨ad, cp, rfl, -, -⟩ := hu
        clear hm
        have HS : Hid (sz xss (k + 1) = sz xss k + 4 + (mi xss k).length) := rfl
        obtain ⟨Z, hZ⟩ : ∃ Z, sz xss k = Z := ⟨_, rfl⟩
        obtain ⟨L, hLL⟩ : ∃ L, (mi xss k).length = L := ⟨_, rfl⟩
        rw [hZ, hLL] at HS
        rw [hLL] at hl hc0
        rw [hZ] at hz ⊢
        by_cases hb0 : 1048576 < L
        · have E : Hid (encE xss = 6 ∧ encB xss = []) := encE_big (big_of (k := k + 1) hlt (by rw [HS.out]; omega))
          have hb' : (1048576 : Int) < (L : Int) := by omega
          clear hZ hLL
          go_wp2
          go_ret2
          exact ⟨_, by rw [E.out.1]; rfl, by rw [E.out.2]; exact Ow.nil _ _, Below.refl _ _⟩
        have hb1 : ¬ (1048576 : Int) < (L : Int) := by omega
        by_cases hb : 1048576 < Z + 4 + L
        · have E : Hid (encE xss = 6 ∧ encB xss = []) := encE_big (big_of (k := k + 1) hlt (by rw [HS.out]; exact hb))
          have hb' : (1048576 : Int) < (Z : Int) + 4 + (L : Int) := by omega
          clear hZ hLL
          go_wp2
          go_ret2
          exact ⟨_, by rw [E.out.1]; rfl, by rw [E.out.2]; exact Ow.nil _ _, Below.refl _ _⟩
        · have hb' : ¬ (1048576 : Int) < (Z : Int) + 4 + (L : Int) := by omega
          clear hZ hLL
          go_wp2
          go_round
          case rel => exact ⟨k + 1, by omega, by rw [HS.out]; omega, by go_num, by rw [HS.out]; go_num⟩
          case measure => simp [intOf]; omega
    · obtain rfl : k = xss.length := by omega
      by_cases h0 : 65536 < xss.length
      · have E : Hid (encE xss = 6 ∧ encB xss = []) := encE_big (decide_eq_true (.inl h0))
        have h0' : (65536 : Int) < (xss.length : Int) := by omega
        go_wp2
        go_ret2
        exact ⟨_, by rw [E.out.1]; rfl, by rw [E.out.2]; exact Ow.nil _ _, Below.refl _ _⟩
      · have F : Hid (encE xss = 0 ∧ encB xss = encK xss xss.length) := encE_ok (decide_eq_false (by omega))
        have HZ : Hid (∀ k, k ≤ xss.length → sz xss k ≤ 1048576) := fun k hk => Nat.le_trans (sz_mono xss _ hk) hz
        have h0' : ¬ (65536 : Int) < (xss.length : Int) := by omega
        have hz' : ¬ (1048576 : Int) < (sz xss xss.length : Int) := by omega
        go_wp2_with (go_at_call 58; refine (four_any _ _ (by omega) (by omega)).mono ?_; rintro e w1 ⟨v1, rfl, h1, h2⟩; have H1 : Hid (Ow w.heap.size w1 v1 (encK xss 0)) := h1; have H2 : Hid (Below w.heap.size w w1) := h2; clear h1 h2)
        go_loopw [6, 42] (fun b i wr => ∃ k : Nat, k ≤ xss.length ∧ i = .int .i64 (k : Int) ∧ Ow w.heap.size wr b (encK xss k) ∧ Below w.heap.size w wr) (fun _ i _ => xss.length - (intOf i).toNat)
        case atStart => exact ⟨0, Nat.zero_le _, rfl, H1.out, H2.out⟩
        case round =>
          obtain ⟨k, hk, rfl, h5, h6⟩ := hrel
          have H5 : Hid (Ow w.heap.size wr _ (encK xss k)) := h5
          have H6 : Hid (Below w.heap.size w wr) := h6
          clear h5 h6 H1 H2
          by_cases hlt : k < xss.length
          · rcases HX.out with ⟨rfl, _⟩ | ⟨b, o, rfl, hlb, hm⟩
            · simp at hlt
            · obtain ⟨u, hc0, hu⟩ := hm k hlt
              have hc1 := (H6.out.cell (p := ⟨b, o + k, none⟩) hlb).trans hc0
              have SU : Hid (Sl w u (mi xss k)) := hu
              obtain ⟨ad, cp, rfl, -, -⟩ := hu
              have HC0 : Hid _ := hc0
              have HLB : Hid (b < w.heap.size) := hlb
              clear hm hc0
              have ZK : Hid ((encK xss k).length ≤ 1048576) := by show (encK xss k).length ≤ 1048576; rw [encK_length]; exact HZ.out k hk
              have HK : Hid (encK xss (k + 1) = (encK xss k ++ be 4 ((mi xss k).length : Int)) ++ mi xss k) := rfl
              have GL : Hid ((mi xss k).length ≤ 1048576) := by
                have h1 := HZ.out (k + 1) hlt
                simp only [sz] at h1
                show (mi xss k).length ≤ 1048576; omega
              obtain ⟨M, hM⟩ : ∃ M, mi xss k = M := ⟨_, rfl⟩
              obtain ⟨L, hLL⟩ : ∃ L, M.length = L := ⟨_, rfl⟩
              rw [hM] at SU HK GL hc1 HC0
              have HLL : Hid (M.length = L) := hLL
              rw [hLL] at SU HK GL hc1 HC0
              have gl : L ≤ 1048576 := GL.out
              clear hM hLL GL
              have hZR : Hid (w.heap.size ≤ wr.heap.size) := H6.out.size
              go_wp2_with (first
                | (go_at_call 58; refine (four_any _ _ (by omega) (by omega)).mono ?_; rintro e w7 ⟨v7, rfl, h7, h8⟩; have H7 : Hid (Sl w7 v7 (be 4 (L : Int))) := h7.sl; have H8 : Hid (Below w.heap.size w w7) := H6.out.trans (h8.mono hZR.out); have H9 : Hid (Ow w.heap.size w7 u6 (encK xss k)) := H5.out.below h8; clear h7 h8)
                | (at_builtin; refine app_u8 rfl (.tmp 45) (.tmp 51) rfl H8.out.size u6 _ rfl H9.out _ rfl (be 4 (L : Int)) H7.out (by rw [be_length]; have := ZK.out; omega) ?_; intro v8 w8 h9 h10 h11 h12; have H10 : Hid (Ow w.heap.size w8 v8 (encK xss k ++ be 4 (L : Int))) := h9; have H11 : Hid (Below w.heap.size w w8) := H8.out.trans h11; have hc8 := (H11.out.cell (p := ⟨b, o + k, none⟩) HLB.out).trans HC0.out; clear h9 h10 h11 h12)
                | (at_builtin; refine app_u8 rfl (.tmp 53) (.tmp 57) rfl H11.out.size v8 _ rfl H10.out _ rfl M (SU.out.below H11.out (Nat.le_refl _)) (by rw [List.length_append, be_length, HLL.out]; have := ZK.out; omega) ?_; intro v9 w9 h9 h10 h11 h12; have H12 : Hid (Ow w.heap.size w9 v9 (encK xss (k + 1))) := (by rw [HK.out]; exact h9); have H13 : Hid (Below w.heap.size w w9) := H11.out.trans h11; clear h9 h10 h11 h12))
              exact ⟨⟨k + 1, hlt, by go_num, H12.out, H13.out⟩, by simp [intOf]; omega⟩
          · obtain rfl : k = xss.length := by omega
            go_wp2
            go_ret2
            exact ⟨_, by rw [F.out.1]; rfl, by rw [F.out.2]; exact H5.out, H6.out⟩
end Go.Proofs.Ytfnmdeekenjlgaa
/- Lists of byte strings that are made: rows of slices; copyList. -/
namespace Go.Proofs.Ytfnmdeekenjlgaa
open Go Go.RowKit
set_option linter.unusedSimpArgs false
set_option linter.unusedVariables false

theorem info_sl : ∃ i, Try.prog.info? 34 = some i ∧ i.zero = some (.slice none 0 0) ∧ i.size = 1 ∧ i.bytes = 24 := by
  have h1 : (Try.prog.info? 34).map (·.size) = some 1 := by kernel_rfl
  have h2 : (Try.prog.info? 34).map (·.bytes) = some 24 := by kernel_rfl
  have h3 : (Try.prog.info? 34).map (·.zero) = some (some (.slice none 0 0)) := by kernel_rfl
  cases hq : Try.prog.info? 34 with
  | none => rw [hq] at h1; cases h1
  | some i =>
    rw [hq] at h1 h2 h3
    exact ⟨i, rfl, Option.some.inj h3, Option.some.inj h1, Option.some.inj h2⟩
/-- A row of slices of the call's own, each of which holds its bytes, in another block. -/
structure OL (B0 : Nat) (w : World) (v : Value) (us : List Value) (xss : List (List Int)) : Prop where
  len : us.length = xss.length
  row : w.ownsRow B0 34 1 v us.length us
  mem : ∀ (i : Nat) (u : Value), us[i]? = some u → Ow B0 w u (mi xss i)
  apart : ∀ (i : Nat) (u : Value), us[i]? = some u → ∀ b, u.ownBlock = some b → b < w.heap.size ∧ v.ownBlock ≠ some b
  dist : ∀ (i j : Nat) (u u' : Value), i < j → us[i]? = some u → us[j]? = some u' → ∀ b, u'.ownBlock = some b → u.ownBlock ≠ some b
theorem OL.nil (B0 : Nat) (w : World) : OL B0 w (.slice none 0 0) [] [] := ⟨rfl, ⟨rfl, .inl ⟨rfl, rfl⟩⟩, fun i u h => by simp at h, fun i u h => by simp at h, fun i j u u' _ h => by simp at h⟩
theorem OL.blk {B0 : Nat} {w : World} {v : Value} {us : List Value} {xss : List (List Int)} (h : OL B0 w v us xss) : ∀ b, v.ownBlock = some b → B0 ≤ b ∧ b < w.heap.size := by
  intro b hb
  rcases h.row.2 with ⟨rfl, _⟩ | ⟨g, cap, cur, rfl, hg, hh, _⟩
  · simp [Value.ownBlock] at hb
  · simp [Value.ownBlock] at hb; subst hb; exact ⟨hg, (Array.getElem?_eq_some_iff.1 hh).1⟩
theorem OL.below {B0 : Nat} {w w' : World} {v : Value} {us : List Value} {xss : List (List Int)} (h : OL B0 w v us xss) (hb : Below w.heap.size w w') : OL B0 w' v us xss := by
  refine ⟨h.len, ?_, fun i u hu => (h.mem i u hu).below hb, fun i u hu b e => ⟨Nat.lt_of_lt_of_le (h.apart i u hu b e).1 hb.size, (h.apart i u hu b e).2⟩, h.dist⟩
  refine ⟨h.row.1, ?_⟩
  rcases h.row.2 with h1 | ⟨g, cap, cur, rfl, hg, hh, rest⟩
  · exact .inl h1
  · exact .inr ⟨g, cap, cur, rfl, hg, by rw [hb.block g (Array.getElem?_eq_some_iff.1 hh).1]; exact hh, rest⟩
/-- As a list of byte strings. -/
theorem OL.ll {B0 : Nat} {w : World} {v : Value} {us : List Value} {xss : List (List Int)} (h : OL B0 w v us xss) : LL w v xss := by
  rcases h.row.2 with ⟨rfl, h0⟩ | ⟨g, cap, cur, hv, hb, hg, hc, _, hs, ht⟩
  · have hx : xss = [] := List.length_eq_zero_iff.1 (by rw [← h.len]; exact h0)
    subst hx
    exact ⟨none, 0, rfl, Nat.le_refl _, .inl ⟨rfl, fun _ => rfl⟩⟩
  · rw [h.len] at hv hc ht
    refine ⟨_, cap, hv, hc, .inr ⟨g, 0, rfl, (Array.getElem?_eq_some_iff.1 hg).1, fun i hi => ?_⟩⟩
    have hlu : i < us.length := by rw [h.len]; exact hi
    have hu : us[i]? = some us[i] := List.getElem?_eq_getElem hlu
    refine ⟨us[i], ?_, (h.mem i _ hu).sl⟩
    have e : (cur.toList.take (xss.length * 1))[i]? = some us[i] := by rw [ht]; exact hu
    rw [List.getElem?_take, if_pos (by omega), Array.getElem?_toList] at e
    simp only [World.cell?, hg, Nat.zero_add, Option.isSome_none, Bool.false_eq_true, if_false, e]
theorem Sl.keep {w w' : World} {u : Value} {xs : List Int} (h : Sl w u xs) (hs : w.heap.size ≤ w'.heap.size) (hk : ∀ b, u.ownBlock = some b → w'.heap[b]? = w.heap[b]?) : Sl w' u xs := by
  obtain ⟨ad, cap, rfl, hc, h⟩ := h
  refine ⟨ad, cap, rfl, hc, ?_⟩
  rcases h with h | ⟨b, o, rfl, hlt, hm⟩
  · exact .inl h
  · refine .inr ⟨b, o, rfl, Nat.lt_of_lt_of_le hlt hs, fun i hi => ?_⟩
    rw [World.cell?_of_block (w := w) (w' := w') (a := ⟨b, o + i, none⟩) (hk b rfl)]; exact hm i hi
theorem mi_snoc_lo (xss : List (List Int)) (M : List Int) {i : Nat} (h : i < xss.length) : mi (xss ++ [M]) i = mi xss i := by
  unfold mi; rw [List.getD_eq_getElem?_getD, List.getD_eq_getElem?_getD, List.getElem?_append_left h]
theorem mi_snoc_hi (xss : List (List Int)) (M : List Int) : mi (xss ++ [M]) xss.length = M := by
  unfold mi; simp
/-- append of one more slice. -/
theorem app_sl {ops : Array Oper} {rest : List Oper} {o : Oper} {a : Act} {Q : Exit → Act → World → Prop} {B0 : Nat} {wr : World} (hgd : o.guard = none) (s x : Operand) (ho : o.op = .call { callee := .builtin .append, args := #[s, x], argTypes := #[53, 53] })
    (hB : B0 ≤ wr.heap.size) (v : Value) (us : List Value) (xss : List (List Int)) (hs : a.eval s = v) (h0 : OL B0 wr v us xss) (u : Value) (M : List Int) (ad : Addr) (c : Nat) (hx : a.eval x = .slice (some ad) 1 c) (hc : wr.cell? ad = some u) (hu : Ow B0 wr u M)
    (hua : ∀ b, u.ownBlock = some b → b < wr.heap.size ∧ v.ownBlock ≠ some b) (hnew : ∀ b, u.ownBlock = some b → ∀ (i : Nat) (u' : Value), us[i]? = some u' → u'.ownBlock ≠ some b) (hk : (us.length + 1) * 24 ≤ 140737488355328)
    (h : ∀ v' w', OL B0 w' v' (us ++ [u]) (xss ++ [M]) → wr.grownBy w' v.ownBlock → Below B0 wr w' → wpList Try.prog ops Q rest (a.put o.dst v') w') : wpList Try.prog ops Q (o :: rest) a wr := by
  obtain ⟨i, hi, hz, hsz, hby⟩ := info_sl
  have hu1 : u.oneCell' = true := by obtain ⟨ad, cap, rfl, _⟩ := hu.sl; rfl
  refine wpList_append_own_at wr hgd s x 53 ho B0 34 i (.slice none 0 0) 1 24 Try.underlying53 hi hz hsz hby rfl (by decide) v us.length us hs h0.row ad 1 c [u] hx rfl ?_ ?_ (by unfold maxLen; omega) (by omega) hB ?_
  · intro j w hj
    cases j with
    | zero => simp at hj; subst hj; rw [show ad.add 0 = ad by unfold Addr.add; split <;> simp_all]; exact hc
    | succ j => simp at hj
  · intro w hw
    simp at hw; subst hw; exact hu1
  · intro v' w' h1 h2 h3 h4
    have hgb : ∀ b, b < wr.heap.size → v.ownBlock ≠ some b → w'.heap[b]? = wr.heap[b]? := fun b hb hne => h2.block b hb (Ne.symm hne)
    have hap : ∀ b, b < wr.heap.size ∧ v.ownBlock ≠ some b → b < w'.heap.size ∧ v'.ownBlock ≠ some b := fun b ⟨hb, hne⟩ => ⟨Nat.lt_of_lt_of_le hb h2.size, by
      rcases h4 with e | e
      · rw [e]; exact hne
      · rw [e]; intro e'; cases e'; omega⟩
    refine h v' w' ⟨by simp [h0.len], by rw [List.length_append]; exact h1, fun j y hj => ?_, fun j y hj b hb => ?_, fun j k y z hjk hj hz b hb => ?_⟩ h2 ((Below.refl B0 wr).grown h2 hB (fun b hb' => (h0.blk b hb').1))
    · rcases Nat.lt_or_ge j us.length with hl | hl
      · rw [List.getElem?_append_left hl] at hj
        rw [mi_snoc_lo _ _ (by rw [← h0.len]; exact hl)]
        exact (h0.mem j y hj).keep (fun b hb => hgb b (h0.apart j y hj b hb).1 (h0.apart j y hj b hb).2)
      · rw [List.getElem?_append_right hl] at hj
        obtain ⟨hj0, hj1⟩ := List.getElem?_eq_some_iff.1 hj
        have ej : j = us.length := by simp at hj0; omega
        subst ej
        simp at hj1; subst hj1
        rw [h0.len, mi_snoc_hi]
        exact hu.keep (fun b hb => hgb b (hua b hb).1 (hua b hb).2)
    · rcases Nat.lt_or_ge j us.length with hl | hl
      · rw [List.getElem?_append_left hl] at hj
        exact hap b (h0.apart j y hj b hb)
      · rw [List.getElem?_append_right hl] at hj
        obtain ⟨hj0, hj1⟩ := List.getElem?_eq_some_iff.1 hj
        have ej : j - us.length = 0 := by simp at hj0; omega
        simp [ej] at hj1; subst hj1
        exact hap b (hua b hb)
    · have hlen := (List.getElem?_eq_some_iff.1 hz).1
      rw [List.length_append] at hlen
      simp at hlen
      rw [List.getElem?_append_left (by omega)] at hj
      rcases Nat.lt_or_ge k us.length with hl | hl
      · rw [List.getElem?_append_left hl] at hz
        exact h0.dist j k y z hjk hj hz b hb
      · rw [List.getElem?_append_right hl] at hz
        obtain ⟨hj0, hj1⟩ := List.getElem?_eq_some_iff.1 hz
        have ej : k - us.length = 0 := by simp at hj0; omega
        simp [ej] at hj1; subst hj1
        exact hnew b hb j y hj
theorem take_snoc (xss : List (List Int)) (k : Nat) (h : k < xss.length) : xss.take (k + 1) = xss.take k ++ [mi xss k] := by
  rw [List.take_succ_eq_append_getElem h, mi_get h]
theorem OL.alloc {B0 : Nat} {w : World} {v : Value} {us : List Value} {xss : List (List Int)} (h : OL B0 w v us xss) (o : Obj) : OL B0 (w.alloc o) v us xss := h.below ((Below.refl _ w).alloc (Nat.le_refl _) o)
end Go.Proofs.Ytfnmdeekenjlgaa
