/- Lists of byte strings that are made: rows of slices; copyList. -/
import Derived.Test.YtfnmdeekenjlgaaWirH
namespace Go.Proofs.Ytfnmdeekenjlgaa
open Go Go.RowKit
set_option linter.unusedSimpArgs false
set_option linter.unusedVariables false

theorem info_sl : ∃ i, Try.prog.info? 34 = some i ∧ i.zero = some (.slice none 0 0) ∧ i.size = 1 ∧ i.bytes = 24 := by
  have h1 : (Try.prog.info? 34).map (·.size) = some 1 := by kernel_rfl
  have h2 : (Try.prog.info? 34).map (·.bytes) = some 24 := by kernel_rfl
  have h3 : (Try.prog.info? 34).map (·.zero) = some (some (.slice none 0 0)) := by kernel_rfl
  cases hq : Try.prog.info? 34 with
  | none => rw [hq] at h1; cases h1
  | some i =>
    rw [hq] at h1 h2 h3
    exact ⟨i, rfl, Option.some.inj h3, Option.some.inj h1, Option.some.inj h2⟩
/-- A row of slices of the call's own, each of which holds its bytes, in another block. -/
structure OL (B0 : Nat) (w : World) (v : Value) (us : List Value) (xss : List (List Int)) : Prop where
  len : us.length = xss.length
  row : w.ownsRow B0 34 1 v us.length us
  mem : ∀ (i : Nat) (u : Value), us[i]? = some u → Ow B0 w u (mi xss i)
  apart : ∀ (i : Nat) (u : Value), us[i]? = some u → ∀ b, u.ownBlock = some b → b < w.heap.size ∧ v.ownBlock ≠ some b
  dist : ∀ (i j : Nat) (u u' : Value), i < j → us[i]? = some u → us[j]? = some u' → ∀ b, u'.ownBlock = some b → u.ownBlock ≠ some b
theorem OL.nil (B0 : Nat) (w : World) : OL B0 w (.slice none 0 0) [] [] := ⟨rfl, ⟨rfl, .inl ⟨rfl, rfl⟩⟩, fun i u h => by simp at h, fun i u h => by simp at h, fun i j u u' _ h => by simp at h⟩
theorem OL.blk {B0 : Nat} {w : World} {v : Value} {us : List Value} {xss : List (List Int)} (h : OL B0 w v us xss) : ∀ b, v.ownBlock = some b → B0 ≤ b ∧ b < w.heap.size := by
  intro b hb
  rcases h.row.2 with ⟨rfl, _⟩ | ⟨g, cap, cur, rfl, hg, hh, _⟩
  · simp [Value.ownBlock] at hb
  · simp [Value.ownBlock] at hb; subst hb; exact ⟨hg, (Array.getElem?_eq_some_iff.1 hh).1⟩
theorem OL.below {B0 : Nat} {w w' : World} {v : Value} {us : List Value} {xss : List (List Int)} (h : OL B0 w v us xss) (hb : Below w.heap.size w w') : OL B0 w' v us xss := by
  refine ⟨h.len, ?_, fun i u hu => (h.mem i u hu).below hb, fun i u hu b e => ⟨Nat.lt_of_lt_of_le (h.apart i u hu b e).1 hb.size, (h.apart i u hu b e).2⟩, h.dist⟩
  refine ⟨h.row.1, ?_⟩
  rcases h.row.2 with h1 | ⟨g, cap, cur, rfl, hg, hh, rest⟩
  · exact .inl h1
  · exact .inr ⟨g, cap, cur, rfl, hg, by rw [hb.block g (Array.getElem?_eq_some_iff.1 hh).1]; exact hh, rest⟩
/-- As a list of byte strings. -/
theorem OL.ll {B0 : Nat} {w : World} {v : Value} {us : List Value} {xss : List (List Int)} (h : OL B0 w v us xss) : LL w v xss := by
  rcases h.row.2 with ⟨rfl, h0⟩ | ⟨g, cap, cur, hv, hb, hg, hc, _, hs, ht⟩
  · have hx : xss = [] := List.length_eq_zero_iff.1 (by rw [← h.len]; exact h0)
    subst hx
    exact ⟨none, 0, rfl, Nat.le_refl _, .inl ⟨rfl, fun _ => rfl⟩⟩
  · rw [h.len] at hv hc ht
    refine ⟨_, cap, hv, hc, .inr ⟨g, 0, rfl, (Array.getElem?_eq_some_iff.1 hg).1, fun i hi => ?_⟩⟩
    have hlu : i < us.length := by rw [h.len]; exact hi
    have hu : us[i]? = some us[i] := List.getElem?_eq_getElem hlu
    refine ⟨us[i], ?_, (h.mem i _ hu).sl⟩
    have e : (cur.toList.take (xss.length * 1))[i]? = some us[i] := by rw [ht]; exact hu
    rw [List.getElem?_take, if_pos (by omega), Array.getElem?_toList] at e
    simp only [World.cell?, hg, Nat.zero_add, Option.isSome_none, Bool.false_eq_true, if_false, e]
theorem Sl.keep {w w' : World} {u : Value} {xs : List Int} (h : Sl w u xs) (hs : w.heap.size ≤ w'.heap.size) (hk : ∀ b, u.ownBlock = some b → w'.heap[b]? = w.heap[b]?) : Sl w' u xs := by
  obtain ⟨ad, cap, rfl, hc, h⟩ := h
  refine ⟨ad, cap, rfl, hc, ?_⟩
  rcases h with h | ⟨b, o, rfl, hlt, hm⟩
  · exact .inl h
  · refine .inr ⟨b, o, rfl, Nat.lt_of_lt_of_le hlt hs, fun i hi => ?_⟩
    rw [World.cell?_of_block (w := w) (w' := w') (a := ⟨b, o + i, none⟩) (hk b rfl)]; exact hm i hi
theorem mi_snoc_lo (xss : List (List Int)) (M : List Int) {i : Nat} (h : i < xss.length) : mi (xss ++ [M]) i = mi xss i := by
  unfold mi; rw [List.getD_eq_getElem?_getD, List.getD_eq_getElem?_getD, List.getElem?_append_left h]
theorem mi_snoc_hi (xss : List (List Int)) (M : List Int) : mi (xss ++ [M]) xss.length = M := by
  unfold mi; simp
/-- append of one more slice. -/
theorem app_sl {ops : Array Oper} {rest : List Oper} {o : Oper} {a : Act} {Q : Exit → Act → World → Prop} {B0 : Nat} {wr : World} (hgd : o.guard = none) (s x : Operand) (ho : o.op = .call { callee := .builtin .append, args := #[s, x], argTypes := #[53, 53] })
    (hB : B0 ≤ wr.heap.size) (v : Value) (us : List Value) (xss : List (List Int)) (hs : a.eval s = v) (h0 : OL B0 wr v us xss) (u : Value) (M : List Int) (ad : Addr) (c : Nat) (hx : a.eval x = .slice (some ad) 1 c) (hc : wr.cell? ad = some u) (hu : Ow B0 wr u M)
    (hua : ∀ b, u.ownBlock = some b → b < wr.heap.size ∧ v.ownBlock ≠ some b) (hnew : ∀ b, u.ownBlock = some b → ∀ (i : Nat) (u' : Value), us[i]? = some u' → u'.ownBlock ≠ some b) (hk : (us.length + 1) * 24 ≤ 140737488355328)
    (h : ∀ v' w', OL B0 w' v' (us ++ [u]) (xss ++ [M]) → wr.grownBy w' v.ownBlock → Below B0 wr w' → wpList Try.prog ops Q rest (a.put o.dst v') w') : wpList Try.prog ops Q (o :: rest) a wr := by
  obtain ⟨i, hi, hz, hsz, hby⟩ := info_sl
  have hu1 : u.oneCell' = true := by obtain ⟨ad, cap, rfl, _⟩ := hu.sl; rfl
  refine wpList_append_own_at wr hgd s x 53 ho B0 34 i (.slice none 0 0) 1 24 Try.underlying53 hi hz hsz hby rfl (by decide) v us.length us hs h0.row ad 1 c [u] hx rfl ?_ ?_ (by unfold maxLen; omega) (by omega) hB ?_
  · intro j w hj
    cases j with
    | zero => simp at hj; subst hj; rw [show ad.add 0 = ad by unfold Addr.add; split <;> simp_all]; exact hc
    | succ j => simp at hj
  · intro w hw
    simp at hw; subst hw; exact hu1
  · intro v' w' h1 h2 h3 h4
    have hgb : ∀ b, b < wr.heap.size → v.ownBlock ≠ some b → w'.heap[b]? = wr.heap[b]? := fun b hb hne => h2.block b hb (Ne.symm hne)
    have hap : ∀ b, b < wr.heap.size ∧ v.ownBlock ≠ some b → b < w'.heap.size ∧ v'.ownBlock ≠ some b := fun b ⟨hb, hne⟩ => ⟨Nat.lt_of_lt_of_le hb h2.size, by
      rcases h4 with e | e
      · rw [e]; exact hne
      · rw [e]; intro e'; cases e'; omega⟩
    refine h v' w' ⟨by simp [h0.len], by rw [List.length_append]; exact h1, fun j y hj => ?_, fun j y hj b hb => ?_, fun j k y z hjk hj hz b hb => ?_⟩ h2 ((Below.refl B0 wr).grown h2 hB (fun b hb' => (h0.blk b hb').1))
    · rcases Nat.lt_or_ge j us.length with hl | hl
      · rw [List.getElem?_append_left hl] at hj
        rw [mi_snoc_lo _ _ (by rw [← h0.len]; exact hl)]
        exact (h0.mem j y hj).keep (fun b hb => hgb b (h0.apart j y hj b hb).1 (h0.apart j y hj b hb).2)
      · rw [List.getElem?_append_right hl] at hj
        obtain ⟨hj0, hj1⟩ := List.getElem?_eq_some_iff.1 hj
        have ej : j = us.length := by simp at hj0; omega
        subst ej
        simp at hj1; subst hj1
        rw [h0.len, mi_snoc_hi]
        exact hu.keep (fun b hb => hgb b (hua b hb).1 (hua b hb).2)
    · rcases Nat.lt_or_ge j us.length with hl | hl
      · rw [List.getElem?_append_left hl] at hj
        exact hap b (h0.apart j y hj b hb)
      · rw [List.getElem?_append_right hl] at hj
        obtain ⟨hj0, hj1⟩ := List.getElem?_eq_some_iff.1 hj
        have ej : j - us.length = 0 := by simp at hj0; omega
        simp [ej] at hj1; subst hj1
        exact hap b (hua b hb)
    · have hlen := (List.getElem?_eq_some_iff.1 hz).1
      rw [List.length_append] at hlen
      simp at hlen
      rw [List.getElem?_append_left (by omega)] at hj
      rcases Nat.lt_or_ge k us.length with hl | hl
      · rw [List.getElem?_append_left hl] at hz
        exact h0.dist j k y z hjk hj hz b hb
      · rw [List.getElem?_append_right hl] at hz
        obtain ⟨hj0, hj1⟩ := List.getElem?_eq_some_iff.1 hz
        have ej : k - us.length = 0 := by simp at hj0; omega
        simp [ej] at hj1; subst hj1
        exact hnew b hb j y hj
theorem take_snoc (xss : List (List Int)) (k : Nat) (h : k < xss.length) : xss.take (k + 1) = xss.take k ++ [mi xss k] := by
  rw [List.take_succ_eq_append_getElem h, mi_get h]
theorem OL.alloc {B0 : Nat} {w : World} {v : Value} {us : List Value} {xss : List (List Int)} (h : OL B0 w v us xss) (o : Obj) : OL B0 (w.alloc o) v us xss := h.below ((Below.refl _ w).alloc (Nat.le_refl _) o)
end Go.Proofs.Ytfnmdeekenjlgaa
