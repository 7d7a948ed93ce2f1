/- What stands behind the word: fields. -/
import Derived.Test.YtfnmdeekenjlgaaWrtC
namespace Go.Proofs.Ytfnmdeekenjlgaa
open Go Go.RowKit
set_option linter.unusedSimpArgs false
set_option linter.unusedVariables false

/-- The word is there, and so many behind it. -/
def hasF (xs : List Int) (S : ByteArray) (c : Nat) : Bool := decide (decE xs = 0) && (decide ((decL xs).length = 1 + c) && ((strOfNums (mi (decL xs) 0)).toList == S.toList))
theorem LL.tail {w : World} {v : Value} {xss : List (List Int)} {b o l cap : Nat} (h : LL w (.slice (some ⟨b, o, none⟩) l cap) xss) (hl : 2 ≤ l) : LL w (.slice (some ⟨b, o + 1, none⟩) (l - 1) (cap - 1)) (xss.drop 1) := by
  obtain ⟨ad, cap', hv, hc, h⟩ := h
  simp only [Value.slice.injEq] at hv
  obtain ⟨rfl, rfl, rfl⟩ := hv
  refine ⟨_, cap - 1, by rw [List.length_drop], by rw [List.length_drop]; omega, ?_⟩
  rcases h with ⟨rfl, _⟩ | ⟨b', o', he, hlt, hm⟩
  · simp at hl
  · simp only [Option.some.injEq, Addr.mk.injEq, and_true] at he
    obtain ⟨rfl, rfl⟩ := he
    refine .inr ⟨b, o + 1, rfl, hlt, fun i hi => ?_⟩
    rw [List.length_drop] at hi
    obtain ⟨u, h1, h2⟩ := hm (1 + i) (by omega)
    refine ⟨u, by rw [Nat.add_assoc]; exact h1, ?_⟩
    have : mi (xss.drop 1) i = mi xss (1 + i) := by unfold mi; simp only [List.getD_eq_getElem?_getD, List.getElem?_drop]
    rw [this]; exact h2
theorem LL.at' {w : World} {v : Value} {xss : List (List Int)} (h : LL w v xss) (h0 : 0 < xss.length) : ∃ b o cap, v = .slice (some ⟨b, o, none⟩) xss.length cap ∧ xss.length ≤ cap ∧ b < w.heap.size ∧ ∀ i, i < xss.length → ∃ u, w.cell? ⟨b, o + i, none⟩ = some u ∧ Sl w u (mi xss i) := by
  obtain ⟨ad, cap, rfl, hc, h⟩ := h
  rcases h with ⟨rfl, _⟩ | ⟨b, o, rfl, hlt, hm⟩
  · simp at h0
  · exact ⟨b, o, cap, rfl, hc, hlt, hm⟩
/-- A list that lies, with all that it holds, in blocks from B on. -/
structure LF (B : Nat) (w : World) (v : Value) (xss : List (List Int)) : Prop where
  ll : LL w v xss
  blk : ∀ b, v.ownBlock = some b → B ≤ b
  mem : ∀ b o l cap i u b', v = .slice (some ⟨b, o, none⟩) l cap → i < xss.length → w.cell? ⟨b, o + i, none⟩ = some u → u.ownBlock = some b' → B ≤ b'
theorem OL.lf {B0 : Nat} {w : World} {v : Value} {us : List Value} {xss : List (List Int)} (h : OL B0 w v us xss) : LF B0 w v xss := by
  refine ⟨h.ll, fun b hb => (h.blk b hb).1, fun b o l cap i u b' hv hi hc hu => ?_⟩
  rcases h.row.2 with ⟨rfl, h0⟩ | ⟨g, cap', cur, hv', hb, hg, hc', _, hs, ht⟩
  · cases hv
  · rw [hv'] at hv
    cases hv
    have hlu : i < us.length := by rw [h.len]; exact hi
    have hu' : us[i]? = some us[i] := List.getElem?_eq_getElem hlu
    have e : (cur.toList.take (us.length * 1))[i]? = some us[i] := by rw [ht]; exact hu'
    rw [List.getElem?_take, if_pos (by omega), Array.getElem?_toList] at e
    have e2 : w.cell? ⟨b, 0 + i, none⟩ = some us[i] := by simp only [World.cell?, hg, Nat.zero_add, Option.isSome_none, Bool.false_eq_true, if_false, e]
    rw [hc] at e2
    cases e2
    exact (h.mem i _ hu').blk b' hu
theorem LF.tail {B : Nat} {w : World} {xss : List (List Int)} {b o l cap : Nat} (h : LF B w (.slice (some ⟨b, o, none⟩) l cap) xss) (hl : 2 ≤ l) (hx : xss.length = l) : LF B w (.slice (some ⟨b, o + 1, none⟩) (l - 1) (cap - 1)) (xss.drop 1) :=
  ⟨LL.tail (v := .bool true) h.ll hl, fun b' hb => h.blk b' hb, fun b1 o1 l1 cap1 i u b' hv hi hc hu => by
    cases hv
    rw [List.length_drop] at hi
    rw [Nat.add_assoc] at hc
    exact h.mem b o l cap (1 + i) u b' rfl (by omega) hc hu⟩
set_option maxHeartbeats 1000000 in
theorem fields_any (xs : List Int) (S : ByteArray) (c : Nat) (v : Value) (w : World) (hb : Byt xs) (hs : Sl w v xs) (hl : xs.length ≤ 140737488355328) (hc1 : 1 ≤ c) (hc2 : c ≤ 100) :
    Calls Try.prog 28 #[v, .string S, .int .i64 (c : Int)] w fun e w' => (∃ v', e = .returned (.tuple #[v', .bool (hasF xs S c)]) ∧ (hasF xs S c = true → LF w.heap.size w' v' ((decL xs).drop 1)) ∧ (hasF xs S c = false → v' = .slice none 0 0)) ∧ Below w.heap.size w w' := by
  have HS : Hid (Sl w v xs) := hs
  have HB : Hid (Byt xs) := hb
  clear hb hs
  obtain ⟨E, hE⟩ : ∃ E, decE xs = E := ⟨_, rfl⟩
  have HE : Hid (decE xs = E) := hE
  clear hE
  go_enter Try.func28, Try.ntmps28
  go_wp2_with fail
  refine (decode_any xs v w HB.out HS.out hl).mono ?_
  rintro e w1 ⟨v1, us, rfl, h1, h2⟩
  rw [HE.out]
  have H1 : Hid (LF w.heap.size w1 v1 (decL xs)) := h1.lf
  have H2 : Hid (Below w.heap.size w w1) := h2
  clear h1 h2
  by_cases hE0 : E = 0
  · subst hE0
    by_cases hn : (decL xs).length = 1 + c
    · obtain ⟨b, o, cap, hv, hcap, hlt, hm⟩ := H1.out.ll.at' (by omega)
      subst hv
      obtain ⟨u, hc0, hu⟩ := hm 0 (by omega)
      have s1 := hu.str
      rw [Nat.add_zero] at hc0
      rw [hn] at hcap
      rw [hn] at H1 ⊢
      have HT : Hid (LF w.heap.size w1 (.slice (some ⟨b, o + 1, none⟩) (1 + c - 1) (cap - 1)) ((decL xs).drop 1)) := H1.out.tail (by omega) hn
      clear hm hu
      have HN : Hid ((decL xs).length = 1 + c) := hn
      clear hn
      obtain ⟨T, hT⟩ : ∃ T, strOfNums (mi (decL xs) 0) = T := ⟨_, rfl⟩
      have HTT : Hid (strOfNums (mi (decL xs) 0) = T) := hT
      rw [hT] at s1
      clear hT
      have gc : ((1 + c : Nat) : Int) = 1 + (c : Int) := by omega
      have HT2 : Hid (LF w.heap.size w1 (.slice (some ⟨b, o + 1, none⟩) c (cap - 1)) ((decL xs).drop 1)) := by
        have := HT.out
        rw [show 1 + c - 1 = c from by omega] at this
        exact this
      clear HT
      have hF : Hid (hasF xs S c = (T.toList == S.toList)) := by
        show hasF xs S c = _
        unfold hasF; rw [HE.out, HN.out, HTT.out]; simp
      cases hTS : (T.toList == S.toList) with
      | true =>
        go_wp2
        go_ret2
        rw [hF.out, hTS]
        exact ⟨⟨_, rfl, fun _ => HT2.out, fun h => absurd h (by decide)⟩, H2.out⟩
      | false =>
        go_wp2
        go_ret2
        rw [hF.out, hTS]
        exact ⟨⟨_, rfl, fun h => absurd h (by decide), fun _ => rfl⟩, H2.out⟩
    · have hF : Hid (hasF xs S c = false) := by
        show hasF xs S c = false
        unfold hasF; rw [decide_eq_false hn]; simp
      obtain ⟨ad, cap, rfl, hcap, H1'⟩ := H1.out.ll
      clear H1'
      have gn : ¬ ((decL xs).length : Int) = 1 + (c : Int) := by omega
      generalize (decL xs).length = L at *
      go_wp2
      all_goals go_ret2
      all_goals rw [hF.out]
      all_goals exact ⟨⟨_, rfl, fun h => absurd h (by decide), fun _ => rfl⟩, H2.out⟩
  · have hF : Hid (hasF xs S c = false) := by
      show hasF xs S c = false
      unfold hasF; rw [HE.out, decide_eq_false hE0]; simp
    go_wp2
    all_goals go_ret2
    all_goals rw [hF.out]
    all_goals exact ⟨⟨_, rfl, fun h => absurd h (by decide), fun _ => rfl⟩, H2.out⟩
end Go.Proofs.Ytfnmdeekenjlgaa
