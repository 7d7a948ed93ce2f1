/- Rows of slices: append of them, and what the laws keep of records; room. -/
import Derived.Test.YthfpakjfdncphaaDoorWalPE
namespace Go.Proofs.YthfpakjfdncphaaDoor
open Go Go.RowKit
set_option linter.unusedSimpArgs false
set_option linter.unusedVariables false
set_option maxRecDepth 100000

/-- A slice whose cells are these. -/
def RS (w : World) (v : Value) (us : List Value) : Prop :=
  ∃ ad cap, v = .slice ad us.length cap ∧ us.length ≤ cap ∧ ((us = [] ∧ (ad = none → cap = 0)) ∨ ∃ b o, ad = some ⟨b, o, none⟩ ∧ b < w.heap.size ∧ ∀ i u, us[i]? = some u → w.cell? ⟨b, o + i, none⟩ = some u)
theorem RS.nil (w : World) : RS w (.slice none 0 0) [] := ⟨none, 0, rfl, Nat.le_refl _, .inl ⟨rfl, fun _ => rfl⟩⟩
theorem RS.keep {w w' : World} {v : Value} {us : List Value} (h : RS w v us) (hs : w.heap.size ≤ w'.heap.size) (hk : ∀ b, v.ownBlock = some b → b < w.heap.size → w'.heap[b]? = w.heap[b]?) : RS w' v us := by
  obtain ⟨ad, cap, rfl, hc, h⟩ := h
  refine ⟨ad, cap, rfl, hc, h.imp id ?_⟩
  rintro ⟨b, o, rfl, hb, hm⟩
  refine ⟨b, o, rfl, Nat.lt_of_lt_of_le hb hs, fun i u hu => ?_⟩
  rw [World.cell?_of_block (w := w) (a := ⟨b, o + i, none⟩) (hk b rfl hb)]; exact hm i u hu
/-- A row of the call's own, of slices. -/
def OV (B0 : Nat) (w : World) (v : Value) (us : List Value) : Prop := w.ownsRow B0 32 1 v us.length us
theorem OV.rs {B0 : Nat} {w : World} {v : Value} {us : List Value} (h : OV B0 w v us) : RS w v us ∧ ∀ b, v.ownBlock = some b → B0 ≤ b ∧ b < w.heap.size := by
  rcases h.2 with ⟨rfl, h0⟩ | ⟨g, cap, cur, hv, hb, hg, hc, _, hs, ht⟩
  · have : us = [] := List.length_eq_zero_iff.1 h0
    subst this
    exact ⟨RS.nil w, fun b e => by cases e⟩
  · subst hv
    have hlt := (Array.getElem?_eq_some_iff.1 hg).1
    refine ⟨⟨_, cap, rfl, hc, .inr ⟨g, 0, rfl, hlt, fun i u hu => ?_⟩⟩, fun b e => by cases e; exact ⟨hb, hlt⟩⟩
    have e : (cur.toList.take (us.length * 1))[i]? = some u := by rw [ht]; exact hu
    have hi : i < us.length := (List.getElem?_eq_some_iff.1 hu).1
    rw [List.getElem?_take, if_pos (by omega), Array.getElem?_toList] at e
    simp only [World.cell?, hg, Nat.zero_add, Option.isSome_none, Bool.false_eq_true, if_false, e]
theorem OV.below {B0 : Nat} {w w' : World} {v : Value} {us : List Value} (h : OV B0 w v us) (hb : Below w.heap.size w w') : OV B0 w' v us := by
  refine ⟨h.1, ?_⟩
  rcases h.2 with h1 | ⟨g, cap, cur, rfl, hg, hh, rest⟩
  · exact .inl h1
  · exact .inr ⟨g, cap, cur, rfl, hg, by rw [hb.block g (Array.getElem?_eq_some_iff.1 hh).1]; exact hh, rest⟩
theorem app_us {ops : Array Oper} {rest : List Oper} {o : Oper} {a : Act} {Q : Exit → Act → World → Prop} {B0 : Nat} {wr : World} (hgd : o.guard = none) (s x : Operand) (ho : o.op = .call { callee := .builtin .append, args := #[s, x], argTypes := #[31, 31] })
    (hB : B0 ≤ wr.heap.size) (v : Value) (us : List Value) (hs : a.eval s = v) (h0 : OV B0 wr v us) (u : Value) (hx : a.eval x = u) (vs : List Value) (hg : RS wr u vs) (h1 : ∀ y ∈ vs, y.oneCell' = true) (hk : (us.length + vs.length) * 24 ≤ 140737488355328)
    (h : ∀ v' w', OV B0 w' v' (us ++ vs) → wr.grownBy w' v.ownBlock → (v'.ownBlock = v.ownBlock ∨ v'.ownBlock = some wr.heap.size) → wpList Tryd.prog ops Q rest (a.put o.dst v') w') : wpList Tryd.prog ops Q (o :: rest) a wr := by
  obtain ⟨i, hi, hz, hsz, hby⟩ := info_sl
  obtain ⟨ad, cap, rfl, hc, hg⟩ := hg
  have fin : ∀ v' w', w'.ownsRow B0 32 1 v' (us.length + vs.length) (us ++ vs) → wr.grownBy w' v.ownBlock → (v'.ownBlock = v.ownBlock ∨ v'.ownBlock = some wr.heap.size) → wpList Tryd.prog ops Q rest (a.put o.dst v') w' := by
    intro v' w' h1 h2 h4
    refine h v' w' ?_ h2 h4
    unfold OV
    rw [List.length_append]; exact h1
  rcases hg with ⟨rfl, hn⟩ | ⟨b, off, rfl, _, hm⟩
  · cases ad with
    | some A =>
      exact wpList_append_own_at wr hgd s x 31 ho B0 32 i (.slice none 0 0) 1 24 Tryd.underlying31 hi hz hsz hby rfl (by decide) v us.length us hs h0 A 0 cap [] hx rfl (fun j u hu => by simp at hu) (fun _ h => by cases h) (by simp at hk; unfold maxLen; omega) (by simp at hk; omega) hB (fun v' w' h1 h2 _ h4 => fin v' w' h1 h2 h4)
    | none =>
      obtain rfl := hn rfl
      refine wpList_append_own_none hgd s x 31 ho B0 32 i 1 Tryd.underlying31 hi v us.length us hs h0 hx (h v wr (by rw [List.append_nil]; exact h0) ?_ (.inl rfl))
      exact World.grownBy.refl _ _
  · refine wpList_append_own_at wr hgd s x 31 ho B0 32 i (.slice none 0 0) 1 24 Tryd.underlying31 hi hz hsz hby rfl (by decide) v us.length us hs h0 ⟨b, off, none⟩ vs.length cap vs hx (by omega) ?_ h1 (by unfold maxLen; omega) (by omega) hB (fun v' w' h1 h2 _ h4 => fin v' w' h1 h2 h4)
    intro j u hu
    rw [addr_add0]; exact hm j u hu
/-- What a law keeps of records: slices that the log doesn't touch. -/
structure Wt (S : Nat → Prop) (w : World) (v : Value) (us : List Value) (rs : List (List Int)) : Prop where
  len : us.length = rs.length
  src : RS w v us
  nb : ∀ b, v.ownBlock = some b → ¬ S b ∧ b < w.heap.size
  mem : ∀ (i : Nat) (u : Value), us[i]? = some u → Sq w u (mi rs i) ∧ ∀ b, slB u = some b → ¬ S b
theorem Wt.nil (S : Nat → Prop) (w : World) : Wt S w (.slice none 0 0) [] [] := ⟨rfl, RS.nil w, fun b e => (by cases e), fun i u h => by simp at h⟩
theorem Sq.own {w : World} {v : Value} {xs : List Int} (h : Sq w v xs) {b : Nat} (e : slB v = some b) : b < w.heap.size := h.lt e
theorem Wt.nx {S S' : Nat → Prop} {w w' : World} {v : Value} {us : List Value} {rs : List (List Int)} (h : Wt S w v us rs) (n : Nx S w S' w') : Wt S' w' v us rs := by
  have hno : ∀ b, b < w.heap.size → ¬ S b → ¬ S' b := fun b hb hn x => (n.d b x).elim hn (fun y => by omega)
  refine ⟨h.len, h.src.keep n.c.size (fun b e hb => n.c.other b hb (h.nb b e).1), fun b e => ⟨hno b (h.nb b e).2 (h.nb b e).1, Nat.lt_of_lt_of_le (h.nb b e).2 n.c.size⟩, fun i u hu => ?_⟩
  obtain ⟨m1, m2⟩ := h.mem i u hu
  exact ⟨m1.chg n.c m2, fun b e => hno b (m1.own e) (m2 b e)⟩
theorem Wt.ll {S : Nat → Prop} {w : World} {v : Value} {us : List Value} {rs : List (List Int)} (h : Wt S w v us rs) : LL w v rs := by
  obtain ⟨ad, cap, rfl, hc, hm⟩ := h.src
  rw [h.len] at hc ⊢
  refine ⟨ad, cap, rfl, hc, ?_⟩
  rcases hm with ⟨rfl, h0⟩ | ⟨b, o, rfl, hb, hm⟩
  · exact .inl ⟨List.length_eq_zero_iff.1 h.len.symm, h0⟩
  · refine .inr ⟨b, o, rfl, hb, fun i hi => ?_⟩
    have hlt : i < us.length := by rw [h.len]; exact hi
    have hu : us[i]? = some us[i] := List.getElem?_eq_getElem hlt
    exact ⟨_, hm i _ hu, (h.mem i _ hu).1.sl⟩
theorem Wt.one {S : Nat → Prop} {w : World} {v : Value} {us : List Value} {rs : List (List Int)} (h : Wt S w v us rs) : ∀ y ∈ us, y.oneCell' = true := by
  intro y hy
  obtain ⟨i, hi, rfl⟩ := List.getElem_of_mem hy
  obtain ⟨ad, cap, e, -⟩ := (h.mem i _ (List.getElem?_eq_getElem hi)).1.sl
  rw [e]; rfl
/-- One more record. -/
theorem Wt.snoc {S : Nat → Prop} {B0 : Nat} {w : World} {v v' : Value} {us : List Value} {rs : List (List Int)} (h : Wt S w v us rs) (hB : ∀ b, S b → b < B0) {u : Value} {p : List Int} (hu : Sq w u p) (hn : ∀ b, slB u = some b → ¬ S b) {w' : World} (hw : Chg S w w') (ho : OV B0 w' v' (us ++ [u])) : Wt S w' v' (us ++ [u]) (rs ++ [p]) := by
  obtain ⟨o1, o2⟩ := ho.rs
  refine ⟨by simp [h.len], o1, fun b e => ⟨fun x => by have := hB b x; have := (o2 b e).1; omega, (o2 b e).2⟩, fun i y hy => ?_⟩
  rcases Nat.lt_or_ge i us.length with hl | hl
  · rw [List.getElem?_append_left hl] at hy
    rw [mi_app_lo (by rw [← h.len]; exact hl)]
    obtain ⟨m1, m2⟩ := h.mem i y hy
    exact ⟨m1.chg hw m2, m2⟩
  · rw [List.getElem?_append_right hl] at hy
    obtain ⟨h0, h1⟩ := List.getElem?_eq_some_iff.1 hy
    have ei : i = us.length := by simp at h0; omega
    subst ei
    simp at h1
    subst h1
    rw [h.len, mi_snoc_hi]
    exact ⟨hu.chg hw hn, hn⟩
theorem mi_szr (xs : List (List Int)) {k : Nat} (hk : k < xs.length) : szr (xs.take (k + 1)) = szr (xs.take k) + (mi xs k).length + 64 := by
  rw [take_snoc _ _ hk, szr_app]
  simp [szr]; omega
theorem szr_take (xs : List (List Int)) (k : Nat) : szr (xs.take k) ≤ szr xs := by
  have := szr_app (xs.take k) (xs.drop k)
  rw [List.take_append_drop] at this
  omega
set_option maxHeartbeats 1000000 in
theorem room_any (rs : List (List Int)) (n : Nat) (v : Value) (w : World) (hv : LL w v rs) (hz : szr rs ≤ 140737488355328) (hn : 64 ≤ n ∧ n ≤ 65536) :
    Calls Tryd.prog 15 #[v, .int .i64 (n : Int)] w fun e w' => e = .returned (.bool (decide (szr rs ≤ (n / 2 - 8) * 32))) ∧ w' = w := by
  obtain ⟨ad, cap, rfl, hc, hx⟩ := hv
  have HX : Hid _ := hx
  have HZ : Hid (szr rs ≤ 140737488355328) := hz
  have hlen : rs.length ≤ 2199023255552 := by have := szr_len rs; omega
  clear hx hz
  go_enter Tryd.func15, Tryd.ntmps15
  go_wp2_with fail
  go_loopw [5, 9] (fun nv i wr => ∃ k : Nat, k ≤ rs.length ∧ i = .int .i64 (k : Int) ∧ nv = .int .i64 (szr (rs.take k) : Int) ∧ wr = w) (fun _ i _ => rs.length - (intOf i).toNat)
  case atStart => exact ⟨0, Nat.zero_le _, rfl, rfl, rfl⟩
  case round =>
    obtain ⟨k, hk, rfl, rfl, rfl⟩ := hrel
    by_cases hlt : k < rs.length
    · rcases HX.out with ⟨h0, _⟩ | ⟨b, o, rfl, hlb, hm⟩
      · rw [h0] at hlt; simp at hlt
      · obtain ⟨u, hc0, hu⟩ := hm k hlt
        obtain ⟨uad, ucp, hue, -, -⟩ := hu
        subst hue
        have hs1 := mi_szr rs hlt
        have hs2 := szr_take rs (k + 1)
        have hs3 := HZ.out
        obtain ⟨A, hA⟩ : ∃ A, szr (rs.take k) = A := ⟨_, rfl⟩
        obtain ⟨M, hM⟩ : ∃ M, (mi rs k).length = M := ⟨_, rfl⟩
        have HA : Hid (szr (rs.take (k + 1)) = A + M + 64) := by show _ = _; rw [hs1, hA, hM]
        rw [hA, hM] at hs1
        rw [hA]
        rw [hM] at hc0
        have hkk : (k : Int) < (rs.length : Int) := by omega
        clear hm hA hM
        go_wp2_with fail
        go_roundw
        case rel => exact ⟨k + 1, hlt, by go_num, by rw [HA.out]; show Value.int .i64 _ = Value.int .i64 _; congr 1, trivial⟩
        case measure => simp [intOf]; omega
    · obtain rfl : k = rs.length := by omega
      rw [List.take_length]
      have hz := HZ.out
      obtain ⟨A, hA⟩ : ∃ A, szr rs = A := ⟨_, rfl⟩
      have HA : Hid (szr rs = A) := hA
      rw [hA] at hz
      rw [hA]
      clear hA
      go_wp2_with fail
      go_ret
      refine ⟨?_, rfl⟩
      show Ending.returned (Value.bool (decide ((A : Int) ≤ ((n : Int) / 2 - 8) * 32))) = Ending.returned (Value.bool (decide (szr rs ≤ (n / 2 - 8) * 32)))
      rw [HA.out]
      congr 2
      exact decide_eq_decide.2 ⟨fun h => by omega, fun h => by omega⟩
end Go.Proofs.YthfpakjfdncphaaDoor
