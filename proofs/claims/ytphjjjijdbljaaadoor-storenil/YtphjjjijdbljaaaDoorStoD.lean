/- Package store: refuse. -/
import Derived.Test.YtphjjjijdbljaaaDoorStoB
import Derived.Lib.ConvBytes
import Derived.Lib.AppendStr
namespace Go.Proofs.YtphjjjijdbljaaaDoor
open Go Go.RowKit
set_option linter.unusedSimpArgs false
set_option linter.unusedVariables false
set_option maxRecDepth 100000

/-- What the first changes weigh. -/
def sw (l : List Cg) : Nat → Nat
  | 0 => 0
  | k + 1 => sw l k + (match l[k]? with | some c => wg c | none => 0)
theorem sw_succ {l : List Cg} {k : Nat} {c : Cg} (h : l[k]? = some c) : sw l (k + 1) = sw l k + wg c := by simp only [sw]; rw [h]
def fine (c : Cg) : Bool := decide (1 ≤ c.k.size) && (decide (c.k.size ≤ 64) && decide (c.v.size ≤ 32768))
theorem fine_iff {c : Cg} : fine c = true ↔ 1 ≤ c.k.size ∧ c.k.size ≤ 64 ∧ c.v.size ≤ 32768 := by simp [fine]
theorem fine_not {c : Cg} (h : ¬ (1 ≤ c.k.size ∧ c.k.size ≤ 64 ∧ c.v.size ≤ 32768)) : fine c = false := by
  cases e : fine c with
  | false => rfl
  | true => exact absurd (fine_iff.1 e) h
def brE (l : List Cg) : Int := if 256 < l.length then 1 else if l.all fine = true then (if 65472 < sw l l.length then 6 else 0) else 1
theorem brE_long {l : List Cg} (h : 256 < l.length) : brE l = 1 := by unfold brE; rw [if_pos h]
theorem brE_bad {l : List Cg} {k : Nat} {c : Cg} (h : l[k]? = some c) (hc : fine c = false) : brE l = 1 := by
  unfold brE
  have : ¬ l.all fine = true := fun e => by
    rw [List.all_eq_true] at e
    rw [e c (List.mem_of_getElem? h)] at hc; cases hc
  rw [if_neg this]; split <;> rfl
theorem brE_end {l : List Cg} (hn : ¬ 256 < l.length) (h : ∀ j c, j < l.length → l[j]? = some c → fine c = true) : brE l = if 65472 < sw l l.length then 6 else 0 := by
  unfold brE
  have : l.all fine = true := by
    rw [List.all_eq_true]
    intro c hc
    obtain ⟨j, hj, e⟩ := List.getElem_of_mem hc
    exact h j c hj (by rw [List.getElem?_eq_getElem hj, e])
  rw [if_neg hn, if_pos this]
theorem sw_le {l : List Cg} : ∀ k, (∀ j c, j < k → l[j]? = some c → fine c = true) → sw l k ≤ k * 33000
  | 0, _ => by simp [sw]
  | k + 1, h => by
    have h1 := sw_le k (fun j c hj => h j c (by omega))
    simp only [sw]
    cases e : l[k]? with
    | none => simp only; omega
    | some c => have h2 := fine_iff.1 (h k c (by omega) e); simp only [wg]; omega
set_option maxHeartbeats 2000000 in
theorem srefuse_any (l : List Cg) (v : Value) (w : World) (hv : CS w v l) (hn : l.length ≤ 140737488355328) (hk : ∀ (j : Nat) (c : Cg), l[j]? = some c → c.Ok) :
    Calls Tryd.prog 17 #[v] w fun e w' => e = .returned (.int .i64 (brE l)) ∧ Below w.heap.size w w' := by
  obtain ⟨ad, cap, rfl, hc, hx⟩ := hv
  have HX : Hid (l = [] ∧ (ad = none → cap = 0) ∨ ∃ b o, ad = some ⟨b, o, none⟩ ∧ b < w.heap.size ∧ ∀ i c, l[i]? = some c → w.rangeAt b (o + i * 3) (cc c).toList) := hx
  have HK : Hid (∀ (j : Nat) (c : Cg), l[j]? = some c → c.Ok) := hk
  clear hx hk hc
  by_cases h256 : 256 < l.length
  · have E : Hid (brE l = 1) := brE_long h256
    have h256' : (256 : Int) < (l.length : Int) := by omega
    go_enter Tryd.func17, Tryd.ntmps17
    go_wp2_with fail
    go_ret
    exact ⟨by rw [E.out]; rfl, Below.refl _ _⟩
  · have h256' : ¬ (256 : Int) < (l.length : Int) := by omega
    go_enter Tryd.func17, Tryd.ntmps17
    go_wp2_with fail
    go_loopw [3, 11] (fun s i wr => ∃ k : Nat, k ≤ l.length ∧ i = .int .i64 (k : Int) ∧ s = .int .i64 (sw l k : Int) ∧ (∀ j c, j < k → l[j]? = some c → fine c = true) ∧ Below w.heap.size w wr) (fun _ i _ => l.length - (intOf i).toNat)
    case atStart => exact ⟨0, Nat.zero_le _, rfl, rfl, fun j c hj => absurd hj (Nat.not_lt_zero _), Below.refl _ _⟩
    case round =>
      obtain ⟨k, hkl, rfl, rfl, hf, h4⟩ := hrel
      have H4 : Hid (Below w.heap.size w wr) := h4
      have HF : Hid (∀ j c, j < k → l[j]? = some c → fine c = true) := hf
      have hsw : sw l k ≤ 8448000 := by have := sw_le k hf; omega
      clear h4 hf
      by_cases hlt : k < l.length
      · rcases HX.out with ⟨rfl, _⟩ | ⟨b, o, rfl, hlb, hm⟩
        · simp at hlt
        · obtain ⟨c, hc⟩ : ∃ c, l[k]? = some c := ⟨l[k]'(by omega), List.getElem?_eq_getElem (by omega)⟩
          have HR : Hid (wr.rangeAt b (o + k * 3) (cc c).toList) := by
            intro q u hu
            exact (H4.out.cell (p := ⟨b, o + k * 3 + q, none⟩) hlb).trans (hm k c hc q u hu)
          have c0 : wr.cell? ⟨b, o + k * 3, none⟩ = some (.string c.k) := HR.out 0 _ rfl
          have c1 : wr.cell? ⟨b, o + k * 3 + 1, none⟩ = some (.string c.v) := HR.out 1 _ rfl
          have c2 : wr.cell? ⟨b, o + k * 3 + 2, none⟩ = some (.bool c.gn) := HR.out 2 _ rfl
          have HC : Hid (l[k]? = some c) := hc
          obtain ⟨hok1, hok2⟩ := HK.out k c hc
          have HO : Hid c.Ok := HK.out k c hc
          obtain ⟨Z, hZ⟩ : ∃ Z, sw l k = Z := ⟨_, rfl⟩
          have HZ : Hid (sw l k = Z) := hZ
          rw [hZ] at hsw ⊢
          clear hm hlb hc hZ
          by_cases g1 : c.k.size < 1
          · have E : Hid (brE l = 1) := brE_bad HC.out (fine_not (by omega))
            have g1' : (c.k.size : Int) < 1 := by omega
            go_wp2_with fail
            go_ret
            exact ⟨by rw [E.out]; rfl, H4.out.alloc H4.out.size _⟩
          · have g1' : ¬ (c.k.size : Int) < 1 := by omega
            by_cases g2 : 64 < c.k.size
            · have E : Hid (brE l = 1) := brE_bad HC.out (fine_not (by omega))
              have g2' : (64 : Int) < (c.k.size : Int) := by omega
              go_wp2_with fail
              go_ret
              exact ⟨by rw [E.out]; rfl, H4.out.alloc H4.out.size _⟩
            · have g2' : ¬ (64 : Int) < (c.k.size : Int) := by omega
              by_cases g3 : 32768 < c.v.size
              · have E : Hid (brE l = 1) := brE_bad HC.out (fine_not (by omega))
                have g3' : (32768 : Int) < (c.v.size : Int) := by omega
                go_wp2_with fail
                go_ret
                exact ⟨by rw [E.out]; rfl, H4.out.alloc H4.out.size _⟩
              · have g3' : ¬ (32768 : Int) < (c.v.size : Int) := by omega
                have E : Hid (fine c = true) := fine_iff.2 ⟨by omega, by omega, by omega⟩
                obtain ⟨G, hG⟩ : ∃ G, wg c = G := ⟨_, rfl⟩
                have hG2 : G ≤ 33000 := by rw [← hG]; unfold wg; omega
                have HW : Hid (∀ W : World, Calls Tryd.prog 33 #[.agg (cc c)] W fun e w' => e = .returned (.int .i64 (G : Int)) ∧ Below W.heap.size W w') := fun W => by rw [← hG]; exact weight_any c HO.out W
                have HG : Hid (wg c = G) := hG
                clear hG
                have H6 : Hid (Below w.heap.size w (wr.alloc (.cells #[.string c.k, .string c.v, .bool c.gn] 38 (0, 0)))) := H4.out.alloc H4.out.size _
                go_wp2_with (go_at_call 33; refine (HW.out _).mono ?_; rintro e w2 ⟨rfl, h5⟩; have H5 : Hid (Below w.heap.size w w2) := H6.out.trans (h5.mono H6.out.size); clear h5)
                exact ⟨⟨k + 1, hlt, by go_num, by rw [sw_succ HC.out, HZ.out, HG.out]; go_num, fun j c' hj hc' => by
                  rcases Nat.lt_succ_iff_lt_or_eq.1 hj with h | rfl
                  · exact HF.out j c' h hc'
                  · rw [HC.out] at hc'; cases hc'; exact E.out, H5.out⟩, by simp [intOf]; omega⟩
      · obtain rfl : k = l.length := by omega
        have E : Hid (brE l = if 65472 < sw l l.length then 6 else 0) := brE_end h256 HF.out
        obtain ⟨Z, hZ⟩ : ∃ Z, sw l l.length = Z := ⟨_, rfl⟩
        rw [hZ] at hsw E ⊢
        clear hZ
        by_cases g : 65472 < Z
        · have g' : (65472 : Int) < (Z : Int) := by omega
          go_wp2_with fail
          go_ret
          exact ⟨by rw [E.out, if_pos g]; rfl, H4.out⟩
        · have g' : ¬ (65472 : Int) < (Z : Int) := by omega
          go_wp2_with fail
          go_ret
          exact ⟨by rw [E.out, if_neg g]; rfl, H4.out⟩
end Go.Proofs.YtphjjjijdbljaaaDoor
/- Package store: texts as bytes; rows of slices. -/
namespace Go.Proofs.YtphjjjijdbljaaaDoor
open Go Go.RowKit
set_option linter.unusedSimpArgs false
set_option linter.unusedVariables false
set_option maxRecDepth 100000

/-- A text's bytes. -/
def nb (s : ByteArray) : List Int := s.data.toList.map (fun b => (b.toNat : Int))
theorem nb_length (s : ByteArray) : (nb s).length = s.size := by unfold nb; rw [List.length_map, Array.length_toList]; rfl
theorem nb_byt (s : ByteArray) : Byt (nb s) := by
  intro x hx
  unfold nb at hx
  rw [List.mem_map] at hx
  obtain ⟨b, _, rfl⟩ := hx
  have := b.toNat_lt
  omega
theorem nb_cells (s : ByteArray) : Lib.strCells s = bv (nb s) := by unfold Lib.strCells bv nb; rw [List.map_map]; rfl
theorem nb_get {s : ByteArray} {i : Nat} (h : i < s.size) : gi (nb s) i = ((s.data.toList.getD i 0).toNat : Int) := by
  have h' : i < s.data.toList.length := by rw [Array.length_toList]; exact h
  unfold gi nb
  simp [List.getD, h]
/-- []byte(s). -/
theorem conv_any (w : World) (s : ByteArray) : ∃ w1 c, (convert 9 71 (.string s)).run Tryd.prog w = .ok (.slice (some ⟨w.heap.size, 0, none⟩) s.size c) w1 ∧ Sl w1 (.slice (some ⟨w.heap.size, 0, none⟩) s.size c) (nb s) ∧ Below w.heap.size w w1 ∧ w1.heap.size = w.heap.size + 1 := by
  have hr := Lib.run_convert_string_bytes (P := Tryd.prog) w 9 71 5 s Tryd.underlying9 Tryd.underlying71 Tryd.underlying5
  refine ⟨_, _, hr, ?_, ⟨?_, ?_, ?_, by rw [Lib.bytesWorld_size]; omega, fun k hk => Lib.bytesWorld_at_old w _ s k hk⟩, Lib.bytesWorld_size _ _ _⟩
  · refine ⟨_, _, by rw [nb_length], by rw [nb_length]; exact grownCap_ge _ _ _ _, .inr ⟨w.heap.size, 0, rfl, by rw [Lib.bytesWorld_size]; omega, fun i hi => ?_⟩⟩
    rw [nb_length] at hi
    rw [nb_get hi, Nat.zero_add]; exact Lib.bytesWorld_cell w _ s i hi
  · rfl
  · rfl
  · rfl
/-- append of a text. -/
theorem app_str {ops : Array Oper} {rest : List Oper} {o : Oper} {a : Act} {Q : Exit → Act → World → Prop} {B0 : Nat} {wr : World} (hgd : o.guard = none) (s x : Operand) (ho : o.op = .call { callee := .builtin .append, args := #[s, x], argTypes := #[71, 9] })
    (hB : B0 ≤ wr.heap.size) (v : Value) (xs : List Int) (hs : a.eval s = v) (h0 : Ow B0 wr v xs) (t : ByteArray) (hx : a.eval x = .string t) (hk : xs.length + t.size ≤ 140737488355328)
    (h : ∀ v' w', Ow B0 w' v' (xs ++ nb t) → wr.grownBy w' v.ownBlock → Below B0 wr w' → wpList Tryd.prog ops Q rest (a.put o.dst v') w') : wpList Tryd.prog ops Q (o :: rest) a wr := by
  obtain ⟨i, hi, hz, hsz, hby⟩ := info_u8
  refine Lib.wpList_append_own_string wr hgd s x 71 9 ho B0 5 i Tryd.underlying71 Tryd.underlying9 hi hz hsz hby v xs.length (bv xs) hs h0 t hx (by unfold maxLen; omega) hk hB ?_
  intro v' w' h1 h2 _
  refine h v' w' ?_ h2 ((Below.refl B0 wr).grown h2 hB (fun b hb' => h0.blk b hb'))
  unfold Ow
  rw [List.length_append, nb_length, bv_append, ← nb_cells]; exact h1
end Go.Proofs.YtphjjjijdbljaaaDoor
/- Package store: rows of slices whose members lie elsewhere. -/
namespace Go.Proofs.YtphjjjijdbljaaaDoor
open Go Go.RowKit
set_option linter.unusedSimpArgs false
set_option linter.unusedVariables false
set_option maxRecDepth 100000

/-- A row of slices of the call's own; its members hold these byte strings, and lie elsewhere. -/
structure Ml (B0 : Nat) (w : World) (v : Value) (us : List Value) (xss : List (List Int)) : Prop where
  len : us.length = xss.length
  row : w.ownsRow B0 71 1 v us.length us
  mem : ∀ (i : Nat) (u : Value), us[i]? = some u → Sl w u (mi xss i)
  apart : ∀ (i : Nat) (u : Value), us[i]? = some u → ∀ b, u.ownBlock = some b → b < w.heap.size ∧ v.ownBlock ≠ some b
theorem Ml.nil (B0 : Nat) (w : World) : Ml B0 w (.slice none 0 0) [] [] := ⟨rfl, ⟨rfl, .inl ⟨rfl, rfl⟩⟩, fun i u h => by simp at h, fun i u h => by simp at h⟩
theorem Ml.blk {B0 : Nat} {w : World} {v : Value} {us : List Value} {xss : List (List Int)} (h : Ml B0 w v us xss) : ∀ b, v.ownBlock = some b → B0 ≤ b ∧ b < w.heap.size := by
  intro b hb
  rcases h.row.2 with ⟨rfl, _⟩ | ⟨g, cap, cur, rfl, hg, hh, _⟩
  · simp [Value.ownBlock] at hb
  · simp [Value.ownBlock] at hb; subst hb; exact ⟨hg, (Array.getElem?_eq_some_iff.1 hh).1⟩
theorem Ml.below {B0 : Nat} {w w' : World} {v : Value} {us : List Value} {xss : List (List Int)} (h : Ml B0 w v us xss) (hb : Below w.heap.size w w') : Ml B0 w' v us xss := by
  refine ⟨h.len, ?_, fun i u hu => (h.mem i u hu).below hb (Nat.le_refl _), fun i u hu b e => ⟨Nat.lt_of_lt_of_le (h.apart i u hu b e).1 hb.size, (h.apart i u hu b e).2⟩⟩
  refine ⟨h.row.1, ?_⟩
  rcases h.row.2 with h1 | ⟨g, cap, cur, rfl, hg, hh, rest⟩
  · exact .inl h1
  · exact .inr ⟨g, cap, cur, rfl, hg, by rw [hb.block g (Array.getElem?_eq_some_iff.1 hh).1]; exact hh, rest⟩
theorem Ml.ll {B0 : Nat} {w : World} {v : Value} {us : List Value} {xss : List (List Int)} (h : Ml B0 w v us xss) : LL w v xss := by
  rcases h.row.2 with ⟨rfl, h0⟩ | ⟨g, cap, cur, hv, hb, hg, hc, _, hs, ht⟩
  · have hx : xss = [] := List.length_eq_zero_iff.1 (by rw [← h.len]; exact h0)
    subst hx
    exact ⟨none, 0, rfl, Nat.le_refl _, .inl ⟨rfl, fun _ => rfl⟩⟩
  · rw [h.len] at hv hc ht
    refine ⟨_, cap, hv, hc, .inr ⟨g, 0, rfl, (Array.getElem?_eq_some_iff.1 hg).1, fun i hi => ?_⟩⟩
    have hlu : i < us.length := by rw [h.len]; exact hi
    have hu : us[i]? = some us[i] := List.getElem?_eq_getElem hlu
    refine ⟨us[i], ?_, h.mem i _ hu⟩
    have e : (cur.toList.take (xss.length * 1))[i]? = some us[i] := by rw [ht]; exact hu
    rw [List.getElem?_take, if_pos (by omega), Array.getElem?_toList] at e
    simp only [World.cell?, hg, Nat.zero_add, Option.isSome_none, Bool.false_eq_true, if_false, e]
theorem mi_apl (xss yss : List (List Int)) {i : Nat} (h : i < xss.length) : mi (xss ++ yss) i = mi xss i := by
  unfold mi; rw [List.getD_eq_getElem?_getD, List.getD_eq_getElem?_getD, List.getElem?_append_left h]
theorem mi_aph (xss yss : List (List Int)) {i : Nat} (h : xss.length ≤ i) : mi (xss ++ yss) i = mi yss (i - xss.length) := by
  unfold mi; rw [List.getD_eq_getElem?_getD, List.getD_eq_getElem?_getD, List.getElem?_append_right h]
/-- append of more slices. -/
theorem app_ml {ops : Array Oper} {rest : List Oper} {o : Oper} {a : Act} {Q : Exit → Act → World → Prop} {B0 : Nat} {wr : World} (hgd : o.guard = none) (s x : Operand) (ho : o.op = .call { callee := .builtin .append, args := #[s, x], argTypes := #[49, 49] })
    (hB : B0 ≤ wr.heap.size) (v : Value) (us : List Value) (xss : List (List Int)) (hs : a.eval s = v) (h0 : Ml B0 wr v us xss) (vs : List Value) (yss : List (List Int)) (hlen : vs.length = yss.length) (b off n c : Nat) (hx : a.eval x = .slice (some ⟨b, off, none⟩) n c) (hn : n = vs.length)
    (hc : ∀ (j : Nat) (u : Value), vs[j]? = some u → wr.cell? ⟨b, off + j, none⟩ = some u) (hu : ∀ (j : Nat) (u : Value), vs[j]? = some u → Sl wr u (mi yss j)) (hua : ∀ (j : Nat) (u : Value), vs[j]? = some u → ∀ b, u.ownBlock = some b → b < wr.heap.size ∧ v.ownBlock ≠ some b) (hk : (us.length + vs.length) * 24 ≤ 140737488355328)
    (h : ∀ v' w', Ml B0 w' v' (us ++ vs) (xss ++ yss) → Below B0 wr w' → wpList Tryd.prog ops Q rest (a.put o.dst v') w') : wpList Tryd.prog ops Q (o :: rest) a wr := by
  obtain ⟨i, hi, hz, hsz, hby⟩ := info_sl
  subst hn
  refine wpList_append_own_at wr hgd s x 49 ho B0 71 i (.slice none 0 0) 1 24 Tryd.underlying49 hi hz hsz hby rfl (by decide) v us.length us hs h0.row ⟨b, off, none⟩ vs.length c vs hx (by omega) ?_ ?_ (by unfold maxLen; omega) (by omega) hB ?_
  · intro j u hj
    rw [Addr.add_mid]; exact hc j u hj
  · intro w hw
    obtain ⟨j, hj, e⟩ := List.getElem_of_mem hw
    obtain ⟨ad, cap, rfl, _⟩ := hu j w (by rw [List.getElem?_eq_getElem hj, e])
    rfl
  · intro v' w' h1 h2 h3 h4
    have hgb : ∀ b, b < wr.heap.size → v.ownBlock ≠ some b → w'.heap[b]? = wr.heap[b]? := fun b hb hne => h2.block b hb (Ne.symm hne)
    have hap : ∀ b, b < wr.heap.size ∧ v.ownBlock ≠ some b → b < w'.heap.size ∧ v'.ownBlock ≠ some b := fun b ⟨hb, hne⟩ => ⟨Nat.lt_of_lt_of_le hb h2.size, by
      rcases h4 with e | e
      · rw [e]; exact hne
      · rw [e]; intro e'; cases e'; omega⟩
    refine h v' w' ⟨by simp [h0.len, hlen], by rw [List.length_append]; exact h1, fun j y hj => ?_, fun j y hj b hb => ?_⟩ ((Below.refl B0 wr).grown h2 hB (fun b hb' => (h0.blk b hb').1))
    · rcases Nat.lt_or_ge j us.length with hl | hl
      · rw [List.getElem?_append_left hl] at hj
        rw [mi_apl _ _ (by rw [← h0.len]; exact hl)]
        exact (h0.mem j y hj).keep h2.size (fun b hb => hgb b (h0.apart j y hj b hb).1 (h0.apart j y hj b hb).2)
      · rw [List.getElem?_append_right hl] at hj
        rw [mi_aph _ _ (by rw [← h0.len]; exact hl), ← h0.len]
        exact (hu _ y hj).keep h2.size (fun b hb => hgb b (hua _ y hj b hb).1 (hua _ y hj b hb).2)
    · rcases Nat.lt_or_ge j us.length with hl | hl
      · rw [List.getElem?_append_left hl] at hj
        exact hap b (h0.apart j y hj b hb)
      · rw [List.getElem?_append_right hl] at hj
        exact hap b (hua _ y hj b hb)
end Go.Proofs.YtphjjjijdbljaaaDoor
