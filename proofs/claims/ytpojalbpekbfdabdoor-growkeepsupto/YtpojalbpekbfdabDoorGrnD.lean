/- Package grow: inOrder; halves. -/
import Derived.Test.YtpojalbpekbfdabDoorTrmB
import Derived.Test.YtpojalbpekbfdabDoorTrsA
import Derived.Test.YtpojalbpekbfdabDoorGrmA
import Derived.Test.YtpojalbpekbfdabDoorTreY
namespace Go.Proofs.YtpojalbpekbfdabDoor
open Go Go.RowKit
set_option linter.unusedSimpArgs false
set_option linter.unusedVariables false
set_option maxRecDepth 100000

set_option maxHeartbeats 2000000 in
theorem inOrder_any (us : List Value) (lss : List (List Nd)) (hk : ∀ l ∈ lss, ∀ x ∈ l, x.Ok) (hlen : lss.flatten.length ≤ 3000000000000) (hn : us.length ≤ 3000000000000) (v : Value) (w : World) (hv : LLn w v us lss) :
    Calls Tryd.prog 10 #[v] w fun e w' => ∃ v' s, e = .returned v' ∧ s.Perm lss.flatten ∧ s.Pairwise (fun a b => pf a.p 256 ≤ pf b.p 256) ∧ NS w' v' s ∧ (∀ b, v'.ownBlock = some b → w.heap.size ≤ b ∧ b < w'.heap.size) ∧ Below w.heap.size w w' := by
  have HC : Hid (Calls Tryd.prog 18 #[v] w fun e w' => ∃ v', e = .returned v' ∧ NO w.heap.size w' v' lss.flatten ∧ Below w.heap.size w w') := Concat_any us lss hk hlen hn v w hv
  have HL : Hid (lss.flatten.length ≤ 3000000000000) := hlen
  clear hk hlen hn hv
  go_enter Tryd.func10, Tryd.ntmps10
  go_wp2_with (first
    | (go_at_call 18; refine HC.out.mono ?_; rintro e w1 ⟨v1, rfl, g1, g2⟩; have O1 : Hid (NO w.heap.size w1 v1 lss.flatten) := g1; have B1 : Hid (Below w.heap.size w w1) := g2; clear g1 g2)
    | (go_at_call 19; refine (sort_nodesG w.heap.size w1 v1 lss.flatten O1.out HL.out).mono ?_; rintro e w2 ⟨rfl, s, g1, g2, g3, g4⟩; have P1 : Hid (s.Perm lss.flatten) := g1; have P2 : Hid (s.Pairwise (fun a b => pf a.p 256 ≤ pf b.p 256)) := g2; have N2 : Hid (NS w2 v1 s) := g3; have B2 : Hid (Below w.heap.size w w2) := B1.out.trans g4; have S2 : Hid (w1.heap.size ≤ w2.heap.size) := g4.size; clear g1 g2 g3 g4))
  go_ret
  exact ⟨_, s, rfl, P1.out, P2.out, N2.out, fun b e => ⟨(O1.out.1.lt b e).1, Nat.lt_of_lt_of_le (O1.out.1.lt b e).2 S2.out⟩, B2.out⟩
set_option maxHeartbeats 4000000 in
theorem SearchG_any (f : Nat → Bool) (n m : Nat) (hn : n ≤ 140737488355328) (hm : m ≤ n) (hlo : ∀ i, i < m → f i = false) (hhi : ∀ i, m ≤ i → i < n → f i = true) (p1 p2 : Value) (w : World)
    (hf : ∀ (i : Nat) (W : World), i < n → Below w.heap.size w W → Calls Tryd.prog 43 #[.int .i64 (i : Int), p1, p2] W fun e w' => e = .returned (.bool (f i)) ∧ Below W.heap.size W w') :
    Calls Tryd.prog 42 #[.int .i64 (n : Int), .func (.func 43) #[] #[p1, p2]] w fun e w' => e = .returned (.int .i64 (m : Int)) ∧ Below w.heap.size w w' := by
  have HF : Hid (∀ (i : Nat) (W : World), i < n → Below w.heap.size w W → Calls Tryd.prog 43 #[.int .i64 (i : Int), p1, p2] W fun e w' => e = .returned (.bool (f i)) ∧ Below W.heap.size W w') := hf
  have HLO : Hid (∀ i, i < m → f i = false) := hlo
  have HHI : Hid (∀ i, m ≤ i → i < n → f i = true) := hhi
  clear hf hlo hhi
  go_enter Tryd.func42, Tryd.ntmps42
  go_wp2_with fail
  go_loopw [5, 6] (fun i j wr => ∃ (a b : Nat), a ≤ m ∧ m ≤ b ∧ b ≤ n ∧ i = .int .i64 (a : Int) ∧ j = .int .i64 (b : Int) ∧ Below w.heap.size w wr) (fun i j _ => (intOf j).toNat - (intOf i).toNat)
  case atStart => exact ⟨0, n, Nat.zero_le _, hm, Nat.le_refl _, rfl, rfl, Below.refl _ _⟩
  case round =>
    obtain ⟨i, j, h1, h2, h3, rfl, rfl, h4⟩ := hrel
    have H4 : Hid (Below w.heap.size w wr) := h4
    clear h4
    by_cases hlt : i < j
    · obtain ⟨k, hk⟩ : ∃ k : Nat, ((i : Int) + (j : Int)) / 2 = (k : Int) := ⟨(i + j) / 2, by omega⟩
      have hk1 : i ≤ k ∧ k < j := by omega
      have hkn : k < n := by omega
      cases hb : f k with
      | false =>
        have hkm : k < m := by
          rcases Nat.lt_or_ge k m with h | h
          · exact h
          · have := HHI.out k h hkn; rw [hb] at this; cases this
        have HCL : Hid (Calls Tryd.prog 43 #[.int .i64 (k : Int), p1, p2] wr fun e w' => e = .returned (.bool false) ∧ Below wr.heap.size wr w') := by have := HF.out k wr hkn H4.out; rw [hb] at this; exact this
        clear hb
        go_wp2_with ((go_at_call 43; refine HCL.out.mono ?_; rintro e w2 ⟨rfl, h5⟩; have H5 : Hid (Below wr.heap.size wr w2) := h5; clear h5))
        exact ⟨⟨k + 1, j, hkm, h2, h3, by go_num, rfl, H4.out.trans (H5.out.mono H4.out.size)⟩, by simp [intOf]; omega⟩
      | true =>
        have hkm : m ≤ k := by
          rcases Nat.lt_or_ge k m with h | h
          · have := HLO.out k h; rw [hb] at this; cases this
          · exact h
        have HCL : Hid (Calls Tryd.prog 43 #[.int .i64 (k : Int), p1, p2] wr fun e w' => e = .returned (.bool true) ∧ Below wr.heap.size wr w') := by have := HF.out k wr hkn H4.out; rw [hb] at this; exact this
        clear hb
        go_wp2_with ((go_at_call 43; refine HCL.out.mono ?_; rintro e w2 ⟨rfl, h5⟩; have H5 : Hid (Below wr.heap.size wr w2) := h5; clear h5))
        exact ⟨⟨i, k, h1, hkm, by omega, rfl, rfl, H4.out.trans (H5.out.mono H4.out.size)⟩, by simp [intOf]; omega⟩
    · obtain rfl : i = m := by omega
      go_wp2_with fail
      go_ret
      exact ⟨rfl, H4.out⟩
def gh1f (b o len cap i c cq cr : Nat) (g : Int) : Nat → Value
  | 0 => .slice (some ⟨b, o, none⟩) len cap
  | 1 => .int .i64 (i : Int)
  | 2 => .int .i64 (c : Int)
  | 3 => .int .i64 (cq : Int)
  | 4 => .pointer (some ⟨b, o + i * 65, none⟩)
  | 5 => .pointer (some ⟨b, o + i * 65 + 1, none⟩)
  | 6 => .pointer (some ⟨b, o + i * 65 + 1 + cq, none⟩)
  | 7 => .int .u8 g
  | 8 => .int .i64 (c : Int)
  | 9 => .int .i64 (cr : Int)
  | 10 => .int .i64 (7 - (cr : Int))
  | 11 => .int .u8 (g / 2 ^ (7 - cr))
  | 12 => .int .u8 (bits .and .u8 (g / 2 ^ (7 - cr)) 1)
  | 13 => .bool (decide (bits .and .u8 (g / 2 ^ (7 - cr)) 1 = 1))
  | 14 => .bool (decide (bits .and .u8 (g / 2 ^ (7 - cr)) 1 = 1))
  | _ => undef
set_option maxHeartbeats 4000000 in
theorem gclosure_any (l : List Nd) (hk : ∀ x ∈ l, x.Ok) (v : Value) (w : World) (hv : NS w v l) (bn bc c i : Nat) (hn : w.cell? ⟨bn, 0, none⟩ = some v) (hc : w.cell? ⟨bc, 0, none⟩ = some (.int .i64 (c : Int))) (hc2 : c < 256) (hi : i < l.length) :
    Calls Tryd.prog 43 #[.int .i64 (i : Int), .pointer (some ⟨bn, 0, none⟩), .pointer (some ⟨bc, 0, none⟩)] w fun e w' => e = .returned (.bool (bitB l c i)) ∧ Below w.heap.size w w' := by
  obtain ⟨ad, cap, rfl, hcp, hx⟩ := hv
  rcases hx with ⟨h0, _⟩ | ⟨b, o, rfl, hlb, hm⟩
  · rw [h0] at hi; simp at hi
  obtain ⟨x, hx⟩ : ∃ x, l[i]? = some x := ⟨l[i], List.getElem?_eq_getElem hi⟩
  obtain ⟨len, hlen⟩ : ∃ len, l.length = len := ⟨_, rfl⟩
  obtain ⟨cq, hcq⟩ : ∃ k : Nat, (c : Int) / 8 = (k : Int) := ⟨c / 8, by omega⟩
  obtain ⟨cr, hcr⟩ : ∃ r : Nat, (c : Int) % 8 = (r : Int) := ⟨c % 8, by omega⟩
  have hcq1 : cq < 32 := by omega
  have hcr1 : cr < 8 := by omega
  have HQ : Hid ((c : Int) / 8 = (cq : Int)) := hcq
  have HM : Hid ((c : Int) % 8 = (cr : Int)) := hcr
  have hp := (hk x (List.mem_of_getElem? hx)).p
  obtain ⟨g, hg⟩ : ∃ g, gi x.p cq = g := ⟨_, rfl⟩
  have HG : Hid (w.cell? ⟨b, o + i * 65 + 1 + cq, none⟩ = some (.int .u8 g)) := by
    have := nc_p (hm i x hx) cq _ (bv_get x.p (by rw [hp.len]; exact hcq1)); rw [hg] at this; exact this
  have HGB : Hid (0 ≤ g ∧ g ≤ 255) := by rw [← hg]; exact hp.byt.get (by rw [hp.len]; exact hcq1)
  have HR : Hid (bitB l c i = decide (bits .and .u8 (g / 2 ^ (7 - cr)) 1 = 1)) := by
    show bitB l c i = _
    unfold bitB; rw [hx]
    show decide (bt x.p c = 1) = _
    have hc1 : gi x.p cq = (gn x.p cq : Int) := hp.cast cq
    have hc3 := hp.lt cq
    have e1 : bits .and .u8 (g / 2 ^ (7 - cr)) 1 = ((bt x.p c : Nat) : Int) := by
      unfold bt
      rw [show c / 8 = cq by omega, show c % 8 = cr by omega, ← and_one (gn x.p cq / 2 ^ (7 - cr)) (Nat.lt_of_le_of_lt (Nat.div_le_self _ _) hc3), Int.natCast_ediv, ← hc1, Int.natCast_pow, hg]
      rfl
    rw [e1]; exact decide_eq_decide.2 (by omega)
  rw [hlen] at hn hi
  have HN : Hid (w.cell? ⟨bn, 0, none⟩ = some (.slice (some ⟨b, o, none⟩) len cap)) := hn
  have HC : Hid (w.cell? ⟨bc, 0, none⟩ = some (.int .i64 (c : Int))) := hc
  have lt_of : ∀ (q : Nat) (u : Value), w.cell? ⟨q, 0, none⟩ = some u → q < w.heap.size := fun q u h => by
    unfold World.cell? at h
    cases hh : w.heap[q]? with
    | none => simp only [hh] at h; cases h
    | some X => exact (Array.getElem?_eq_some_iff.1 hh).1
  have hbn : Hid (bn < w.heap.size) := lt_of _ _ hn
  have hbc : Hid (bc < w.heap.size) := lt_of _ _ hc
  have hbb : Hid (b < w.heap.size) := hlb
  clear hm hlb hx hg hk hn hc hlen lt_of hcp hcq hcr hp
  go_enter Tryd.func43, Tryd.ntmps43
  go_wp2_with fail
  refine RU.wp_rgn' [] (gh1f b o len cap i c cq cr g) (fun _ => 0) (gΩ w) (by kernel_rfl) (by kernel_rfl) (show Below w.heap.size w _ from (Below.refl _ _).drew) ?_ ?_
  · refine ⟨?_, ?_, ?_, ?_, ?_, ?_, ?_, ?_, ?_, ?_, ?_, ?_, ?_, ?_, ?_, trivial⟩
    · refine RU.ObT.silent rfl (fun a W k0 V hO hf hp hk => ?_)
      have hO' : Below w.heap.size w W := hO
      have hcell := (hO'.cell (p := ⟨bn, 0, none⟩) hbn.out).trans HN.out
      refine RU.ob_val rfl (RU.wanted_none rfl) (fun ev he hc => ?_) ⟨rfl, hO⟩
      have q1 : ev (.tmp 1) = .pointer (some ⟨bn, 0, none⟩) := (he (.tmp 1)).trans (hf 1 rfl)
      simp only [List.getElem_toArray, List.getElem_cons_succ, List.getElem_cons_zero, execOp, Option.map_some, Option.map_none]; rw [q1]
      first | (go_simp; done) | (go_simp; rfl) | rfl
    · refine RU.ObT.pure rfl rfl rfl (fun a V hf hp ev he hc W => ?_)
      have q0 : ev (.tmp 0) = .int .i64 (i : Int) := (he (.tmp 0)).trans (hf 0 rfl)
      simp only [List.getElem_toArray, List.getElem_cons_succ, List.getElem_cons_zero, execOp, Option.map_some, Option.map_none]; rw [q0]
      first | (go_simp; done) | (go_simp; rfl) | rfl
    · refine RU.ObT.silent rfl (fun a W k0 V hO hf hp hk => ?_)
      have hO' : Below w.heap.size w W := hO
      have hcell := (hO'.cell (p := ⟨bc, 0, none⟩) hbc.out).trans HC.out
      refine RU.ob_val rfl (RU.wanted_none rfl) (fun ev he hc => ?_) ⟨rfl, hO⟩
      have q2 : ev (.tmp 2) = .pointer (some ⟨bc, 0, none⟩) := (he (.tmp 2)).trans (hf 2 rfl)
      simp only [List.getElem_toArray, List.getElem_cons_succ, List.getElem_cons_zero, execOp, Option.map_some, Option.map_none]; rw [q2]
      first | (go_simp; done) | (go_simp; rfl) | rfl
    · refine RU.ObT.pure rfl rfl rfl (fun a V hf hp ev he hc W => ?_)
      have q7 : ev (.tmp 7) = .int .i64 (c : Int) := (he (.tmp 7)).trans (hp 2 7 rfl)
      simp only [List.getElem_toArray, List.getElem_cons_succ, List.getElem_cons_zero, execOp, Option.map_some, Option.map_none]; rw [q7]
      try simp only [hc]
      have hq8 := HQ.out
      go_simp; show Value.int .i64 (IntKind.i64.wrap (cq : Int)) = Value.int .i64 (cq : Int); rw [show IntKind.i64.wrap (cq : Int) = (cq : Int) by rw [IntKind.wrap_i64]; omega]
    · refine RU.ObT.pure rfl rfl rfl (fun a V hf hp ev he hc W => ?_)
      have q5 : ev (.tmp 5) = .slice (some ⟨b, o, none⟩) len cap := (he (.tmp 5)).trans (hp 0 5 rfl)
      have q6 : ev (.tmp 6) = .int .i64 (i : Int) := (he (.tmp 6)).trans (hp 1 6 rfl)
      simp only [List.getElem_toArray, List.getElem_cons_succ, List.getElem_cons_zero, execOp, Option.map_some, Option.map_none]; rw [q5, q6]
      have hi9 : (i : Int) < (len : Int) := by omega
      first | (go_simp; done) | (go_simp; rfl) | rfl
    · refine RU.ObT.pure rfl rfl rfl (fun a V hf hp ev he hc W => ?_)
      have q9 : ev (.tmp 9) = .pointer (some ⟨b, o + i * 65, none⟩) := (he (.tmp 9)).trans (hp 4 9 rfl)
      simp only [List.getElem_toArray, List.getElem_cons_succ, List.getElem_cons_zero, execOp, Option.map_some, Option.map_none]; rw [q9]
      first | (go_simp; done) | (go_simp; rfl) | rfl
    · refine RU.ObT.pure rfl rfl rfl (fun a V hf hp ev he hc W => ?_)
      have q10 : ev (.tmp 10) = .pointer (some ⟨b, o + i * 65 + 1, none⟩) := (he (.tmp 10)).trans (hp 5 10 rfl)
      have q8 : ev (.tmp 8) = .int .i64 (cq : Int) := (he (.tmp 8)).trans (hp 3 8 rfl)
      simp only [List.getElem_toArray, List.getElem_cons_succ, List.getElem_cons_zero, execOp, Option.map_some, Option.map_none]; rw [q10, q8]
      have hc9 : (cq : Int) < 32 := by omega
      have hc8 : cq < 32 := by omega
      first | (go_simp; done) | (go_simp; rfl) | rfl
    · refine RU.ObT.silent rfl (fun a W k0 V hO hf hp hk => ?_)
      have hO' : Below w.heap.size w W := hO
      have hcell := (hO'.cell (p := ⟨b, o + i * 65 + 1 + cq, none⟩) hbb.out).trans HG.out
      refine RU.ob_val rfl (RU.wanted_none rfl) (fun ev he hc => ?_) ⟨rfl, hO⟩
      have q11 : ev (.tmp 11) = .pointer (some ⟨b, o + i * 65 + 1 + cq, none⟩) := (he (.tmp 11)).trans (hp 6 11 rfl)
      simp only [List.getElem_toArray, List.getElem_cons_succ, List.getElem_cons_zero, execOp, Option.map_some, Option.map_none]; rw [q11]
      first | (go_simp; done) | (go_simp; rfl) | rfl
    · refine RU.ObT.silent rfl (fun a W k0 V hO hf hp hk => ?_)
      have hO' : Below w.heap.size w W := hO
      have hcell := (hO'.cell (p := ⟨bc, 0, none⟩) hbc.out).trans HC.out
      refine RU.ob_val rfl (RU.wanted_none rfl) (fun ev he hc => ?_) ⟨rfl, hO⟩
      have q2 : ev (.tmp 2) = .pointer (some ⟨bc, 0, none⟩) := (he (.tmp 2)).trans (hf 2 rfl)
      simp only [List.getElem_toArray, List.getElem_cons_succ, List.getElem_cons_zero, execOp, Option.map_some, Option.map_none]; rw [q2]
      first | (go_simp; done) | (go_simp; rfl) | rfl
    · refine RU.ObT.pure rfl rfl rfl (fun a V hf hp ev he hc W => ?_)
      have q13 : ev (.tmp 13) = .int .i64 (c : Int) := (he (.tmp 13)).trans (hp 8 13 rfl)
      simp only [List.getElem_toArray, List.getElem_cons_succ, List.getElem_cons_zero, execOp, Option.map_some, Option.map_none]; rw [q13]
      try simp only [hc]
      have hm8 := HM.out
      go_simp; show Value.int .i64 (Int.tmod (c : Int) 8) = Value.int .i64 (cr : Int); rw [Int.tmod_eq_emod_of_nonneg (by omega), HM.out]
    · refine RU.ObT.pure rfl rfl rfl (fun a V hf hp ev he hc W => ?_)
      have q14 : ev (.tmp 14) = .int .i64 (cr : Int) := (he (.tmp 14)).trans (hp 9 14 rfl)
      simp only [List.getElem_toArray, List.getElem_cons_succ, List.getElem_cons_zero, execOp, Option.map_some, Option.map_none]; rw [q14]
      try simp only [hc]
      have hr9 : cr < 8 := by omega
      go_simp; show Value.int .i64 (IntKind.i64.wrap (7 - (cr : Int))) = Value.int .i64 (7 - (cr : Int)); rw [IntKind.wrap_i64]; congr 1; omega
    · refine RU.ObT.pure rfl rfl rfl (fun a V hf hp ev he hc W => ?_)
      have q12 : ev (.tmp 12) = .int .u8 g := (he (.tmp 12)).trans (hp 7 12 rfl)
      have q15 : ev (.tmp 15) = .int .i64 (7 - (cr : Int)) := (he (.tmp 15)).trans (hp 10 15 rfl)
      simp only [List.getElem_toArray, List.getElem_cons_succ, List.getElem_cons_zero, execOp, Option.map_some, Option.map_none]; rw [q12, q15]
      have hr9 : cr < 8 := by omega
      have hg9 := HGB.out
      first | (go_simp; done) | (go_simp; rfl) | rfl
    · refine RU.ObT.pure rfl rfl rfl (fun a V hf hp ev he hc W => ?_)
      have q16 : ev (.tmp 16) = .int .u8 (g / 2 ^ (7 - cr)) := (he (.tmp 16)).trans (hp 11 16 rfl)
      simp only [List.getElem_toArray, List.getElem_cons_succ, List.getElem_cons_zero, execOp, Option.map_some, Option.map_none]; rw [q16]
      try simp only [hc]
      first | (go_simp; done) | (go_simp; rfl) | rfl
    · refine RU.ObT.pure rfl rfl rfl (fun a V hf hp ev he hc W => ?_)
      have q17 : ev (.tmp 17) = .int .u8 (bits .and .u8 (g / 2 ^ (7 - cr)) 1) := (he (.tmp 17)).trans (hp 12 17 rfl)
      simp only [List.getElem_toArray, List.getElem_cons_succ, List.getElem_cons_zero, execOp, Option.map_some, Option.map_none]; rw [q17]
      try simp only [hc]
      first | (go_simp; done) | (go_simp; rfl) | rfl
    · refine RU.ObT.pure rfl rfl rfl (fun a V hf hp ev he hc W => ?_)
      have q18 : ev (.tmp 18) = .bool (decide (bits .and .u8 (g / 2 ^ (7 - cr)) 1 = 1)) := (he (.tmp 18)).trans (hp 13 18 rfl)
      simp only [List.getElem_toArray, List.getElem_cons_succ, List.getElem_cons_zero, execOp, Option.map_some, Option.map_none]; rw [q18]
      first | (go_simp; done) | (go_simp; rfl) | rfl
  intro W1 VW1 hOW1
  have BW1 : Hid (Below w.heap.size w W1) := hOW1
  clear hOW1
  simp only [RU.lay, RU.val, RU.at', gh1f, Act.put]
  simp only [List.setIfInBounds_toArray, List.set_cons_succ, List.set_cons_zero]
  go_wp2_with fail
  go_ret
  refine ⟨?_, BW1.out⟩
  rw [HR.out]; rfl
def gh2f (dp : Option Addr) (b o len cap m q r : Nat) : Nat → Value
  | 0 => .slice (some ⟨b, o, none⟩) len cap
  | 1 => .int .i64 (m : Int)
  | 2 => .slice (some ⟨b, o, none⟩) m cap
  | 3 => .slice (some ⟨b, o, none⟩) len cap
  | 4 => .int .i64 (m : Int)
  | 5 => .slice dp q r
  | 6 => .slice (some ⟨b, o, none⟩) m cap
  | 7 => .slice dp q r
  | _ => undef
set_option maxHeartbeats 4000000 in
theorem halvesG_any (l : List Nd) (hr : Ris l) (hne : l ≠ []) (c : Nat) (hc : c < 256) (hs : ∀ x ∈ l, ∀ z ∈ l, Shr x.p z.p c) (v : Value) (w : World) (hv : NS w v l) (hn : l.length ≤ 140737488355328) :
    Calls Tryd.prog 26 #[v, .int .i64 (c : Int)] w fun e w' => ∃ v1 v2, e = .returned (.tuple #[v1, v2]) ∧ NS w' v1 (l.take (cut c l)) ∧ NS w' v2 (l.drop (cut c l)) ∧ (∀ b, v1.ownBlock = some b → v.ownBlock = some b) ∧ (∀ b, v2.ownBlock = some b → v.ownBlock = some b) ∧ Below w.heap.size w w' := by
  have HNS : Hid (NS w v l) := hv
  have HNE : Hid (l ≠ []) := hne
  have hc2 := cut_le c l
  obtain ⟨m, hm⟩ : ∃ m, cut c l = m := ⟨_, rfl⟩
  have HLO : Hid (∀ i, i < m → bitB l c i = false) := fun i hi => by
    unfold bitB
    cases e : l[i]? with
    | none => rfl
    | some x =>
      have := cut_lo c l i x e (by omega)
      simp [this]
  have HHI : Hid (∀ i, m ≤ i → i < l.length → bitB l c i = true) := fun i h1 h2 => by
    unfold bitB
    rw [List.getElem?_eq_getElem h2]
    have : bt l[i].p c = 1 := mem_hic hr hc hs (List.mem_of_getElem? (i := i - cut c l) (by rw [List.getElem?_drop, show cut c l + (i - cut c l) = i by omega]; exact List.getElem?_eq_getElem h2))
    simp [this]
  rw [hm] at hc2 ⊢
  obtain ⟨len, hlen⟩ : ∃ len, l.length = len := ⟨_, rfl⟩
  have HLEN : Hid (l.length = len) := hlen
  have HOK : Hid (∀ x ∈ l, x.Ok) := hr.ok
  obtain ⟨ad, cap, rfl, hcp, hx⟩ := hv
  rcases hx with ⟨h0, _⟩ | ⟨b, o, rfl, hlb, -⟩
  · exact absurd h0 hne
  have hrz : ∀ (w : World) (u : Value), (w.alloc (.cells #[u] 28)).cell? ⟨w.heap.size, 0, none⟩ = some u := fun w u => cell_alloc w #[u] _ _ 0
  rw [hlen] at hn hcp hc2 HHI ⊢
  obtain ⟨X, hX⟩ : ∃ X, (w.alloc (.cells #[.slice (some ⟨b, o, none⟩) len cap] 28)).alloc (.cells #[.int .i64 (c : Int)] 3) = X := ⟨_, rfl⟩
  have BX : Hid (Below w.heap.size w X) := by rw [← hX]; exact ((Below.refl _ w).alloc (Nat.le_refl _) _).alloc (by simp) _
  obtain ⟨D, hD⟩ : ∃ D, w.heap.size = D := ⟨_, rfl⟩
  have hbX : Below (D + 1) (w.alloc (.cells #[.slice (some ⟨b, o, none⟩) len cap] 28)) X := by rw [← hX]; exact (Below.refl _ _).alloc (by simp [hD]) _
  have CV : X.cell? ⟨D, 0, none⟩ = some (.slice (some ⟨b, o, none⟩) len cap) := (hbX.cell (p := ⟨D, 0, none⟩) (Nat.lt_succ_self _)).trans (by rw [← hD]; exact hrz w _)
  have CC : Hid (X.cell? ⟨D + 1, 0, none⟩ = some (.int .i64 (c : Int))) := by
    show X.cell? _ = _
    have := cell_alloc (w.alloc (.cells #[.slice (some ⟨b, o, none⟩) len cap] 28)) #[.int .i64 (c : Int)] 3 (0, 0) 0
    rw [hX] at this
    rw [show D + 1 = (w.alloc (.cells #[.slice (some ⟨b, o, none⟩) len cap] 28)).heap.size by simp [hD]]
    exact this
  have hXs : X.heap.size = D + 2 := by rw [← hX, ← hD]; simp
  have HXS : Hid (X.heap.size = D + 2) := hXs
  have HSE : Hid (Calls Tryd.prog 42 #[.int .i64 (len : Int), .func (.func 43) #[] #[.pointer (some ⟨D, 0, none⟩), .pointer (some ⟨D + 1, 0, none⟩)]] X fun e w' => e = .returned (.int .i64 (m : Int)) ∧ Below X.heap.size X w') := by
    refine SearchG_any (bitB l c) len m hn (by omega) HLO.out HHI.out _ _ X (fun i W hi hb => ?_)
    have hns : NS W (.slice (some ⟨b, o, none⟩) len cap) l := by have := (HNS.out.below BX.out).below hb; rw [HLEN.out] at this; exact this
    exact gclosure_any l HOK.out _ W hns D (D + 1) c i ((hb.cell (p := ⟨D, 0, none⟩) (by show D < X.heap.size; omega)).trans CV) ((hb.cell (p := ⟨D + 1, 0, none⟩) (by show D + 1 < X.heap.size; omega)).trans CC.out) hc (by rw [HLEN.out]; exact hi)
  clear hr hs hne hlb hm hlen hbX hXs
  go_enter Tryd.func26, Tryd.ntmps26
  go_upto_region 1 with (fail)
  try rw [hX]
  try rw [hD]
  clear hX hD hrz
  go_upto_region 2 with (go_at_call 42; refine HSE.out.mono ?_; rintro e' w2 ⟨rfl, h5⟩; have B2 : Hid (Below X.heap.size X w2) := h5; clear h5)
  have hDW : Hid (D < w2.heap.size) := Nat.lt_of_lt_of_le (by have := HXS.out; omega) B2.out.size
  have CV2 : Hid (w2.cell? ⟨D, 0, none⟩ = some (.slice (some ⟨b, o, none⟩) len cap)) := (B2.out.cell (p := ⟨D, 0, none⟩) (by show D < X.heap.size; have := HXS.out; omega)).trans CV
  clear CV
  have fin : ∀ W3, Below w2.heap.size w2 W3 → NS W3 (.slice (some ⟨b, o, none⟩) l.length cap) l ∧ Below w.heap.size w W3 := fun W3 q => ⟨((HNS.out.below BX.out).below B2.out).below q, Below.tr' BX.out (Below.tr' B2.out q)⟩
  have FIN : Hid (∀ W3, Below w2.heap.size w2 W3 → NS W3 (.slice (some ⟨b, o, none⟩) l.length cap) l ∧ Below w.heap.size w W3) := fin
  clear fin
  by_cases hcm : cap = m
  · subst hcm
    have hlm : len = cap := by omega
    subst hlm
    refine RU.wp_rgn' [] (gh2f (some ⟨b, o, none⟩) b o len len len 0 0) (fun _ => 0) (gΩ w2) (by kernel_rfl) (by kernel_rfl) (show Below w2.heap.size w2 _ from (Below.refl _ _).drew) ?_ ?_
    · refine ⟨?_, ?_, ?_, ?_, ?_, ?_, ?_, ?_, trivial⟩
      · refine RU.ObT.silent rfl (fun a W k0 V hO hf hp hk => ?_)
        have hO' : Below w2.heap.size w2 W := hO
        have hcell := (hO'.cell (p := ⟨D, 0, none⟩) hDW.out).trans CV2.out
        refine RU.ob_val rfl (RU.wanted_none rfl) (fun ev he hc => ?_) ⟨rfl, hO⟩
        have q2 : ev (.tmp 2) = .pointer (some ⟨D, 0, none⟩) := (he (.tmp 2)).trans (hf 2 rfl)
        simp only [List.getElem_toArray, List.getElem_cons_succ, List.getElem_cons_zero, execOp, Option.map_some, Option.map_none]; rw [q2]
        first | (go_simp; done) | (go_simp; rfl) | rfl
      · refine RU.ObT.pure rfl rfl rfl (fun a V hf hp ev he hc W => ?_)
        have q6 : ev (.tmp 6) = .int .i64 (len : Int) := (he (.tmp 6)).trans (hf 6 rfl)
        simp only [List.getElem_toArray, List.getElem_cons_succ, List.getElem_cons_zero, execOp, Option.map_some, Option.map_none]; rw [q6]
        first | (go_simp; done) | (go_simp; rfl) | rfl
      · refine RU.ObT.pure rfl rfl rfl (fun a V hf hp ev he hc W => ?_)
        have q11 : ev (.tmp 11) = .slice (some ⟨b, o, none⟩) len len := (he (.tmp 11)).trans (hp 0 11 rfl)
        have q12 : ev (.tmp 12) = .int .i64 (len : Int) := (he (.tmp 12)).trans (hp 1 12 rfl)
        simp only [List.getElem_toArray, List.getElem_cons_succ, List.getElem_cons_zero, execOp, Option.map_some, Option.map_none]; rw [q11, q12]
        have hm1 : (len : Int) ≤ (len : Int) := by omega
        have hm2 : (len : Int) ≤ (len : Int) := by omega
        have hm3 : (len : Int) ≤ (len : Int) := by omega
        first | (go_simp; done) | (go_simp; rfl) | rfl
      · refine RU.ObT.silent rfl (fun a W k0 V hO hf hp hk => ?_)
        have hO' : Below w2.heap.size w2 W := hO
        have hcell := (hO'.cell (p := ⟨D, 0, none⟩) hDW.out).trans CV2.out
        refine RU.ob_val rfl (RU.wanted_none rfl) (fun ev he hc => ?_) ⟨rfl, hO⟩
        have q2 : ev (.tmp 2) = .pointer (some ⟨D, 0, none⟩) := (he (.tmp 2)).trans (hf 2 rfl)
        simp only [List.getElem_toArray, List.getElem_cons_succ, List.getElem_cons_zero, execOp, Option.map_some, Option.map_none]; rw [q2]
        first | (go_simp; done) | (go_simp; rfl) | rfl
      · refine RU.ObT.pure rfl rfl rfl (fun a V hf hp ev he hc W => ?_)
        have q6 : ev (.tmp 6) = .int .i64 (len : Int) := (he (.tmp 6)).trans (hf 6 rfl)
        simp only [List.getElem_toArray, List.getElem_cons_succ, List.getElem_cons_zero, execOp, Option.map_some, Option.map_none]; rw [q6]
        first | (go_simp; done) | (go_simp; rfl) | rfl
      · refine RU.ObT.pure rfl rfl rfl (fun a V hf hp ev he hc W => ?_)
        have q14 : ev (.tmp 14) = .slice (some ⟨b, o, none⟩) len len := (he (.tmp 14)).trans (hp 3 14 rfl)
        have q15 : ev (.tmp 15) = .int .i64 (len : Int) := (he (.tmp 15)).trans (hp 4 15 rfl)
        simp only [List.getElem_toArray, List.getElem_cons_succ, List.getElem_cons_zero, execOp, Option.map_some, Option.map_none]; rw [q14, q15]
        have hm1 : (len : Int) ≤ (len : Int) := by omega
        have hm2 : (len : Int) ≤ (len : Int) := by omega
        have hm3 : (len : Int) ≤ (len : Int) := by omega
        first | (go_simp; done) | (go_simp; rfl) | rfl
      · refine RU.ObT.pure rfl rfl rfl (fun a V hf hp ev he hc W => ?_)
        have q13 : ev (.tmp 13) = .slice (some ⟨b, o, none⟩) len len := (he (.tmp 13)).trans (hp 2 13 rfl)
        simp only [List.getElem_toArray, List.getElem_cons_succ, List.getElem_cons_zero, execOp, Option.map_some, Option.map_none]; rw [q13]
        first | (go_simp; done) | (go_simp; rfl) | rfl
      · refine RU.ObT.pure rfl rfl rfl (fun a V hf hp ev he hc W => ?_)
        have q16 : ev (.tmp 16) = .slice (some ⟨b, o, none⟩) 0 0 := (he (.tmp 16)).trans (hp 5 16 rfl)
        simp only [List.getElem_toArray, List.getElem_cons_succ, List.getElem_cons_zero, execOp, Option.map_some, Option.map_none]; rw [q16]
        first | (go_simp; done) | (go_simp; rfl) | rfl
    intro W3 VW3 hOW3
    have BW3 : Hid (Below w2.heap.size w2 W3) := hOW3
    clear hOW3
    simp only [RU.lay, RU.val, RU.at', gh2f, Act.put]
    simp only [List.setIfInBounds_toArray, List.set_cons_succ, List.set_cons_zero]
    go_wp2_with fail
    go_ret2
    obtain ⟨n1, n2⟩ := FIN.out W3 BW3.out
    have e1 : l.take len = l := by rw [← HLEN.out]; exact List.take_length
    have e2 : l.drop len = [] := by rw [← HLEN.out]; exact List.drop_length
    refine ⟨_, _, rfl, by rw [e1]; have := n1; rw [HLEN.out] at this; exact this, ?_, fun b h => h, fun b h => h, n2⟩
    rw [e2]
    exact ⟨_, 0, rfl, Nat.zero_le _, .inl ⟨rfl, fun h => by cases h⟩⟩
  · have HCM : Hid (¬ cap = m) := hcm
    refine RU.wp_rgn' [] (gh2f (some ⟨b, o + m * 65, none⟩) b o len cap m (len - m) (cap - m)) (fun _ => 0) (gΩ w2) (by kernel_rfl) (by kernel_rfl) (show Below w2.heap.size w2 _ from (Below.refl _ _).drew) ?_ ?_
    · refine ⟨?_, ?_, ?_, ?_, ?_, ?_, ?_, ?_, trivial⟩
      · refine RU.ObT.silent rfl (fun a W k0 V hO hf hp hk => ?_)
        have hO' : Below w2.heap.size w2 W := hO
        have hcell := (hO'.cell (p := ⟨D, 0, none⟩) hDW.out).trans CV2.out
        refine RU.ob_val rfl (RU.wanted_none rfl) (fun ev he hc => ?_) ⟨rfl, hO⟩
        have q2 : ev (.tmp 2) = .pointer (some ⟨D, 0, none⟩) := (he (.tmp 2)).trans (hf 2 rfl)
        simp only [List.getElem_toArray, List.getElem_cons_succ, List.getElem_cons_zero, execOp, Option.map_some, Option.map_none]; rw [q2]
        first | (go_simp; done) | (go_simp; rfl) | rfl
      · refine RU.ObT.pure rfl rfl rfl (fun a V hf hp ev he hc W => ?_)
        have q6 : ev (.tmp 6) = .int .i64 (m : Int) := (he (.tmp 6)).trans (hf 6 rfl)
        simp only [List.getElem_toArray, List.getElem_cons_succ, List.getElem_cons_zero, execOp, Option.map_some, Option.map_none]; rw [q6]
        first | (go_simp; done) | (go_simp; rfl) | rfl
      · refine RU.ObT.pure rfl rfl rfl (fun a V hf hp ev he hc W => ?_)
        have q11 : ev (.tmp 11) = .slice (some ⟨b, o, none⟩) len cap := (he (.tmp 11)).trans (hp 0 11 rfl)
        have q12 : ev (.tmp 12) = .int .i64 (m : Int) := (he (.tmp 12)).trans (hp 1 12 rfl)
        simp only [List.getElem_toArray, List.getElem_cons_succ, List.getElem_cons_zero, execOp, Option.map_some, Option.map_none]; rw [q11, q12]
        have hm1 : (m : Int) ≤ (len : Int) := by omega
        have hm2 : (m : Int) ≤ (cap : Int) := by omega
        have hm3 : (len : Int) ≤ (cap : Int) := by omega
        first | (go_simp; done) | (go_simp; rfl) | rfl
      · refine RU.ObT.silent rfl (fun a W k0 V hO hf hp hk => ?_)
        have hO' : Below w2.heap.size w2 W := hO
        have hcell := (hO'.cell (p := ⟨D, 0, none⟩) hDW.out).trans CV2.out
        refine RU.ob_val rfl (RU.wanted_none rfl) (fun ev he hc => ?_) ⟨rfl, hO⟩
        have q2 : ev (.tmp 2) = .pointer (some ⟨D, 0, none⟩) := (he (.tmp 2)).trans (hf 2 rfl)
        simp only [List.getElem_toArray, List.getElem_cons_succ, List.getElem_cons_zero, execOp, Option.map_some, Option.map_none]; rw [q2]
        first | (go_simp; done) | (go_simp; rfl) | rfl
      · refine RU.ObT.pure rfl rfl rfl (fun a V hf hp ev he hc W => ?_)
        have q6 : ev (.tmp 6) = .int .i64 (m : Int) := (he (.tmp 6)).trans (hf 6 rfl)
        simp only [List.getElem_toArray, List.getElem_cons_succ, List.getElem_cons_zero, execOp, Option.map_some, Option.map_none]; rw [q6]
        first | (go_simp; done) | (go_simp; rfl) | rfl
      · refine RU.ObT.pure rfl rfl rfl (fun a V hf hp ev he hc W => ?_)
        have q14 : ev (.tmp 14) = .slice (some ⟨b, o, none⟩) len cap := (he (.tmp 14)).trans (hp 3 14 rfl)
        have q15 : ev (.tmp 15) = .int .i64 (m : Int) := (he (.tmp 15)).trans (hp 4 15 rfl)
        simp only [List.getElem_toArray, List.getElem_cons_succ, List.getElem_cons_zero, execOp, Option.map_some, Option.map_none]; rw [q14, q15]
        have hm1 : (m : Int) ≤ (len : Int) := by omega
        have hm2 : (m : Int) ≤ (cap : Int) := by omega
        have hm3 : (len : Int) ≤ (cap : Int) := by omega
        have hcm9 : ¬ cap = m := HCM.out
        first | (go_simp; done) | (go_simp; rfl) | rfl
      · refine RU.ObT.pure rfl rfl rfl (fun a V hf hp ev he hc W => ?_)
        have q13 : ev (.tmp 13) = .slice (some ⟨b, o, none⟩) m cap := (he (.tmp 13)).trans (hp 2 13 rfl)
        simp only [List.getElem_toArray, List.getElem_cons_succ, List.getElem_cons_zero, execOp, Option.map_some, Option.map_none]; rw [q13]
        first | (go_simp; done) | (go_simp; rfl) | rfl
      · refine RU.ObT.pure rfl rfl rfl (fun a V hf hp ev he hc W => ?_)
        have q16 : ev (.tmp 16) = .slice (some ⟨b, o + m * 65, none⟩) (len - m) (cap - m) := (he (.tmp 16)).trans (hp 5 16 rfl)
        simp only [List.getElem_toArray, List.getElem_cons_succ, List.getElem_cons_zero, execOp, Option.map_some, Option.map_none]; rw [q16]
        first | (go_simp; done) | (go_simp; rfl) | rfl
    intro W3 VW3 hOW3
    have BW3 : Hid (Below w2.heap.size w2 W3) := hOW3
    clear hOW3
    simp only [RU.lay, RU.val, RU.at', gh2f, Act.put]
    simp only [List.setIfInBounds_toArray, List.set_cons_succ, List.set_cons_zero]
    go_wp2_with fail
    go_ret2
    obtain ⟨n1, n2⟩ := FIN.out W3 BW3.out
    refine ⟨_, _, rfl, n1.take HNE.out (by rw [HLEN.out]; omega), ?_, fun b h => h, fun b h => h, n2⟩
    have := n1.drop HNE.out (m := m) (by rw [HLEN.out]; omega)
    rw [HLEN.out] at this
    exact this
end Go.Proofs.YtpojalbpekbfdabDoor
