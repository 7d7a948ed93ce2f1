/- Package tree: halves. -/
import Derived.Test.YtpojalbpekbfdabDoorTreV
namespace Go.Proofs.YtpojalbpekbfdabDoor
open Go Go.RowKit
set_option linter.unusedSimpArgs false
set_option linter.unusedVariables false
set_option maxRecDepth 100000

def hvcf (b o len cap i c z : Nat) (p : List Int) : Nat → Value
  | 0 => .slice (some ⟨b, o, none⟩) len cap
  | 1 => .int .i64 (i : Int)
  | 2 => .pointer (some ⟨b, o + i * 65, none⟩)
  | 3 => .pointer (some ⟨b, o + i * 65 + 1, none⟩)
  | 4 => .agg (bv p).toArray
  | 5 => .int .i64 (c : Int)
  | 6 => .int .u8 (z : Int)
  | 7 => .bool (decide ((z : Int) = 1))
  | 8 => .bool (decide ((z : Int) = 1))
  | _ => undef
/-- Does the bit c of the node at a place stand? -/
def bitB (l : List Nd) (c i : Nat) : Bool := match l[i]? with | some x => decide (bt x.p c = 1) | none => false
set_option maxHeartbeats 4000000 in
theorem hclosure_any (l : List Nd) (hk : ∀ x ∈ l, x.Ok) (v : Value) (w : World) (hv : NS w v l) (bn bc c i : Nat) (hn : w.cell? ⟨bn, 0, none⟩ = some v) (hc : w.cell? ⟨bc, 0, none⟩ = some (.int .i64 (c : Int))) (hc2 : c < 256) (hi : i < l.length) :
    Calls Tryd.prog 82 #[.int .i64 (i : Int), .pointer (some ⟨bn, 0, none⟩), .pointer (some ⟨bc, 0, none⟩)] w fun e w' => e = .returned (.bool (bitB l c i)) ∧ Below w.heap.size w w' := by
  obtain ⟨ad, cap, rfl, hcp, hx⟩ := hv
  rcases hx with ⟨h0, _⟩ | ⟨b, o, rfl, hlb, hm⟩
  · rw [h0] at hi; simp at hi
  obtain ⟨x, hx⟩ : ∃ x, l[i]? = some x := ⟨l[i], List.getElem?_eq_getElem hi⟩
  obtain ⟨len, hlen⟩ : ∃ len, l.length = len := ⟨_, rfl⟩
  obtain ⟨p, hp⟩ : ∃ p, x.p = p := ⟨_, rfl⟩
  obtain ⟨z, hz⟩ : ∃ z, bt p c = z := ⟨_, rfl⟩
  have HP : Hid (L32 p) := by rw [← hp]; exact (hk x (List.mem_of_getElem? hx)).p
  have RP : Hid (w.rangeAt b (o + i * 65 + 1) (bv p)) := by rw [← hp]; exact nc_p (hm i x hx)
  have HBT : Hid (∀ W : World, Calls Tryd.prog 83 #[.agg (bv p).toArray, .int .i64 (c : Int)] W fun e w' => e = .returned (.int .u8 (z : Int)) ∧ Below W.heap.size W w') := fun W => by rw [← hz]; exact bit_any p HP.out c hc2 W
  have HR : Hid (bitB l c i = decide ((z : Int) = 1)) := by
    show bitB l c i = _
    unfold bitB; rw [hx]
    show decide (bt x.p c = 1) = _
    rw [hp, hz]; exact decide_eq_decide.2 (by omega)
  rw [hlen] at hn hi
  have HN : Hid (w.cell? ⟨bn, 0, none⟩ = some (.slice (some ⟨b, o, none⟩) len cap)) := hn
  have HC : Hid (w.cell? ⟨bc, 0, none⟩ = some (.int .i64 (c : Int))) := hc
  have lt_of : ∀ (q : Nat) (u : Value), w.cell? ⟨q, 0, none⟩ = some u → q < w.heap.size := fun q u h => by
    unfold World.cell? at h
    cases hh : w.heap[q]? with
    | none => simp only [hh] at h; cases h
    | some X => exact (Array.getElem?_eq_some_iff.1 hh).1
  have hbn : Hid (bn < w.heap.size) := lt_of _ _ hn
  have hbc : Hid (bc < w.heap.size) := lt_of _ _ hc
  have hbb : Hid (b < w.heap.size) := hlb
  clear hm hlb hx hp hz hk hn hc hlen lt_of hcp
  go_enter Tryd.func82, Tryd.ntmps82
  go_wp2_with fail
  refine RU.wp_rgn' [] (hvcf b o len cap i c z p) (fun _ => 0) (gΩ w) (by kernel_rfl) (by kernel_rfl) (show Below w.heap.size w _ from (Below.refl _ _).drew) ?_ ?_
  · refine ⟨?_, ?_, ?_, ?_, ?_, ?_, ?_, ?_, ?_, trivial⟩
    · refine RU.ObT.silent rfl (fun a W k0 V hO hf hp hk => ?_)
      have hO' : Below w.heap.size w W := hO
      have hcell := (hO'.cell (p := ⟨bn, 0, none⟩) hbn.out).trans HN.out
      refine RU.ob_val rfl (RU.wanted_none rfl) (fun ev he hc => ?_) ⟨rfl, hO⟩
      have q1 : ev (.tmp 1) = .pointer (some ⟨bn, 0, none⟩) := (he (.tmp 1)).trans (hf 1 rfl)
      simp only [List.getElem_toArray, List.getElem_cons_succ, List.getElem_cons_zero, execOp, Option.map_some, Option.map_none]; rw [q1]
      first | (go_simp; done) | (go_simp; rfl) | rfl
    · refine RU.ObT.pure rfl rfl rfl (fun a V hf hp ev he hc W => ?_)
      have q0 : ev (.tmp 0) = .int .i64 (i : Int) := (he (.tmp 0)).trans (hf 0 rfl)
      simp only [List.getElem_toArray, List.getElem_cons_succ, List.getElem_cons_zero, execOp, Option.map_some, Option.map_none]; rw [q0]
      first | (go_simp; done) | (go_simp; rfl) | rfl
    · refine RU.ObT.pure rfl rfl rfl (fun a V hf hp ev he hc W => ?_)
      have q5 : ev (.tmp 5) = .slice (some ⟨b, o, none⟩) len cap := (he (.tmp 5)).trans (hp 0 5 rfl)
      have q6 : ev (.tmp 6) = .int .i64 (i : Int) := (he (.tmp 6)).trans (hp 1 6 rfl)
      simp only [List.getElem_toArray, List.getElem_cons_succ, List.getElem_cons_zero, execOp, Option.map_some, Option.map_none]; rw [q5, q6]
      have hi9 : (i : Int) < (len : Int) := by omega
      first | (go_simp; done) | (go_simp; rfl) | rfl
    · refine RU.ObT.pure rfl rfl rfl (fun a V hf hp ev he hc W => ?_)
      have q7 : ev (.tmp 7) = .pointer (some ⟨b, o + i * 65, none⟩) := (he (.tmp 7)).trans (hp 2 7 rfl)
      simp only [List.getElem_toArray, List.getElem_cons_succ, List.getElem_cons_zero, execOp, Option.map_some, Option.map_none]; rw [q7]
      first | (go_simp; done) | (go_simp; rfl) | rfl
    · refine RU.ObT.silent rfl (fun a W k0 V hO hf hp hk => ?_)
      have hO' : Below w.heap.size w W := hO
      have q8 : a.eval (.tmp 8) = .pointer (some ⟨b, o + i * 65 + 1, none⟩) := hp 3 8 rfl
      exact RU.ob_op rfl (RU.wanted_none rfl) (wp_load_mid 25 (.tmp 8) rfl (b) (o + i * 65 + 1) q8 (bv p) _ (range_below RP.out hO' hbb.out) Tryd.underlying25 rfl (size_l32 HP.out) ⟨rfl, hO⟩)
    · refine RU.ObT.silent rfl (fun a W k0 V hO hf hp hk => ?_)
      have hO' : Below w.heap.size w W := hO
      have hcell := (hO'.cell (p := ⟨bc, 0, none⟩) hbc.out).trans HC.out
      refine RU.ob_val rfl (RU.wanted_none rfl) (fun ev he hc => ?_) ⟨rfl, hO⟩
      have q2 : ev (.tmp 2) = .pointer (some ⟨bc, 0, none⟩) := (he (.tmp 2)).trans (hf 2 rfl)
      simp only [List.getElem_toArray, List.getElem_cons_succ, List.getElem_cons_zero, execOp, Option.map_some, Option.map_none]; rw [q2]
      first | (go_simp; done) | (go_simp; rfl) | rfl
    · refine RU.ObT.silent rfl (fun a W k0 V hO hf hp hk => ?_)
      have hO' : Below w.heap.size w W := hO
      have e9 : a.eval (.tmp 9) = .agg (bv p).toArray := hp 4 9 rfl
      have e10 : a.eval (.tmp 10) = .int .i64 (c : Int) := hp 5 10 rfl
      refine RU.ob_call (g := 83) (args := #[.agg (bv p).toArray, .int .i64 (c : Int)]) rfl (RU.wanted_none rfl) (fun ev he hc => ?_) ((HBT.out W).mono ?_)
      · have h9 := (he (.tmp 9)).trans e9
        have h10 := (he (.tmp 10)).trans e10
        have hfn := he (.func 83)
        simp only [List.getElem_toArray, List.getElem_cons_succ, List.getElem_cons_zero, execOp, Option.map_some, Option.map_none]
        simp only [resolve, invoke, Sem.run_bind, Sem.run_pure, Result.andThen_ok, List.map_toArray, List.map_cons, List.map_nil, h9, h10, hfn, Act.eval, hc]
        rfl
      · rintro e' W2 ⟨rfl, hb2⟩
        exact ⟨_, rfl, rfl, (hO'.trans (hb2.mono hO'.size) : Below w.heap.size w W2)⟩
    · refine RU.ObT.pure rfl rfl rfl (fun a V hf hp ev he hc W => ?_)
      have q11 : ev (.tmp 11) = .int .u8 (z : Int) := (he (.tmp 11)).trans (hp 6 11 rfl)
      simp only [List.getElem_toArray, List.getElem_cons_succ, List.getElem_cons_zero, execOp, Option.map_some, Option.map_none]; rw [q11]
      try simp only [hc]
      first | (go_simp; done) | (go_simp; rfl) | rfl
    · refine RU.ObT.pure rfl rfl rfl (fun a V hf hp ev he hc W => ?_)
      have q12 : ev (.tmp 12) = .bool (decide ((z : Int) = 1)) := (he (.tmp 12)).trans (hp 7 12 rfl)
      simp only [List.getElem_toArray, List.getElem_cons_succ, List.getElem_cons_zero, execOp, Option.map_some, Option.map_none]; rw [q12]
      first | (go_simp; done) | (go_simp; rfl) | rfl
  intro W1 VW1 hOW1
  have BW1 : Hid (Below w.heap.size w W1) := hOW1
  clear hOW1
  simp only [RU.lay, RU.val, RU.at', hvcf, Act.put]
  simp only [List.setIfInBounds_toArray, List.set_cons_succ, List.set_cons_zero]
  go_wp2_with fail
  go_ret
  exact ⟨by rw [HR.out]; rfl, BW1.out⟩
set_option maxHeartbeats 4000000 in
theorem Search_any (f : Nat → Bool) (n m : Nat) (hn : n ≤ 140737488355328) (hm : m ≤ n) (hlo : ∀ i, i < m → f i = false) (hhi : ∀ i, m ≤ i → i < n → f i = true) (p1 p2 : Value) (w : World)
    (hf : ∀ (i : Nat) (W : World), i < n → Below w.heap.size w W → Calls Tryd.prog 82 #[.int .i64 (i : Int), p1, p2] W fun e w' => e = .returned (.bool (f i)) ∧ Below W.heap.size W w') :
    Calls Tryd.prog 42 #[.int .i64 (n : Int), .func (.func 82) #[] #[p1, p2]] w fun e w' => e = .returned (.int .i64 (m : Int)) ∧ Below w.heap.size w w' := by
  have HF : Hid (∀ (i : Nat) (W : World), i < n → Below w.heap.size w W → Calls Tryd.prog 82 #[.int .i64 (i : Int), p1, p2] W fun e w' => e = .returned (.bool (f i)) ∧ Below W.heap.size W w') := hf
  have HLO : Hid (∀ i, i < m → f i = false) := hlo
  have HHI : Hid (∀ i, m ≤ i → i < n → f i = true) := hhi
  clear hf hlo hhi
  go_enter Tryd.func42, Tryd.ntmps42
  go_wp2_with fail
  go_loopw [5, 6] (fun i j wr => ∃ (a b : Nat), a ≤ m ∧ m ≤ b ∧ b ≤ n ∧ i = .int .i64 (a : Int) ∧ j = .int .i64 (b : Int) ∧ Below w.heap.size w wr) (fun i j _ => (intOf j).toNat - (intOf i).toNat)
  case atStart => exact ⟨0, n, Nat.zero_le _, hm, Nat.le_refl _, rfl, rfl, Below.refl _ _⟩
  case round =>
    obtain ⟨i, j, h1, h2, h3, rfl, rfl, h4⟩ := hrel
    have H4 : Hid (Below w.heap.size w wr) := h4
    clear h4
    by_cases hlt : i < j
    · obtain ⟨k, hk⟩ : ∃ k : Nat, ((i : Int) + (j : Int)) / 2 = (k : Int) := ⟨(i + j) / 2, by omega⟩
      have hk1 : i ≤ k ∧ k < j := by omega
      have hkn : k < n := by omega
      cases hb : f k with
      | false =>
        have hkm : k < m := by
          rcases Nat.lt_or_ge k m with h | h
          · exact h
          · have := HHI.out k h hkn; rw [hb] at this; cases this
        have HCL : Hid (Calls Tryd.prog 82 #[.int .i64 (k : Int), p1, p2] wr fun e w' => e = .returned (.bool false) ∧ Below wr.heap.size wr w') := by have := HF.out k wr hkn H4.out; rw [hb] at this; exact this
        clear hb
        go_wp2_with ((go_at_call 82; refine HCL.out.mono ?_; rintro e w2 ⟨rfl, h5⟩; have H5 : Hid (Below wr.heap.size wr w2) := h5; clear h5))
        exact ⟨⟨k + 1, j, hkm, h2, h3, by go_num, rfl, H4.out.trans (H5.out.mono H4.out.size)⟩, by simp [intOf]; omega⟩
      | true =>
        have hkm : m ≤ k := by
          rcases Nat.lt_or_ge k m with h | h
          · have := HLO.out k h; rw [hb] at this; cases this
          · exact h
        have HCL : Hid (Calls Tryd.prog 82 #[.int .i64 (k : Int), p1, p2] wr fun e w' => e = .returned (.bool true) ∧ Below wr.heap.size wr w') := by have := HF.out k wr hkn H4.out; rw [hb] at this; exact this
        clear hb
        go_wp2_with ((go_at_call 82; refine HCL.out.mono ?_; rintro e w2 ⟨rfl, h5⟩; have H5 : Hid (Below wr.heap.size wr w2) := h5; clear h5))
        exact ⟨⟨i, k, h1, hkm, by omega, rfl, rfl, H4.out.trans (H5.out.mono H4.out.size)⟩, by simp [intOf]; omega⟩
    · obtain rfl : i = m := by omega
      go_wp2_with fail
      go_ret
      exact ⟨rfl, H4.out⟩
end Go.Proofs.YtpojalbpekbfdabDoor
