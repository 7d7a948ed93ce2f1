/- Package tree: halves. -/
import Derived.Test.YtpojalbpekbfdabDoorTreW
namespace Go.Proofs.YtpojalbpekbfdabDoor
open Go Go.RowKit
set_option linter.unusedSimpArgs false
set_option linter.unusedVariables false
set_option maxRecDepth 100000

theorem NS.take {w : World} {l : List Nd} {b o cap m : Nat} (h : NS w (.slice (some ⟨b, o, none⟩) l.length cap) l) (hne : l ≠ []) (hm : m ≤ l.length) : NS w (.slice (some ⟨b, o, none⟩) m cap) (l.take m) := by
  obtain ⟨ad, cap', he, hc, hx⟩ := h
  simp only [Value.slice.injEq] at he
  obtain ⟨rfl, -, rfl⟩ := he
  have hl : (l.take m).length = m := by rw [List.length_take]; omega
  rcases hx with ⟨h0, _⟩ | ⟨b', o', e, hlb, hm'⟩
  · exact absurd h0 hne
  · simp only [Option.some.injEq, Addr.mk.injEq, and_true] at e
    obtain ⟨rfl, rfl⟩ := e
    refine ⟨_, cap, by rw [hl], by omega, .inr ⟨b, o, rfl, hlb, fun i x hi => hm' i x ?_⟩⟩
    rw [List.getElem?_take] at hi
    split at hi
    · exact hi
    · cases hi
theorem NS.drop {w : World} {l : List Nd} {b o cap m : Nat} (h : NS w (.slice (some ⟨b, o, none⟩) l.length cap) l) (hne : l ≠ []) (hm : m ≤ l.length) : NS w (.slice (some ⟨b, o + m * 65, none⟩) (l.length - m) (cap - m)) (l.drop m) := by
  obtain ⟨ad, cap', he, hc, hx⟩ := h
  simp only [Value.slice.injEq] at he
  obtain ⟨rfl, -, rfl⟩ := he
  rcases hx with ⟨h0, _⟩ | ⟨b', o', e, hlb, hm'⟩
  · exact absurd h0 hne
  · simp only [Option.some.injEq, Addr.mk.injEq, and_true] at e
    obtain ⟨rfl, rfl⟩ := e
    refine ⟨_, cap - m, by rw [List.length_drop], by rw [List.length_drop]; omega, .inr ⟨b, o + m * 65, rfl, hlb, fun i x hi => ?_⟩⟩
    rw [List.getElem?_drop] at hi
    have := hm' _ x hi
    rw [show o + (m + i) * 65 = o + m * 65 + i * 65 by rw [Nat.add_mul]; omega] at this
    exact this
/-- A number in a new block. -/
def hvΩ (U : World) (c : Int) : Nat → (Nat → Value) → World → Prop
  | 0, _, W => Below U.heap.size U W
  | 1, V, W => Below U.heap.size U W ∧ ∃ bc, V 0 = .pointer (some ⟨bc, 0, none⟩) ∧ U.heap.size ≤ bc ∧ W.heap[bc]? = some (.cells #[.int .i64 0] 3 (0, 0))
  | _ + 2, V, W => Below U.heap.size U W ∧ ∃ bc, V 0 = .pointer (some ⟨bc, 0, none⟩) ∧ U.heap.size ≤ bc ∧ W.heap[bc]? = some (.cells #[.int .i64 c] 3 (0, 0))
theorem hvΩ.below {U : World} {c : Int} {k : Nat} {V : Nat → Value} {W : World} (h : hvΩ U c k V W) : Below U.heap.size U W := by
  match k, h with
  | 0, h => exact h
  | 1, h => exact h.1
  | k + 2, h => exact h.1
theorem hvΩ.more {U : World} {c : Int} {k : Nat} {V : Nat → Value} {W W2 : World} (h : hvΩ U c k V W) (hb : Below W.heap.size W W2) : hvΩ U c k V W2 := by
  have hl : ∀ (bc : Nat) (X : Obj), W.heap[bc]? = some X → W2.heap[bc]? = some X := fun bc X e => (hb.block bc (Array.getElem?_eq_some_iff.1 e).1).trans e
  match k, h with
  | 0, h => exact (Below.trans h (hb.mono h.size) : Below U.heap.size U W2)
  | 1, ⟨h, bc, h1, h2, h3⟩ => exact ⟨h.trans (hb.mono h.size), bc, h1, h2, hl _ _ h3⟩
  | k + 2, ⟨h, bc, h1, h2, h3⟩ => exact ⟨h.trans (hb.mono h.size), bc, h1, h2, hl _ _ h3⟩
def hv1f (b o len cap e c : Nat) (p0 p1 : List Int) : Nat → Value
  | 0 => .slice (some ⟨b, o, none⟩) len cap
  | 1 => .pointer (some ⟨b, o, none⟩)
  | 2 => .pointer (some ⟨b, o + 1, none⟩)
  | 3 => .agg (bv p0).toArray
  | 4 => .slice (some ⟨b, o, none⟩) len cap
  | 5 => .slice (some ⟨b, o, none⟩) len cap
  | 6 => .int .i64 (len : Int)
  | 7 => .int .i64 (e : Int)
  | 8 => .pointer (some ⟨b, o + e * 65, none⟩)
  | 9 => .pointer (some ⟨b, o + e * 65 + 1, none⟩)
  | 10 => .agg (bv p1).toArray
  | 11 => .int .i64 (c : Int)
  | 12 => undef
  | 13 => undef
  | _ => undef
def hv3f (b o len cap m : Nat) : Nat → Value
  | 0 => .slice (some ⟨b, o, none⟩) len cap
  | 1 => .int .i64 (m : Int)
  | 2 => .slice (some ⟨b, o, none⟩) m cap
  | 3 => .slice (some ⟨b, o, none⟩) len cap
  | 4 => .int .i64 (m : Int)
  | 5 => .slice (some ⟨b, o + m * 65, none⟩) (len - m) (cap - m)
  | 6 => .slice (some ⟨b, o, none⟩) m cap
  | 7 => .slice (some ⟨b, o + m * 65, none⟩) (len - m) (cap - m)
  | _ => undef
set_option maxHeartbeats 4000000 in
theorem halves_any (l : List Nd) (hr : Ris l) (h2 : 2 ≤ l.length) (v : Value) (w : World) (hv : NS w v l) (hn : l.length ≤ 140737488355328) :
    Calls Tryd.prog 66 #[v] w fun e w' => ∃ v1 v2, e = .returned (.tuple #[v1, v2]) ∧ NS w' v1 (l.take (cut (cl l) l)) ∧ NS w' v2 (l.drop (cut (cl l) l)) ∧ Below w.heap.size w w' := by
  have HNS : Hid (NS w v l) := hv
  have hne : l ≠ [] := fun h0 => by rw [h0] at h2; simp at h2
  obtain ⟨hc1, hc2⟩ := hr.cut_in h2
  have hcl := hr.cl_lt h2
  obtain ⟨m, hm⟩ : ∃ m, cut (cl l) l = m := ⟨_, rfl⟩
  obtain ⟨c, hc⟩ : ∃ c, cl l = c := ⟨_, rfl⟩
  have HLO : Hid (∀ i, i < m → bitB l c i = false) := fun i hi => by
    unfold bitB
    cases e : l[i]? with
    | none => rfl
    | some x =>
      have := cut_lo (cl l) l i x e (by omega)
      simp only; rw [← hc, this]; rfl
  have HHI : Hid (∀ i, m ≤ i → i < l.length → bitB l c i = true) := fun i h3 h4 => by
    obtain ⟨x, hx⟩ : ∃ x, l[i]? = some x := ⟨l[i], List.getElem?_eq_getElem h4⟩
    have := hr.cut_hi h2 hx (by omega)
    unfold bitB; rw [hx]; simp only; rw [← hc, this]; rfl
  obtain ⟨x0, hx0⟩ : ∃ x, l[0]? = some x := ⟨l[0]'(by omega), List.getElem?_eq_getElem (by omega)⟩
  obtain ⟨x1, hx1⟩ : ∃ x, l[l.length - 1]? = some x := ⟨l[l.length - 1]'(by omega), List.getElem?_eq_getElem (by omega)⟩
  have HOK : Hid (∀ x ∈ l, x.Ok) := hr.ok
  have HCM : Hid (∀ W : World, Calls Tryd.prog 65 #[.agg (bv x0.p).toArray, .agg (bv x1.p).toArray] W fun e w' => e = .returned (.int .i64 (c : Int)) ∧ Below W.heap.size W w') := fun W => by
    have := common_any x0.p x1.p W (hr.ok x0 (List.mem_of_getElem? hx0)).p (hr.ok x1 (List.mem_of_getElem? hx1)).p
    rw [← hc]; unfold cl; rw [hp_eq hx0, lp_eq hx1]; exact this
  have HP0 : Hid (L32 x0.p) := (hr.ok x0 (List.mem_of_getElem? hx0)).p
  have HP1 : Hid (L32 x1.p) := (hr.ok x1 (List.mem_of_getElem? hx1)).p
  obtain ⟨e, hel⟩ : ∃ e, l.length = e + 1 := ⟨l.length - 1, by omega⟩
  rw [hm] at hc1 hc2 ⊢
  rw [hc] at hcl
  obtain ⟨ad, cap, rfl, hcp, hx⟩ := hv
  rcases hx with ⟨h0, _⟩ | ⟨b, o, rfl, hlb, hmm⟩
  · exact absurd h0 hne
  have r0 : w.rangeAt b (o + 1) (bv x0.p) := by have := nc_p (hmm 0 x0 hx0); rw [show o + 0 * 65 = o by omega] at this; exact this
  have r1 : w.rangeAt b (o + e * 65 + 1) (bv x1.p) := by have := nc_p (hmm _ x1 hx1); rw [show l.length - 1 = e by omega] at this; exact this
  obtain ⟨len, hlen⟩ : ∃ len, l.length = len := ⟨_, rfl⟩
  have HLEN : Hid (l.length = len) := hlen
  rw [hlen] at hn hc2 hcp hel HHI ⊢
  have HE : Hid (len = e + 1) := hel
  have HNE : Hid (l ≠ []) := hne
  obtain ⟨p0, hp0⟩ : ∃ p, x0.p = p := ⟨_, rfl⟩
  obtain ⟨p1, hp1⟩ : ∃ p, x1.p = p := ⟨_, rfl⟩
  rw [hp0] at r0 HCM HP0
  rw [hp1] at r1 HCM HP1
  clear hm hc hx0 hx1 hr h2 hmm hlen hel hne hp0 hp1
  go_enter Tryd.func66, Tryd.ntmps66
  go_wp2_with fail
  obtain ⟨U, hU⟩ : ∃ U, w.alloc (.cells #[.slice (some ⟨b, o, none⟩) len cap] 28) = U := ⟨_, rfl⟩
  have bU : Below w.heap.size w U := by rw [← hU]; exact (Below.refl _ w).alloc (Nat.le_refl _) _
  have sU : U.heap.size = w.heap.size + 1 := by rw [← hU]; simp
  have cU : U.cell? ⟨w.heap.size, 0, none⟩ = some (.slice (some ⟨b, o, none⟩) len cap) := by rw [← hU]; exact cell_alloc w #[_] _ _ 0
  rw [hU]
  have R0 : Hid (U.rangeAt b (o + 1) (bv p0)) := range_below r0 bU hlb
  have R1 : Hid (U.rangeAt b (o + e * 65 + 1) (bv p1)) := range_below r1 bU hlb
  have hbU : Hid (b < U.heap.size) := by show b < _; omega
  have BU : Hid (Below w.heap.size w U) := bU
  obtain ⟨D, hD⟩ : ∃ D, w.heap.size = D := ⟨_, rfl⟩
  rw [hD] at cU sU ⊢
  have HV : Hid (U.cell? ⟨D, 0, none⟩ = some (.slice (some ⟨b, o, none⟩) len cap)) := cU
  have hDU : Hid (D < U.heap.size) := by show D < _; omega
  clear hU bU sU cU r0 r1 hlb hD
  refine RU.wp_rgn' [12, 13] (hv1f b o len cap e c p0 p1) (fun _ => 1) (hvΩ U (c : Int)) (by kernel_rfl) (by kernel_rfl) (show Below U.heap.size U _ from (Below.refl _ _).drew) ?_ ?_
  · refine ⟨?_, ?_, ?_, ?_, ?_, ?_, ?_, ?_, ?_, ?_, ?_, ?_, ?_, ?_, trivial⟩
    · refine RU.ObT.silent rfl (fun a W k0 V hO hf hp hk => ?_)
      have hO' : Below U.heap.size U W := hvΩ.below hO
      have hcell := (hO'.cell (p := ⟨D, 0, none⟩) hDU.out).trans HV.out
      refine RU.ob_val rfl (RU.wanted_none rfl) (fun ev he hc => ?_) ⟨rfl, hO⟩
      have q1 : ev (.tmp 1) = .pointer (some ⟨D, 0, none⟩) := (he (.tmp 1)).trans (hf 1 rfl)
      simp only [List.getElem_toArray, List.getElem_cons_succ, List.getElem_cons_zero, execOp, Option.map_some, Option.map_none]; rw [q1]
      first | (go_simp; done) | (go_simp; rfl) | rfl
    · refine RU.ObT.pure rfl rfl rfl (fun a V hf hp ev he hc W => ?_)
      have q6 : ev (.tmp 6) = .slice (some ⟨b, o, none⟩) len cap := (he (.tmp 6)).trans (hp 0 6 rfl)
      simp only [List.getElem_toArray, List.getElem_cons_succ, List.getElem_cons_zero, execOp, Option.map_some, Option.map_none]; rw [q6]
      try simp only [hc]
      have hl0 : (0 : Int) < (len : Int) := by have := HE.out; omega
      have hl1 : 0 < len := by have := HE.out; omega
      first | (go_simp; done) | (go_simp; rfl) | rfl
    · refine RU.ObT.pure rfl rfl rfl (fun a V hf hp ev he hc W => ?_)
      have q7 : ev (.tmp 7) = .pointer (some ⟨b, o, none⟩) := (he (.tmp 7)).trans (hp 1 7 rfl)
      simp only [List.getElem_toArray, List.getElem_cons_succ, List.getElem_cons_zero, execOp, Option.map_some, Option.map_none]; rw [q7]
      first | (go_simp; done) | (go_simp; rfl) | rfl
    · refine RU.ObT.silent rfl (fun a W k0 V hO hf hp hk => ?_)
      have hO' : Below U.heap.size U W := hvΩ.below hO
      have q8 : a.eval (.tmp 8) = .pointer (some ⟨b, o + 1, none⟩) := hp 2 8 rfl
      exact RU.ob_op rfl (RU.wanted_none rfl) (wp_load_mid 25 (.tmp 8) rfl (b) (o + 1) q8 (bv p0) _ (range_below R0.out hO' hbU.out) Tryd.underlying25 rfl (size_l32 HP0.out) ⟨rfl, hO⟩)
    · refine RU.ObT.silent rfl (fun a W k0 V hO hf hp hk => ?_)
      have hO' : Below U.heap.size U W := hvΩ.below hO
      have hcell := (hO'.cell (p := ⟨D, 0, none⟩) hDU.out).trans HV.out
      refine RU.ob_val rfl (RU.wanted_none rfl) (fun ev he hc => ?_) ⟨rfl, hO⟩
      have q1 : ev (.tmp 1) = .pointer (some ⟨D, 0, none⟩) := (he (.tmp 1)).trans (hf 1 rfl)
      simp only [List.getElem_toArray, List.getElem_cons_succ, List.getElem_cons_zero, execOp, Option.map_some, Option.map_none]; rw [q1]
      first | (go_simp; done) | (go_simp; rfl) | rfl
    · refine RU.ObT.silent rfl (fun a W k0 V hO hf hp hk => ?_)
      have hO' : Below U.heap.size U W := hvΩ.below hO
      have hcell := (hO'.cell (p := ⟨D, 0, none⟩) hDU.out).trans HV.out
      refine RU.ob_val rfl (RU.wanted_none rfl) (fun ev he hc => ?_) ⟨rfl, hO⟩
      have q1 : ev (.tmp 1) = .pointer (some ⟨D, 0, none⟩) := (he (.tmp 1)).trans (hf 1 rfl)
      simp only [List.getElem_toArray, List.getElem_cons_succ, List.getElem_cons_zero, execOp, Option.map_some, Option.map_none]; rw [q1]
      first | (go_simp; done) | (go_simp; rfl) | rfl
    · refine RU.ObT.pure rfl rfl rfl (fun a V hf hp ev he hc W => ?_)
      have q11 : ev (.tmp 11) = .slice (some ⟨b, o, none⟩) len cap := (he (.tmp 11)).trans (hp 5 11 rfl)
      simp only [List.getElem_toArray, List.getElem_cons_succ, List.getElem_cons_zero, execOp, Option.map_some, Option.map_none]; simp only [resolve, invoke, builtin, Sem.run_bind, Sem.run_pure, Result.andThen_ok, List.map_toArray, List.map_cons, List.map_nil, q11]
      first | (go_simp; done) | (go_simp; rfl) | rfl
    · refine RU.ObT.pure rfl rfl rfl (fun a V hf hp ev he hc W => ?_)
      have q12 : ev (.tmp 12) = .int .i64 (len : Int) := (he (.tmp 12)).trans (hp 6 12 rfl)
      simp only [List.getElem_toArray, List.getElem_cons_succ, List.getElem_cons_zero, execOp, Option.map_some, Option.map_none]; rw [q12]
      try simp only [hc]
      have hw1 : IntKind.i64.wrap ((len : Int) - 1) = (e : Int) := by have := HE.out; rw [IntKind.wrap_i64]; omega
      first | (go_simp; done) | (go_simp; rfl) | rfl
    · refine RU.ObT.pure rfl rfl rfl (fun a V hf hp ev he hc W => ?_)
      have q10 : ev (.tmp 10) = .slice (some ⟨b, o, none⟩) len cap := (he (.tmp 10)).trans (hp 4 10 rfl)
      have q13 : ev (.tmp 13) = .int .i64 (e : Int) := (he (.tmp 13)).trans (hp 7 13 rfl)
      simp only [List.getElem_toArray, List.getElem_cons_succ, List.getElem_cons_zero, execOp, Option.map_some, Option.map_none]; rw [q10, q13]
      have he9 : (e : Int) < (len : Int) := by have := HE.out; omega
      first | (go_simp; done) | (go_simp; rfl) | rfl
    · refine RU.ObT.pure rfl rfl rfl (fun a V hf hp ev he hc W => ?_)
      have q14 : ev (.tmp 14) = .pointer (some ⟨b, o + e * 65, none⟩) := (he (.tmp 14)).trans (hp 8 14 rfl)
      simp only [List.getElem_toArray, List.getElem_cons_succ, List.getElem_cons_zero, execOp, Option.map_some, Option.map_none]; rw [q14]
      first | (go_simp; done) | (go_simp; rfl) | rfl
    · refine RU.ObT.silent rfl (fun a W k0 V hO hf hp hk => ?_)
      have hO' : Below U.heap.size U W := hvΩ.below hO
      have q15 : a.eval (.tmp 15) = .pointer (some ⟨b, o + e * 65 + 1, none⟩) := hp 9 15 rfl
      exact RU.ob_op rfl (RU.wanted_none rfl) (wp_load_mid 25 (.tmp 15) rfl (b) (o + e * 65 + 1) q15 (bv p1) _ (range_below R1.out hO' hbU.out) Tryd.underlying25 rfl (size_l32 HP1.out) ⟨rfl, hO⟩)
    · refine RU.ObT.silent rfl (fun a W k0 V hO hf hp hk => ?_)
      have hO' : Below U.heap.size U W := hvΩ.below hO
      have e9 : a.eval (.tmp 9) = .agg (bv p0).toArray := hp 3 9 rfl
      have e16 : a.eval (.tmp 16) = .agg (bv p1).toArray := hp 10 16 rfl
      refine RU.ob_call (g := 65) (args := #[.agg (bv p0).toArray, .agg (bv p1).toArray]) rfl (RU.wanted_none rfl) (fun ev he hc => ?_) ((HCM.out W).mono ?_)
      · have h9 := (he (.tmp 9)).trans e9
        have h16 := (he (.tmp 16)).trans e16
        have hfn := he (.func 65)
        simp only [List.getElem_toArray, List.getElem_cons_succ, List.getElem_cons_zero, execOp, Option.map_some, Option.map_none]
        simp only [resolve, invoke, Sem.run_bind, Sem.run_pure, Result.andThen_ok, List.map_toArray, List.map_cons, List.map_nil, h9, h16, hfn, Act.eval, hc]
        rfl
      · rintro e' W2 ⟨rfl, hb2⟩
        exact ⟨_, rfl, rfl, hvΩ.more hO hb2⟩
    · refine RU.ObT.loud (j := 0) rfl (fun a W V hO hf hp => ?_)
      have hO' : Below U.heap.size U W := hO
      refine RU.ob_run (v := .pointer (some ⟨W.heap.size, 0, none⟩)) (w' := W.alloc (.cells #[.int .i64 0] 3)) rfl (RU.wanted_none rfl) (fun ev he hc => ?_) ⟨_, rfl, hO'.alloc hO'.size _, W.heap.size, rfl, hO'.size, by show (W.heap.push _)[W.heap.size]? = _; simp⟩
      simp only [List.getElem_toArray, List.getElem_cons_succ, List.getElem_cons_zero, execOp]
      go_simp
    · refine RU.ObT.loud (j := 1) rfl (fun a W V hO hf hp => ?_)
      obtain ⟨hO', bc, hV, hU, hcl⟩ := hO
      have q4 : a.eval (.tmp 4) = .pointer (some ⟨bc, 0, none⟩) := (hp 12 4 rfl).trans hV
      have q17 : a.eval (.tmp 17) = .int .i64 (c : Int) := hp 11 17 rfl
      have hcell : W.cell? ⟨bc, 0, none⟩ = some (.int .i64 0) := by unfold World.cell?; rw [hcl]; rfl
      have hfr : W.frozen? ⟨bc, 0, none⟩ = false := by unfold World.frozen?; rw [hcl]; simp
      refine RU.ob_skip (w' := W.setCell ⟨bc, 0, none⟩ (.int .i64 (c : Int))) rfl (RU.wanted_none rfl) (fun ev he hc => ?_) ⟨_, rfl, hO'.trans ⟨rfl, rfl, rfl, by simp [World.setCell], fun k hk => Below.heap_setCell _ _ _ k (by show k ≠ bc; omega)⟩, bc, hV, hU, ?_⟩
      · have e1 := (he (.tmp 4)).trans q4
        have e2 := (he (.tmp 17)).trans q17
        simp only [List.getElem_toArray, List.getElem_cons_succ, List.getElem_cons_zero, execOp]
        rw [e1, e2]
        go_simp
      · rw [heap_setCell_same _ _ _ _ _ _ hcl]; rfl
  intro W1 VW1 hOW1
  obtain ⟨b1, bc, hbc1, hbc2, hbc3⟩ := hOW1
  have B1 : Hid (Below U.heap.size U W1) := b1
  have CC : Hid (W1.cell? ⟨bc, 0, none⟩ = some (.int .i64 (c : Int))) := by show W1.cell? _ = _; unfold World.cell?; rw [hbc3]; rfl
  have CV : W1.cell? ⟨D, 0, none⟩ = some (.slice (some ⟨b, o, none⟩) len cap) := (b1.cell (p := ⟨D, 0, none⟩) hDU.out).trans HV.out
  clear b1 hbc2 hbc3
  simp only [RU.lay, RU.val, RU.at', hv1f, Act.put, hbc1]
  simp only [List.setIfInBounds_toArray, List.set_cons_succ, List.set_cons_zero]
  have HSE : Hid (Calls Tryd.prog 42 #[.int .i64 (len : Int), .func (.func 82) #[] #[.pointer (some ⟨D, 0, none⟩), .pointer (some ⟨bc, 0, none⟩)]] W1 fun e w' => e = .returned (.int .i64 (m : Int)) ∧ Below W1.heap.size W1 w') := by
    have hbcl : bc < W1.heap.size := by
      have := CC.out
      unfold World.cell? at this
      cases hh : W1.heap[bc]? with
      | none => simp only [hh] at this; cases this
      | some X => exact (Array.getElem?_eq_some_iff.1 hh).1
    refine Search_any (bitB l c) len m hn (by omega) HLO.out HHI.out _ _ W1 (fun i W hi hb => ?_)
    have hns : NS W (.slice (some ⟨b, o, none⟩) len cap) l := by have := ((HNS.out.below BU.out).below B1.out).below hb; rw [HLEN.out] at this; exact this
    exact hclosure_any l HOK.out _ W hns D bc c i ((hb.cell (p := ⟨D, 0, none⟩) (Nat.lt_of_lt_of_le hDU.out B1.out.size)).trans CV) ((hb.cell (p := ⟨bc, 0, none⟩) hbcl).trans CC.out) hcl (by rw [HLEN.out]; exact hi)
  go_wp2_with (go_at_call 42; refine HSE.out.mono ?_; rintro e' w2 ⟨rfl, h5⟩; have B2 : Hid (Below W1.heap.size W1 w2) := h5; clear h5)
  have hDW : Hid (D < w2.heap.size) := Nat.lt_of_lt_of_le (Nat.lt_of_lt_of_le hDU.out B1.out.size) B2.out.size
  have CV2 : Hid (w2.cell? ⟨D, 0, none⟩ = some (.slice (some ⟨b, o, none⟩) len cap)) := (B2.out.cell (p := ⟨D, 0, none⟩) (Nat.lt_of_lt_of_le hDU.out B1.out.size)).trans CV
  clear CV
  refine RU.wp_rgn' [] (hv3f b o len cap m) (fun _ => 0) (gΩ w2) (by kernel_rfl) (by kernel_rfl) (show Below w2.heap.size w2 _ from (Below.refl _ _).drew) ?_ ?_
  · refine ⟨?_, ?_, ?_, ?_, ?_, ?_, ?_, ?_, trivial⟩
    · refine RU.ObT.silent rfl (fun a W k0 V hO hf hp hk => ?_)
      have hO' : Below w2.heap.size w2 W := hO
      have hcell := (hO'.cell (p := ⟨D, 0, none⟩) hDW.out).trans CV2.out
      refine RU.ob_val rfl (RU.wanted_none rfl) (fun ev he hc => ?_) ⟨rfl, hO⟩
      have q1 : ev (.tmp 1) = .pointer (some ⟨D, 0, none⟩) := (he (.tmp 1)).trans (hf 1 rfl)
      simp only [List.getElem_toArray, List.getElem_cons_succ, List.getElem_cons_zero, execOp, Option.map_some, Option.map_none]; rw [q1]
      first | (go_simp; done) | (go_simp; rfl) | rfl
    · refine RU.ObT.pure rfl rfl rfl (fun a V hf hp ev he hc W => ?_)
      have q5 : ev (.tmp 5) = .int .i64 (m : Int) := (he (.tmp 5)).trans (hf 5 rfl)
      simp only [List.getElem_toArray, List.getElem_cons_succ, List.getElem_cons_zero, execOp, Option.map_some, Option.map_none]; rw [q5]
      first | (go_simp; done) | (go_simp; rfl) | rfl
    · refine RU.ObT.pure rfl rfl rfl (fun a V hf hp ev he hc W => ?_)
      have q22 : ev (.tmp 22) = .slice (some ⟨b, o, none⟩) len cap := (he (.tmp 22)).trans (hp 0 22 rfl)
      have q23 : ev (.tmp 23) = .int .i64 (m : Int) := (he (.tmp 23)).trans (hp 1 23 rfl)
      simp only [List.getElem_toArray, List.getElem_cons_succ, List.getElem_cons_zero, execOp, Option.map_some, Option.map_none]; rw [q22, q23]
      have hm1 : (m : Int) ≤ (len : Int) := by omega
      have hm2 : (m : Int) ≤ (cap : Int) := by omega
      have hm3 : (len : Int) ≤ (cap : Int) := by omega
      first | (go_simp; done) | (go_simp; rfl) | rfl
    · refine RU.ObT.silent rfl (fun a W k0 V hO hf hp hk => ?_)
      have hO' : Below w2.heap.size w2 W := hO
      have hcell := (hO'.cell (p := ⟨D, 0, none⟩) hDW.out).trans CV2.out
      refine RU.ob_val rfl (RU.wanted_none rfl) (fun ev he hc => ?_) ⟨rfl, hO⟩
      have q1 : ev (.tmp 1) = .pointer (some ⟨D, 0, none⟩) := (he (.tmp 1)).trans (hf 1 rfl)
      simp only [List.getElem_toArray, List.getElem_cons_succ, List.getElem_cons_zero, execOp, Option.map_some, Option.map_none]; rw [q1]
      first | (go_simp; done) | (go_simp; rfl) | rfl
    · refine RU.ObT.pure rfl rfl rfl (fun a V hf hp ev he hc W => ?_)
      have q5 : ev (.tmp 5) = .int .i64 (m : Int) := (he (.tmp 5)).trans (hf 5 rfl)
      simp only [List.getElem_toArray, List.getElem_cons_succ, List.getElem_cons_zero, execOp, Option.map_some, Option.map_none]; rw [q5]
      first | (go_simp; done) | (go_simp; rfl) | rfl
    · refine RU.ObT.pure rfl rfl rfl (fun a V hf hp ev he hc W => ?_)
      have q25 : ev (.tmp 25) = .slice (some ⟨b, o, none⟩) len cap := (he (.tmp 25)).trans (hp 3 25 rfl)
      have q26 : ev (.tmp 26) = .int .i64 (m : Int) := (he (.tmp 26)).trans (hp 4 26 rfl)
      simp only [List.getElem_toArray, List.getElem_cons_succ, List.getElem_cons_zero, execOp, Option.map_some, Option.map_none]; rw [q25, q26]
      have hm1 : (m : Int) ≤ (len : Int) := by omega
      have hm2 : (m : Int) ≤ (cap : Int) := by omega
      have hm3 : (len : Int) ≤ (cap : Int) := by omega
      have hcm : ¬ cap = m := by omega
      first | (go_simp; done) | (go_simp; rfl) | rfl
    · refine RU.ObT.pure rfl rfl rfl (fun a V hf hp ev he hc W => ?_)
      have q24 : ev (.tmp 24) = .slice (some ⟨b, o, none⟩) m cap := (he (.tmp 24)).trans (hp 2 24 rfl)
      simp only [List.getElem_toArray, List.getElem_cons_succ, List.getElem_cons_zero, execOp, Option.map_some, Option.map_none]; rw [q24]
      first | (go_simp; done) | (go_simp; rfl) | rfl
    · refine RU.ObT.pure rfl rfl rfl (fun a V hf hp ev he hc W => ?_)
      have q27 : ev (.tmp 27) = .slice (some ⟨b, o + m * 65, none⟩) (len - m) (cap - m) := (he (.tmp 27)).trans (hp 5 27 rfl)
      simp only [List.getElem_toArray, List.getElem_cons_succ, List.getElem_cons_zero, execOp, Option.map_some, Option.map_none]; rw [q27]
      first | (go_simp; done) | (go_simp; rfl) | rfl
  intro W3 VW3 hOW3
  have BW3 : Hid (Below w2.heap.size w2 W3) := hOW3
  clear hOW3
  simp only [RU.lay, RU.val, RU.at', hv3f, Act.put]
  simp only [List.setIfInBounds_toArray, List.set_cons_succ, List.set_cons_zero]
  go_wp2_with fail
  go_ret2
  have hns : NS W3 (.slice (some ⟨b, o, none⟩) l.length cap) l := (((HNS.out.below BU.out).below B1.out).below B2.out).below BW3.out
  refine ⟨_, _, rfl, hns.take HNE.out (by rw [HLEN.out]; omega), ?_, (BU.out.trans (B1.out.mono BU.out.size)).trans ((B2.out.trans (BW3.out.mono B2.out.size)).mono (Nat.le_trans BU.out.size B1.out.size))⟩
  have := hns.drop HNE.out (m := m) (by rw [HLEN.out]; omega)
  rw [HLEN.out] at this
  exact this
end Go.Proofs.YtpojalbpekbfdabDoor
