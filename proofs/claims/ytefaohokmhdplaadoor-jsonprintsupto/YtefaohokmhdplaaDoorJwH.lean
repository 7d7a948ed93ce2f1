/- The law: any value's text is the document's. -/
import Derived.Test.YtefaohokmhdplaaDoorJwG
import Derived.Test.YtefaohokmhdplaaDoorJyF
namespace Go.Proofs.YtefaohokmhdplaaDoor
open Go Go.RowKit
set_option linter.unusedSimpArgs false
set_option linter.unusedVariables false
set_option maxRecDepth 100000

def prΩ (U : World) (T : ByteArray) (j : JT) (k : Nat) (V : Nat → Value) (W : World) : Prop :=
  Below U.heap.size U W ∧ (k = 1 → ∃ (v : Value) (A : Nat → Prop), V 0 = v ∧ VT A W v j) ∧ (2 ≤ k → V 1 = .string T) ∧ (k = 3 → ∃ (x : Tv) (A : Nat → Prop), V 2 = x.val ∧ OT A W x j) ∧ (4 ≤ k → V 3 = .string T) ∧ (5 ≤ k → V 4 = .bool true) ∧ (6 ≤ k → V 5 = .bool true)
theorem lc_range {W : World} {b : Nat} {x : Tv} (h : LC W b x) : W.rangeAt b 0 (tcv x) := fun j v hv => by
  rw [Nat.zero_add, cell_of_row W b j _ _ _ h]
  simpa using hv
def prt5 (K : Nat) (x : Tv) : Nat → Value
  | 0 => Tv.val x
  | 1 => undef
  | 2 => undef
  | 3 => Tv.val x
  | 4 => undef
  | 5 => undef
  | 6 => undef
  | 7 => undef
  | _ => undef
set_option maxHeartbeats 16000000 in
theorem prints_walk {A : Nat → Prop} {w : World} {x : Tv} {j : JT} {ev : Value} (h : LT A w x j) (hs : SJ j) (hn : (tp j).length ≤ 1000000000) (hv : EV w ev) :
    Calls Tryd.prog 4 #[x.val] w fun e w' => e = .returned (.bool true) ∧ Below w.heap.size w w' := by
  have HA : Hid (∀ W, Below w.heap.size w W → Calls Tryd.prog 9 #[] W fun e w' => e = .returned (.bool true) ∧ Below W.heap.size W w') := fun W hb => awake_any (hv.below hb)
  have HDP : Hid (DPC w x j) := deep_any h hs
  have HVL0 := value_tree h hs
  have HOU0 := ours_tree h hs
  have HSJ : Hid (SJ j) := hs
  have HLN : Hid ((tp j).length ≤ 1000000000) := hn
  obtain ⟨xk, xb, xt, ⟨ka, kn, kc⟩, ⟨pa, pn, pc⟩⟩ := x
  have HVL : Hid (∀ W, Below w.heap.size w W → Calls Tryd.prog 15 #[Tv.val ⟨xk, xb, xt, ⟨ka, kn, kc⟩, ⟨pa, pn, pc⟩⟩] W fun e W' => ∃ v, e = .returned v ∧ VT (fun b => W.heap.size ≤ b) W' v j ∧ Below W.heap.size W W') := HVL0
  have HOU : Hid (∀ W, Below w.heap.size w W → Calls Tryd.prog 17 #[Tv.val ⟨xk, xb, xt, ⟨ka, kn, kc⟩, ⟨pa, pn, pc⟩⟩] W fun e W' => ∃ y : Tv, e = .returned y.val ∧ OT (fun b => W.heap.size ≤ b) W' y j ∧ Below W.heap.size W W') := HOU0
  have HDC : Hid (∀ W, Below w.heap.size w W → Calls Tryd.prog 13 #[.agg #[.int .i64 xk, .bool xb, .string xt, .slice ka kn kc, .slice pa pn pc], .int .i64 200] W fun e W' => e = .returned (.bool (dpM j 200)) ∧ Below W.heap.size W W') := fun W hb => HDP.out W 200 hb (by omega) (by omega)
  rw [show Tv.val ⟨xk, xb, xt, ⟨ka, kn, kc⟩, ⟨pa, pn, pc⟩⟩ = .agg #[.int .i64 xk, .bool xb, .string xt, .slice ka kn kc, .slice pa pn pc] from rfl]
  have HB0 : Hid (Below w.heap.size w (w.alloc (.cells #[.int .i64 xk, .bool xb, .string xt, .slice ka kn kc, .slice pa pn pc] 38))) := (Below.refl _ _).alloc (Nat.le_refl _) _
  have HL0 : Hid (LC (w.alloc (.cells #[.int .i64 xk, .bool xb, .string xt, .slice ka kn kc, .slice pa pn pc] 38)) w.heap.size ⟨xk, xb, xt, ⟨ka, kn, kc⟩, ⟨pa, pn, pc⟩⟩) := heap_alloc_new _ _
  obtain ⟨K, hK⟩ : ∃ K, w.heap.size = K := ⟨_, rfl⟩
  have HK : Hid (w.heap.size = K) := hK
  obtain ⟨D, hD⟩ : ∃ D, dpM j 200 = D := ⟨_, rfl⟩
  rw [hD] at HDC
  clear h hs hn hv HDP HVL0 HOU0 hD
  go_enter Tryd.func4, Tryd.ntmps4
  go_wp2_with fail
  refine (HA.out _ HB0.out).mono ?_
  rintro e W1 ⟨rfl, hb1⟩
  have HB1 : Hid (Below w.heap.size w W1) := bl_tr HB0.out hb1
  have HL1 : Hid (LC W1 K ⟨xk, xb, xt, ⟨ka, kn, kc⟩, ⟨pa, pn, pc⟩⟩) := by show LC _ _ _; rw [← HK.out]; exact HL0.out.keep (hb1.block _ HL0.out.lt)
  obtain ⟨z0, z1, z2, z3, z4⟩ := HL1.out.cells
  simp only at z0 z1 z2 z3 z4
  clear hb1 HL0 HB0 HA
  go_wp2_with fail
  refine (HDC.out W1 HB1.out).mono ?_
  rintro e U ⟨rfl, hb2⟩
  have HBU : Hid (Below w.heap.size w U) := bl_tr HB1.out hb2
  have HLU : Hid (LC U K ⟨xk, xb, xt, ⟨ka, kn, kc⟩, ⟨pa, pn, pc⟩⟩) := HL1.out.keep (hb2.block _ HL1.out.lt)
  clear hb2 z0 z1 z2 z3 z4 HL1 HB1 HDC
  cases D with
  | true =>
    go_wp2
    go_ret
    exact ⟨rfl, by first | exact HBU.out | (rw [← HK.out]; exact HBU.out)⟩
  | false =>
  go_wp2_with fail
  refine RU.wp_rgn' [1, 2, 4, 5, 6, 7] (prt5 K ⟨xk, xb, xt, ⟨ka, kn, kc⟩, ⟨pa, pn, pc⟩⟩) (fun i => if i = 3 then 2 else 0) (prΩ U (sb (tp j)) j) (by kernel_rfl) (by kernel_rfl) ⟨(Below.refl _ _).drew, fun h => by omega, fun h => by omega, fun h => by omega, fun h => by omega, fun h => by omega, fun h => by omega⟩ ?_ ?_
  · refine ⟨?_, ?_, ?_, ?_, ?_, ?_, ?_, ?_, trivial⟩
    · refine RU.ObT.silent rfl (fun a W k0 V hO hf hp hk => ?_)
      have q1 : a.eval (.tmp 1) = .pointer (some ⟨K, 0, none⟩) := hf 1 rfl
      exact RU.ob_op rfl (RU.wanted_none rfl) (wp_load_mid 38 (.tmp 1) rfl (K) (0) q1 (tcv ⟨xk, xb, xt, ⟨ka, kn, kc⟩, ⟨pa, pn, pc⟩⟩) _ (lc_range (HLU.out.keep (hO.1.block _ HLU.out.lt))) Tryd.underlying38 rfl (by kernel_rfl) ⟨rfl, hO⟩)
    · refine RU.ObT.loud (j := 0) rfl (fun a W V hO hf hp => ?_)
      have hb := hO.1
      have e1 : a.eval (.tmp 7) = Tv.val ⟨xk, xb, xt, ⟨ka, kn, kc⟩, ⟨pa, pn, pc⟩⟩ := hp 0 7 rfl
      refine RU.ob_call (g := 15) (args := #[Tv.val ⟨xk, xb, xt, ⟨ka, kn, kc⟩, ⟨pa, pn, pc⟩⟩]) rfl (RU.wanted_none rfl) (fun ev he hc => ?_) ((HVL.out W (HBU.out.trans (hb.mono HBU.out.size))).mono ?_)
      · have h1 := (he (.tmp 7)).trans e1
        have hfn := he (.func 15)
        simp only [List.getElem_toArray, List.getElem_cons_succ, List.getElem_cons_zero, execOp, Option.map_some, Option.map_none]
        simp only [resolve, invoke, Sem.run_bind, Sem.run_pure, Result.andThen_ok, List.map_toArray, List.map_cons, List.map_nil, h1, hfn, Act.eval, hc]
        rfl
      · rintro e' W2 ⟨v, rfl, hvt, hb2⟩
        exact ⟨_, rfl, ⟨_, rfl, bl_tr hb hb2, fun _ => ⟨_, _, rfl, hvt⟩, fun h => by omega, fun h => by omega, fun h => by omega, fun h => by omega, fun h => by omega⟩⟩
    · refine RU.ObT.loud (j := 1) rfl (fun a W V hO hf hp => ?_)
      have hb := hO.1
      obtain ⟨v, A9, hv0, hvt⟩ := hO.2.1 rfl
      have e1 : a.eval (.tmp 8) = v := (hp 1 8 rfl).trans hv0
      refine RU.ob_call (g := 14) (args := #[v]) rfl (RU.wanted_none rfl) (fun ev he hc => ?_) ((print_any (vt_pt hvt) (by have := HLN.out; omega)).mono ?_)
      · have h1 := (he (.tmp 8)).trans e1
        have hfn := he (.func 14)
        simp only [List.getElem_toArray, List.getElem_cons_succ, List.getElem_cons_zero, execOp, Option.map_some, Option.map_none]
        simp only [resolve, invoke, Sem.run_bind, Sem.run_pure, Result.andThen_ok, List.map_toArray, List.map_cons, List.map_nil, h1, hfn, Act.eval, hc]
        rfl
      · rintro e' W2 ⟨rfl, hb2⟩
        exact ⟨_, rfl, ⟨_, rfl, bl_tr hb hb2, fun h => by omega, fun _ => rfl, fun h => by omega, fun h => by omega, fun h => by omega, fun h => by omega⟩⟩
    · refine RU.ObT.silent rfl (fun a W k0 V hO hf hp hk => ?_)
      have q1 : a.eval (.tmp 1) = .pointer (some ⟨K, 0, none⟩) := hf 1 rfl
      exact RU.ob_op rfl (RU.wanted_none rfl) (wp_load_mid 38 (.tmp 1) rfl (K) (0) q1 (tcv ⟨xk, xb, xt, ⟨ka, kn, kc⟩, ⟨pa, pn, pc⟩⟩) _ (lc_range (HLU.out.keep (hO.1.block _ HLU.out.lt))) Tryd.underlying38 rfl (by kernel_rfl) ⟨rfl, hO⟩)
    · refine RU.ObT.loud (j := 2) rfl (fun a W V hO hf hp => ?_)
      have hb := hO.1
      have h2 := hO.2.2.1 (Nat.le_refl _)
      have e1 : a.eval (.tmp 10) = Tv.val ⟨xk, xb, xt, ⟨ka, kn, kc⟩, ⟨pa, pn, pc⟩⟩ := hp 3 10 rfl
      refine RU.ob_call (g := 17) (args := #[Tv.val ⟨xk, xb, xt, ⟨ka, kn, kc⟩, ⟨pa, pn, pc⟩⟩]) rfl (RU.wanted_none rfl) (fun ev he hc => ?_) ((HOU.out W (HBU.out.trans (hb.mono HBU.out.size))).mono ?_)
      · have h1 := (he (.tmp 10)).trans e1
        have hfn := he (.func 17)
        simp only [List.getElem_toArray, List.getElem_cons_succ, List.getElem_cons_zero, execOp, Option.map_some, Option.map_none]
        simp only [resolve, invoke, Sem.run_bind, Sem.run_pure, Result.andThen_ok, List.map_toArray, List.map_cons, List.map_nil, h1, hfn, Act.eval, hc]
        rfl
      · rintro e' W2 ⟨y, rfl, hot, hb2⟩
        exact ⟨_, rfl, ⟨_, rfl, bl_tr hb hb2, fun h => by omega, fun _ => h2, fun _ => ⟨_, _, rfl, hot⟩, fun h => by omega, fun h => by omega, fun h => by omega⟩⟩
    · refine RU.ObT.loud (j := 3) rfl (fun a W V hO hf hp => ?_)
      have hb := hO.1
      have h2 := hO.2.2.1 (by omega)
      obtain ⟨y, A9, hy, hot⟩ := hO.2.2.2.1 rfl
      have e1 : a.eval (.tmp 11) = Tv.val y := (hp 4 11 rfl).trans hy
      refine RU.ob_call (g := 16) (args := #[Tv.val y]) rfl (RU.wanted_none rfl) (fun ev he hc => ?_) ((rprint_tree hot HSJ.out W (Below.refl _ _) (by have := HLN.out; omega)).mono ?_)
      · have h1 := (he (.tmp 11)).trans e1
        have hfn := he (.func 16)
        simp only [List.getElem_toArray, List.getElem_cons_succ, List.getElem_cons_zero, execOp, Option.map_some, Option.map_none]
        simp only [resolve, invoke, Sem.run_bind, Sem.run_pure, Result.andThen_ok, List.map_toArray, List.map_cons, List.map_nil, h1, hfn, Act.eval, hc]
        rfl
      · rintro e' W2 ⟨rfl, hb2⟩
        exact ⟨_, rfl, ⟨_, rfl, bl_tr hb hb2, fun h => by omega, fun _ => h2, fun h => by omega, fun _ => rfl, fun h => by omega, fun h => by omega⟩⟩
    · refine RU.ObT.loud (j := 4) rfl (fun a W V hO hf hp => ?_)
      have q1 : a.eval (.tmp 9) = .string (sb (tp j)) := (hp 2 9 rfl).trans (hO.2.2.1 (by omega))
      have q2 : a.eval (.tmp 12) = .string (sb (tp j)) := (hp 5 12 rfl).trans (hO.2.2.2.2.1 (by omega))
      refine RU.ob_val (v := .bool true) rfl (RU.wanted_none rfl) (fun ev he hc => ?_) ⟨_, rfl, hO.1, fun h => by omega, fun h => hO.2.2.1 (by omega), fun h => by omega, fun h => hO.2.2.2.2.1 (by omega), fun _ => rfl, fun h => by omega⟩
      have e1 := (he (.tmp 9)).trans q1
      have e2 := (he (.tmp 12)).trans q2
      simp only [List.getElem_toArray, List.getElem_cons_succ, List.getElem_cons_zero, execOp, Option.map_some, Option.map_none]; rw [e1, e2]
      first | (go_simp; done) | (go_simp; rfl) | rfl
    · refine RU.ObT.loud (j := 5) rfl (fun a W V hO hf hp => ?_)
      have q1 : a.eval (.tmp 13) = .bool true := (hp 6 13 rfl).trans (hO.2.2.2.2.2.1 (by omega))
      refine RU.ob_val (v := .bool true) rfl (RU.wanted_none rfl) (fun ev he hc => ?_) ⟨_, rfl, hO.1, fun h => by omega, fun h => hO.2.2.1 (by omega), fun h => by omega, fun h => hO.2.2.2.2.1 (by omega), fun h => hO.2.2.2.2.2.1 (by omega), fun _ => rfl⟩
      have e1 := (he (.tmp 13)).trans q1
      simp only [List.getElem_toArray, List.getElem_cons_succ, List.getElem_cons_zero, execOp]
      rw [e1]
      first | rfl | go_simp
  intro W8 VW8 hOW8
  have P8 : Hid (VW8 5 = .bool true ∧ Below U.heap.size U W8) := ⟨hOW8.2.2.2.2.2.2 (by decide), hOW8.1⟩
  clear hOW8
  simp only [RU.lay, RU.val, show RU.at' [1, 2, 4, 5, 6, 7] 0 = none from rfl, show RU.at' [1, 2, 4, 5, 6, 7] 1 = some 0 from rfl, show RU.at' [1, 2, 4, 5, 6, 7] 2 = some 1 from rfl, show RU.at' [1, 2, 4, 5, 6, 7] 3 = none from rfl, show RU.at' [1, 2, 4, 5, 6, 7] 4 = some 2 from rfl, show RU.at' [1, 2, 4, 5, 6, 7] 5 = some 3 from rfl, show RU.at' [1, 2, 4, 5, 6, 7] 6 = some 4 from rfl, show RU.at' [1, 2, 4, 5, 6, 7] 7 = some 5 from rfl, prt5, Act.put]
  simp only [List.setIfInBounds_toArray, List.set_cons_succ, List.set_cons_zero]
  obtain ⟨v0, hv0⟩ : ∃ v, VW8 0 = v := ⟨_, rfl⟩
  obtain ⟨v1, hv1⟩ : ∃ v, VW8 1 = v := ⟨_, rfl⟩
  obtain ⟨v2, hv2⟩ : ∃ v, VW8 2 = v := ⟨_, rfl⟩
  obtain ⟨v3, hv3⟩ : ∃ v, VW8 3 = v := ⟨_, rfl⟩
  obtain ⟨v4, hv4⟩ : ∃ v, VW8 4 = v := ⟨_, rfl⟩
  simp only [hv0, hv1, hv2, hv3, hv4, P8.out.1]
  go_wp2
  go_ret
  exact ⟨rfl, by first | exact bl_tr HBU.out P8.out.2 | (rw [← HK.out]; exact bl_tr HBU.out P8.out.2)⟩
end Go.Proofs.YtefaohokmhdplaaDoor
