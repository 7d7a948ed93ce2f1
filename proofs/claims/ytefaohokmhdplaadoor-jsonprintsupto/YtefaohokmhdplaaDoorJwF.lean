/- The reference's Print of any tree. -/
import Derived.Test.YtefaohokmhdplaaDoorJwE
namespace Go.Proofs.YtefaohokmhdplaaDoor
open Go Go.RowKit
set_option linter.unusedSimpArgs false
set_option linter.unusedVariables false
set_option maxRecDepth 100000

set_option maxHeartbeats 16000000 in
theorem rpleaf_walk {w : World} {x : Tv} {ks : List ByteArray} {ps : List JT} (h4 : x.k ≠ 4) (h5 : x.k ≠ 5) (ht : x.t.size ≤ 1048576) : RPC w x (.mk x.k x.b x.t ks ps) := by
  intro W hb hlen
  obtain ⟨xk, xb, xt, ⟨ka, kn, kc⟩, ⟨pa, pn, pc⟩⟩ := x
  have h4 : ¬ xk = 4 := h4
  have h5 : ¬ xk = 5 := h5
  have ht : xt.size ≤ 1048576 := ht
  show Calls Tryd.prog 16 #[Tv.val ⟨xk, xb, xt, ⟨ka, kn, kc⟩, ⟨pa, pn, pc⟩⟩] W fun e W' => e = .returned (.string (sb (tp (.mk xk xb xt ks ps)))) ∧ Below W.heap.size W W'
  rw [show Tv.val ⟨xk, xb, xt, ⟨ka, kn, kc⟩, ⟨pa, pn, pc⟩⟩ = .agg #[.int .i64 xk, .bool xb, .string xt, .slice ka kn kc, .slice pa pn pc] from rfl]
  obtain ⟨K, hK⟩ : ∃ K, W.heap.size = K := ⟨_, rfl⟩
  have HK : Hid (W.heap.size = K) := hK
  have HBA : Hid (Below W.heap.size W (W.alloc (.cells #[.int .i64 xk, .bool xb, .string xt, .slice ka kn kc, .slice pa pn pc] 26))) := (Below.refl _ _).alloc (Nat.le_refl _) _
  obtain ⟨D, hD⟩ : ∃ D, sb (tp (.mk xk xb xt ks ps)) = D := ⟨_, rfl⟩
  have HD : Hid (sb (tp (.mk xk xb xt ks ps)) = D) := hD
  rw [hD]
  clear hb hlen hD
  by_cases hv1 : xk = 1
  · subst hv1
    cases xb with
    | true =>
      have HE : Hid (D = ⟨#[116, 114, 117, 101]⟩) := by show _ = _; rw [← HD.out]; exact (sb_eq (by simp [tp, bt]; rfl)).symm
      go_enter Tryd.func16, Tryd.ntmps16
      go_wp2
      go_ret
      exact ⟨by rw [HE.out]; rfl, by first | exact HBA.out | (rw [← HK.out]; exact HBA.out)⟩
    | false =>
      have HE : Hid (D = ⟨#[102, 97, 108, 115, 101]⟩) := by show _ = _; rw [← HD.out]; exact (sb_eq (by simp [tp, bt]; rfl)).symm
      go_enter Tryd.func16, Tryd.ntmps16
      go_wp2
      go_ret
      exact ⟨by rw [HE.out]; rfl, by first | exact HBA.out | (rw [← HK.out]; exact HBA.out)⟩
  by_cases hv2 : xk = 2
  · subst hv2
    have HE : Hid (D = xt) := by show _ = _; rw [← HD.out]; exact (sb_eq (by simp [tp])).symm
    go_enter Tryd.func16, Tryd.ntmps16
    go_wp2
    go_ret
    exact ⟨by rw [HE.out]; rfl, by first | exact HBA.out | (rw [← HK.out]; exact HBA.out)⟩
  by_cases hv3 : xk = 3
  · subst hv3
    have HE : Hid (D = sb (qt xt)) := by show _ = _; rw [← HD.out]; simp [tp]
    have HQ : Hid (∀ W1, Calls Tryd.prog 35 #[.string xt] W1 fun e w' => e = .returned (.string (sb (qt xt))) ∧ Below W1.heap.size W1 w') := fun W1 => rquoted_any ht W1
    go_enter Tryd.func16, Tryd.ntmps16
    go_wp2_with fail
    refine (HQ.out _).mono ?_
    rintro e W2 ⟨rfl, hb2⟩
    have HB2 : Hid (Below W.heap.size W W2) := bl_tr HBA.out hb2
    clear hb2
    go_wp2
    go_ret
    exact ⟨by rw [HE.out]; rfl, by first | exact HB2.out | (rw [← HK.out]; exact HB2.out)⟩
  have HE : Hid (D = ⟨#[110, 117, 108, 108]⟩) := by
    show _ = _; rw [← HD.out]; refine (sb_eq ?_).symm; simp only [tp]; rw [if_neg hv1, if_neg hv2, if_neg hv3, if_neg h4, if_neg h5]; rfl
  have k1 : (xk == 1) = false := beq_eq_false_iff_ne.2 hv1
  have k2 : (xk == 2) = false := beq_eq_false_iff_ne.2 hv2
  have k3 : (xk == 3) = false := beq_eq_false_iff_ne.2 hv3
  have k4 : (xk == 4) = false := beq_eq_false_iff_ne.2 h4
  have k5 : (xk == 5) = false := beq_eq_false_iff_ne.2 h5
  clear hv1 hv2 hv3 h4 h5
  go_enter Tryd.func16, Tryd.ntmps16
  go_wp2
  go_ret
  exact ⟨by rw [HE.out]; rfl, by first | exact HBA.out | (rw [← HK.out]; exact HBA.out)⟩
theorem rprint_tree {A : Nat → Prop} {w : World} {x : Tv} {j : JT} (h : OT A w x j) : SJ j → RPC w x j := by
  induction h with
  | mk x ks gs xs ps hk hr hl hgl hg hv ih =>
    intro hs
    cases hs with
    | mk _ _ _ _ _ h1 h2 h3 h4 h5 =>
      have ih' := fun (i : Nat) (y : Tv) (j : JT) (hy : xs[i]? = some y) (hj : ps[i]? = some j) => ih i y j hy hj (h5 j (List.mem_of_getElem? hj))
      have hgz : ∀ g ∈ gs, g.size ≤ 1048576 := fun g hgm => by
        obtain ⟨i, hi, rfl⟩ := List.getElem_of_mem hgm
        rw [hg i _ (List.getElem?_eq_getElem hi)]
        cases he : ks[i]? with
        | none => simp [ByteArray.size]
        | some q => exact h4 q (List.mem_of_getElem? he)
      by_cases e4 : x.k = 4
      · exact rplst_walk e4 hk hr hl hgl hg hgz ih'
      by_cases e5 : x.k = 5
      · exact rpobj_walk e5 hk hr hl hgl hg hgz ih'
      exact rpleaf_walk e4 e5 h1
/-- A value that says what a tree says has the tree's text. -/
theorem vt_pt {A : Nat → Prop} {w : World} {v : Value} {j : JT} (h : VT A w v j) : PT A w v (tp j) := by
  induction h with
  | null b t ks ps => simp [tp]; exact .null
  | bool b t ks ps => simp [tp]; exact .bool b
  | num b t ks ps => simp [tp]; exact .num t
  | txt b t ks ps => simp [tp]; exact .txt t
  | lst b t ks ps v vs h hl hv ih =>
    rw [show tp (.mk 4 b t ks ps) = [91] ++ (cm (tpl ps) ++ [93]) by simp [tp]]
    refine .lst v vs (tpl ps) h (by rw [tpl_len]; exact hl) (fun i x t hx ht => ?_)
    have hi : i < ps.length := by have := (List.getElem?_eq_some_iff.1 hx).1; omega
    have hj := List.getElem?_eq_getElem hi
    rw [tpl_at ps i _ hj] at ht
    cases ht
    exact ih i x _ hx hj
  | obj b t ks ps v ms h hl hk hv ih =>
    have e : List.zipWith (fun (m : ByteArray × Value) (t : List Int) => qt m.1 ++ ([58] ++ t)) ms (tpl ps) = tpo ks ps := by
      apply List.ext_getElem?
      intro i
      rw [List.getElem?_zipWith]
      rcases Nat.lt_or_ge i ps.length with q | q
      · have a1 := List.getElem?_eq_getElem q
        have a2 := List.getElem?_eq_getElem (l := ms) (i := i) (by omega)
        rw [a2, tpl_at ps i _ a1, tpo_at ps ks i _ a1]
        simp only
        rw [hk i _ a2]
      · rw [List.getElem?_eq_none (l := tpo ks ps) (by rw [tpo_len]; exact q), List.getElem?_eq_none (l := tpl ps) (by rw [tpl_len]; exact q)]
        cases ms[i]? <;> rfl
    rw [show tp (.mk 5 b t ks ps) = [123] ++ (cm (tpo ks ps) ++ [125]) by simp [tp], ← e]
    refine .obj v ms (tpl ps) h (by rw [tpl_len]; exact hl) (fun i m t hx ht => ?_)
    have hi : i < ps.length := by have := (List.getElem?_eq_some_iff.1 hx).1; omega
    have hj := List.getElem?_eq_getElem hi
    rw [tpl_at ps i _ hj] at ht
    cases ht
    exact ih i m _ hx hj
  | nil k b t ks ps hk =>
    rw [show tp (.mk k b t ks ps) = [110, 117, 108, 108] by simp only [tp]; rw [if_neg (by omega), if_neg (by omega), if_neg (by omega), if_neg (by omega), if_neg (by omega)]]
    exact .nil
end Go.Proofs.YtefaohokmhdplaaDoor
