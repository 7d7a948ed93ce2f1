/- A log behind a crash within a beginning: mathematics alone. -/
import Derived.Test.YthfpakjfdncphaaDoorWalCA
namespace Go.Proofs.YthfpakjfdncphaaDoor
open Go Go.RowKit
set_option linter.unusedSimpArgs false
set_option linter.unusedVariables false
set_option maxRecDepth 100000

/-- A disk on which the next beginning stands. -/
theorem LI.made {s s' : Dk} {l : Lo} {q : Nat → Option (Nat × List (List Int))} (h : LI s l q) (hn : s'.n = s.n) {xss : List (List Int)} (hf : hfF s.n (l.t + 1) + fl (JS xss) < hfT s.n (l.t + 1)) (hR : Rok xss) (ht : l.t + 1 < 18446744073709551616)
    (ro0 : ∀ i : Nat, i < s.n → (i < hfF s.n (l.t + 1) ∨ hfF s.n (l.t + 1) + fl (JS xss) < i) → rdV s' (i : Int) = rdV s (i : Int)) (hnew0 : tk s' (hfF s.n (l.t + 1)) (hfT s.n (l.t + 1)) = some (JN ((l.t + 1 : Nat) : Int) xss)) (hend0 : tk s' (hfF s.n (l.t + 1) + fl (JS xss)) (hfT s.n (l.t + 1)) = none) :
    LI s' (setF { l with t := l.t + 1, rs := xss, en := hfF s.n (l.t + 1) + fl (JS xss), lo := false } ((l.t + 1) % 2) (rdV s' (hfF s.n (l.t + 1) : Int))) (qs q ((l.t + 1) % 2) (l.t + 1, xss)) := by
  have n64 := h.n64
  obtain ⟨A, hA⟩ : ∃ A, hfF s.n (l.t + 1) = A := ⟨_, rfl⟩
  obtain ⟨P, hP⟩ : ∃ P, JN ((l.t + 1 : Nat) : Int) xss = P := ⟨_, rfl⟩
  have hPl : P.length = JS xss := by rw [← hP]; exact jn_length _ xss _
  have hf2 : A + fl P.length < hfT s.n (l.t + 1) := by rw [hPl, ← hA]; exact hf
  have ro : ∀ i : Nat, i < s.n → (i < A ∨ A + fl P.length < i) → rdV s' (i : Int) = rdV s (i : Int) := by rw [hPl, ← hA]; exact ro0
  have hnew : tk s' A (hfT s.n (l.t + 1)) = some P := by rw [← hA, ← hP]; exact hnew0
  have hend : tk s' (A + fl P.length) (hfT s.n (l.t + 1)) = none := by rw [hPl, ← hA]; exact hend0
  have hother : hfF s.n l.t < s.n ∧ ∀ j : Nat, hfF s.n l.t ≤ j → j < hfT s.n l.t → j < s.n ∧ (j < A ∨ A + fl P.length < j) := by
    rw [← hA] at hf2 ⊢
    rcases hf_cases s.n l.t with ⟨c1, c2, c3⟩ | ⟨c1, c2, c3⟩ <;> rcases hf_cases s.n (l.t + 1) with ⟨d1, d2, d3⟩ | ⟨d1, d2, d3⟩ <;> rw [c2, c3] <;> rw [d2] at hf2 ⊢ <;> rw [d3] at hf2 <;> exact ⟨by omega, fun j j1 j2 => by omega⟩
  obtain ⟨b1, b2, b3, b4, b5⟩ := setF_same { l with t := l.t + 1, rs := xss, en := A + fl (JS xss), lo := false } ((l.t + 1) % 2) (rdV s' (A : Int))
  obtain ⟨g1, g2⟩ := setF_two { l with t := l.t + 1, rs := xss, en := A + fl (JS xss), lo := false } ((l.t + 1) % 2) (rdV s' (A : Int))
  obtain ⟨L, hL⟩ : ∃ L, setF { l with t := l.t + 1, rs := xss, en := A + fl (JS xss), lo := false } ((l.t + 1) % 2) (rdV s' (A : Int)) = L := ⟨_, rfl⟩
  rw [hA]
  rw [hL] at b1 b2 b3 b4 b5 g1 g2 ⊢
  have b1' : L.rs = xss := b1
  have b3' : L.t = l.t + 1 := b3
  have b4' : L.en = A + fl (JS xss) := b4
  have g1' : L.f0 = if (l.t + 1) % 2 = 0 then rdV s' (A : Int) else l.f0 := g1
  have g2' : L.f1 = if (l.t + 1) % 2 = 0 then l.f1 else rdV s' (A : Int) := g2
  have hA2 : hfF s.n ((l.t + 1) % 2) = A ∧ hfT s.n ((l.t + 1) % 2) = hfT s.n (l.t + 1) := ⟨by rw [(hf_mod s.n (l.t + 1)).1, hA], (hf_mod s.n (l.t + 1)).2⟩
  have hold : ∀ i, i < 2 → i ≠ (l.t + 1) % 2 → tk s' (hfF s.n i) (hfT s.n i) = tk s (hfF s.n i) (hfT s.n i) := by
    intro i hi hne
    have : i = l.t % 2 := by omega
    subst this
    rw [(hf_mod s.n l.t).1, (hf_mod s.n l.t).2]
    refine tk_half (by rcases hf_cases s.n l.t with ⟨c1, c2, c3⟩ | ⟨c1, c2, c3⟩ <;> omega) (fun j j1 j2 => ro j (hother.2 j j1 j2).1 (hother.2 j j1 j2).2)
  refine ⟨by rw [hn]; exact h.n64, b5, ?_, ?_, ⟨fun i hi hq => ?_, fun i T ys hi hq => ?_⟩, by rw [b1']; exact hR, fun hz => by rw [b3'] at hz; omega, fun _ => ⟨xss, [], ?_, by rw [b1', List.append_nil], ?_, ?_, ?_⟩⟩
  · rw [hn]
    rw [g1']
    split
    · rename_i e
      have : hfF s.n 0 = A := by rw [← hA2.1, e]
      rw [this]
    · rename_i e
      have e2 : l.t % 2 = 0 := by omega
      have : hfF s.n 0 = hfF s.n l.t := by rw [← (hf_mod s.n l.t).1, e2]
      rw [this, ro _ hother.1 (hother.2 _ (Nat.le_refl _) (by rcases hf_cases s.n l.t with ⟨c1, c2, c3⟩ | ⟨c1, c2, c3⟩ <;> omega)).2, ← this]
      exact h.e0
  · rw [hn]
    rw [g2']
    split
    · rename_i e
      have e2 : l.t % 2 = 1 := by omega
      have : hfF s.n 1 = hfF s.n l.t := by rw [← (hf_mod s.n l.t).1, e2]
      rw [this, ro _ hother.1 (hother.2 _ (Nat.le_refl _) (by rcases hf_cases s.n l.t with ⟨c1, c2, c3⟩ | ⟨c1, c2, c3⟩ <;> omega)).2, ← this]
      exact h.e1
    · rename_i e
      have e3 : (l.t + 1) % 2 = 1 := by omega
      have : hfF s.n 1 = A := by rw [← hA2.1, e3]
      rw [this]
  · unfold qs at hq
    split at hq
    · cases hq
    · rename_i e
      rw [hn]
      exact (h.hv.no i hi hq).imp (fun x => (hold i hi e).trans x) (fun x => (hold i hi e).trans x)
  · unfold qs at hq
    split at hq
    · rename_i e
      simp only [Option.some.injEq, Prod.mk.injEq] at hq
      obtain ⟨rfl, rfl⟩ := hq
      subst e
      refine ⟨?_, rfl, by omega, ht, hR⟩
      rw [hn]
      rw [hA2.1, hA2.2, hnew, hP]
    · rename_i e
      obtain ⟨a1, a2⟩ := h.hv.yes i T ys hi hq
      exact ⟨by rw [hn]; exact (hold i hi e).trans a1, a2⟩
  · rw [b3']; unfold qs; rw [if_pos rfl]
  · rw [hn]
    rw [b3', hA, hP, b4', hPl]
    exact rfl
  · rw [hn]
    rw [b4', ← hPl, b3']
    exact hend
  · intro T' xs' hq
    rw [b3'] at hq ⊢
    unfold qs at hq
    rw [if_neg (by omega)] at hq
    by_cases h0 : l.t = 0
    · obtain ⟨z1, z2, -⟩ := h.z h0
      have : (l.t + 1 + 1) % 2 = 0 ∨ (l.t + 1 + 1) % 2 = 1 := by omega
      rcases this with e | e <;> rw [e] at hq
      · rw [z1] at hq; cases hq
      · rw [z2] at hq; cases hq
    · obtain ⟨xs, ns, h1, -⟩ := h.p h0
      rw [show (l.t + 1 + 1) % 2 = l.t % 2 by omega, h1] at hq
      simp only [Option.some.injEq, Prod.mk.injEq] at hq
      omega
/-- The log is the old one: what stands first in the other half is no beginning. -/
theorem LI.stays {s s' : Dk} {l : Lo} {q : Nat → Option (Nat × List (List Int))} (h : LI s l q) (hS : Sby s) (hn : s'.n = s.n) (hq : q ((l.t + 1) % 2) = none)
    (ro : ∀ i : Nat, i < s.n → (i < hfF s.n (l.t + 1) ∨ hfT s.n (l.t + 1) ≤ i) → rdV s' (i : Int) = rdV s (i : Int)) (hno : tk s' (hfF s.n (l.t + 1)) (hfT s.n (l.t + 1)) = none ∨ tk s' (hfF s.n (l.t + 1)) (hfT s.n (l.t + 1)) = some []) :
    LI s' (setF l ((l.t + 1) % 2) (rdV s' (hfF s.n (l.t + 1) : Int))) q := by
  have n64 := h.n64
  have hown : ∀ j : Nat, hfF s.n l.t ≤ j → j < hfT s.n l.t → rdV s' (j : Int) = rdV s (j : Int) := by
    intro j j1 j2
    refine ro j ?_ ?_ <;> rcases hf_cases s.n l.t with ⟨c1, c2, c3⟩ | ⟨c1, c2, c3⟩ <;> rcases hf_cases s.n (l.t + 1) with ⟨d1, d2, d3⟩ | ⟨d1, d2, d3⟩ <;> omega
  have hlt : hfF s.n l.t < hfT s.n l.t := by rcases hf_cases s.n l.t with ⟨c1, c2, c3⟩ | ⟨c1, c2, c3⟩ <;> omega
  obtain ⟨b1, b2, b3, b4, b5⟩ := setF_same l ((l.t + 1) % 2) (rdV s' (hfF s.n (l.t + 1) : Int))
  obtain ⟨g1, g2⟩ := setF_two l ((l.t + 1) % 2) (rdV s' (hfF s.n (l.t + 1) : Int))
  have hm := (hf_mod s.n l.t).1
  have hm1 := (hf_mod s.n (l.t + 1)).1
  have hhalf : ∀ i, i < 2 → i ≠ (l.t + 1) % 2 → tk s' (hfF s.n i) (hfT s.n i) = tk s (hfF s.n i) (hfT s.n i) := by
    intro i hi hne
    have : i = l.t % 2 := by omega
    subst this
    rw [(hf_mod s.n l.t).1, (hf_mod s.n l.t).2]
    exact tk_half hlt hown
  refine ⟨by rw [hn]; exact n64, by rw [b5]; exact h.lo, ?_, ?_, ⟨fun i hi hqi => ?_, fun i T ys hi hqi => ?_⟩, by rw [b1]; exact h.rok, fun h0 => by rw [b1, b4]; rw [b3] at h0; exact h.z h0, fun h0 => ?_⟩
  · rw [hn, g1]
    split
    · rename_i e; rw [e] at hm1; rw [hm1]
    · rename_i e
      have e2 : l.t % 2 = 0 := by omega
      rw [e2] at hm
      rw [hm, hown _ (Nat.le_refl _) hlt, ← hm]; exact h.e0
  · rw [hn, g2]
    split
    · rename_i e
      have e2 : l.t % 2 = 1 := by omega
      rw [e2] at hm
      rw [hm, hown _ (Nat.le_refl _) hlt, ← hm]; exact h.e1
    · rename_i e
      have e2 : (l.t + 1) % 2 = 1 := by omega
      rw [e2] at hm1; rw [hm1]
  · rw [hn]
    by_cases e : i = (l.t + 1) % 2
    · subst e
      rw [(hf_mod s.n (l.t + 1)).1, (hf_mod s.n (l.t + 1)).2]; exact hno
    · exact (h.hv.no i hi hqi).imp (fun x => (hhalf i hi e).trans x) (fun x => (hhalf i hi e).trans x)
  · rw [hn]
    by_cases e : i = (l.t + 1) % 2
    · subst e; rw [hq] at hqi; cases hqi
    · obtain ⟨a1, a2⟩ := h.hv.yes i T ys hi hqi
      exact ⟨(hhalf i hi e).trans a1, a2⟩
  · rw [b3] at h0 ⊢
    obtain ⟨f1, f2, f3⟩ := h.front hS h0
    obtain ⟨xs, ns, h1, h2, h3, h4, h5⟩ := h.p h0
    rw [hn, b1, b4]
    have hb1 := Frs.le hS h3
    refine ⟨xs, ns, h1, h2, h3.cg hS (fun i i1 i2 => hown i ?_ (by omega)), ?_, h5⟩
    · have : 1 ≤ fl (JN (l.t : Int) xs).length := by unfold fl; omega
      omega
    · rcases Nat.lt_or_ge l.en (hfT s.n l.t) with hl | hl
      · rw [tk_half hl (fun i i1 i2 => hown i (by omega) i2)]; exact h4
      · unfold tk; rw [if_pos hl]
/-- A head of which one half was torn. -/
theorem torn_low {s : Dk} {a t : Nat} {p : List Int} (h : rdV s (a : Int) = (hd p).take 32 ++ z64.drop 32) : tk s a t = none ∨ tk s a t = some [] := by
  have hn : tkn s a = 0 := by
    unfold tkn
    rw [h, List.drop_append_of_le_length (by rw [List.length_take, hd_length]; decide), List.drop_of_length_le (by rw [List.length_take, hd_length]; decide), List.nil_append]
    decide
  have hp : tkp s a = [] := by unfold tkp; rw [hn]; unfold pk; simp
  unfold tk
  split
  · exact .inl rfl
  · split
    · exact .inl rfl
    · rw [hp]
      split
      · exact .inr rfl
      · exact .inl rfl
theorem torn_high {s : Dk} {a t : Nat} {p : List Int} (h : rdV s (a : Int) = z64.take 32 ++ (hd p).drop 32) (hr : ∀ k, k < nsec p.length → rdV s ((a + (k + 1) : Nat) : Int) = sec p k) (hl : p.length < 18446744073709551616) : tk s a t = none ∨ tk s a t = some p := by
  have hn : tkn s a = p.length := by
    unfold tkn
    have e : (z64.take 32 ++ (hd p).drop 32).drop 32 = (hd p).drop 32 := by
      rw [List.drop_append_of_le_length (by decide), List.drop_of_length_le (by decide), List.nil_append]
    rw [h, e, hd_num p hl]; rfl
  have hp : tkp s a = p := by
    unfold tkp pk
    rw [hn, gat_laid hr _ (Nat.le_refl _)]
    have h1 : p.length ≤ 64 * nsec p.length := by unfold nsec; omega
    rw [show p.length - 64 * nsec p.length = 0 by omega, List.replicate_zero, List.append_nil, List.take_of_length_le (l := p) h1, List.take_append_of_le_length (Nat.le_refl _), List.take_length]
  unfold tk
  split
  · exact .inl rfl
  · split
    · exact .inl rfl
    · rw [hp]
      split
      · exact .inr rfl
      · exact .inl rfl
/-- What a crash leaves of a frame that was being laid where a blank sector stood. -/
theorem crash_tk {s s2 : Dk} {a t : Nat} {p : List Int} (h : LayF s a p 9 s2) (hw : s.wt = []) (hb : s.st a = z64) (cs : List Int) (ha : a + fl p.length < t) (htn : t ≤ s.n) (hl : p.length < 18446744073709551616) :
    (∀ i : Nat, i < s.n → (i < a ∨ a + fl p.length < i) → (rsS s2 cs).st i = s.st i) ∧ (rsS s2 cs).n = s.n ∧ (rsS s2 cs).fu = s.fu ∧
      (tk (rsS s2 cs) a t = none ∨ tk (rsS s2 cs) a t = some [] ∨ (tk (rsS s2 cs) a t = some p ∧ rdV (rsS s2 cs) ((a + fl p.length : Nat) : Int) = z64)) := by
  have hf1 : fl p.length = nsec p.length + 1 := by unfold fl nsec; omega
  cases h with
  | first wt h1 h2 =>
    have hne : ∀ j, j ≠ a → rsK s.st wt cs wt.length j = s.st j := fun j hj => rsK_not _ _ _ (fun q hq e => by rw [h2 q hq] at e; exact hj e.symm) _
    refine ⟨fun i hi ho => hne i (by omega), rfl, rfl, .inl (blank_none ?_ t)⟩
    rw [rdV_st (s := rsS { s with wt := wt, dn := true, fz := some 0 } cs) rfl rfl (show a < s.n by omega)]
    show rsK s.st wt cs wt.length a = z64
    rcases rsK_one s.st wt cs a z64 h1 h2 with e | ⟨c, e⟩
    · rw [e, hb]
    · rw [e, hb]; unfold tear; split; rfl; split; rfl; split; rfl; rfl
  | mid st wt h1 h2 =>
    refine ⟨fun i hi ho => ?_, rfl, rfl, .inl (blank_none ?_ t)⟩
    · show rsK st wt cs wt.length i = s.st i
      rw [rsK_not _ _ _ (fun q hq e => by have := h2 q hq; omega), h1, if_neg (by omega)]
    · rw [rdV_st (s := rsS { s with st := st, wt := wt, dn := true, fz := some 0 } cs) rfl rfl (show a < s.n by omega)]
      show rsK st wt cs wt.length a = z64
      rw [rsK_not _ _ _ (fun q hq e => by have := h2 q hq; omega), h1, if_pos rfl]
  | last st wt h1 h2 h3 =>
    have hne : ∀ j, j ≠ a → rsK st wt cs wt.length j = layS s.st a p j := fun j hj => by rw [rsK_not _ _ _ (fun q hq e => by rw [h3 q hq] at e; exact hj e.symm), h1, if_neg hj]
    have rd : ∀ j : Nat, j < s.n → rdV (rsS { s with st := st, wt := wt, dn := true, fz := some 0 } cs) (j : Int) = rsK st wt cs wt.length j := fun j hj => rdV_st (s := rsS { s with st := st, wt := wt, dn := true, fz := some 0 } cs) rfl rfl (show j < s.n from hj)
    have rsec : ∀ k, k < nsec p.length → rdV (rsS { s with st := st, wt := wt, dn := true, fz := some 0 } cs) ((a + (k + 1) : Nat) : Int) = sec p k := by
      intro k hk
      rw [rd _ (by omega), hne _ (by omega)]
      unfold layS
      rw [if_neg (by omega), if_neg (by omega), if_pos (by omega)]
      congr 1; omega
    have rend : rdV (rsS { s with st := st, wt := wt, dn := true, fz := some 0 } cs) ((a + fl p.length : Nat) : Int) = z64 := by
      rw [rd _ (by omega), hne _ (by omega)]
      unfold layS
      rw [if_neg (by omega), if_pos rfl]
    refine ⟨fun i hi ho => ?_, rfl, rfl, ?_⟩
    · show rsK st wt cs wt.length i = s.st i
      rw [hne i (by omega)]
      unfold layS
      rw [if_neg (by omega), if_neg (by omega), if_neg (by omega)]
    · have ea : st a = z64 := by rw [h1, if_pos rfl]
      rcases rsK_one st wt cs a (hd p) h2 h3 with e | ⟨c, e⟩
      · exact .inl (blank_none (by rw [rd _ (by omega), e, ea]) t)
      · rw [ea] at e
        unfold tear at e
        by_cases c1 : c = 1
        · rw [if_pos c1] at e
          exact .inr (.inr ⟨tk_lay (by rw [rd _ (by omega), e]) rsec (by omega) hl, rend⟩)
        · rw [if_neg c1] at e
          by_cases c2 : c = 2
          · rw [if_pos c2] at e
            rcases torn_low (t := t) (show rdV (rsS { s with st := st, wt := wt, dn := true, fz := some 0 } cs) (a : Int) = (hd p).take 32 ++ z64.drop 32 by rw [rd _ (by omega), e]) with x | x
            · exact .inl x
            · exact .inr (.inl x)
          · rw [if_neg c2] at e
            by_cases c3 : c = 3
            · rw [if_pos c3] at e
              rcases torn_high (t := t) (show rdV (rsS { s with st := st, wt := wt, dn := true, fz := some 0 } cs) (a : Int) = z64.take 32 ++ (hd p).drop 32 by rw [rd _ (by omega), e]) rsec hl with x | x
              · exact .inl x
              · exact .inr (.inr ⟨x, rend⟩)
            · rw [if_neg c3] at e
              exact .inl (blank_none (by rw [rd _ (by omega), e]) t)
/-- A log behind a crash within its next beginning is the old one or the new one. -/
theorem LI.crash {s s2 : Dk} {l : Lo} {q : Nat → Option (Nat × List (List Int))} {n : Nat} (h : LI s l q) (hS : Sby s) (hd' : s.dn = false) (hw : s.wt = []) {xss : List (List Int)} (hf : hfF s.n (l.t + 1) + fl (JS xss) < hfT s.n (l.t + 1)) (hR : Rok xss) (ht : l.t + 1 < 18446744073709551616) (hJ : JS xss < 18446744073709551616)
    (hq : q ((l.t + 1) % 2) = none) (hb : s.st (hfF s.n (l.t + 1)) = z64) (hl : LayF { s with fz := some n } (hfF s.n (l.t + 1)) (JN ((l.t + 1 : Nat) : Int) xss) 9 s2) (cs : List Int) :
    ∃ l3 q3, LI (rsS s2 cs) l3 q3 ∧ l3.g = l.g ∧ (l3.rs = l.rs ∨ l3.rs = xss) ∧ (rsS s2 cs).n = s.n ∧ (rsS s2 cs).fu = s.fu := by
  have n64 := h.n64
  have hPl : (JN ((l.t + 1 : Nat) : Int) xss).length = JS xss := jn_length _ xss _
  have hTn : hfT s.n (l.t + 1) ≤ s.n := by rcases hf_cases s.n (l.t + 1) with ⟨_, _, c⟩ | ⟨_, _, c⟩ <;> omega
  obtain ⟨c1, c2, c3, c4⟩ := crash_tk hl hw hb cs (t := hfT s.n (l.t + 1)) (by rw [hPl]; exact hf) hTn (by rw [hPl]; exact hJ)
  rw [hPl] at c1 c4
  have c1' : ∀ i : Nat, i < s.n → (i < hfF s.n (l.t + 1) ∨ hfF s.n (l.t + 1) + fl (JS xss) < i) → rdV (rsS s2 cs) (i : Int) = rdV s (i : Int) := by
    intro i hi ho
    rw [rdV_st (s := rsS s2 cs) rfl rfl (by rw [c2]; exact hi), rdV_st hd' hw hi]
    exact c1 i hi ho
  have old : tk (rsS s2 cs) (hfF s.n (l.t + 1)) (hfT s.n (l.t + 1)) = none ∨ tk (rsS s2 cs) (hfF s.n (l.t + 1)) (hfT s.n (l.t + 1)) = some [] → ∃ l3 q3, LI (rsS s2 cs) l3 q3 ∧ l3.g = l.g ∧ (l3.rs = l.rs ∨ l3.rs = xss) ∧ (rsS s2 cs).n = s.n ∧ (rsS s2 cs).fu = s.fu := fun x =>
    ⟨_, _, h.stays hS c2 hq (fun i hi ho => c1' i hi (ho.imp id (fun y => by omega))) x, (setF_same _ _ _).2.1, .inl (setF_same _ _ _).1, c2, c3⟩
  rcases c4 with x | x | ⟨x1, x2⟩
  · exact old (.inl x)
  · exact old (.inr x)
  · exact ⟨_, _, h.made c2 hf hR ht c1' x1 (blank_none x2 _), (setF_same _ _ _).2.1, .inr (setF_same _ _ _).1, c2, c3⟩
end Go.Proofs.YthfpakjfdncphaaDoor
