/- Each operation of the small memory is the world's. -/
import Derived.Test.YtnmgpkpdjpjbgaaDoorMemB
namespace Go.Proofs.YtnmgpkpdjpjbgaaDoor
open Go Go.RowKit
set_option linter.unusedSimpArgs false
set_option linter.unusedVariables false
variable {gl : List Nat} {r₀ r : Ren} {w₀ w : World} {a A : Act} {m : Mem} {P : Program} {X : Cx}

theorem index_run {sym : Bool} {t : TypeId} {x x' i v : Value} {ps : List Prop} (hx : tr r x = some x') (h : sindex P sym t x i = some (ps, v)) (hp : ∀ p ∈ ps, p) :
    ∃ v', tr r v = some v' ∧ ∀ w, (Instr.indexAt t x' i).run P w = .ok v' w := by
  unfold sindex at h
  split at h
  · rename_i len elem b o k n hu
    obtain ⟨c, hb, rfl⟩ := tr_ptr hx
    split at h
    · rename_i ps' e hn he
      simp only [Option.some.injEq, Prod.mk.injEq] at h; obtain ⟨rfl, rfl⟩ := h
      have hn := within_spec hn hp
      refine ⟨_, tr_of_ptr hb, fun w => ?_⟩
      simp [Instr.indexAt, asIntOf, run_underlying hu w, Instr.sureAddr, sizeOf, typeInfo, he, hn, Addr.add_mid]
    · simp at h
  · rename_i elem b o len cap k n hu
    obtain ⟨c, hb, rfl⟩ := tr_slice hx
    split at h
    · rename_i ps' e hn he
      simp only [Option.some.injEq, Prod.mk.injEq] at h; obtain ⟨rfl, rfl⟩ := h
      have hn := within_spec hn hp
      refine ⟨_, tr_of_ptr hb, fun w => ?_⟩
      simp [Instr.indexAt, asIntOf, run_underlying hu w, sizeOf, typeInfo, he, hn, Addr.add_mid]
    · simp at h
  · simp at h
theorem field_run {t : TypeId} {i : Nat} {x x' v : Value} (hx : tr r x = some x') (h : sfield P t x i = some v) :
    ∃ v', tr r v = some v' ∧ ∀ w, (Instr.fieldAt t x' i).run P w = .ok v' w := by
  unfold sfield at h
  split at h
  · rename_i fs b o hu
    obtain ⟨c, hb, rfl⟩ := tr_ptr hx
    split at h
    · rename_i f hf
      split at h
      · rename_i e he
        split at h
        · simp at h
        · rename_i hz
          simp only [Option.some.injEq] at h; subst h
          refine ⟨_, tr_of_ptr hb, fun w => ?_⟩
          simp [Instr.fieldAt, run_underlying hu w, hf, Instr.sureAddr, fieldPlace, sizeOf, typeInfo, he, hz, Addr.add_mid]
      · simp at h
    · simp at h
  · simp at h
theorem slice_run {t : TypeId} {x x' v : Value} {lo hi : Option Value} (hx : tr r x = some x') (h : sslice P t x lo hi = some v) :
    ∃ v', tr r v = some v' ∧ ∀ w, (Instr.sliceAt t x' lo hi none).run P w = .ok v' w := by
  unfold sslice at h
  split at h
  · rename_i n elem b o hu
    obtain ⟨c, hb, rfl⟩ := tr_ptr hx
    split at h
    · rename_i l hh mm e hp he
      simp only [Option.some.injEq] at h; subst h
      refine ⟨_, tr_of_slice hb, fun w => ?_⟩
      simp only [Instr.sliceAt, Sem.run_bind, run_underlying hu w, Result.andThen_ok, Instr.sureAddr, Sem.run_pure, pureRun_run _ _ hp w, sizeOf, typeInfo, run_program, he]
      by_cases hm : mm = l
      · simp [hm]
      · simp [hm, Addr.add_mid]
    · simp at h
  · rename_i elem b o len cap hu
    obtain ⟨c, hb, rfl⟩ := tr_slice hx
    split at h
    · rename_i l hh mm e hp he
      simp only [Option.some.injEq] at h; subst h
      refine ⟨_, tr_of_slice hb, fun w => ?_⟩
      simp only [Instr.sliceAt, Sem.run_bind, run_underlying hu w, Result.andThen_ok, Instr.slice, Sem.run_pure, pureRun_run _ _ hp w, sizeOf, typeInfo, run_program, he]
      by_cases hm : mm = l
      · simp [hm]
      · simp [hm, Addr.add_mid]
    · simp at h
  · simp at h
theorem sliceX_run {sym : Bool} {t : TypeId} {x x' v : Value} {lo hi : Option Value} {ps : List Prop} (hx : tr r x = some x') (h : ssliceX P sym t x lo hi = some (ps, v)) (hp : ∀ p ∈ ps, p) :
    ∃ v', tr r v = some v' ∧ ∀ w, (Instr.sliceAt t x' lo hi none).run P w = .ok v' w := by
  unfold ssliceX at h
  split at h
  · rename_i n elem b o hu
    obtain ⟨c, hb, rfl⟩ := tr_ptr hx
    split at h
    · rename_i qs l hh e hs he
      simp only [Option.some.injEq, Prod.mk.injEq] at h
      obtain ⟨rfl, rfl⟩ := h
      refine ⟨_, tr_of_slice hb, fun w => ?_⟩
      simp only [Instr.sliceAt, Sem.run_bind, run_underlying hu w, Result.andThen_ok, Instr.sureAddr, Sem.run_pure, symBounds_run hs hp w, sizeOf, typeInfo, run_program, he]
      by_cases hm : n = l
      · simp [hm]
      · simp [hm, Addr.add_mid]
    · simp at h
  · rename_i elem b o len cap hu
    obtain ⟨c, hb, rfl⟩ := tr_slice hx
    split at h
    · rename_i qs l hh e hs he
      simp only [Option.some.injEq, Prod.mk.injEq] at h
      obtain ⟨rfl, rfl⟩ := h
      refine ⟨_, tr_of_slice hb, fun w => ?_⟩
      simp only [Instr.sliceAt, Sem.run_bind, run_underlying hu w, Result.andThen_ok, Instr.slice, Sem.run_pure, symBounds_run hs hp w, sizeOf, typeInfo, run_program, he]
      by_cases hm : cap = l
      · simp [hm]
      · simp [hm, Addr.add_mid]
    · simp at h
  · rename_i elem len cap hu
    have hx' : x' = .slice none len cap := by simp [tr, tr2, tr1, flat1] at hx; exact hx.symm
    subst hx'
    split at h
    · rename_i qs l hh e hs he
      simp only [Option.some.injEq, Prod.mk.injEq] at h
      obtain ⟨rfl, rfl⟩ := h
      refine ⟨.slice none (hh - l) (cap - l), by simp [tr, tr2, tr1, flat1], fun w => ?_⟩
      simp only [Instr.sliceAt, Sem.run_bind, run_underlying hu w, Result.andThen_ok, Instr.slice, Sem.run_pure, symBounds_run hs hp w, sizeOf, typeInfo, run_program, he]
      by_cases hm : cap = l
      · simp [hm]
      · simp [hm]
    · simp at h
  · simp only [Option.map_eq_some_iff] at h
    obtain ⟨q, hq, hq2⟩ := h
    simp only [Prod.mk.injEq] at hq2
    rw [← hq2.2]
    exact slice_run hx hq
theorem len_run {t ty : TypeId} {x x' v : Value} (hx : tr r x = some x') (h : slen P t x = some v) : flat v = true ∧ ∀ w, (Builtin.len_ #[t] ty #[x']).run P w = .ok v w := by
  unfold slen at h
  split at h
  · rename_i s hu
    have : x' = .string s := by simp [tr, tr2, tr1, flat1] at hx; exact hx.symm
    subst this
    simp only [Option.some.injEq] at h; subst h
    exact ⟨rfl, fun w => by simp [Builtin.len_, run_underlying hu]⟩
  · rename_i n e hu
    simp only [Option.some.injEq] at h; subst h
    exact ⟨rfl, fun w => by simp [Builtin.len_, run_underlying hu]⟩
  · rename_i e p n c hu
    simp only [Option.some.injEq] at h; subst h
    have : ∃ p', x' = .slice p' n c := by
      cases p with
      | none => simp [tr, tr2, tr1, flat1] at hx; exact ⟨_, hx.symm⟩
      | some p =>
        simp only [tr, tr2, tr1] at hx
        cases hb : r p.block with
        | none => simp [hb] at hx
        | some c' => simp only [hb, Option.map_some, Option.some.injEq] at hx; exact ⟨_, hx.symm⟩
    obtain ⟨p', rfl⟩ := this
    exact ⟨rfl, fun w => by simp [Builtin.len_, run_underlying hu]⟩
  · simp at h
theorem copy_run (R : Rel r m w) {dT sT ty : TypeId} {d d' s s' v : Value} {m' : Mem} (hd : tr r d = some d') (hs : tr r s = some s') (h : scopy P dT d s m = some (v, m')) :
    flat v = true ∧ ∃ (c o : Nat) (vs : List Value), (∃ b : Nat, r b = some c) ∧ (Builtin.copy_ #[dT, sT] ty #[d', s']).run P w = .ok v (w.setCells c o vs) ∧ Rel r m' (w.setCells c o vs) := by
  unfold scopy at h
  split at h
  · rename_i elem b o dl dc b' o' sl sc hu
    split at h
    · rename_i e B B' he hB hB'
      split at h
      · rename_i hc
        obtain ⟨c1, c2, c3⟩ := hc
        simp only [Option.some.injEq, Prod.mk.injEq] at h
        obtain ⟨rfl, rfl⟩ := h
        refine ⟨rfl, ?_⟩
        obtain ⟨c, hb, rfl⟩ := tr_slice hd
        obtain ⟨c', hb', rfl⟩ := tr_slice hs
        obtain ⟨x1, cs, p1, p2, p3⟩ := R.cells b B hB
        rw [hb] at p1; cases p1
        obtain ⟨x2, cs', q1, q2, q3⟩ := R.cells b' B' hB'
        rw [hb'] at q1; cases q1
        have hv := trL_take (Nat.min sl dl) (trL_drop o' q2)
        have l1 := trL_len p2
        have l2 := trL_len q2
        have l3 : ((cs'.drop o').take (Nat.min sl dl)).length = Nat.min sl dl := by rw [List.length_take, List.length_drop]; exact Nat.min_eq_left (by omega)
        refine ⟨c, o, (cs'.drop o').take (Nat.min sl dl), ⟨b, hb⟩, ?_, R.store hB hb o hv⟩
        have := run_copy_cells (P := P) w dT sT ty elem c o dl dc ⟨c', o', none⟩ sl sc ((cs'.drop o').take (Nat.min sl dl)) hu (by rw [he]; simp [c1]) l3
          (fun j u hj => by
            rw [Addr.add_mid]
            rw [List.getElem?_take] at hj
            split at hj
            · rw [List.getElem?_drop] at hj
              simp [World.cell?, q3, hj]
            · simp at hj)
          (fun j hj => by
            rw [l3] at hj
            have : o + j < cs.length := by omega
            simp [World.cell?, p3, this]) (fun j hj => by simp [World.frozen?, p3])
          (fun u hu => by obtain ⟨z, hz⟩ := trL_mem hv u hu; exact tr1_one hz)
        rw [l3] at this
        exact this
      · simp at h
    · simp at h
  · simp at h
theorem sop_wp (hX : X.Ok P) {o : Oper} {ps : List Prop} {v : Value} {m' : Mem} {id : Nat} (h : sop P X id o a.eval m = some (ps, v, m')) (hp : ∀ p ∈ ps, p) (S : Sim X.gl r₀ w₀ a m A w r) {K : Act → World → Prop} {Q : Exit → Act → World → Prop}
    (hK : ∀ A' w' r', Sim X.gl r₀ w₀ (a.put o.dst v) m' A' w' r' → K A' w') : o.wp P A w K Q := by
  unfold sop at h
  split at h
  · rename_i x ho
    split at h
    · rename_i hx
      simp only [Option.some.injEq, Prod.mk.injEq] at h
      obtain ⟨rfl, rfl, rfl⟩ := h
      exact wp_of_run (v := A.eval x) (by simp [execOp, ho]) (hK _ _ _ (S.put0 (S.eval hx) _))
    · simp at h
  · rename_i x ho
    split at h
    · rename_i hx
      simp only [Option.some.injEq, Prod.mk.injEq] at h
      obtain ⟨rfl, rfl, rfl⟩ := h
      exact wp_of_run (v := A.eval x) (by simp [execOp, ho]) (hK _ _ _ (S.put0 (S.eval hx) _))
    · simp at h
  · rename_i t ho
    split at h
    · rename_i i hi hid
      split at h
      · rename_i z hz
        split at h
        · rename_i hf
          simp only [Option.some.injEq, Prod.mk.injEq] at h
          obtain ⟨rfl, rfl, rfl⟩ := h
          have hcs := tr2_cells (tr2_flat r z hf)
          have hn := S.rel.hole hid
          refine wp_of_run (v := .pointer (some ⟨w.heap.size, 0, none⟩)) (w' := w.alloc (.cells z.cells t)) (by simp [execOp, ho, Instr.alloc, zeroValue, typeInfo, hi, hz, newVar, newRow]) (hK _ _ (upd r id w.heap.size) (S.put ?_ (le_upd hn) (fun b c hc => ?_) (fr_alloc S.fr _) (tr_of_ptr (by simp [upd])) _))
          · simpa using S.rel.alloc hid t hcs
          · unfold upd at hc
            split at hc
            · cases hc; exact .inr S.fr.size
            · exact .inl hc
        · simp at h
      · simp at h
    · simp at h
  · rename_i t x ho
    split at h
    · rename_i hid
      split at h
      · rename_i hx
        simp only [Bool.and_eq_true] at hx
        simp only [Option.some.injEq, Prod.mk.injEq] at h
        obtain ⟨rfl, rfl, rfl⟩ := h
        have hcs := tr2_cells (tr_tr2 hx.2 (S.eval hx.1))
        have hn := S.rel.hole hid
        refine wp_of_run (v := .pointer (some ⟨w.heap.size, 0, none⟩)) (w' := w.alloc (.cells (A.eval x).cells t)) (by simp [execOp, ho, Instr.box, newVar, newRow]) (hK _ _ (upd r id w.heap.size) (S.put ?_ (le_upd hn) (fun b c hc => ?_) (fr_alloc S.fr _) (tr_of_ptr (by simp [upd])) _))
        · simpa using S.rel.alloc hid t hcs
        · unfold upd at hc
          split at hc
          · cases hc; exact .inr S.fr.size
          · exact .inl hc
      · simp at h
    · simp at h
  · rename_i t x ho
    split at h
    · rename_i hx
      split at h
      · rename_i b o' he
        cases hl : sloadX P X.sym t b o' m with
        | none => simp [hl] at h
        | some u =>
          simp only [hl, Option.map_some, Option.some.injEq, Prod.mk.injEq] at h
          obtain ⟨rfl, rfl, rfl⟩ := h
          have hl := sloadX_spec hl hp
          have h1 := S.eval hx
          rw [he] at h1
          obtain ⟨c, hb, e⟩ := tr_ptr h1
          obtain ⟨v', h2, h3⟩ := load_run S.rel hb hl
          exact wp_of_run (v := v') (by simp [execOp, ho, e, Instr.loadAt, Instr.sureAddr, h3]) (hK _ _ _ (S.put0 h2 _))
      · simp at h
    · simp at h
  · rename_i t x y ho
    split at h
    · rename_i hx
      simp only [Bool.and_eq_true] at hx
      split at h
      · rename_i b o' he
        cases hl : sstore P t b o' (a.eval y) m with
        | none => simp [hl] at h
        | some mm =>
          simp only [hl, Option.map_some, Option.some.injEq, Prod.mk.injEq] at h
          obtain ⟨rfl, rfl, rfl⟩ := h
          have h1 := S.eval hx.1.1
          rw [he] at h1
          obtain ⟨c, hb, e⟩ := tr_ptr h1
          obtain ⟨h3, h4⟩ := store_run S.rel hb (tr_tr2 hx.2 (S.eval hx.1.2)) hl
          refine wp_of_skip (w' := w.setCells c o' (A.eval y).cells.toList) (by simp [execOp, ho, e, Instr.storeAt, Instr.sureAddr, h3]) (hK _ _ r (S.put h4 (Le.refl _) (fun _ _ h => .inl h) (fr_setCells S.fr (S.home hb) _ _) (tr_undef _) _))
      · simp at h
    · simp at h
  · rename_i t x i ho
    split at h
    · rename_i hx
      simp only [Bool.and_eq_true] at hx
      cases hl : sindex P X.sym t (a.eval x) (a.eval i) with
      | none => simp [hl] at h
      | some u =>
        simp only [hl, Option.map_some, Option.some.injEq, Prod.mk.injEq] at h
        obtain ⟨rfl, rfl, rfl⟩ := h
        obtain ⟨v', h2, h3⟩ := index_run (S.eval hx.1) hl hp
        exact wp_of_run (v := v') (by simp [execOp, ho, S.evalFlat hx.2, h3]) (hK _ _ _ (S.put0 h2 _))
    · simp at h
  · rename_i t x i ho
    split at h
    · rename_i hx
      cases hl : sfield P t (a.eval x) i with
      | none => simp [hl] at h
      | some u =>
        simp only [hl, Option.map_some, Option.some.injEq, Prod.mk.injEq] at h
        obtain ⟨rfl, rfl, rfl⟩ := h
        obtain ⟨v', h2, h3⟩ := field_run (S.eval hx) hl
        exact wp_of_run (v := v') (by simp [execOp, ho, h3]) (hK _ _ _ (S.put0 h2 _))
    · simp at h
  · rename_i x ho
    split at h
    · rename_i hx
      split at h
      · rename_i p he
        simp only [Option.some.injEq, Prod.mk.injEq] at h
        obtain ⟨rfl, rfl, rfl⟩ := h
        have h1 := S.eval hx
        have h2 : ∃ p', A.eval x = .pointer (some p') := by
          rw [he] at h1
          simp only [tr, tr2, tr1] at h1
          cases hb : r p.block with
          | none => simp [hb] at h1
          | some c => simp only [hb, Option.map_some, Option.some.injEq] at h1; exact ⟨_, h1.symm⟩
        obtain ⟨p', hp'⟩ := h2
        refine wp_of_run (v := A.eval x) (by simp [execOp, ho, hp']) (hK _ _ _ (S.put0 (by rw [← he]; exact h1) _))
      · exact spure_wp h hp S hK
    · simp at h
  · rename_i t x lo hi ho
    split at h
    · rename_i hx
      simp only [Bool.and_eq_true] at hx
      have elo : lo.map A.eval = lo.map a.eval := by
        cases lo with
        | none => rfl
        | some y => simp only [Option.map_some, S.evalFlat (by simpa using hx.1.2)]
      have ehi : hi.map A.eval = hi.map a.eval := by
        cases hi with
        | none => rfl
        | some y => simp only [Option.map_some, S.evalFlat (by simpa using hx.2)]
      cases hl : ssliceX P X.sym t (a.eval x) (lo.map a.eval) (hi.map a.eval) with
      | none => simp [hl] at h
      | some u =>
        simp only [hl, Option.map_some, Option.some.injEq, Prod.mk.injEq] at h
        obtain ⟨rfl, rfl, rfl⟩ := h
        obtain ⟨v', h2, h3⟩ := sliceX_run (S.eval hx.1.1) hl hp
        exact wp_of_run (v := v') (by simp [execOp, ho, elo, ehi, h3]) (hK _ _ _ (S.put0 h2 _))
    · simp at h
  · rename_i f args ts ho
    split at h
    · rename_i hx
      have e : (args.toList.map A.eval).toArray = args.map A.eval := by rw [← Array.toList_map, Array.toArray_toList]
      have hrun : (execOp A.eval o).run P w = (callFunc f (args.map A.eval)).run P w := by
        simp [execOp, ho, resolve, Act.eval, Deferred.ofValue, invoke]
      split at h
      · have hc := hX.wcall f _ m ps v m' h hp r w _ S.rel S.glob (S.evals hx)
        rw [e] at hc
        unfold Oper.wp
        rw [hrun]
        rcases hc with ⟨v', w', h1, h2, h3, h4⟩ | ⟨h1, h2⟩
        · rw [h1]
          exact hK _ _ r (S.put h3 (Le.refl _) (fun _ _ h => .inl h) (S.frTrans h4) h2 _)
        · rw [h1]
          refine Calls.mono h2 ?_
          rintro e w' ⟨v', rfl, h3, h4, h5⟩
          exact hK _ _ r (S.put h4 (Le.refl _) (fun _ _ h => .inl h) (S.frTrans h5) h3 _)
      cases hl : X.C f (args.toList.map a.eval) m with
      | none => simp [hl] at h
      | some u =>
        simp only [hl, Option.map_some, Option.some.injEq, Prod.mk.injEq] at h
        obtain ⟨rfl, rfl, rfl⟩ := h
        have hc := hX.call f _ m u.1 u.2 hl hp r w _ S.rel S.glob (S.evals hx)
        rw [e] at hc
        unfold Oper.wp
        rw [hrun]
        rcases hc with ⟨v', w', h1, h2, h3⟩ | ⟨h1, h2⟩
        · rw [h1]
          exact hK _ _ r (S.put (S.rel.below h3) (Le.refl _) (fun _ _ h => .inl h) (fr_below S.fr h3) h2 _)
        · rw [h1]
          refine Calls.mono h2 ?_
          rintro e w' ⟨v', rfl, h3, h4⟩
          exact hK _ _ r (S.put (S.rel.below h4) (Le.refl _) (fun _ _ h => .inl h) (fr_below S.fr h4) h3 _)
    · simp at h
  · rename_i args ts ho
    split at h
    · rename_i x y dT sT hargs hts
      split at h
      · rename_i hx
        simp only [Bool.and_eq_true] at hx
        have hl := scopyX_spec h hp
        · obtain ⟨hfl, c, o', vs, ⟨b, hb⟩, h3, h4⟩ := copy_run (sT := sT) (ty := o.type) S.rel (S.eval hx.1) (S.eval hx.2) hl
          have ea : args = #[x, y] := by rw [← Array.toArray_toList (xs := args), hargs]
          have et : ts = #[dT, sT] := by rw [← Array.toArray_toList (xs := ts), hts]
          subst ea; subst et
          refine wp_of_run (v := v) (w' := w.setCells c o' vs) (by simp [execOp, ho, resolve, invoke, builtin, h3]) (hK _ _ r (S.put h4 (Le.refl _) (fun _ _ h => .inl h) (fr_setCells S.fr (S.home hb) _ _) (tr_flat _ _ hfl) _))
      · simp at h
    · simp at h
  · rename_i args ts ho
    split at h
    · rename_i x t hargs hts
      split at h
      · rename_i hx
        cases hl : slen P t (a.eval x) with
        | none => simp [hl] at h
        | some u =>
          simp only [hl, Option.map_some, Option.some.injEq, Prod.mk.injEq] at h
          obtain ⟨rfl, rfl, rfl⟩ := h
          obtain ⟨hfl, h3⟩ := len_run (ty := o.type) (S.eval hx) hl
          have ea : args = #[x] := by rw [← Array.toArray_toList (xs := args), hargs]
          have et : ts = #[t] := by rw [← Array.toArray_toList (xs := ts), hts]
          subst ea; subst et
          exact wp_of_run (v := u) (by simp [execOp, ho, resolve, invoke, builtin, h3]) (hK _ _ _ (S.put0 (tr_flat _ _ hfl) _))
      · simp at h
    · simp at h
  · exact spure_wp h hp S hK
/-- One operation, its test told. -/
def sopD (P : Program) (X : Cx) (id : Nat) (o : Oper) (ev : Operand → Value) (m : Mem) : Option (List Prop × Value × Mem) :=
  match sop P X id o ev m with
  | some (ps, v, m') => some (ps ++ (told X o v).1, (told X o v).2, m')
  | none => none
theorem sopD_some {id : Nat} {o : Oper} {ev : Operand → Value} {ps : List Prop} {v : Value} {m' : Mem} (h : sopD P X id o ev m = some (ps, v, m')) :
    ∃ qs u, sop P X id o ev m = some (qs, u, m') ∧ ps = qs ++ (told X o u).1 ∧ v = (told X o u).2 := by
  unfold sopD at h
  split at h
  · rename_i qs u m2 hs
    simp only [Option.some.injEq, Prod.mk.injEq] at h
    obtain ⟨rfl, rfl, rfl⟩ := h
    exact ⟨qs, u, hs, rfl, rfl⟩
  · simp at h
theorem sopD_of {id : Nat} {o : Oper} {ev : Operand → Value} {qs : List Prop} {u : Value} {m' : Mem} (h : sop P X id o ev m = some (qs, u, m')) : sopD P X id o ev m = some (qs ++ (told X o u).1, (told X o u).2, m') := by
  unfold sopD; rw [h]
theorem sopD_wp (hX : X.Ok P) {id : Nat} {o : Oper} {ps : List Prop} {v : Value} {m' : Mem} (h : sopD P X id o a.eval m = some (ps, v, m')) (hp : ∀ p ∈ ps, p) (S : Sim X.gl r₀ w₀ a m A w r) {K : Act → World → Prop} {Q : Exit → Act → World → Prop}
    (hK : ∀ A' w' r', Sim X.gl r₀ w₀ (a.put o.dst v) m' A' w' r' → K A' w') : o.wp P A w K Q := by
  obtain ⟨qs, u, h1, rfl, rfl⟩ := sopD_some h
  rw [told_spec (fun p hq => hp p (by simp [hq]))] at hK
  exact sop_wp hX h1 (fun p hq => hp p (by simp [hq])) S hK
end Go.Proofs.YtnmgpkpdjpjbgaaDoor
