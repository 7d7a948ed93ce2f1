/- Package point: what it exports, as contracts. -/
import Derived.Test.YtdegfgncdphepaaDoorPoiG
namespace Go.Proofs.YtdegfgncdphepaaDoor
open Go Go.RowKit
set_option linter.unusedSimpArgs false
set_option linter.unusedVariables false
def rdV (A : Value) : P4 := rdP (bnum A)
def reV (A : Value) : Int := rdE (bnum A)
theorem rdE_ok {n : Nat} (h : rdOk n = true) : rdE n = 0 := by unfold rdE; rw [h, if_pos rfl]
theorem rdE_no {n : Nat} (h : rdOk n = false) : rdE n = 2 := by unfold rdE; rw [h, if_neg Bool.false_ne_true]
theorem reB_ok {n : Nat} (h : rdOk n = true) : (!(rdE n == 0)) = false := by rw [rdE_ok h]; rfl
theorem reB_no {n : Nat} (h : rdOk n = false) : (!(rdE n == 0)) = true := by rw [rdE_no h]; rfl
theorem zer_run  : sfunG Tryd.prog F9 M0 80 Tryd.f27 (bodyOf Tryd.f27) [] = some ([], bv 1) := by kernel_rfl
theorem Zer_any   (w : World) (hw : Glo M0 w) : Calls Tryd.prog 27 #[] w fun e w' => e = .returned (bv 1) ∧ Below w.heap.size w w' := by
  exact sfunG_calls F9_ok mixed M0_flat (by kernel_rfl) Tryd.func27 (by kernel_rfl) zer_run (al0) rfl (.inl (flat_bv _)) w hw
def gZer : List Value → Option (List Prop × Value)
  | [] => some ([], bv 1)
  | _ => none
theorem gZer_ok {X : Cx} (hX : X.Ok Tryd.prog) (hc : coversG M0 X.gl = true) : (X.var M0 27 gZer).Ok Tryd.prog := by
  refine gVar_ok hX M0_flat hc Tryd.func27 (by kernel_rfl) (by kernel_rfl) ?_
  intro args ps v ha hg hp
  unfold gZer at hg
  split at hg
  · simp only [Option.some.injEq, Prod.mk.injEq] at hg
    obtain ⟨rfl, rfl⟩ := hg
    exact ⟨.inl (flat_bv _), fun w hw => Zer_any w hw⟩
  · simp at hg
def gGnr : List Value → Option (List Prop × Value)
  | [] => some ([], bv GY)
  | _ => none
def gChk : List Value → Option (List Prop × Value)
  | [A] => some ([IsB A], .int .i64 (rdE (bnum A)))
  | _ => none
theorem neg_run1 (a : Nat) : sfunG Tryd.prog (F9.tell [(12, true)]) M0 80 Tryd.f31 (bodyOf Tryd.f31) [bv a] = some ([IsB (bv a), (!(rdE (bnum (bv a)) == 0)) = true], .tuple #[bv 0, .int .i64 (rdE (bnum (bv a)))]) := by kernel_rfl
theorem neg_run0 (a : Nat) : sfunG Tryd.prog (F9.tell [(12, false)]) M0 80 Tryd.f31 (bodyOf Tryd.f31) [bv a] = some ([IsB (bv a), (!(rdE (bnum (bv a)) == 0)) = false, IsP (pv (rdP (bnum (bv a)))), IsP (pv (mirN (p4 (pv (rdP (bnum (bv a)))))))], .tuple #[bv (wrN (p4 (pv (mirN (p4 (pv (rdP (bnum (bv a))))))))), .int .i64 0]) := by kernel_rfl
def negN (a : Nat) : Nat := if rdOk a then wrN (mirN (rdP a)) else 0
theorem Neg_any (a : Nat) (ha : a < RN) (w : World) (hw : Glo M0 w) : Calls Tryd.prog 31 #[bv a] w fun e w' => e = .returned (.tuple #[bv (negN a), .int .i64 (rdE a)]) ∧ Below w.heap.size w w' := by
  cases hk : rdOk a
  · have r := neg_run1 a
    rw [bnum_bv' ha, rdE_no hk] at r
    rw [rdE_no hk]
    unfold negN
    rw [hk, if_neg Bool.false_ne_true]
    exact sfunG_calls (Cx.tell_ok F9_ok _) mixed M0_flat (by kernel_rfl) Tryd.func31 (by kernel_rfl) r (al (isB_bv _) (al rfl al0)) (by simp [flat_bv]) (.inl (flat_tup _ _)) w hw
  · have r := neg_run0 a
    rw [bnum_bv' ha, p4_pv (rdP_ok a), p4_pv (mirN_ok (rdP_ok a)), rdE_ok hk] at r
    rw [rdE_ok hk]
    unfold negN
    rw [hk, if_pos rfl]
    exact sfunG_calls (Cx.tell_ok F9_ok _) mixed M0_flat (by kernel_rfl) Tryd.func31 (by kernel_rfl) r (al (isB_bv _) (al rfl (al (isP_pv (rdP_ok a)) (al (isP_pv (mirN_ok (rdP_ok a))) al0)))) (by simp [flat_bv]) (.inl (flat_tup _ _)) w hw
def gNeg : List Value → Option (List Prop × Value)
  | [A] => some ([IsB A], .tuple #[bv (negN (bnum A)), .int .i64 (rdE (bnum A))])
  | _ => none
theorem gNeg_ok {X : Cx} (hX : X.Ok Tryd.prog) (hc : coversG M0 X.gl = true) : (X.var M0 31 gNeg).Ok Tryd.prog := by
  refine gVar_ok hX M0_flat hc Tryd.func31 (by kernel_rfl) (by kernel_rfl) ?_
  intro args ps v ha hg hp
  unfold gNeg at hg
  split at hg
  · rename_i A
    simp only [Option.some.injEq, Prod.mk.injEq] at hg
    obtain ⟨rfl, rfl⟩ := hg
    have hA := hp _ (List.mem_singleton.2 rfl)
    refine ⟨.inl (flat_tup _ _), fun w hw => ?_⟩
    have h := Neg_any (bnum A) (bnum_lt hA) w hw
    rw [← (show A = bv (bnum A) from hA)] at h
    exact h
  · simp at hg
theorem pml_run1 (n : Nat) (a : Nat) : sfunG Tryd.prog (F9.tell [(14, true)]) M0 80 Tryd.f30 (bodyOf Tryd.f30) [bv n, bv a] = some ([IsB (bv a), (!(rdE (bnum (bv a)) == 0)) = true], .tuple #[bv 0, .int .i64 (rdE (bnum (bv a)))]) := by kernel_rfl
theorem pml_run0 (n : Nat) (a : Nat) : sfunG Tryd.prog (F9.tell [(14, false)]) M0 80 Tryd.f30 (bodyOf Tryd.f30) [bv n, bv a] = some ([IsB (bv a), (!(rdE (bnum (bv a)) == 0)) = false, IsB (bv n) ∧ IsP (pv (rdP (bnum (bv a)))), IsP (pv (timesN (bnum (bv n)) (p4 (pv (rdP (bnum (bv a)))))))], .tuple #[bv (wrN (p4 (pv (timesN (bnum (bv n)) (p4 (pv (rdP (bnum (bv a))))))))), .int .i64 0]) := by kernel_rfl
def pmlN (n : Nat) (a : Nat) : Nat := if rdOk a then wrN (timesN n (rdP a)) else 0
theorem Pml_any (n : Nat) (a : Nat) (hn : n < RN) (ha : a < RN) (w : World) (hw : Glo M0 w) : Calls Tryd.prog 30 #[bv n, bv a] w fun e w' => e = .returned (.tuple #[bv (pmlN n a), .int .i64 (rdE a)]) ∧ Below w.heap.size w w' := by
  cases hk : rdOk a
  · have r := pml_run1 n a
    rw [bnum_bv' ha, rdE_no hk] at r
    rw [rdE_no hk]
    unfold pmlN
    rw [hk, if_neg Bool.false_ne_true]
    exact sfunG_calls (Cx.tell_ok F9_ok _) mixed M0_flat (by kernel_rfl) Tryd.func30 (by kernel_rfl) r (al (isB_bv _) (al rfl al0)) (by simp [flat_bv]) (.inl (flat_tup _ _)) w hw
  · have r := pml_run0 n a
    rw [bnum_bv' ha, bnum_bv' hn, p4_pv (rdP_ok a), p4_pv (timesN_ok n (rdP a)), rdE_ok hk] at r
    rw [rdE_ok hk]
    unfold pmlN
    rw [hk, if_pos rfl]
    exact sfunG_calls (Cx.tell_ok F9_ok _) mixed M0_flat (by kernel_rfl) Tryd.func30 (by kernel_rfl) r (al (isB_bv _) (al rfl (al ⟨isB_bv _, isP_pv (rdP_ok a)⟩ (al (isP_pv (timesN_ok _ _)) al0)))) (by simp [flat_bv]) (.inl (flat_tup _ _)) w hw
def gPml : List Value → Option (List Prop × Value)
  | [A, B] => some ([IsB A ∧ IsB B], .tuple #[bv (pmlN (bnum A) (bnum B)), .int .i64 (rdE (bnum B))])
  | _ => none
theorem gPml_ok {X : Cx} (hX : X.Ok Tryd.prog) (hc : coversG M0 X.gl = true) : (X.var M0 30 gPml).Ok Tryd.prog := by
  refine gVar_ok hX M0_flat hc Tryd.func30 (by kernel_rfl) (by kernel_rfl) ?_
  intro args ps v ha hg hp
  unfold gPml at hg
  split at hg
  · rename_i A B
    simp only [Option.some.injEq, Prod.mk.injEq] at hg
    obtain ⟨rfl, rfl⟩ := hg
    obtain ⟨hA, hB⟩ := hp _ (List.mem_singleton.2 rfl)
    refine ⟨.inl (flat_tup _ _), fun w hw => ?_⟩
    have h := Pml_any (bnum A) (bnum B) (bnum_lt hA) (bnum_lt hB) w hw
    rw [← (show A = bv (bnum A) from hA), ← (show B = bv (bnum B) from hB)] at h
    exact h
  · simp at hg
theorem clr_run1 (a : Nat) : sfunG Tryd.prog (F9.tell [(12, true)]) M0 80 Tryd.f26 (bodyOf Tryd.f26) [bv a] = some ([IsB (bv a), (!(rdE (bnum (bv a)) == 0)) = true], .tuple #[bv 0, .int .i64 (rdE (bnum (bv a)))]) := by kernel_rfl
theorem clr_run0 (a : Nat) : sfunG Tryd.prog (F9.tell [(12, false)]) M0 80 Tryd.f26 (bodyOf Tryd.f26) [bv a] = some ([IsB (bv a), (!(rdE (bnum (bv a)) == 0)) = false, IsP (pv (rdP (bnum (bv a)))), IsP (pv (dblN (p4 (pv (rdP (bnum (bv a))))))), IsP (pv (dblN (p4 (pv (dblN (p4 (pv (rdP (bnum (bv a)))))))))), IsP (pv (dblN (p4 (pv (dblN (p4 (pv (dblN (p4 (pv (rdP (bnum (bv a)))))))))))))], .tuple #[bv (wrN (p4 (pv (dblN (p4 (pv (dblN (p4 (pv (dblN (p4 (pv (rdP (bnum (bv a))))))))))))))), .int .i64 0]) := by kernel_rfl
def clrN (a : Nat) : Nat := if rdOk a then wrN (dblN (dblN (dblN (rdP a)))) else 0
theorem Clr_any (a : Nat) (ha : a < RN) (w : World) (hw : Glo M0 w) : Calls Tryd.prog 26 #[bv a] w fun e w' => e = .returned (.tuple #[bv (clrN a), .int .i64 (rdE a)]) ∧ Below w.heap.size w w' := by
  cases hk : rdOk a
  · have r := clr_run1 a
    rw [bnum_bv' ha, rdE_no hk] at r
    rw [rdE_no hk]
    unfold clrN
    rw [hk, if_neg Bool.false_ne_true]
    exact sfunG_calls (Cx.tell_ok F9_ok _) mixed M0_flat (by kernel_rfl) Tryd.func26 (by kernel_rfl) r (al (isB_bv _) (al rfl al0)) (by simp [flat_bv]) (.inl (flat_tup _ _)) w hw
  · have r := clr_run0 a
    rw [bnum_bv' ha, p4_pv (rdP_ok a), p4_pv (dblN_ok (rdP a)), p4_pv (dblN_ok (dblN (rdP a))), p4_pv (dblN_ok (dblN (dblN (rdP a)))), rdE_ok hk] at r
    rw [rdE_ok hk]
    unfold clrN
    rw [hk, if_pos rfl]
    exact sfunG_calls (Cx.tell_ok F9_ok _) mixed M0_flat (by kernel_rfl) Tryd.func26 (by kernel_rfl) r (al (isB_bv _) (al rfl (al (isP_pv (rdP_ok a)) (al (isP_pv (dblN_ok _)) (al (isP_pv (dblN_ok _)) (al (isP_pv (dblN_ok _)) al0)))))) (by simp [flat_bv]) (.inl (flat_tup _ _)) w hw
def gClr : List Value → Option (List Prop × Value)
  | [A] => some ([IsB A], .tuple #[bv (clrN (bnum A)), .int .i64 (rdE (bnum A))])
  | _ => none
theorem gClr_ok {X : Cx} (hX : X.Ok Tryd.prog) (hc : coversG M0 X.gl = true) : (X.var M0 26 gClr).Ok Tryd.prog := by
  refine gVar_ok hX M0_flat hc Tryd.func26 (by kernel_rfl) (by kernel_rfl) ?_
  intro args ps v ha hg hp
  unfold gClr at hg
  split at hg
  · rename_i A
    simp only [Option.some.injEq, Prod.mk.injEq] at hg
    obtain ⟨rfl, rfl⟩ := hg
    have hA := hp _ (List.mem_singleton.2 rfl)
    refine ⟨.inl (flat_tup _ _), fun w hw => ?_⟩
    have h := Clr_any (bnum A) (bnum_lt hA) w hw
    rw [← (show A = bv (bnum A) from hA)] at h
    exact h
  · simp at hg
theorem add_run1 (a : Nat) (b : Nat) : sfunG Tryd.prog (F9.tell [(15, true)]) M0 80 Tryd.f32 (bodyOf Tryd.f32) [bv a, bv b] = some ([IsB (bv a), (!(rdE (bnum (bv a)) == 0)) = true], .tuple #[bv 0, .int .i64 (rdE (bnum (bv a)))]) := by kernel_rfl
theorem add_run2 (a : Nat) (b : Nat) : sfunG Tryd.prog (F9.tell [(15, false), (24, true)]) M0 80 Tryd.f32 (bodyOf Tryd.f32) [bv a, bv b] = some ([IsB (bv a), (!(rdE (bnum (bv a)) == 0)) = false, IsB (bv b), (!(rdE (bnum (bv b)) == 0)) = true], .tuple #[bv 0, .int .i64 (rdE (bnum (bv b)))]) := by kernel_rfl
theorem add_run0 (a : Nat) (b : Nat) : sfunG Tryd.prog (F9.tell [(15, false), (24, false)]) M0 80 Tryd.f32 (bodyOf Tryd.f32) [bv a, bv b] = some ([IsB (bv a), (!(rdE (bnum (bv a)) == 0)) = false, IsB (bv b), (!(rdE (bnum (bv b)) == 0)) = false, IsP (pv (rdP (bnum (bv a)))) ∧ IsP (pv (rdP (bnum (bv b)))), IsP (pv (sumN (p4 (pv (rdP (bnum (bv a))))) (p4 (pv (rdP (bnum (bv b)))))))], .tuple #[bv (wrN (p4 (pv (sumN (p4 (pv (rdP (bnum (bv a))))) (p4 (pv (rdP (bnum (bv b))))))))), .int .i64 0]) := by kernel_rfl
def addN (a b : Nat) : Nat := if rdOk a && rdOk b then wrN (sumN (rdP a) (rdP b)) else 0
def addE (a b : Nat) : Int := if rdOk a && rdOk b then 0 else 2
theorem Adp_any (a : Nat) (b : Nat) (ha : a < RN) (hb : b < RN) (w : World) (hw : Glo M0 w) : Calls Tryd.prog 32 #[bv a, bv b] w fun e w' => e = .returned (.tuple #[bv (addN a b), .int .i64 (addE a b)]) ∧ Below w.heap.size w w' := by
  cases hka : rdOk a
  · have r := add_run1 a b
    rw [bnum_bv' ha, rdE_no hka] at r
    unfold addN addE
    rw [hka, Bool.false_and, if_neg Bool.false_ne_true, if_neg Bool.false_ne_true]
    exact sfunG_calls (Cx.tell_ok F9_ok _) mixed M0_flat (by kernel_rfl) Tryd.func32 (by kernel_rfl) r (al (isB_bv _) (al rfl al0)) (by simp [flat_bv]) (.inl (flat_tup _ _)) w hw
  · cases hkb : rdOk b
    · have r := add_run2 a b
      rw [bnum_bv' ha, bnum_bv' hb, rdE_ok hka, rdE_no hkb] at r
      unfold addN addE
      rw [hka, hkb, Bool.true_and, if_neg Bool.false_ne_true, if_neg Bool.false_ne_true]
      exact sfunG_calls (Cx.tell_ok F9_ok _) mixed M0_flat (by kernel_rfl) Tryd.func32 (by kernel_rfl) r (al (isB_bv _) (al rfl (al (isB_bv _) (al rfl al0)))) (by simp [flat_bv]) (.inl (flat_tup _ _)) w hw
    · have r := add_run0 a b
      rw [bnum_bv' ha, bnum_bv' hb, rdE_ok hka, rdE_ok hkb, p4_pv (rdP_ok a), p4_pv (rdP_ok b), p4_pv (sumN_ok (rdP a) (rdP b))] at r
      unfold addN addE
      rw [hka, hkb, Bool.true_and, if_pos rfl, if_pos rfl]
      exact sfunG_calls (Cx.tell_ok F9_ok _) mixed M0_flat (by kernel_rfl) Tryd.func32 (by kernel_rfl) r (al (isB_bv _) (al rfl (al (isB_bv _) (al rfl (al ⟨isP_pv (rdP_ok a), isP_pv (rdP_ok b)⟩ (al (isP_pv (sumN_ok _ _)) al0)))))) (by simp [flat_bv]) (.inl (flat_tup _ _)) w hw
def gAdp : List Value → Option (List Prop × Value)
  | [A, B] => some ([IsB A ∧ IsB B], .tuple #[bv (addN (bnum A) (bnum B)), .int .i64 (addE (bnum A) (bnum B))])
  | _ => none
theorem gAdp_ok {X : Cx} (hX : X.Ok Tryd.prog) (hc : coversG M0 X.gl = true) : (X.var M0 32 gAdp).Ok Tryd.prog := by
  refine gVar_ok hX M0_flat hc Tryd.func32 (by kernel_rfl) (by kernel_rfl) ?_
  intro args ps v ha hg hp
  unfold gAdp at hg
  split at hg
  · rename_i A B
    simp only [Option.some.injEq, Prod.mk.injEq] at hg
    obtain ⟨rfl, rfl⟩ := hg
    obtain ⟨hA, hB⟩ := hp _ (List.mem_singleton.2 rfl)
    refine ⟨.inl (flat_tup _ _), fun w hw => ?_⟩
    have h := Adp_any (bnum A) (bnum B) (bnum_lt hA) (bnum_lt hB) w hw
    rw [← (show A = bv (bnum A) from hA), ← (show B = bv (bnum B) from hB)] at h
    exact h
  · simp at hg
def FA : Cx := (F9.var M0 27 gZer).var M0 26 gClr
theorem FA_ok : FA.Ok Tryd.prog := gClr_ok (gZer_ok F9_ok (by kernel_rfl)) (by kernel_rfl)
theorem sml_run1 (a : Nat) : sfunG Tryd.prog (FA.tell [(12, false)]) M0 80 Tryd.f13 (bodyOf Tryd.f13) [bv a] = some ([IsB (bv a), (rdE (bnum (bv a)) == 0) = false], .tuple #[.bool false, .int .i64 (rdE (bnum (bv a)))]) := by kernel_rfl
theorem sml_run0 (a : Nat) : sfunG Tryd.prog (FA.tell [(12, true)]) M0 80 Tryd.f13 (bodyOf Tryd.f13) [bv a] = some ([IsB (bv a), (rdE (bnum (bv a)) == 0) = true], .tuple #[.bool (eqB (bl (clrN (bnum (bv a)))).toArray (bl 1).toArray 32), .int .i64 (rdE (bnum (bv a)))]) := by kernel_rfl
def smlB (a : Nat) : Bool := rdOk a && decide (clrN a = 1)
theorem clrN_lt (a : Nat) : clrN a < RN := by
  unfold clrN
  split
  · exact wrN_lt _
  · decide
theorem negN_lt (a : Nat) : negN a < RN := by
  unfold negN
  split
  · exact wrN_lt _
  · decide
theorem pmlN_lt (n a : Nat) : pmlN n a < RN := by
  unfold pmlN
  split
  · exact wrN_lt _
  · decide
theorem addN_lt (a b : Nat) : addN a b < RN := by
  unfold addN
  split
  · exact wrN_lt _
  · decide
theorem flat_tupB (b : Bool) (e : Int) : flat (.tuple #[.bool b, .int .i64 e]) = true := rfl
theorem Sml_any (a : Nat) (ha : a < RN) (w : World) (hw : Glo M0 w) : Calls Tryd.prog 13 #[bv a] w fun e w' => e = .returned (.tuple #[.bool (smlB a), .int .i64 (rdE a)]) ∧ Below w.heap.size w w' := by
  cases hk : rdOk a
  · have r := sml_run1 a
    rw [bnum_bv' ha, rdE_no hk] at r
    rw [rdE_no hk]
    unfold smlB
    rw [hk, Bool.false_and]
    exact sfunG_calls (Cx.tell_ok FA_ok _) mixed M0_flat (by kernel_rfl) Tryd.func13 (by kernel_rfl) r (al (isB_bv _) (al rfl al0)) (by simp [flat_bv]) (.inl (flat_tupB _ _)) w hw
  · have r := sml_run0 a
    rw [bnum_bv' ha, rdE_ok hk, eqB_bl _ 1 (clrN_lt a) (by decide)] at r
    rw [rdE_ok hk]
    unfold smlB
    rw [hk, Bool.true_and]
    exact sfunG_calls (Cx.tell_ok FA_ok _) mixed M0_flat (by kernel_rfl) Tryd.func13 (by kernel_rfl) r (al (isB_bv _) (al rfl al0)) (by simp [flat_bv]) (.inl (flat_tupB _ _)) w hw
def gSml : List Value → Option (List Prop × Value)
  | [A] => some ([IsB A], .tuple #[.bool (smlB (bnum A)), .int .i64 (rdE (bnum A))])
  | _ => none
theorem gSml_ok {X : Cx} (hX : X.Ok Tryd.prog) (hc : coversG M0 X.gl = true) : (X.var M0 13 gSml).Ok Tryd.prog := by
  refine gVar_ok hX M0_flat hc Tryd.func13 (by kernel_rfl) (by kernel_rfl) ?_
  intro args ps v ha hg hp
  unfold gSml at hg
  split at hg
  · rename_i A
    simp only [Option.some.injEq, Prod.mk.injEq] at hg
    obtain ⟨rfl, rfl⟩ := hg
    have hA := hp _ (List.mem_singleton.2 rfl)
    refine ⟨.inl (flat_tupB _ _), fun w hw => ?_⟩
    have h := Sml_any (bnum A) (bnum_lt hA) w hw
    rw [← (show A = bv (bnum A) from hA)] at h
    exact h
  · simp at hg
def FB : Cx := FA.var M0 13 gSml
theorem FB_ok : FB.Ok Tryd.prog := gSml_ok FA_ok (by kernel_rfl)
def F9g : Cx := (F9.glo gl5).var M1 20 gGen
theorem F9g_ok : F9g.Ok Tryd.prog := gGen_ok (Cx.glo_ok F9_ok fun g h => inGl h) (by kernel_rfl)
theorem genN_ok : genN.ok := atN_ok (by decide) (by decide)
def basN (n : Nat) : Nat := wrN (timesN n genN)
theorem bas_run (n : Nat) : sfunG Tryd.prog F9g M1 80 Tryd.f10 (bodyOf Tryd.f10) [bv n] = some ([IsB (bv n) ∧ IsP (pv genN), IsP (pv (timesN (bnum (bv n)) (p4 (pv genN))))], bv (wrN (p4 (pv (timesN (bnum (bv n)) (p4 (pv genN))))))) := by kernel_rfl
theorem Bas_any (n : Nat) (hn : n < RN) (w : World) (hw : Glo M1 w) : Calls Tryd.prog 10 #[bv n] w fun e w' => e = .returned (bv (basN n)) ∧ Below w.heap.size w w' := by
  have r := bas_run n
  rw [bnum_bv' hn, p4_pv genN_ok, p4_pv (timesN_ok _ _)] at r
  exact sfunG_calls F9g_ok mixed M1_flat (by kernel_rfl) Tryd.func10 (by kernel_rfl) r (al ⟨isB_bv _, isP_pv genN_ok⟩ (al (isP_pv (timesN_ok _ _)) al0)) (by simp [flat_bv]) (.inl (flat_bv _)) w hw
def gBas : List Value → Option (List Prop × Value)
  | [A] => some ([IsB A], bv (basN (bnum A)))
  | _ => none
theorem gBas_ok {X : Cx} (hX : X.Ok Tryd.prog) (hc : coversG M1 X.gl = true) : (X.var M1 10 gBas).Ok Tryd.prog := by
  refine gVar_ok hX M1_flat hc Tryd.func10 (by kernel_rfl) (by kernel_rfl) ?_
  intro args ps v ha hg hp
  unfold gBas at hg
  split at hg
  · rename_i A
    simp only [Option.some.injEq, Prod.mk.injEq] at hg
    obtain ⟨rfl, rfl⟩ := hg
    have hA := hp _ (List.mem_singleton.2 rfl)
    refine ⟨.inl (flat_bv _), fun w hw => ?_⟩
    have h := Bas_any (bnum A) (bnum_lt hA) w hw
    rw [← (show A = bv (bnum A) from hA)] at h
    exact h
  · simp at hg
def FBg : Cx := (FB.glo gl5).var M1 10 gBas
theorem FBg_ok : FBg.Ok Tryd.prog := gBas_ok (Cx.glo_ok FB_ok fun g h => inGl h) (by kernel_rfl)
theorem basN_lt (n : Nat) : basN n < RN := wrN_lt _
end Go.Proofs.YtdegfgncdphepaaDoor
