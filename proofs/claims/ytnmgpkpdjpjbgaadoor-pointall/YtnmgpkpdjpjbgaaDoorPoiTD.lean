/- The curve's reference: what it exports, as contracts: it answers just as package point does. -/
import Derived.Test.YtnmgpkpdjpjbgaaDoorPoiTC
import Derived.Test.YtnmgpkpdjpjbgaaDoorPoiR
namespace Go.Proofs.YtnmgpkpdjpjbgaaDoor
open Go Go.RowKit
set_option linter.unusedSimpArgs false
set_option linter.unusedVariables false
/-- The runs are made with letters for what is reckoned: read (D, K), sum (S), mirror (M), often (O), write (E). -/
structure Lt where
  D : Nat → P4
  K : Nat → Bool
  S : P4 → P4 → P4
  M : P4 → P4
  O : Nat → P4 → P4
  E : P4 → Nat
def cDe (L : Lt) : List Value → Option (List Prop × Value)
  | [A] => some ([IsB A], .tuple #[qv (L.D (bnum A)), .bool (L.K (bnum A))])
  | _ => none
def cMi (L : Lt) : List Value → Option (List Prop × Value)
  | [A] => some ([IsQ A], qv (L.M (q4 A)))
  | _ => none
def cOf (L : Lt) : List Value → Option (List Prop × Value)
  | [A, B] => some ([IsB A ∧ IsQ B], qv (L.O (bnum A) (q4 B)))
  | _ => none
def cEn (L : Lt) : List Value → Option (List Prop × Value)
  | [A] => some ([IsQ A], bv (L.E (q4 A)))
  | _ => none
def HL (L : Lt) : Cx := ((((Cx.none.pure 38 (gRS L.S)).pure 39 (cMi L)).pure 37 (cEn L)).pure 40 (cOf L)).pure 36 (cDe L)
def L0 : Lt := ⟨dqP, rdOk, rsumN, rmirN, oftN, wqN⟩
theorem cDe0 : cDe L0 = gRdec := rfl
theorem cMi0 : cMi L0 = gRmir := rfl
theorem cOf0 : cOf L0 = gRoft := rfl
theorem cEn0 : cEn L0 = gRenc := rfl
theorem cS0 : gRS L0.S = gRsum := rfl
theorem HL_ok : (HL L0).Ok Tryd.prog := by
  unfold HL
  rw [cDe0, cMi0, cOf0, cEn0, cS0]
  exact gRdec_ok (gRoft_ok (gRenc_ok (gRmir_ok (gRsum_ok Cx.none_ok))))
theorem rzr_run (L : Lt)  : sfun Tryd.prog (HL L) 200 Tryd.f25 (bodyOf Tryd.f25) [] = some ([], bv 1) := by kernel_rfl
theorem Rzr_any   (w : World) : Calls Tryd.prog 25 #[] w fun e w' => e = .returned (bv 1) ∧ Below w.heap.size w w' := by
  exact sfun_calls HL_ok mixed Tryd.func25 (by kernel_rfl) (rzr_run L0) (al0) rfl (.inl (flat_bv _)) w
theorem rgZer_ok {X : Cx} (hX : X.Ok Tryd.prog) : (X.pure 25 gZer).Ok Tryd.prog := by
  refine gBody_ok hX Tryd.func25 (by kernel_rfl) (by kernel_rfl) ?_
  intro args ps v ha hg hp
  unfold gZer at hg
  split at hg
  · simp only [Option.some.injEq, Prod.mk.injEq] at hg
    obtain ⟨rfl, rfl⟩ := hg
    exact ⟨.inl (flat_bv _), fun w => Rzr_any w⟩
  · simp at hg
theorem rgn_run (L : Lt)  : sfun Tryd.prog (HL L) 200 Tryd.f27 (bodyOf Tryd.f27) [] = some ([], bv GY) := by kernel_rfl
theorem Rgn_any   (w : World) : Calls Tryd.prog 27 #[] w fun e w' => e = .returned (bv GY) ∧ Below w.heap.size w w' := by
  exact sfun_calls HL_ok mixed Tryd.func27 (by kernel_rfl) (rgn_run L0) (al0) rfl (.inl (flat_bv _)) w
theorem rgGnr_ok {X : Cx} (hX : X.Ok Tryd.prog) : (X.pure 27 gGnr).Ok Tryd.prog := by
  refine gBody_ok hX Tryd.func27 (by kernel_rfl) (by kernel_rfl) ?_
  intro args ps v ha hg hp
  unfold gGnr at hg
  split at hg
  · simp only [Option.some.injEq, Prod.mk.injEq] at hg
    obtain ⟨rfl, rfl⟩ := hg
    exact ⟨.inl (flat_bv _), fun w => Rgn_any w⟩
  · simp at hg
theorem rck_run1 (L : Lt) (a : Nat) : sfun Tryd.prog ((HL L).tell [(11, true)]) 200 Tryd.f21 (bodyOf Tryd.f21) [bv a] = some ([IsB (bv a), (!L.K (bnum (bv a))) = true], .int .i64 2) := by kernel_rfl
theorem rck_run0 (L : Lt) (a : Nat) : sfun Tryd.prog ((HL L).tell [(11, false)]) 200 Tryd.f21 (bodyOf Tryd.f21) [bv a] = some ([IsB (bv a), (!L.K (bnum (bv a))) = false], .int .i64 0) := by kernel_rfl
theorem L0K : L0.K = rdOk := rfl
theorem L0D : L0.D = dqP := rfl
theorem kNo {a : Nat} (ha : a < RN) (h : rdOk a = false) : (!L0.K (bnum (bv a))) = true := by rw [L0K, bnum_bv' ha, h]; rfl
theorem kYes {a : Nat} (ha : a < RN) (h : rdOk a = true) : (!L0.K (bnum (bv a))) = false := by rw [L0K, bnum_bv' ha, h]; rfl
theorem Rck_any (a : Nat) (ha : a < RN) (w : World) : Calls Tryd.prog 21 #[bv a] w fun e w' => e = .returned (.int .i64 (rdE a)) ∧ Below w.heap.size w w' := by
  cases hk : rdOk a
  · rw [rdE_no hk]
    exact sfun_calls (Cx.tell_ok HL_ok _) mixed Tryd.func21 (by kernel_rfl) (rck_run1 L0 a) (al (isB_bv _) (al (kNo ha hk) al0)) (by simp [flat_bv]) (.inl rfl) w
  · rw [rdE_ok hk]
    exact sfun_calls (Cx.tell_ok HL_ok _) mixed Tryd.func21 (by kernel_rfl) (rck_run0 L0 a) (al (isB_bv _) (al (kYes ha hk) al0)) (by simp [flat_bv]) (.inl rfl) w
theorem rgChk_ok {X : Cx} (hX : X.Ok Tryd.prog) : (X.pure 21 gChk).Ok Tryd.prog := by
  refine gBody_ok hX Tryd.func21 (by kernel_rfl) (by kernel_rfl) ?_
  intro args ps v ha hg hp
  unfold gChk at hg
  split at hg
  · rename_i A
    simp only [Option.some.injEq, Prod.mk.injEq] at hg
    obtain ⟨rfl, rfl⟩ := hg
    have hA := hp _ (List.mem_singleton.2 rfl)
    refine ⟨.inl rfl, fun w => ?_⟩
    have h := Rck_any (bnum A) (bnum_lt hA) w
    rw [← (show A = bv (bnum A) from hA)] at h
    exact h
  · simp at hg
theorem rad_run1 (L : Lt) (a : Nat) (b : Nat) : sfun Tryd.prog ((HL L).tell [(21, true)]) 200 Tryd.f15 (bodyOf Tryd.f15) [bv a, bv b] = some ([IsB (bv a), IsB (bv b), (!L.K (bnum (bv a))) = true], .tuple #[bv 0, .int .i64 2]) := by kernel_rfl
theorem rad_run2 (L : Lt) (a : Nat) (b : Nat) : sfun Tryd.prog ((HL L).tell [(21, false), (24, true)]) 200 Tryd.f15 (bodyOf Tryd.f15) [bv a, bv b] = some ([IsB (bv a), IsB (bv b), (!L.K (bnum (bv a))) = false, (!L.K (bnum (bv b))) = true], .tuple #[bv 0, .int .i64 2]) := by kernel_rfl
theorem rad_run0 (L : Lt) (a : Nat) (b : Nat) : sfun Tryd.prog ((HL L).tell [(21, false), (24, false)]) 200 Tryd.f15 (bodyOf Tryd.f15) [bv a, bv b] = some ([IsB (bv a), IsB (bv b), (!L.K (bnum (bv a))) = false, (!L.K (bnum (bv b))) = false, IsQ (qv (L.D (bnum (bv a)))) ∧ IsQ (qv (L.D (bnum (bv b)))), IsQ (qv (L.S (q4 (qv (L.D (bnum (bv a))))) (q4 (qv (L.D (bnum (bv b)))))))], .tuple #[bv (L.E (q4 (qv (L.S (q4 (qv (L.D (bnum (bv a))))) (q4 (qv (L.D (bnum (bv b))))))))), .int .i64 0]) := by kernel_rfl
theorem oftN_ok (n : Nat) {p : P4} (h : p.ok) : (oftN n p).ok := oR_ok h n 256
/-- The two agree. -/
theorem add_agree {a b : Nat} (ha : a < RN) (hb : b < RN) (hka : rdOk a = true) (hkb : rdOk b = true) : wqN (rsumN (dqP a) (dqP b)) = wrN (sumN (rdP a) (rdP b)) := by
  obtain ⟨P, rfl, hP⟩ := rd_point ha hka
  obtain ⟨Q, rfl, hQ⟩ := rd_point hb hkb
  rw [wq_enc (rsumN_ok (dqP_ok _) (dqP_ok _)) (rep_rsum (dqP_ok _) (dqP_ok _) (rep_dq P) (rep_dq Q))]
  refine (wr_enc ?_).symm
  rw [cP_sum]
  exact rep_sum FK hP hQ
theorem neg_agree {a : Nat} (ha : a < RN) (hka : rdOk a = true) : wqN (rmirN (dqP a)) = wrN (mirN (rdP a)) := by
  obtain ⟨P, rfl, hP⟩ := rd_point ha hka
  rw [wq_enc (rmirN_ok (dqP_ok _)) (rep_rmir (rep_dq P))]
  refine (wr_enc ?_).symm
  rw [cP_mir]
  exact rep_mir hP
theorem oft_agree {n a : Nat} (hn : n < RN) (ha : a < RN) (hka : rdOk a = true) : wqN (oftN n (dqP a)) = wrN (timesN n (rdP a)) := by
  obtain ⟨P, rfl, hP⟩ := rd_point ha hka
  rw [wq_enc (oftN_ok n (dqP_ok _)) (rep_often (dqP_ok _) (rep_dq P) n hn)]
  exact (wr_enc (rep_times hP n hn)).symm
theorem dq0 {a : Nat} (ha : a < RN) : L0.D (bnum (bv a)) = dqP a := by rw [L0D, bnum_bv' ha]
theorem Rad_any (a : Nat) (b : Nat) (ha : a < RN) (hb : b < RN) (w : World) : Calls Tryd.prog 15 #[bv a, bv b] w fun e w' => e = .returned (.tuple #[bv (addN a b), .int .i64 (addE a b)]) ∧ Below w.heap.size w w' := by
  cases hka : rdOk a
  · unfold addN addE
    rw [hka, Bool.false_and, if_neg Bool.false_ne_true, if_neg Bool.false_ne_true]
    exact sfun_calls (Cx.tell_ok HL_ok _) mixed Tryd.func15 (by kernel_rfl) (rad_run1 L0 a b) (al (isB_bv _) (al (isB_bv _) (al (kNo ha hka) al0))) (by simp [flat_bv]) (.inl (flat_tup _ _)) w
  · cases hkb : rdOk b
    · unfold addN addE
      rw [hka, hkb, Bool.true_and, if_neg Bool.false_ne_true, if_neg Bool.false_ne_true]
      exact sfun_calls (Cx.tell_ok HL_ok _) mixed Tryd.func15 (by kernel_rfl) (rad_run2 L0 a b) (al (isB_bv _) (al (isB_bv _) (al (kYes ha hka) (al (kNo hb hkb) al0)))) (by simp [flat_bv]) (.inl (flat_tup _ _)) w
    · have r := rad_run0 L0 a b
      rw [dq0 ha, dq0 hb, q4_qv (dqP_ok a), q4_qv (dqP_ok b)] at r
      have l : (L0.S (dqP a) (dqP b)).ok := rsumN_ok (dqP_ok a) (dqP_ok b)
      rw [q4_qv l] at r
      have e : L0.E (L0.S (dqP a) (dqP b)) = wrN (sumN (rdP a) (rdP b)) := add_agree ha hb hka hkb
      rw [e] at r
      unfold addN addE
      rw [hka, hkb, Bool.true_and, if_pos rfl, if_pos rfl]
      exact sfun_calls (Cx.tell_ok HL_ok _) mixed Tryd.func15 (by kernel_rfl) r (al (isB_bv _) (al (isB_bv _) (al (kYes ha hka) (al (kYes hb hkb) (al ⟨isQ_qv (dqP_ok a), isQ_qv (dqP_ok b)⟩ (al (isQ_qv l) al0)))))) (by simp [flat_bv]) (.inl (flat_tup _ _)) w
theorem rgAdp_ok {X : Cx} (hX : X.Ok Tryd.prog) : (X.pure 15 gAdp).Ok Tryd.prog := by
  refine gBody_ok hX Tryd.func15 (by kernel_rfl) (by kernel_rfl) ?_
  intro args ps v ha hg hp
  unfold gAdp at hg
  split at hg
  · rename_i A B
    simp only [Option.some.injEq, Prod.mk.injEq] at hg
    obtain ⟨rfl, rfl⟩ := hg
    obtain ⟨hA, hB⟩ := hp _ (List.mem_singleton.2 rfl)
    refine ⟨.inl (flat_tup _ _), fun w => ?_⟩
    have h := Rad_any (bnum A) (bnum B) (bnum_lt hA) (bnum_lt hB) w
    rw [← (show A = bv (bnum A) from hA), ← (show B = bv (bnum B) from hB)] at h
    exact h
  · simp at hg
theorem rng_run1 (L : Lt) (a : Nat) : sfun Tryd.prog ((HL L).tell [(12, true)]) 200 Tryd.f16 (bodyOf Tryd.f16) [bv a] = some ([IsB (bv a), (!L.K (bnum (bv a))) = true], .tuple #[bv 0, .int .i64 2]) := by kernel_rfl
theorem rng_run0 (L : Lt) (a : Nat) : sfun Tryd.prog ((HL L).tell [(12, false)]) 200 Tryd.f16 (bodyOf Tryd.f16) [bv a] = some ([IsB (bv a), (!L.K (bnum (bv a))) = false, IsQ (qv (L.D (bnum (bv a)))), IsQ (qv (L.M (q4 (qv (L.D (bnum (bv a)))))))], .tuple #[bv (L.E (q4 (qv (L.M (q4 (qv (L.D (bnum (bv a))))))))), .int .i64 0]) := by kernel_rfl
theorem Rng_any (a : Nat) (ha : a < RN) (w : World) : Calls Tryd.prog 16 #[bv a] w fun e w' => e = .returned (.tuple #[bv (negN a), .int .i64 (rdE a)]) ∧ Below w.heap.size w w' := by
  cases hka : rdOk a
  · rw [rdE_no hka]
    unfold negN
    rw [hka, if_neg Bool.false_ne_true]
    exact sfun_calls (Cx.tell_ok HL_ok _) mixed Tryd.func16 (by kernel_rfl) (rng_run1 L0 a) (al (isB_bv _) (al (kNo ha hka) al0)) (by simp [flat_bv]) (.inl (flat_tup _ _)) w
  · have r := rng_run0 L0 a
    rw [dq0 ha, q4_qv (dqP_ok a)] at r
    have l : (L0.M (dqP a)).ok := rmirN_ok (dqP_ok a)
    rw [q4_qv l] at r
    have e : L0.E (L0.M (dqP a)) = wrN (mirN (rdP a)) := neg_agree ha hka
    rw [e] at r
    rw [rdE_ok hka]
    unfold negN
    rw [hka, if_pos rfl]
    exact sfun_calls (Cx.tell_ok HL_ok _) mixed Tryd.func16 (by kernel_rfl) r (al (isB_bv _) (al (kYes ha hka) (al (isQ_qv (dqP_ok a)) (al (isQ_qv l) al0)))) (by simp [flat_bv]) (.inl (flat_tup _ _)) w
theorem rgNeg_ok {X : Cx} (hX : X.Ok Tryd.prog) : (X.pure 16 gNeg).Ok Tryd.prog := by
  refine gBody_ok hX Tryd.func16 (by kernel_rfl) (by kernel_rfl) ?_
  intro args ps v ha hg hp
  unfold gNeg at hg
  split at hg
  · rename_i A
    simp only [Option.some.injEq, Prod.mk.injEq] at hg
    obtain ⟨rfl, rfl⟩ := hg
    have hA := hp _ (List.mem_singleton.2 rfl)
    refine ⟨.inl (flat_tup _ _), fun w => ?_⟩
    have h := Rng_any (bnum A) (bnum_lt hA) w
    rw [← (show A = bv (bnum A) from hA)] at h
    exact h
  · simp at hg
theorem rml_run1 (L : Lt) (n : Nat) (a : Nat) : sfun Tryd.prog ((HL L).tell [(14, true)]) 200 Tryd.f17 (bodyOf Tryd.f17) [bv n, bv a] = some ([IsB (bv a), (!L.K (bnum (bv a))) = true], .tuple #[bv 0, .int .i64 2]) := by kernel_rfl
theorem rml_run0 (L : Lt) (n : Nat) (a : Nat) : sfun Tryd.prog ((HL L).tell [(14, false)]) 200 Tryd.f17 (bodyOf Tryd.f17) [bv n, bv a] = some ([IsB (bv a), (!L.K (bnum (bv a))) = false, IsB (bv n) ∧ IsQ (qv (L.D (bnum (bv a)))), IsQ (qv (L.O (bnum (bv n)) (q4 (qv (L.D (bnum (bv a)))))))], .tuple #[bv (L.E (q4 (qv (L.O (bnum (bv n)) (q4 (qv (L.D (bnum (bv a))))))))), .int .i64 0]) := by kernel_rfl
theorem Rml_any (n : Nat) (a : Nat) (hn : n < RN) (ha : a < RN) (w : World) : Calls Tryd.prog 17 #[bv n, bv a] w fun e w' => e = .returned (.tuple #[bv (pmlN n a), .int .i64 (rdE a)]) ∧ Below w.heap.size w w' := by
  cases hka : rdOk a
  · rw [rdE_no hka]
    unfold pmlN
    rw [hka, if_neg Bool.false_ne_true]
    exact sfun_calls (Cx.tell_ok HL_ok _) mixed Tryd.func17 (by kernel_rfl) (rml_run1 L0 n a) (al (isB_bv _) (al (kNo ha hka) al0)) (by simp [flat_bv]) (.inl (flat_tup _ _)) w
  · have r := rml_run0 L0 n a
    rw [dq0 ha, q4_qv (dqP_ok a), bnum_bv' hn] at r
    have l : (L0.O n (dqP a)).ok := oftN_ok n (dqP_ok a)
    rw [q4_qv l] at r
    have e : L0.E (L0.O n (dqP a)) = wrN (timesN n (rdP a)) := oft_agree hn ha hka
    rw [e] at r
    rw [rdE_ok hka]
    unfold pmlN
    rw [hka, if_pos rfl]
    exact sfun_calls (Cx.tell_ok HL_ok _) mixed Tryd.func17 (by kernel_rfl) r (al (isB_bv _) (al (kYes ha hka) (al ⟨isB_bv _, isQ_qv (dqP_ok a)⟩ (al (isQ_qv l) al0)))) (by simp [flat_bv]) (.inl (flat_tup _ _)) w
theorem rgPml_ok {X : Cx} (hX : X.Ok Tryd.prog) : (X.pure 17 gPml).Ok Tryd.prog := by
  refine gBody_ok hX Tryd.func17 (by kernel_rfl) (by kernel_rfl) ?_
  intro args ps v ha hg hp
  unfold gPml at hg
  split at hg
  · rename_i A B
    simp only [Option.some.injEq, Prod.mk.injEq] at hg
    obtain ⟨rfl, rfl⟩ := hg
    obtain ⟨hA, hB⟩ := hp _ (List.mem_singleton.2 rfl)
    refine ⟨.inl (flat_tup _ _), fun w => ?_⟩
    have h := Rml_any (bnum A) (bnum B) (bnum_lt hA) (bnum_lt hB) w
    rw [← (show A = bv (bnum A) from hA), ← (show B = bv (bnum B) from hB)] at h
    exact h
  · simp at hg
def HL2 (L : Lt) : Cx := (HL L).pure 27 gGnr
theorem HL2_ok : (HL2 L0).Ok Tryd.prog := rgGnr_ok HL_ok
theorem rbs_run (L : Lt) (n : Nat) : sfun Tryd.prog (HL2 L) 200 Tryd.f23 (bodyOf Tryd.f23) [bv n] = some ([IsB (bv GY), IsB (bv n) ∧ IsQ (qv (L.D (bnum (bv GY)))), IsQ (qv (L.O (bnum (bv n)) (q4 (qv (L.D (bnum (bv GY)))))))], bv (L.E (q4 (qv (L.O (bnum (bv n)) (q4 (qv (L.D (bnum (bv GY)))))))))) := by kernel_rfl
theorem bas_agree {n : Nat} (hn : n < RN) : wqN (oftN n (dqP GY)) = basN n := by
  have h := oft_agree (a := enc BP) hn (enc_lt BP) (rd_enc BP)
  have h2 := wr_enc (rep_times (rd_rep BP) n hn)
  rw [enc_BP] at h h2
  rw [h, h2, bas_enc n hn]
theorem Rbs_any (n : Nat) (hn : n < RN) (w : World) : Calls Tryd.prog 23 #[bv n] w fun e w' => e = .returned (bv (basN n)) ∧ Below w.heap.size w w' := by
  have r := rbs_run L0 n
  rw [dq0 GY_lt, q4_qv (dqP_ok GY), bnum_bv' hn] at r
  have l : (L0.O n (dqP GY)).ok := oftN_ok n (dqP_ok GY)
  rw [q4_qv l] at r
  have e : L0.E (L0.O n (dqP GY)) = basN n := bas_agree hn
  rw [e] at r
  exact sfun_calls HL2_ok mixed Tryd.func23 (by kernel_rfl) r (al (isB_bv _) (al ⟨isB_bv _, isQ_qv (dqP_ok GY)⟩ (al (isQ_qv l) al0))) (by simp [flat_bv]) (.inl (flat_bv _)) w
theorem rgBas_ok {X : Cx} (hX : X.Ok Tryd.prog) : (X.pure 23 gBas).Ok Tryd.prog := by
  refine gBody_ok hX Tryd.func23 (by kernel_rfl) (by kernel_rfl) ?_
  intro args ps v ha hg hp
  unfold gBas at hg
  split at hg
  · rename_i A
    simp only [Option.some.injEq, Prod.mk.injEq] at hg
    obtain ⟨rfl, rfl⟩ := hg
    have hA := hp _ (List.mem_singleton.2 rfl)
    refine ⟨.inl (flat_bv _), fun w => ?_⟩
    have h := Rbs_any (bnum A) (bnum_lt hA) w
    rw [← (show A = bv (bnum A) from hA)] at h
    exact h
  · simp at hg
def cMl (f g : Nat → Nat → Nat) (e : Nat → Int) : List Value → Option (List Prop × Value)
  | [A, B] => some ([IsB A ∧ IsB B], .tuple #[bv (f (bnum A) (bnum B)), .int .i64 (e (bnum B))])
  | _ => none
def HM (f g : Nat → Nat → Nat) (e : Nat → Int) : Cx := Cx.none.pure 17 (cMl f g e)
theorem cMl0 : cMl pmlN pmlN rdE = gPml := rfl
theorem HM_ok : (HM pmlN pmlN rdE).Ok Tryd.prog := by
  unfold HM
  rw [cMl0]
  exact rgPml_ok Cx.none_ok
theorem rcl_run (f g : Nat → Nat → Nat) (e : Nat → Int) (a : Nat) : sfun Tryd.prog (HM f g e) 100 Tryd.f18 (bodyOf Tryd.f18) [bv a] = some ([IsB (bv 8) ∧ IsB (bv a)], .tuple #[bv (f (bnum (bv 8)) (bnum (bv a))), .int .i64 (e (bnum (bv a)))]) := by kernel_rfl
theorem clr_agree {a : Nat} (ha : a < RN) : pmlN 8 a = clrN a := by
  cases hka : rdOk a
  · unfold pmlN clrN
    rw [hka, if_neg Bool.false_ne_true, if_neg Bool.false_ne_true]
  · obtain ⟨P, rfl, _⟩ := rd_point ha hka
    rw [mul_enc 8 (by decide), clr_enc]
theorem Rcl_any (a : Nat) (ha : a < RN) (w : World) : Calls Tryd.prog 18 #[bv a] w fun e w' => e = .returned (.tuple #[bv (clrN a), .int .i64 (rdE a)]) ∧ Below w.heap.size w w' := by
  have r := rcl_run pmlN pmlN rdE a
  rw [bnum_bv' (n := 8) (by decide), bnum_bv' ha, clr_agree ha] at r
  exact sfun_calls HM_ok mixed Tryd.func18 (by kernel_rfl) r (al ib2 al0) (by simp [flat_bv]) (.inl (flat_tup _ _)) w
theorem rgClr_ok {X : Cx} (hX : X.Ok Tryd.prog) : (X.pure 18 gClr).Ok Tryd.prog := by
  refine gBody_ok hX Tryd.func18 (by kernel_rfl) (by kernel_rfl) ?_
  intro args ps v ha hg hp
  unfold gClr at hg
  split at hg
  · rename_i A
    simp only [Option.some.injEq, Prod.mk.injEq] at hg
    obtain ⟨rfl, rfl⟩ := hg
    have hA := hp _ (List.mem_singleton.2 rfl)
    refine ⟨.inl (flat_tup _ _), fun w => ?_⟩
    have h := Rcl_any (bnum A) (bnum_lt hA) w
    rw [← (show A = bv (bnum A) from hA)] at h
    exact h
  · simp at hg
def cCl (f : Nat → Nat) (e : Nat → Int) : List Value → Option (List Prop × Value)
  | [A] => some ([IsB A], .tuple #[bv (f (bnum A)), .int .i64 (e (bnum A))])
  | _ => none
def HN (f : Nat → Nat) (e : Nat → Int) : Cx := (Cx.none.pure 18 (cCl f e)).pure 25 gZer
theorem cCl0 : cCl clrN rdE = gClr := rfl
theorem HN_ok : (HN clrN rdE).Ok Tryd.prog := by
  unfold HN
  rw [cCl0]
  exact rgZer_ok (rgClr_ok Cx.none_ok)
theorem rsm_run1 (f : Nat → Nat) (e : Nat → Int) (a : Nat) : sfun Tryd.prog ((HN f e).tell [(12, false)]) 100 Tryd.f19 (bodyOf Tryd.f19) [bv a] = some ([IsB (bv a), (e (bnum (bv a)) == 0) = false], .tuple #[.bool false, .int .i64 (e (bnum (bv a)))]) := by kernel_rfl
theorem rsm_run0 (f : Nat → Nat) (e : Nat → Int) (a : Nat) : sfun Tryd.prog ((HN f e).tell [(12, true)]) 100 Tryd.f19 (bodyOf Tryd.f19) [bv a] = some ([IsB (bv a), (e (bnum (bv a)) == 0) = true], .tuple #[.bool (eqB (bl (f (bnum (bv a)))).toArray (bl 1).toArray 32), .int .i64 (e (bnum (bv a)))]) := by kernel_rfl
theorem Rsm_any (a : Nat) (ha : a < RN) (w : World) : Calls Tryd.prog 19 #[bv a] w fun e w' => e = .returned (.tuple #[.bool (smlB a), .int .i64 (rdE a)]) ∧ Below w.heap.size w w' := by
  cases hk : rdOk a
  · have r := rsm_run1 clrN rdE a
    rw [bnum_bv' ha, rdE_no hk] at r
    rw [rdE_no hk]
    unfold smlB
    rw [hk, Bool.false_and]
    exact sfun_calls (Cx.tell_ok HN_ok _) mixed Tryd.func19 (by kernel_rfl) r (al (isB_bv _) (al rfl al0)) (by simp [flat_bv]) (.inl (flat_tupB _ _)) w
  · have r := rsm_run0 clrN rdE a
    rw [bnum_bv' ha, rdE_ok hk, eqB_bl _ 1 (clrN_lt a) (by decide)] at r
    rw [rdE_ok hk]
    unfold smlB
    rw [hk, Bool.true_and]
    exact sfun_calls (Cx.tell_ok HN_ok _) mixed Tryd.func19 (by kernel_rfl) r (al (isB_bv _) (al rfl al0)) (by simp [flat_bv]) (.inl (flat_tupB _ _)) w
theorem rgSml_ok {X : Cx} (hX : X.Ok Tryd.prog) : (X.pure 19 gSml).Ok Tryd.prog := by
  refine gBody_ok hX Tryd.func19 (by kernel_rfl) (by kernel_rfl) ?_
  intro args ps v ha hg hp
  unfold gSml at hg
  split at hg
  · rename_i A
    simp only [Option.some.injEq, Prod.mk.injEq] at hg
    obtain ⟨rfl, rfl⟩ := hg
    have hA := hp _ (List.mem_singleton.2 rfl)
    refine ⟨.inl (flat_tupB _ _), fun w => ?_⟩
    have h := Rsm_any (bnum A) (bnum_lt hA) w
    rw [← (show A = bv (bnum A) from hA)] at h
    exact h
  · simp at hg
end Go.Proofs.YtnmgpkpdjpjbgaaDoor
