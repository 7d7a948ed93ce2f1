/- The laws PointOrder, PointBytes, PointEight, PointGroup: their runs, and that each answers true. -/
import Derived.Test.YtnmgpkpdjpjbgaaDoorPoiL
namespace Go.Proofs.YtnmgpkpdjpjbgaaDoor
open Go Go.RowKit
set_option linter.unusedSimpArgs false
set_option linter.unusedVariables false
def arrV : Value → Array Value
  | .agg cs => cs
  | _ => #[]
def eqV (A B : Value) : Bool := eqB (arrV A) (arrV B) 32
theorem eqV_bv (m n : Nat) (hm : m < RN) (hn : n < RN) : eqV (bv m) (bv n) = decide (m = n) := eqB_bl m n hm hn
theorem eqV_yes {m n : Nat} (hm : m < RN) (h : m = n) : eqV (bv m) (bv n) = true := by subst h; rw [eqV_bv m m hm hm]; exact decide_eq_true rfl
def ADV (A B : Value) : Value := bv (addN (bnum A) (bnum B))
def ADE (A B : Value) : Int := addE (bnum A) (bnum B)
def BAV (A : Value) : Value := bv (basN (bnum A))
def NEV (A : Value) : Value := bv (negN (bnum A))
def MLV (A B : Value) : Value := bv (pmlN (bnum A) (bnum B))
def CLV (A : Value) : Value := bv (clrN (bnum A))
def REV (A : Value) : Int := rdE (bnum A)
def SMV (A : Value) : Bool := smlB (bnum A)
/-- awake -/
theorem awk_run : sfunG Tryd.prog (FB.tell [(14, true)]) M0 80 Tryd.f9 (bodyOf Tryd.f9) [] = some ([IsB (bv GY), (REV (bv GY) == 0) = true], .bool true) := by kernel_rfl
theorem gy_enc : GY = enc BP := enc_BP.symm
theorem GY_lt : GY < RN := by decide
theorem REV_enc (p : PT) : REV (bv (enc p)) = 0 := by unfold REV; rw [bnum_bv' (enc_lt p), rdE_enc]
theorem REV_gy : REV (bv GY) = 0 := by
  have := REV_enc BP
  rw [enc_BP] at this
  exact this
theorem is0 {x : Int} (h : x = 0) : (x == 0) = true := by rw [h]; rfl
theorem not0 {x : Int} (h : x = 0) : (!(x == 0)) = false := by rw [h]; rfl
def gAwk : List Value → Option (List Prop × Value)
  | [] => some ([], .bool true)
  | _ => none
theorem Awk_any (w : World) (hw : Glo M0 w) : Calls Tryd.prog 9 #[] w fun e w' => e = .returned (.bool true) ∧ Below w.heap.size w w' :=
  sfunG_calls (Cx.tell_ok FB_ok _) mixed M0_flat (by kernel_rfl) Tryd.func9 (by kernel_rfl) awk_run (al (isB_bv _) (al (is0 REV_gy) al0)) rfl (.inl rfl) w hw
theorem gAwk_ok {X : Cx} (hX : X.Ok Tryd.prog) (hc : coversG M0 X.gl = true) : (X.var M0 9 gAwk).Ok Tryd.prog := by
  refine gVar_ok hX M0_flat hc Tryd.func9 (by kernel_rfl) (by kernel_rfl) ?_
  intro args ps v ha hg hp
  unfold gAwk at hg
  split at hg
  · simp only [Option.some.injEq, Prod.mk.injEq] at hg
    obtain ⟨rfl, rfl⟩ := hg
    exact ⟨.inl rfl, fun w hw => Awk_any w hw⟩
  · simp at hg
def FC : Cx := FB.var M0 9 gAwk
theorem FC_ok : FC.Ok Tryd.prog := gAwk_ok FB_ok (by kernel_rfl)
def FCg : Cx := FBg.var M0 9 gAwk
theorem FCg_ok : FCg.Ok Tryd.prog := gAwk_ok FBg_ok (by kernel_rfl)
theorem byt_run1 (p : Nat) : sfunG Tryd.prog (FC.tell [(19, true), (21, true), (25, true)]) M0 100 Tryd.f7 (bodyOf Tryd.f7) [bv p] = some ([IsB (bv p) ∧ IsB (bv 1), IsB (bv p), (!(REV (bv p) == 0)) = true, (ADE (bv p) (bv 1) == 2) = true, eqV (ADV (bv p) (bv 1)) (bv 0) = true], .bool true) := by kernel_rfl
theorem byt_run0 (p : Nat) : sfunG Tryd.prog (FC.tell [(19, false), (40, true), (44, true), (48, true), (52, true), (57, true)]) M0 100 Tryd.f7 (bodyOf Tryd.f7) [bv p] = some ([IsB (bv p) ∧ IsB (bv 1), IsB (bv p), (!(REV (bv p) == 0)) = false, IsB (bv p) ∧ IsB (bv p), IsB (bv 2) ∧ IsB (bv p), (ADE (bv p) (bv 1) == 0) = true, eqV (ADV (bv p) (bv 1)) (bv p) = true, (ADE (bv p) (bv p) == 0) = true, (REV (bv p) == 0) = true, eqV (ADV (bv p) (bv p)) (MLV (bv 2) (bv p)) = true], .bool true) := by kernel_rfl
theorem eig_run (n : Nat) : sfunG Tryd.prog (FCg.tell [(31, true), (34, true), (38, true), (43, true), (50, true)]) M1 100 Tryd.f6 (bodyOf Tryd.f6) [bv n] = some ([IsB (bv n), IsB (BAV (bv n)), IsB (bv 8) ∧ IsB (BAV (bv n)), IsB (BAV (bv n)), (REV (BAV (bv n)) == 0) = true, (REV (BAV (bv n)) == 0) = true, (REV (BAV (bv n)) == 0) = true, eqV (CLV (BAV (bv n))) (MLV (bv 8) (BAV (bv n))) = true, (SMV (BAV (bv n)) == eqV (BAV (bv n)) (bv 1)) = true], .bool true) := by kernel_rfl
theorem ord_run  : sfunG Tryd.prog (FCg.tell [(21, true), (25, true), (31, true), (37, true)]) M1 100 Tryd.f8 (bodyOf Tryd.f8) [] = some ([IsB (bv GY), IsB (bv LN), eqV (BAV (bv LN)) (bv 1) = true, (REV (bv GY) == 0) = true, IsB (bv (LN - 1)), eqV (BAV (bv (LN - 1))) (NEV (bv GY)) = true, IsB (bv 1), eqV (BAV (bv 1)) (bv GY) = true], .bool true) := by kernel_rfl
theorem grp_run (n : Nat) (m : Nat) (k : Nat) : sfunG Tryd.prog (FCg.tell [(82, false), (85, false), (89, false), (93, false), (97, false), (101, false), (105, false), (109, false), (113, true), (117, true), (122, true), (127, true)]) M1 100 Tryd.f4 (bodyOf Tryd.f4) [bv n, bv m, bv k] = some ([IsB (bv n), IsB (bv m), IsB (bv k), IsB (BAV (bv n)) ∧ IsB (BAV (bv m)), IsB (BAV (bv m)) ∧ IsB (BAV (bv n)), IsB (ADV (BAV (bv n)) (BAV (bv m))) ∧ IsB (BAV (bv k)), IsB (BAV (bv m)) ∧ IsB (BAV (bv k)), IsB (BAV (bv n)) ∧ IsB (ADV (BAV (bv m)) (BAV (bv k))), IsB (BAV (bv n)), IsB (BAV (bv n)) ∧ IsB (NEV (BAV (bv n))), IsB (BAV (bv n)) ∧ IsB (bv 1), (!(ADE (BAV (bv n)) (BAV (bv m)) == 0)) = false, (!(ADE (BAV (bv m)) (BAV (bv n)) == 0)) = false, (!(ADE (ADV (BAV (bv n)) (BAV (bv m))) (BAV (bv k)) == 0)) = false, (!(ADE (BAV (bv m)) (BAV (bv k)) == 0)) = false, (!(ADE (BAV (bv n)) (ADV (BAV (bv m)) (BAV (bv k))) == 0)) = false, (!(REV (BAV (bv n)) == 0)) = false, (!(ADE (BAV (bv n)) (NEV (BAV (bv n))) == 0)) = false, (!(ADE (BAV (bv n)) (bv 1) == 0)) = false, eqV (ADV (BAV (bv n)) (BAV (bv m))) (ADV (BAV (bv m)) (BAV (bv n))) = true, eqV (ADV (ADV (BAV (bv n)) (BAV (bv m))) (BAV (bv k))) (ADV (BAV (bv n)) (ADV (BAV (bv m)) (BAV (bv k)))) = true, eqV (ADV (BAV (bv n)) (NEV (BAV (bv n)))) (bv 1) = true, eqV (ADV (BAV (bv n)) (bv 1)) (BAV (bv n)) = true], .bool true) := by kernel_rfl
/-- In the group. -/
theorem BAV_enc (n : Nat) (hn : n < RN) : BAV (bv n) = bv (enc (pmul n BP)) := by unfold BAV; rw [bnum_bv' hn, bas_enc n hn]
theorem ADV_enc (p q : PT) : ADV (bv (enc p)) (bv (enc q)) = bv (enc (padd p q)) := by unfold ADV; rw [bnum_bv' (enc_lt p), bnum_bv' (enc_lt q), (add_enc p q).1]
theorem ADE_enc (p q : PT) : ADE (bv (enc p)) (bv (enc q)) = 0 := by unfold ADE; rw [bnum_bv' (enc_lt p), bnum_bv' (enc_lt q), (add_enc p q).2]
theorem NEV_enc (p : PT) : NEV (bv (enc p)) = bv (enc p.neg) := by unfold NEV; rw [bnum_bv' (enc_lt p), neg_enc]
theorem MLV_enc (n : Nat) (hn : n < RN) (p : PT) : MLV (bv n) (bv (enc p)) = bv (enc (pmul n p)) := by unfold MLV; rw [bnum_bv' hn, bnum_bv' (enc_lt p), mul_enc n hn]
theorem CLV_enc (p : PT) : CLV (bv (enc p)) = bv (enc (pmul 8 p)) := by unfold CLV; rw [bnum_bv' (enc_lt p), clr_enc]
theorem eqV_pt {p q : PT} (h : p = q) : eqV (bv (enc p)) (bv (enc q)) = true := eqV_yes (enc_lt p) (by rw [h])
abbrev PZ : PT := Pt.zero DK
theorem bv1 : bv 1 = bv (enc PZ) := by rw [enc_zero]
theorem ib2 {A B : Nat} : IsB (bv A) ∧ IsB (bv B) := ⟨isB_bv _, isB_bv _⟩
theorem pointOrder_walk   (w : World) (hw : Glo M1 w) : Calls Tryd.prog 8 #[] w fun e w' => e = .returned (.bool true) ∧ Below w.heap.size w w' := by
  have r := ord_run
  rw [BAV_enc LN (by decide), BAV_enc (LN - 1) (by decide), BAV_enc 1 (by decide), gy_enc, NEV_enc, bv1] at r
  have e1 : pmul (LN - 1) BP = BP.neg := by
    have h : padd (pmul (LN - 1) BP) BP = PZ := by
      show Pt.smul FK (LN - 1 + 1) BP = _
      exact LB_zero
    have h2 : padd (padd (pmul (LN - 1) BP) BP) BP.neg = BP.neg := by rw [h]; exact Pt.zero_add FK _
    rw [show padd (padd (pmul (LN - 1) BP) BP) BP.neg = padd (pmul (LN - 1) BP) (padd BP BP.neg) from Pt.add_assoc FK _ _ _, show padd BP BP.neg = PZ from Pt.add_neg FK _, show padd (pmul (LN - 1) BP) PZ = pmul (LN - 1) BP from Pt.add_zero FK _] at h2
    exact h2
  exact sfunG_calls (Cx.tell_ok FCg_ok _) mixed M1_flat (by kernel_rfl) Tryd.func8 (by kernel_rfl) r (al (isB_bv _) (al (isB_bv _) (al (eqV_pt LB_zero) (al (is0 (REV_enc BP)) (al (isB_bv _) (al (eqV_pt e1) (al (isB_bv _) (al (eqV_pt (Pt.smul_one FK BP)) al0)))))))) rfl (.inl rfl) w hw
theorem pointBytes_walk (p : Nat) (hp : p < RN) (w : World) (hw : Glo M0 w) : Calls Tryd.prog 7 #[bv p] w fun e w' => e = .returned (.bool true) ∧ Below w.heap.size w w' := by
  cases hk : rdOk p
  · have e1 : REV (bv p) = 2 := by unfold REV; rw [bnum_bv' hp, rdE_no hk]
    have e2 : ADE (bv p) (bv 1) = 2 := by unfold ADE addE; rw [bnum_bv' hp, hk, Bool.false_and, if_neg Bool.false_ne_true]
    have e3 : ADV (bv p) (bv 1) = bv 0 := by unfold ADV addN; rw [bnum_bv' hp, hk, Bool.false_and, if_neg Bool.false_ne_true]
    exact sfunG_calls (Cx.tell_ok FC_ok _) mixed M0_flat (by kernel_rfl) Tryd.func7 (by kernel_rfl) (byt_run1 p) (al ib2 (al (isB_bv _) (al (by rw [e1]; rfl) (al (by rw [e2]; rfl) (al (by rw [e3]; exact eqV_yes (by decide) rfl) al0))))) (by simp [flat_bv]) (.inl rfl) w hw
  · obtain ⟨P, rfl, _⟩ := rd_point hp hk
    have r := byt_run0 (enc P)
    rw [bv1, ADV_enc, ADV_enc, MLV_enc 2 (by decide)] at r
    exact sfunG_calls (Cx.tell_ok FC_ok _) mixed M0_flat (by kernel_rfl) Tryd.func7 (by kernel_rfl) r (al ib2 (al (isB_bv _) (al (not0 (REV_enc P)) (al ib2 (al ib2 (al (is0 (ADE_enc P PZ)) (al (eqV_pt (Pt.add_zero FK P)) (al (is0 (ADE_enc P P)) (al (is0 (REV_enc P)) (al (eqV_pt (Pt.smul_two FK P).symm) al0)))))))))) (by simp [flat_bv]) (.inl rfl) w hw
theorem LB_mul (n : Nat) : pmul LN (pmul n BP) = PZ := by
  have h1 := Pt.smul_mul FK BP n LN
  have h2 := Pt.smul_mul FK BP LN n
  show Pt.smul FK LN (Pt.smul FK n BP) = _
  rw [← h1, Nat.mul_comm, h2]
  have : Pt.smul FK LN BP = PZ := LB_zero
  rw [this]
  exact Pt.smul_zero FK n
/-- What the generator makes and is neutral taken eight times is neutral. -/
theorem small_zero {P : PT} {n : Nat} (hP : P = pmul n BP) (h8 : pmul 8 P = PZ) : P = PZ := by
  have hL : pmul LN P = PZ := by rw [hP]; exact LB_mul n
  -- 8 u = 1 + v L
  have e : 8 * 2713877091499598330239944961141122840321418634767465352250731601857045344121 = 1 + 3 * LN := by decide
  have h1 := Pt.smul_mul FK P 8 2713877091499598330239944961141122840321418634767465352250731601857045344121
  rw [Nat.mul_comm, e, Pt.smul_add, Pt.smul_mul FK P LN 3] at h1
  have h8' : Pt.smul FK 8 P = PZ := h8
  have hL' : Pt.smul FK LN P = PZ := hL
  rw [h8', hL', Pt.smul_zero, Pt.smul_zero, Pt.smul_one, Pt.add_zero] at h1
  exact h1
theorem pointEight_walk (n : Nat) (hn : n < RN) (w : World) (hw : Glo M1 w) : Calls Tryd.prog 6 #[bv n] w fun e w' => e = .returned (.bool true) ∧ Below w.heap.size w w' := by
  have r := eig_run n
  rw [BAV_enc n hn, CLV_enc, MLV_enc 8 (by decide), bv1] at r
  obtain ⟨P, hP⟩ : ∃ P, P = pmul n BP := ⟨_, rfl⟩
  rw [← hP] at r
  have e : SMV (bv (enc P)) = eqV (bv (enc P)) (bv (enc PZ)) := by
    unfold SMV smlB
    rw [bnum_bv' (enc_lt P), rd_enc, Bool.true_and, clr_enc, eqV_bv _ _ (enc_lt P) (enc_lt PZ), decide_eq_decide, ← enc_zero]
    constructor
    · intro h
      have h8 := enc_inj h
      rw [small_zero hP h8]
    · intro h
      rw [enc_inj h]
      rw [show pmul 8 PZ = PZ from Pt.smul_zero FK 8]
  exact sfunG_calls (Cx.tell_ok FCg_ok _) mixed M1_flat (by kernel_rfl) Tryd.func6 (by kernel_rfl) r (al (isB_bv _) (al (isB_bv _) (al ib2 (al (isB_bv _) (al (is0 (REV_enc P)) (al (is0 (REV_enc P)) (al (is0 (REV_enc P)) (al (eqV_pt rfl) (al (by rw [e]; exact beq_self_eq_true _) al0))))))))) (by simp [flat_bv]) (.inl rfl) w hw
theorem pointGroup_walk (n : Nat) (m : Nat) (k : Nat) (hn : n < RN) (hm : m < RN) (hk : k < RN) (w : World) (hw : Glo M1 w) : Calls Tryd.prog 4 #[bv n, bv m, bv k] w fun e w' => e = .returned (.bool true) ∧ Below w.heap.size w w' := by
  have r := grp_run n m k
  rw [BAV_enc n hn, BAV_enc m hm, BAV_enc k hk, NEV_enc, bv1] at r
  obtain ⟨P, hP⟩ : ∃ P, P = pmul n BP := ⟨_, rfl⟩
  obtain ⟨Q, hQ⟩ : ∃ Q, Q = pmul m BP := ⟨_, rfl⟩
  obtain ⟨R, hR⟩ : ∃ R, R = pmul k BP := ⟨_, rfl⟩
  rw [← hP, ← hQ, ← hR] at r
  rw [ADV_enc P Q, ADV_enc Q P, ADV_enc (padd P Q) R, ADV_enc Q R, ADV_enc P (padd Q R), ADV_enc P P.neg, ADV_enc P PZ] at r
  exact sfunG_calls (Cx.tell_ok FCg_ok _) mixed M1_flat (by kernel_rfl) Tryd.func4 (by kernel_rfl) r (al (isB_bv _) (al (isB_bv _) (al (isB_bv _) (al ib2 (al ib2 (al ib2 (al ib2 (al ib2 (al (isB_bv _) (al ib2 (al ib2 (al (not0 (ADE_enc _ _)) (al (not0 (ADE_enc _ _)) (al (not0 (ADE_enc _ _)) (al (not0 (ADE_enc _ _)) (al (not0 (ADE_enc _ _)) (al (not0 (REV_enc _)) (al (not0 (ADE_enc _ _)) (al (not0 (ADE_enc _ _)) (al (eqV_pt (Pt.add_comm FK P Q)) (al (eqV_pt (Pt.add_assoc FK P Q R)) (al (eqV_pt (Pt.add_neg FK P)) (al (eqV_pt (Pt.add_zero FK P)) al0))))))))))))))))))))))) (by simp [flat_bv]) (.inl rfl) w hw
end Go.Proofs.YtnmgpkpdjpjbgaaDoor
