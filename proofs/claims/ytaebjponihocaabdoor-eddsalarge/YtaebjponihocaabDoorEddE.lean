/- eddsa: Verify. -/
import Derived.Test.YtaebjponihocaabDoorEddC
namespace Go.Proofs.YtaebjponihocaabDoor.Edd
open Go Go.RowKit Shf
set_option linter.unusedSimpArgs false
set_option linter.unusedVariables false
def vY (F : Fs) (A R : Nat) (y : List Value) : List Value := ((bl R).drop 0).take 32 ++ (((bl A).drop 0).take 32 ++ (y ++ []))
def vK (F : Fs) (A R : Nat) (y : List Value) : Nat := F.hsh (vY F A R y)
def vD (F : Fs) (A R S : Nat) (y : List Value) : Nat := F.dif (bnum (bv S)) (bnum (bv (vK F A R y))) (bnum (bv A))
def vE (F : Fs) (A : Nat) : Bool := !(F.rde (bnum (bv A)) == 0)
def vQ (F : Fs) (A R S : Nat) (y : List Value) : Bool := !(eqB (bl (vD F A R S y)).toArray (bl R).toArray 32)
def vs0 (fn : Func) (v : Sv) (A R S : Nat) : Act × Mem := (sinit fn [bv A, raw v.val, sgv R S], MA)
def vsX (P : Program) (F : Fs) (fn : Func) (v : Sv) (y : List Value) (A R S : Nat) (d : List (Nat × Bool)) : Act × Mem := runS P ((EH F v y).tell d) 80 (bodyOf fn) (vs0 fn v A R S)
def tT (F : Fs) (v : Sv) (y : List Value) (A R S : Nat) : List Prop := [p32 R, p32 A, pM v, pZ (vY F A R y), IsB (bv S) ∧ IsB (bv (vK F A R y)) ∧ IsB (bv A)]
theorem va_x (F : Fs) (v : Sv) (y : List Value) (A R S : Nat) : sexec Tryd.prog ((EH F v y).tell [(24, true)]) 80 (bodyOf Tryd.f7) [] (vs0 Tryd.f7 v A R S) = some ([IsB (bv A), vE F A = true], .ret, vsX Tryd.prog F Tryd.f7 v y A R S [(24, true)]) := by kernel_rfl
theorem va_r (F : Fs) (v : Sv) (y : List Value) (A R S : Nat) : sres Tryd.prog Tryd.f7 (vsX Tryd.prog F Tryd.f7 v y A R S [(24, true)]) = some (.int .i64 2) := by kernel_rfl
theorem va_d (F : Fs) (v : Sv) (y : List Value) (A R S : Nat) : (vsX Tryd.prog F Tryd.f7 v y A R S [(24, true)]).1.defers = [] := by kernel_rfl
theorem va_m (F : Fs) (v : Sv) (y : List Value) (A R S : Nat) : (vsX Tryd.prog F Tryd.f7 v y A R S [(24, true)]).2 = MA ++ (vsX Tryd.prog F Tryd.f7 v y A R S [(24, true)]).2.drop nA := by kernel_rfl
theorem vb_x (F : Fs) (v : Sv) (y : List Value) (A R S : Nat) : sexec Tryd.prog ((EH F v y).tell [(24, false), (26, true)]) 80 (bodyOf Tryd.f7) [] (vs0 Tryd.f7 v A R S) = some ([IsB (bv A), vE F A = false, F.sml (bnum (bv A)) = true], .ret, vsX Tryd.prog F Tryd.f7 v y A R S [(24, false), (26, true)]) := by kernel_rfl
theorem vb_r (F : Fs) (v : Sv) (y : List Value) (A R S : Nat) : sres Tryd.prog Tryd.f7 (vsX Tryd.prog F Tryd.f7 v y A R S [(24, false), (26, true)]) = some (.int .i64 2) := by kernel_rfl
theorem vb_d (F : Fs) (v : Sv) (y : List Value) (A R S : Nat) : (vsX Tryd.prog F Tryd.f7 v y A R S [(24, false), (26, true)]).1.defers = [] := by kernel_rfl
theorem vb_m (F : Fs) (v : Sv) (y : List Value) (A R S : Nat) : (vsX Tryd.prog F Tryd.f7 v y A R S [(24, false), (26, true)]).2 = MA ++ (vsX Tryd.prog F Tryd.f7 v y A R S [(24, false), (26, true)]).2.drop nA := by kernel_rfl
theorem vc_x (F : Fs) (v : Sv) (y : List Value) (A R S : Nat) : sexec Tryd.prog ((EH F v y).tell [(24, false), (26, false), (30, false)]) 80 (bodyOf Tryd.f7) [] (vs0 Tryd.f7 v A R S) = some ([IsB (bv A), vE F A = false, F.sml (bnum (bv A)) = false, Sc.IsB (bv S), F.can (Sc.bnum (bv S)) = false], .ret, vsX Tryd.prog F Tryd.f7 v y A R S [(24, false), (26, false), (30, false)]) := by kernel_rfl
theorem vc_r (F : Fs) (v : Sv) (y : List Value) (A R S : Nat) : sres Tryd.prog Tryd.f7 (vsX Tryd.prog F Tryd.f7 v y A R S [(24, false), (26, false), (30, false)]) = some (.int .i64 2) := by kernel_rfl
theorem vc_d (F : Fs) (v : Sv) (y : List Value) (A R S : Nat) : (vsX Tryd.prog F Tryd.f7 v y A R S [(24, false), (26, false), (30, false)]).1.defers = [] := by kernel_rfl
theorem vc_m (F : Fs) (v : Sv) (y : List Value) (A R S : Nat) : (vsX Tryd.prog F Tryd.f7 v y A R S [(24, false), (26, false), (30, false)]).2 = MA ++ (vsX Tryd.prog F Tryd.f7 v y A R S [(24, false), (26, false), (30, false)]).2.drop nA := by kernel_rfl
theorem vd_x (F : Fs) (v : Sv) (y : List Value) (A R S : Nat) : sexec Tryd.prog ((EH F v y).tell [(24, false), (26, false), (30, true), (43, true)]) 80 (bodyOf Tryd.f7) [] (vs0 Tryd.f7 v A R S) = some ([IsB (bv A), vE F A = false, F.sml (bnum (bv A)) = false, Sc.IsB (bv S), F.can (Sc.bnum (bv S)) = true] ++ tT F v y A R S ++ [vQ F A R S y = true], .ret, vsX Tryd.prog F Tryd.f7 v y A R S [(24, false), (26, false), (30, true), (43, true)]) := by kernel_rfl
theorem vd_r (F : Fs) (v : Sv) (y : List Value) (A R S : Nat) : sres Tryd.prog Tryd.f7 (vsX Tryd.prog F Tryd.f7 v y A R S [(24, false), (26, false), (30, true), (43, true)]) = some (.int .i64 3) := by kernel_rfl
theorem vd_d (F : Fs) (v : Sv) (y : List Value) (A R S : Nat) : (vsX Tryd.prog F Tryd.f7 v y A R S [(24, false), (26, false), (30, true), (43, true)]).1.defers = [] := by kernel_rfl
theorem vd_m (F : Fs) (v : Sv) (y : List Value) (A R S : Nat) : (vsX Tryd.prog F Tryd.f7 v y A R S [(24, false), (26, false), (30, true), (43, true)]).2 = MA ++ (vsX Tryd.prog F Tryd.f7 v y A R S [(24, false), (26, false), (30, true), (43, true)]).2.drop nA := by kernel_rfl
theorem ve_x (F : Fs) (v : Sv) (y : List Value) (A R S : Nat) : sexec Tryd.prog ((EH F v y).tell [(24, false), (26, false), (30, true), (43, false)]) 80 (bodyOf Tryd.f7) [] (vs0 Tryd.f7 v A R S) = some ([IsB (bv A), vE F A = false, F.sml (bnum (bv A)) = false, Sc.IsB (bv S), F.can (Sc.bnum (bv S)) = true] ++ tT F v y A R S ++ [vQ F A R S y = false], .ret, vsX Tryd.prog F Tryd.f7 v y A R S [(24, false), (26, false), (30, true), (43, false)]) := by kernel_rfl
theorem ve_r (F : Fs) (v : Sv) (y : List Value) (A R S : Nat) : sres Tryd.prog Tryd.f7 (vsX Tryd.prog F Tryd.f7 v y A R S [(24, false), (26, false), (30, true), (43, false)]) = some (.int .i64 0) := by kernel_rfl
theorem ve_d (F : Fs) (v : Sv) (y : List Value) (A R S : Nat) : (vsX Tryd.prog F Tryd.f7 v y A R S [(24, false), (26, false), (30, true), (43, false)]).1.defers = [] := by kernel_rfl
theorem ve_m (F : Fs) (v : Sv) (y : List Value) (A R S : Nat) : (vsX Tryd.prog F Tryd.f7 v y A R S [(24, false), (26, false), (30, true), (43, false)]).2 = MA ++ (vsX Tryd.prog F Tryd.f7 v y A R S [(24, false), (26, false), (30, true), (43, false)]).2.drop nA := by kernel_rfl
/-- What Verify answers. -/
def verN (F : Fs) (A R S : Nat) (y : List Value) : Int := if F.rde A ≠ 0 ∨ F.sml A = true ∨ F.can S = false then 2 else if F.dif S (F.hsh (bl R ++ (bl A ++ y))) A = R then 0 else 3
theorem vE_eq (F : Fs) {A : Nat} (hA : A < RN) : vE F A = decide (F.rde A ≠ 0) := by
  unfold vE
  rw [bnum_bv' hA]
  by_cases h : F.rde A = 0
  · rw [h]; rfl
  · rw [decide_eq_true h]; simp [h]
theorem ver_body {F : Fs} {v : Sv} {y : List Value} (hX : OkH (EH F v y) Tryd.prog (msgH v y)) (hL : F.Lt) (hy : MsgOK v y) (hn : y.length + 400 ≤ 140737488355328) (A R S : Nat) (hA : A < RN) (hR : R < RN) (hS : S < RN) :
    SWn (msgH v y) Tryd.prog glA (bodyOf Tryd.f7) (vs0 Tryd.f7 v A R S) (FQ Tryd.f7 (.int .i64 (verN F A R S y))) := by
  have hg : ∀ d, ((EH F v y).tell d).gl = glA := fun d => rfl
  have hs : Sc.bnum (bv S) = S := by rw [sc_bnum, bnum_bv' hS]
  have hE := vE_eq F hA
  have hyy : vY F A R y = bl R ++ (bl A ++ y) := by unfold vY; rw [take32, take32, List.append_nil]
  have hD : vD F A R S y = F.dif S (F.hsh (bl R ++ (bl A ++ y))) A := by unfold vD vK; rw [hyy, bnum_bv' hS, bnum_bv' hA, bnum_bv' (hL.hsh _)]
  have hQ : vQ F A R S y = !decide (F.dif S (F.hsh (bl R ++ (bl A ++ y))) A = R) := by unfold vQ; rw [hD, eqB_bl _ _ (hL.dif _ _ _) hR]
  have hT : ∀ p ∈ tT F v y A R S, p := by
    intro p hp
    simp only [tT, List.mem_cons, List.not_mem_nil, or_false] at hp
    rcases hp with rfl | rfl | rfl | rfl | rfl
    · exact p32_ok _
    · exact p32_ok _
    · exact pM_ok v
    · exact pZ_of (n := y.length) (k := 64) (by rw [hyy]; simp [bl_len]; omega) (by omega) (by omega) hn
    · exact ⟨isB_bv _, isB_bv _, isB_bv _⟩
  by_cases h1 : F.rde A = 0
  · have e1 : vE F A = false := by rw [hE, h1]; rfl
    by_cases h2 : F.sml A = true
    · have hv : verN F A R S y = 2 := by unfold verN; rw [if_pos (.inr (.inl h2))]
      rw [hv]
      refine SWn.runH (OkH.tell hX _) mixed (hg _) 80 (vb_x F v y A R S) (fun p hp => ?_) ⟨.inr rfl, vb_d F v y A R S, _, vb_r F v y A R S, .inl rfl, fun i B hB => by rw [vb_m]; exact getMA hB, rfl⟩
      simp only [List.mem_cons, List.not_mem_nil, or_false] at hp
      rcases hp with rfl | rfl | rfl
      · exact isB_bv _
      · exact e1
      · rw [bnum_bv' hA]; exact h2
    · have h2' : F.sml A = false := by simpa using h2
      by_cases h3 : F.can S = false
      · have hv : verN F A R S y = 2 := by unfold verN; rw [if_pos (.inr (.inr h3))]
        rw [hv]
        refine SWn.runH (OkH.tell hX _) mixed (hg _) 80 (vc_x F v y A R S) (fun p hp => ?_) ⟨.inr rfl, vc_d F v y A R S, _, vc_r F v y A R S, .inl rfl, fun i B hB => by rw [vc_m]; exact getMA hB, rfl⟩
        simp only [List.mem_cons, List.not_mem_nil, or_false] at hp
        rcases hp with rfl | rfl | rfl | rfl | rfl
        · exact isB_bv _
        · exact e1
        · rw [bnum_bv' hA]; exact h2'
        · exact sc_isB.2 (isB_bv _)
        · rw [hs]; exact h3
      · have h3' : F.can S = true := by simpa using h3
        have hno : ¬ (F.rde A ≠ 0 ∨ F.sml A = true ∨ F.can S = false) := by
          rintro (h | h | h)
          · exact h h1
          · exact h2 h
          · exact h3 h
        have hfirst : ∀ p ∈ ([IsB (bv A), vE F A = false, F.sml (bnum (bv A)) = false, Sc.IsB (bv S), F.can (Sc.bnum (bv S)) = true] : List Prop), p := by
          intro p hp
          simp only [List.mem_cons, List.not_mem_nil, or_false] at hp
          rcases hp with rfl | rfl | rfl | rfl | rfl
          · exact isB_bv _
          · exact e1
          · rw [bnum_bv' hA]; exact h2'
          · exact sc_isB.2 (isB_bv _)
          · rw [hs]; exact h3'
        by_cases h4 : F.dif S (F.hsh (bl R ++ (bl A ++ y))) A = R
        · have hv : verN F A R S y = 0 := by unfold verN; rw [if_neg hno, if_pos h4]
          rw [hv]
          refine SWn.runH (OkH.tell hX _) mixed (hg _) 80 (ve_x F v y A R S) (fun p hp => ?_) ⟨.inr rfl, ve_d F v y A R S, _, ve_r F v y A R S, .inl rfl, fun i B hB => by rw [ve_m]; exact getMA hB, rfl⟩
          rcases List.mem_append.1 hp with hp | hp
          · rcases List.mem_append.1 hp with hp | hp
            · exact hfirst p hp
            · exact hT p hp
          · rw [List.mem_singleton.1 hp, hQ, decide_eq_true h4]; rfl
        · have hv : verN F A R S y = 3 := by unfold verN; rw [if_neg hno, if_neg h4]
          rw [hv]
          refine SWn.runH (OkH.tell hX _) mixed (hg _) 80 (vd_x F v y A R S) (fun p hp => ?_) ⟨.inr rfl, vd_d F v y A R S, _, vd_r F v y A R S, .inl rfl, fun i B hB => by rw [vd_m]; exact getMA hB, rfl⟩
          rcases List.mem_append.1 hp with hp | hp
          · rcases List.mem_append.1 hp with hp | hp
            · exact hfirst p hp
            · exact hT p hp
          · rw [List.mem_singleton.1 hp, hQ, decide_eq_false h4]; rfl
  · have hv : verN F A R S y = 2 := by unfold verN; rw [if_pos (.inl h1)]
    rw [hv]
    refine SWn.runH (OkH.tell hX _) mixed (hg _) 80 (va_x F v y A R S) (fun p hp => ?_) ⟨.inr rfl, va_d F v y A R S, _, va_r F v y A R S, .inl rfl, fun i B hB => by rw [va_m]; exact getMA hB, rfl⟩
    simp only [List.mem_cons, List.not_mem_nil, or_false] at hp
    rcases hp with rfl | rfl
    · exact isB_bv _
    · rw [hE]; exact decide_eq_true h1
/-- A row of 64 bytes as two numbers. -/
def sg1N (S : Value) : Nat := match S with
  | .agg cs => bsum (cs.toList.take 32)
  | _ => 0
def sg2N (S : Value) : Nat := match S with
  | .agg cs => bsum (cs.toList.drop 32)
  | _ => 0
def IsSg (S : Value) : Prop := S = sgv (sg1N S) (sg2N S) ∧ sg1N S < RN ∧ sg2N S < RN
theorem bsum_bl' {n : Nat} (h : n < RN) : bsum (bl n) = n := by
  have := bnum_bv' h
  exact this
theorem isSg_sgv {R S : Nat} (hR : R < RN) (hS : S < RN) : IsSg (sgv R S) ∧ sg1N (sgv R S) = R ∧ sg2N (sgv R S) = S := by
  have e1 : sg1N (sgv R S) = R := by
    show bsum ((bl R ++ bl S).take 32) = R
    rw [List.take_left' (bl_len R)]; exact bsum_bl' hR
  have e2 : sg2N (sgv R S) = S := by
    show bsum ((bl R ++ bl S).drop 32) = S
    rw [List.drop_left' (bl_len R)]; exact bsum_bl' hS
  refine ⟨⟨?_, ?_, ?_⟩, e1, e2⟩
  · rw [e1, e2]
  · rw [e1]; exact hR
  · rw [e2]; exact hS
def gVerF (F : Fs) (v : Sv) (y : List Value) : List Value → Option (List Prop × Value)
  | [A, .tuple ⟨[.slice x n c]⟩, S] => some ([IsB A, x = v.x ∧ n = v.n ∧ c = v.c, IsSg S], .int .i64 (verN F (bnum A) (sg1N S) (sg2N S) y))
  | _ => none
theorem gVer_ok {X : Cx} {F : Fs} {v : Sv} {y : List Value} (hE : OkH (EH F v y) Tryd.prog (msgH v y)) (hL : F.Lt) (hX : OkH X Tryd.prog (msgH v y)) (hgl : X.gl = glA) (hy : MsgOK v y) (hn : y.length + 400 ≤ 140737488355328) : OkH (X.read 7 (gMsg (gVerF F v y))) Tryd.prog (msgH v y) := by
  refine gMsg_ok hX hgl Tryd.func7 (by kernel_rfl) (show _ = some (bodyOf Tryd.f7) from (by kernel_rfl)) ?_
  intro args ps u hg hp
  unfold gVerF at hg
  split at hg
  · rename_i A x n c S
    simp only [Option.some.injEq, Prod.mk.injEq] at hg
    obtain ⟨rfl, rfl⟩ := hg
    have hA : IsB A := hp _ List.mem_cons_self
    obtain ⟨rfl, rfl, rfl⟩ : x = v.x ∧ n = v.n ∧ c = v.c := hp _ (List.mem_cons_of_mem _ List.mem_cons_self)
    obtain ⟨s1, s2, s3⟩ : IsSg S := hp _ (List.mem_cons_of_mem _ (List.mem_cons_of_mem _ (List.mem_singleton.2 rfl)))
    refine ⟨rfl, ?_⟩
    have h := ver_body hE hL hy hn (bnum A) (sg1N S) (sg2N S) (bnum_lt hA) s2 s3
    unfold vs0 at h
    rw [← (show A = bv (bnum A) from hA), ← s1] at h
    exact h
  · simp at hg
end Go.Proofs.YtaebjponihocaabDoor.Edd
