/- eddsa: Sign's contract. -/
import Derived.Test.YtdegfgncdphepaaDoorEddC
namespace Go.Proofs.YtdegfgncdphepaaDoor.Edd
open Go Go.RowKit Shf
set_option linter.unusedSimpArgs false
set_option linter.unusedVariables false
theorem p32_ok (n : Nat) : p32 n := ⟨by rw [bl_len]; omega, by kernel_rfl⟩
theorem pM_ok (v : Sv) : pM v := ⟨rfl, rfl, rfl⟩
theorem take32 (n : Nat) : ((bl n).drop 0).take 32 = bl n := by
  rw [List.drop_zero]; exact List.take_of_length_le (by rw [bl_len]; omega)
theorem pZ_of {l : List Value} {n k : Nat} (h : l.length = k + n) (hk : 0 < k) (hk2 : k ≤ 200) (hn : n + 400 ≤ 140737488355328) : pZ l := ⟨by omega, by omega⟩
theorem sgT_ok {F : Fs} {v : Sv} {y : List Value} (hn : y.length + 400 ≤ 140737488355328) (s : Nat) : ∀ p ∈ sgT F v y s, p := by
  intro p hp
  simp only [sgT, List.mem_cons, List.not_mem_nil, or_false] at hp
  rcases hp with rfl | rfl | rfl | rfl | rfl | rfl | rfl | rfl | rfl | rfl | rfl
  · exact isB_bv _
  · exact p32_ok _
  · exact pM_ok v
  · exact pZ_of (n := y.length) (k := 32) (by unfold gY1; rw [take32]; simp [bl_len]) (by omega) (by omega) hn
  · exact isB_bv _
  · exact isB_bv _
  · exact p32_ok _
  · exact p32_ok _
  · exact pM_ok v
  · exact pZ_of (n := y.length) (k := 64) (by unfold gY2; rw [take32, take32]; simp [bl_len]; omega) (by omega) (by omega) hn
  · exact ⟨sc_isB.2 (isB_bv _), sc_isB.2 (isB_bv _), sc_isB.2 (isB_bv _)⟩
theorem getMA {x : Mem} {i : Nat} {B : Blk} (h : getB MA i = some B) : getB (MA ++ x) i = some B := by
  have hl := getB_lt h
  unfold getB at h ⊢
  rw [List.getElem?_append_left hl]; exact h
def FQ (fn : Func) (u : Value) : Exit → Act × Mem → Prop := fun e s => (e = .normal ∨ e = .ret) ∧ s.1.defers = [] ∧ ∃ z, sres Tryd.prog fn s = some z ∧ (flat z = true ∨ z = undef) ∧ (∀ i B, getB MA i = some B → getB s.2 i = some B) ∧ z = u
theorem flat_sgv (R S : Nat) : flat (sgv R S) = true := by kernel_rfl
theorem sgR_ok (F : Fs) (s : Nat) (y : List Value) : sgB F s y = bl (gC F s y) ++ bl (gS F s y) := by
  unfold sgB; rw [take32, take32, List.append_nil]
theorem sg_body {F : Fs} {v : Sv} {y : List Value} (hX : OkH (EH F v y) Tryd.prog (msgH v y)) (hy : MsgOK v y) (hn : y.length + 400 ≤ 140737488355328) (s : Nat) :
    SWn (msgH v y) Tryd.prog glA (bodyOf Tryd.f5) (sg0 Tryd.f5 v s) (FQ Tryd.f5 (sgv (gC F s y) (gS F s y))) := by
  rw [sg_code]
  refine SWn.preH hX mixed (EH_gl F v y) rfl (sg_1 F v y s) (sgT_ok hn s) (SWn.seq ?_)
  rw [sg_reg]
  refine SWn.regionA mixed ?_
  have hg := EH_gl F v y
  have key : SWA (msgH v y) Tryd.prog glA (rOps (sgE (bodyOf Tryd.f5))) 5 (l2 Tryd.prog (rOps (sgE (bodyOf Tryd.f5)))) (sgn Tryd.prog F Tryd.f5 v y s 1 (sgn Tryd.prog F Tryd.f5 v y s 0 (sg2 Tryd.prog F Tryd.f5 v y s))) (thenS (fun s' => SWn (msgH v y) Tryd.prog glA .ret s' (FQ Tryd.f5 (sgv (gC F s y) (gS F s y)))) (FQ Tryd.f5 (sgv (gC F s y) (gS F s y)))) := by
    refine SWA.one rd3 (SWO.step hX hg (st2 F v y s) (by simp) (SWA.one rd4 ?_))
    have hcall := concat_msg (v := v) (y := y) hy (s := sg3 Tryd.prog F Tryd.f5 v y s) (p := 2) (ts := [p32 (gC F s y), p32 (gS F s y)]) (bs := sgB F s y) (sg3_ok F v y s) (sg3_e F v y s) (sg3_b F v y s) rfl (by omega) (sg3_g F v y s) sg3_n (sg3_p F v y s) (fun p hp => by
      simp only [List.mem_cons, List.not_mem_nil, or_false] at hp
      rcases hp with rfl | rfl <;> exact p32_ok _) ⟨by rw [sgB_len]; omega, by rw [sgB_len]; omega⟩
    rw [sgB_len] at hcall
    refine SWO.callN (d := 37) (ts := #[40]) (by kernel_rfl) hcall fun cap q hf hrow => ?_
    rw [sg3_l]
    refine SWA.one rd5 (SWO.step hX hg (st4 F v y s cap q) (by simp) (SWA.one rd6 ?_))
    have hl := hrow.len
    have hle := hrow.le
    rw [sgB_len] at hle
    have hld : sload Tryd.prog 25 (nA + 12) 0 (sg5 Tryd.prog F Tryd.f5 v y s cap q).2 = some (.agg (sgB F s y).toArray) := by
      unfold sload
      rw [sg5_m, row64]
      simp only
      rw [if_pos (by omega), List.drop_zero]
      have := hrow.eq
      rw [sgB_len] at this
      rw [this]
    refine SWO.load (d := 39) (t := 25) (x := .tmp 38) (by kernel_rfl) (sg5_ok F v y s cap q) (sg5_e F v y s cap q) hld ?_
    refine SWA.one rd7 (SWO.step hX hg (st6 F v y s cap q) (by simp) (SWA.nil rd8 ?_))
    refine SW.n (SW.ret ⟨.inr rfl, sg7_d F v y s cap q, _, sg7_r F v y s cap q, .inl (flat_sgv _ _), fun i B hB => ?_, rfl⟩)
    rw [sg7_m]; exact getMA hB
  have hsz : (rOps (sgE (bodyOf Tryd.f5))).size = 7 := by kernel_rfl
  show SWA (msgH v y) Tryd.prog glA (rOps (sgE (bodyOf Tryd.f5))) (rOps (sgE (bodyOf Tryd.f5))).size (Array.replicate (rOps (sgE (bodyOf Tryd.f5))).size false) (sg2 Tryd.prog F Tryd.f5 v y s) _
  rw [show (rOps (sgE (bodyOf Tryd.f5))).size = 7 from hsz]
  have e0 : Array.replicate 7 false = Array.replicate (rOps (sgE (bodyOf Tryd.f5))).size false := by rw [hsz]
  rw [e0]
  refine SWA.two rd0 (SWO.step hX hg (st0 F v y s) (by simp) (SWA.one rd1 (SWO.step hX hg (st01 F v y s) (by simp) key))) (SWO.step hX hg (st1 F v y s) (by simp) (SWA.one rd2 (SWO.step hX hg (st10 F v y s) (by simp) ?_)))
  rw [l2']; exact key
/-- The contract. -/
def gSgnF (F : Fs) (v : Sv) (y : List Value) : List Value → Option (List Prop × Value)
  | [A, .tuple ⟨[.slice x n c]⟩] => some ([IsB A, x = v.x ∧ n = v.n ∧ c = v.c], sgv (gC F (bnum A) y) (gS F (bnum A) y))
  | _ => none
theorem gSgn_ok {X : Cx} {F : Fs} {v : Sv} {y : List Value} (hE : OkH (EH F v y) Tryd.prog (msgH v y)) (hX : OkH X Tryd.prog (msgH v y)) (hgl : X.gl = glA) (hy : MsgOK v y) (hn : y.length + 400 ≤ 140737488355328) : OkH (X.read 5 (gMsg (gSgnF F v y))) Tryd.prog (msgH v y) := by
  refine gMsg_ok hX hgl Tryd.func5 (by kernel_rfl) (show _ = some (bodyOf Tryd.f5) from (by kernel_rfl)) ?_
  intro args ps u hg hp
  unfold gSgnF at hg
  split at hg
  · rename_i A x n c
    simp only [Option.some.injEq, Prod.mk.injEq] at hg
    obtain ⟨rfl, rfl⟩ := hg
    have hA : A = bv (bnum A) := hp _ List.mem_cons_self
    obtain ⟨rfl, rfl, rfl⟩ : x = v.x ∧ n = v.n ∧ c = v.c := hp _ (List.mem_cons_of_mem _ (List.mem_singleton.2 rfl))
    refine ⟨flat_sgv _ _, ?_⟩
    have h := sg_body hE hy hn (bnum A)
    unfold sg0 at h
    rw [← hA] at h
    exact h
  · simp at hg
end Go.Proofs.YtdegfgncdphepaaDoor.Edd
/- eddsa: Verify. -/
namespace Go.Proofs.YtdegfgncdphepaaDoor.Edd
open Go Go.RowKit Shf
set_option linter.unusedSimpArgs false
set_option linter.unusedVariables false
def vY (F : Fs) (A R : Nat) (y : List Value) : List Value := ((bl R).drop 0).take 32 ++ (((bl A).drop 0).take 32 ++ (y ++ []))
def vK (F : Fs) (A R : Nat) (y : List Value) : Nat := F.hsh (vY F A R y)
def vD (F : Fs) (A R S : Nat) (y : List Value) : Nat := F.dif (bnum (bv S)) (bnum (bv (vK F A R y))) (bnum (bv A))
def vE (F : Fs) (A : Nat) : Bool := !(F.rde (bnum (bv A)) == 0)
def vQ (F : Fs) (A R S : Nat) (y : List Value) : Bool := !(eqB (bl (vD F A R S y)).toArray (bl R).toArray 32)
def vs0 (fn : Func) (v : Sv) (A R S : Nat) : Act × Mem := (sinit fn [bv A, raw v.val, sgv R S], MA)
def vsX (P : Program) (F : Fs) (fn : Func) (v : Sv) (y : List Value) (A R S : Nat) (d : List (Nat × Bool)) : Act × Mem := runS P ((EH F v y).tell d) 80 (bodyOf fn) (vs0 fn v A R S)
def tT (F : Fs) (v : Sv) (y : List Value) (A R S : Nat) : List Prop := [p32 R, p32 A, pM v, pZ (vY F A R y), IsB (bv S) ∧ IsB (bv (vK F A R y)) ∧ IsB (bv A)]
theorem va_x (F : Fs) (v : Sv) (y : List Value) (A R S : Nat) : sexec Tryd.prog ((EH F v y).tell [(24, true)]) 80 (bodyOf Tryd.f6) [] (vs0 Tryd.f6 v A R S) = some ([IsB (bv A), vE F A = true], .ret, vsX Tryd.prog F Tryd.f6 v y A R S [(24, true)]) := by kernel_rfl
theorem va_r (F : Fs) (v : Sv) (y : List Value) (A R S : Nat) : sres Tryd.prog Tryd.f6 (vsX Tryd.prog F Tryd.f6 v y A R S [(24, true)]) = some (.int .i64 2) := by kernel_rfl
theorem va_d (F : Fs) (v : Sv) (y : List Value) (A R S : Nat) : (vsX Tryd.prog F Tryd.f6 v y A R S [(24, true)]).1.defers = [] := by kernel_rfl
theorem va_m (F : Fs) (v : Sv) (y : List Value) (A R S : Nat) : (vsX Tryd.prog F Tryd.f6 v y A R S [(24, true)]).2 = MA ++ (vsX Tryd.prog F Tryd.f6 v y A R S [(24, true)]).2.drop nA := by kernel_rfl
theorem vb_x (F : Fs) (v : Sv) (y : List Value) (A R S : Nat) : sexec Tryd.prog ((EH F v y).tell [(24, false), (26, true)]) 80 (bodyOf Tryd.f6) [] (vs0 Tryd.f6 v A R S) = some ([IsB (bv A), vE F A = false, F.sml (bnum (bv A)) = true], .ret, vsX Tryd.prog F Tryd.f6 v y A R S [(24, false), (26, true)]) := by kernel_rfl
theorem vb_r (F : Fs) (v : Sv) (y : List Value) (A R S : Nat) : sres Tryd.prog Tryd.f6 (vsX Tryd.prog F Tryd.f6 v y A R S [(24, false), (26, true)]) = some (.int .i64 2) := by kernel_rfl
theorem vb_d (F : Fs) (v : Sv) (y : List Value) (A R S : Nat) : (vsX Tryd.prog F Tryd.f6 v y A R S [(24, false), (26, true)]).1.defers = [] := by kernel_rfl
theorem vb_m (F : Fs) (v : Sv) (y : List Value) (A R S : Nat) : (vsX Tryd.prog F Tryd.f6 v y A R S [(24, false), (26, true)]).2 = MA ++ (vsX Tryd.prog F Tryd.f6 v y A R S [(24, false), (26, true)]).2.drop nA := by kernel_rfl
theorem vc_x (F : Fs) (v : Sv) (y : List Value) (A R S : Nat) : sexec Tryd.prog ((EH F v y).tell [(24, false), (26, false), (30, false)]) 80 (bodyOf Tryd.f6) [] (vs0 Tryd.f6 v A R S) = some ([IsB (bv A), vE F A = false, F.sml (bnum (bv A)) = false, Sc.IsB (bv S), F.can (Sc.bnum (bv S)) = false], .ret, vsX Tryd.prog F Tryd.f6 v y A R S [(24, false), (26, false), (30, false)]) := by kernel_rfl
theorem vc_r (F : Fs) (v : Sv) (y : List Value) (A R S : Nat) : sres Tryd.prog Tryd.f6 (vsX Tryd.prog F Tryd.f6 v y A R S [(24, false), (26, false), (30, false)]) = some (.int .i64 2) := by kernel_rfl
theorem vc_d (F : Fs) (v : Sv) (y : List Value) (A R S : Nat) : (vsX Tryd.prog F Tryd.f6 v y A R S [(24, false), (26, false), (30, false)]).1.defers = [] := by kernel_rfl
theorem vc_m (F : Fs) (v : Sv) (y : List Value) (A R S : Nat) : (vsX Tryd.prog F Tryd.f6 v y A R S [(24, false), (26, false), (30, false)]).2 = MA ++ (vsX Tryd.prog F Tryd.f6 v y A R S [(24, false), (26, false), (30, false)]).2.drop nA := by kernel_rfl
theorem vd_x (F : Fs) (v : Sv) (y : List Value) (A R S : Nat) : sexec Tryd.prog ((EH F v y).tell [(24, false), (26, false), (30, true), (43, true)]) 80 (bodyOf Tryd.f6) [] (vs0 Tryd.f6 v A R S) = some ([IsB (bv A), vE F A = false, F.sml (bnum (bv A)) = false, Sc.IsB (bv S), F.can (Sc.bnum (bv S)) = true] ++ tT F v y A R S ++ [vQ F A R S y = true], .ret, vsX Tryd.prog F Tryd.f6 v y A R S [(24, false), (26, false), (30, true), (43, true)]) := by kernel_rfl
theorem vd_r (F : Fs) (v : Sv) (y : List Value) (A R S : Nat) : sres Tryd.prog Tryd.f6 (vsX Tryd.prog F Tryd.f6 v y A R S [(24, false), (26, false), (30, true), (43, true)]) = some (.int .i64 3) := by kernel_rfl
theorem vd_d (F : Fs) (v : Sv) (y : List Value) (A R S : Nat) : (vsX Tryd.prog F Tryd.f6 v y A R S [(24, false), (26, false), (30, true), (43, true)]).1.defers = [] := by kernel_rfl
theorem vd_m (F : Fs) (v : Sv) (y : List Value) (A R S : Nat) : (vsX Tryd.prog F Tryd.f6 v y A R S [(24, false), (26, false), (30, true), (43, true)]).2 = MA ++ (vsX Tryd.prog F Tryd.f6 v y A R S [(24, false), (26, false), (30, true), (43, true)]).2.drop nA := by kernel_rfl
theorem ve_x (F : Fs) (v : Sv) (y : List Value) (A R S : Nat) : sexec Tryd.prog ((EH F v y).tell [(24, false), (26, false), (30, true), (43, false)]) 80 (bodyOf Tryd.f6) [] (vs0 Tryd.f6 v A R S) = some ([IsB (bv A), vE F A = false, F.sml (bnum (bv A)) = false, Sc.IsB (bv S), F.can (Sc.bnum (bv S)) = true] ++ tT F v y A R S ++ [vQ F A R S y = false], .ret, vsX Tryd.prog F Tryd.f6 v y A R S [(24, false), (26, false), (30, true), (43, false)]) := by kernel_rfl
theorem ve_r (F : Fs) (v : Sv) (y : List Value) (A R S : Nat) : sres Tryd.prog Tryd.f6 (vsX Tryd.prog F Tryd.f6 v y A R S [(24, false), (26, false), (30, true), (43, false)]) = some (.int .i64 0) := by kernel_rfl
theorem ve_d (F : Fs) (v : Sv) (y : List Value) (A R S : Nat) : (vsX Tryd.prog F Tryd.f6 v y A R S [(24, false), (26, false), (30, true), (43, false)]).1.defers = [] := by kernel_rfl
theorem ve_m (F : Fs) (v : Sv) (y : List Value) (A R S : Nat) : (vsX Tryd.prog F Tryd.f6 v y A R S [(24, false), (26, false), (30, true), (43, false)]).2 = MA ++ (vsX Tryd.prog F Tryd.f6 v y A R S [(24, false), (26, false), (30, true), (43, false)]).2.drop nA := by kernel_rfl
/-- What Verify answers. -/
def verN (F : Fs) (A R S : Nat) (y : List Value) : Int := if F.rde A ≠ 0 ∨ F.sml A = true ∨ F.can S = false then 2 else if F.dif S (F.hsh (bl R ++ (bl A ++ y))) A = R then 0 else 3
theorem vE_eq (F : Fs) {A : Nat} (hA : A < RN) : vE F A = decide (F.rde A ≠ 0) := by
  unfold vE
  rw [bnum_bv' hA]
  by_cases h : F.rde A = 0
  · rw [h]; rfl
  · rw [decide_eq_true h]; simp [h]
theorem ver_body {F : Fs} {v : Sv} {y : List Value} (hX : OkH (EH F v y) Tryd.prog (msgH v y)) (hL : F.Lt) (hy : MsgOK v y) (hn : y.length + 400 ≤ 140737488355328) (A R S : Nat) (hA : A < RN) (hR : R < RN) (hS : S < RN) :
    SWn (msgH v y) Tryd.prog glA (bodyOf Tryd.f6) (vs0 Tryd.f6 v A R S) (FQ Tryd.f6 (.int .i64 (verN F A R S y))) := by
  have hg : ∀ d, ((EH F v y).tell d).gl = glA := fun d => rfl
  have hs : Sc.bnum (bv S) = S := by rw [sc_bnum, bnum_bv' hS]
  have hE := vE_eq F hA
  have hyy : vY F A R y = bl R ++ (bl A ++ y) := by unfold vY; rw [take32, take32, List.append_nil]
  have hD : vD F A R S y = F.dif S (F.hsh (bl R ++ (bl A ++ y))) A := by unfold vD vK; rw [hyy, bnum_bv' hS, bnum_bv' hA, bnum_bv' (hL.hsh _)]
  have hQ : vQ F A R S y = !decide (F.dif S (F.hsh (bl R ++ (bl A ++ y))) A = R) := by unfold vQ; rw [hD, eqB_bl _ _ (hL.dif _ _ _) hR]
  have hT : ∀ p ∈ tT F v y A R S, p := by
    intro p hp
    simp only [tT, List.mem_cons, List.not_mem_nil, or_false] at hp
    rcases hp with rfl | rfl | rfl | rfl | rfl
    · exact p32_ok _
    · exact p32_ok _
    · exact pM_ok v
    · exact pZ_of (n := y.length) (k := 64) (by rw [hyy]; simp [bl_len]; omega) (by omega) (by omega) hn
    · exact ⟨isB_bv _, isB_bv _, isB_bv _⟩
  by_cases h1 : F.rde A = 0
  · have e1 : vE F A = false := by rw [hE, h1]; rfl
    by_cases h2 : F.sml A = true
    · have hv : verN F A R S y = 2 := by unfold verN; rw [if_pos (.inr (.inl h2))]
      rw [hv]
      refine SWn.runH (OkH.tell hX _) mixed (hg _) 80 (vb_x F v y A R S) (fun p hp => ?_) ⟨.inr rfl, vb_d F v y A R S, _, vb_r F v y A R S, .inl rfl, fun i B hB => by rw [vb_m]; exact getMA hB, rfl⟩
      simp only [List.mem_cons, List.not_mem_nil, or_false] at hp
      rcases hp with rfl | rfl | rfl
      · exact isB_bv _
      · exact e1
      · rw [bnum_bv' hA]; exact h2
    · have h2' : F.sml A = false := by simpa using h2
      by_cases h3 : F.can S = false
      · have hv : verN F A R S y = 2 := by unfold verN; rw [if_pos (.inr (.inr h3))]
        rw [hv]
        refine SWn.runH (OkH.tell hX _) mixed (hg _) 80 (vc_x F v y A R S) (fun p hp => ?_) ⟨.inr rfl, vc_d F v y A R S, _, vc_r F v y A R S, .inl rfl, fun i B hB => by rw [vc_m]; exact getMA hB, rfl⟩
        simp only [List.mem_cons, List.not_mem_nil, or_false] at hp
        rcases hp with rfl | rfl | rfl | rfl | rfl
        · exact isB_bv _
        · exact e1
        · rw [bnum_bv' hA]; exact h2'
        · exact sc_isB.2 (isB_bv _)
        · rw [hs]; exact h3
      · have h3' : F.can S = true := by simpa using h3
        have hno : ¬ (F.rde A ≠ 0 ∨ F.sml A = true ∨ F.can S = false) := by
          rintro (h | h | h)
          · exact h h1
          · exact h2 h
          · exact h3 h
        have hfirst : ∀ p ∈ ([IsB (bv A), vE F A = false, F.sml (bnum (bv A)) = false, Sc.IsB (bv S), F.can (Sc.bnum (bv S)) = true] : List Prop), p := by
          intro p hp
          simp only [List.mem_cons, List.not_mem_nil, or_false] at hp
          rcases hp with rfl | rfl | rfl | rfl | rfl
          · exact isB_bv _
          · exact e1
          · rw [bnum_bv' hA]; exact h2'
          · exact sc_isB.2 (isB_bv _)
          · rw [hs]; exact h3'
        by_cases h4 : F.dif S (F.hsh (bl R ++ (bl A ++ y))) A = R
        · have hv : verN F A R S y = 0 := by unfold verN; rw [if_neg hno, if_pos h4]
          rw [hv]
          refine SWn.runH (OkH.tell hX _) mixed (hg _) 80 (ve_x F v y A R S) (fun p hp => ?_) ⟨.inr rfl, ve_d F v y A R S, _, ve_r F v y A R S, .inl rfl, fun i B hB => by rw [ve_m]; exact getMA hB, rfl⟩
          rcases List.mem_append.1 hp with hp | hp
          · rcases List.mem_append.1 hp with hp | hp
            · exact hfirst p hp
            · exact hT p hp
          · rw [List.mem_singleton.1 hp, hQ, decide_eq_true h4]; rfl
        · have hv : verN F A R S y = 3 := by unfold verN; rw [if_neg hno, if_neg h4]
          rw [hv]
          refine SWn.runH (OkH.tell hX _) mixed (hg _) 80 (vd_x F v y A R S) (fun p hp => ?_) ⟨.inr rfl, vd_d F v y A R S, _, vd_r F v y A R S, .inl rfl, fun i B hB => by rw [vd_m]; exact getMA hB, rfl⟩
          rcases List.mem_append.1 hp with hp | hp
          · rcases List.mem_append.1 hp with hp | hp
            · exact hfirst p hp
            · exact hT p hp
          · rw [List.mem_singleton.1 hp, hQ, decide_eq_false h4]; rfl
  · have hv : verN F A R S y = 2 := by unfold verN; rw [if_pos (.inl h1)]
    rw [hv]
    refine SWn.runH (OkH.tell hX _) mixed (hg _) 80 (va_x F v y A R S) (fun p hp => ?_) ⟨.inr rfl, va_d F v y A R S, _, va_r F v y A R S, .inl rfl, fun i B hB => by rw [va_m]; exact getMA hB, rfl⟩
    simp only [List.mem_cons, List.not_mem_nil, or_false] at hp
    rcases hp with rfl | rfl
    · exact isB_bv _
    · rw [hE]; exact decide_eq_true h1
/-- A row of 64 bytes as two numbers. -/
def sg1N (S : Value) : Nat := match S with
  | .agg cs => bsum (cs.toList.take 32)
  | _ => 0
def sg2N (S : Value) : Nat := match S with
  | .agg cs => bsum (cs.toList.drop 32)
  | _ => 0
def IsSg (S : Value) : Prop := S = sgv (sg1N S) (sg2N S) ∧ sg1N S < RN ∧ sg2N S < RN
theorem bsum_bl' {n : Nat} (h : n < RN) : bsum (bl n) = n := by
  have := bnum_bv' h
  exact this
theorem isSg_sgv {R S : Nat} (hR : R < RN) (hS : S < RN) : IsSg (sgv R S) ∧ sg1N (sgv R S) = R ∧ sg2N (sgv R S) = S := by
  have e1 : sg1N (sgv R S) = R := by
    show bsum ((bl R ++ bl S).take 32) = R
    rw [List.take_left' (bl_len R)]; exact bsum_bl' hR
  have e2 : sg2N (sgv R S) = S := by
    show bsum ((bl R ++ bl S).drop 32) = S
    rw [List.drop_left' (bl_len R)]; exact bsum_bl' hS
  refine ⟨⟨?_, ?_, ?_⟩, e1, e2⟩
  · rw [e1, e2]
  · rw [e1]; exact hR
  · rw [e2]; exact hS
def gVerF (F : Fs) (v : Sv) (y : List Value) : List Value → Option (List Prop × Value)
  | [A, .tuple ⟨[.slice x n c]⟩, S] => some ([IsB A, x = v.x ∧ n = v.n ∧ c = v.c, IsSg S], .int .i64 (verN F (bnum A) (sg1N S) (sg2N S) y))
  | _ => none
theorem gVer_ok {X : Cx} {F : Fs} {v : Sv} {y : List Value} (hE : OkH (EH F v y) Tryd.prog (msgH v y)) (hL : F.Lt) (hX : OkH X Tryd.prog (msgH v y)) (hgl : X.gl = glA) (hy : MsgOK v y) (hn : y.length + 400 ≤ 140737488355328) : OkH (X.read 6 (gMsg (gVerF F v y))) Tryd.prog (msgH v y) := by
  refine gMsg_ok hX hgl Tryd.func6 (by kernel_rfl) (show _ = some (bodyOf Tryd.f6) from (by kernel_rfl)) ?_
  intro args ps u hg hp
  unfold gVerF at hg
  split at hg
  · rename_i A x n c S
    simp only [Option.some.injEq, Prod.mk.injEq] at hg
    obtain ⟨rfl, rfl⟩ := hg
    have hA : IsB A := hp _ List.mem_cons_self
    obtain ⟨rfl, rfl, rfl⟩ : x = v.x ∧ n = v.n ∧ c = v.c := hp _ (List.mem_cons_of_mem _ List.mem_cons_self)
    obtain ⟨s1, s2, s3⟩ : IsSg S := hp _ (List.mem_cons_of_mem _ (List.mem_cons_of_mem _ (List.mem_singleton.2 rfl)))
    refine ⟨rfl, ?_⟩
    have h := ver_body hE hL hy hn (bnum A) (sg1N S) (sg2N S) (bnum_lt hA) s2 s3
    unfold vs0 at h
    rw [← (show A = bv (bnum A) from hA), ← s1] at h
    exact h
  · simp at hg
end Go.Proofs.YtdegfgncdphepaaDoor.Edd
