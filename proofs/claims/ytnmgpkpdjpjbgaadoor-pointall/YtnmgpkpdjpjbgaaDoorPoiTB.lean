/- The curve's reference: Often as a contract. -/
import Derived.Test.YtnmgpkpdjpjbgaaDoorPoiTA
namespace Go.Proofs.YtnmgpkpdjpjbgaaDoor
open Go Go.RowKit
set_option linter.unusedSimpArgs false
set_option linter.unusedVariables false
/-- The loop's head: the rest of the slots forgotten. -/
def ohd (t22 t50 n : Nat) (p out : P4) (i : Int) : Act × Mem :=
  (⟨#[poison, poison, .pointer (some ⟨0, 0, none⟩), .pointer (some ⟨1, 0, none⟩), .pointer (some ⟨2, 0, none⟩), .pointer (some ⟨3, 0, none⟩), .int .i64 i] ++ Array.replicate 22 poison, []⟩,
   [some ⟨bl n, t22⟩, some ⟨q16 p, t50⟩, some ⟨q16 ⟨0, 0, 0, 0⟩, t50⟩, some ⟨q16 out, t50⟩])
def oF : List Nat := [0, 1] ++ (List.range 22).map (· + 7)
def oK (s : Act × Mem) : Act × Mem := (forgetL s.1 oF, s.2)
def oLB (fn : Func) : Code := cL (cL (cR (cL (cR (cR (bodyOf fn))))))
def oT (fn : Func) : Code := cR (cR (cR (bodyOf fn)))
/-- The runs are made with a letter for the sum. -/
def gRS (S : P4 → P4 → P4) : List Value → Option (List Prop × Value)
  | [A, B] => some ([IsQ A ∧ IsQ B], qv (S (q4 A) (q4 B)))
  | _ => none
def HS (S : P4 → P4 → P4) : Cx := (Cx.none.pure 68 gRneu).pure 38 (gRS S)
theorem gRS_eq : gRS rsumN = gRsum := rfl
theorem HS_ok : (HS rsumN).Ok Tryd.prog := by
  unfold HS
  rw [gRS_eq]
  exact gRsum_ok (gRneu_ok Cx.none_ok)
def HtX (S : P4 → P4 → P4) : Cx := (HS S).terms
theorem HtX_ok : (HtX rsumN).Ok Tryd.prog := Cx.terms_ok HS_ok
def os1 (S : P4 → P4 → P4) (P : Program) (fn : Func) (n : Nat) (p : P4) : Act × Mem := runS P (HS S) 20 (cL (bodyOf fn)) (sinit fn [bv n, qv p], [])
def os2 (S : P4 → P4 → P4) (P : Program) (fn : Func) (n : Nat) (p : P4) : Act × Mem := runS P (HS S) 20 (cL (cR (bodyOf fn))) (os1 S P fn n p)
def os3 (S : P4 → P4 → P4) (P : Program) (fn : Func) (n : Nat) (p : P4) : Act × Mem := runS P (HS S) 20 (cL (cL (cR (cR (bodyOf fn))))) (os2 S P fn n p)
theorem o_1 (S : P4 → P4 → P4) (n : Nat) (p : P4) : fstS (sexec Tryd.prog (HS S) 20 (cL (bodyOf Tryd.f40)) [] (sinit Tryd.f40 [bv n, qv p], [])) = some ([], .normal) := by kernel_rfl
theorem o_2 (S : P4 → P4 → P4) (n : Nat) (p : P4) : fstS (sexec Tryd.prog (HS S) 20 (cL (cR (bodyOf Tryd.f40))) [] (os1 S Tryd.prog Tryd.f40 n p)) = some ([], .normal) := by kernel_rfl
theorem o_3 (S : P4 → P4 → P4) (n : Nat) (p : P4) : fstS (sexec Tryd.prog (HS S) 20 (cL (cL (cR (cR (bodyOf Tryd.f40))))) [] (os2 S Tryd.prog Tryd.f40 n p)) = some ([], .normal) := by kernel_rfl
theorem o_h (S : P4 → P4 → P4) (n : Nat) (p : P4) : oK (os3 S Tryd.prog Tryd.f40 n p) = ohd 22 50 n p neuN 255 := by kernel_rfl
def oQ (i : Int) : Int := IntKind.i64.wrap (Int.tdiv i 8)
def oU (i : Int) : Int := IntKind.u64.wrap (Int.tmod i 8)
def oY (n : Nat) (i : Int) : Int := intL (bl n) (0 + (oQ i).toNat * 1)
def oB (n : Nat) (i : Int) : Int := bits .and .u8 (Int.fdiv (oY n i) (2 ^ min (oU i).toNat 8)) 1
def oO (n : Nat) (i : Int) : List Prop := [0 ≤ oQ i ∧ oQ i < ((32 : Nat) : Int), (bl n)[0 + (oQ i).toNat * 1]? = some (.int .u8 (oY n i)), 0 ≤ oU i]
def o2 (S : P4 → P4 → P4) (out : P4) : P4 := S (q4 (qv out)) (q4 (qv out))
def oB1 (fn : Func) : Code := cL (cL (cR (oLB fn)))
def oR4 (fn : Func) : Code := cR (cR (oLB fn))
theorem o_go (S : P4 → P4 → P4) (n : Nat) (p out : P4) (i : Int) : proj oK (sexec Tryd.prog ((HtX S).tell [(9, true)]) 40 (cL (oLB Tryd.f40)) [] (ohd 22 50 n p out i)) = some ([decide (i ≥ 0) = true], ohd 22 50 n p out i) := by kernel_rfl
theorem o_5 (S : P4 → P4 → P4) (n : Nat) (p out : P4) (i : Int) : proj oK (sexec Tryd.prog (HtX S) 40 (cL (oB1 Tryd.f40)) [] (ohd 22 50 n p out i)) = some ([IsQ (qv out) ∧ IsQ (qv out)], ohd 22 50 n p (o2 S out) i) := by kernel_rfl
theorem o_t (S : P4 → P4 → P4) (n : Nat) (p out : P4) (i : Int) : proj oK (sexec Tryd.prog ((HtX S).tell [(24, true)]) 40 (cR (oB1 Tryd.f40)) [] (ohd 22 50 n p out i)) = some (oO n i ++ [(oB n i == 1) = true, IsQ (qv out) ∧ IsQ (qv p)], ohd 22 50 n p (S (q4 (qv out)) (q4 (qv p))) i) := by kernel_rfl
theorem o_f (S : P4 → P4 → P4) (n : Nat) (p out : P4) (i : Int) : proj oK (sexec Tryd.prog ((HtX S).tell [(24, false)]) 40 (cR (oB1 Tryd.f40)) [] (ohd 22 50 n p out i)) = some (oO n i ++ [(oB n i == 1) = false], ohd 22 50 n p out i) := by kernel_rfl
theorem o_4 (S : P4 → P4 → P4) (n : Nat) (p out : P4) (i : Int) : proj oK (sexec Tryd.prog (HS S) 40 (oR4 Tryd.f40) [] (ohd 22 50 n p out i)) = some ([], ohd 22 50 n p out (IntKind.i64.wrap (i - 1))) := by kernel_rfl
def oX (S : P4 → P4 → P4) (P : Program) (fn : Func) (t22 t50 n : Nat) (p out : P4) (i : Int) : Act × Mem := runS P ((HtX S).tell [(9, false)]) 40 (cL (oLB fn)) (ohd t22 t50 n p out i)
theorem o_x (S : P4 → P4 → P4) (n : Nat) (p out : P4) (i : Int) : fstS (sexec Tryd.prog ((HtX S).tell [(9, false)]) 40 (cL (oLB Tryd.f40)) [] (ohd 22 50 n p out i)) = some ([decide (i ≥ 0) = false], .exit 0) := by kernel_rfl
theorem o_z (S : P4 → P4 → P4) (n : Nat) (p out : P4) (i : Int) : fstS (sexec Tryd.prog (HS S) 40 (oT Tryd.f40) [] (oX S Tryd.prog Tryd.f40 22 50 n p out i)) = some ([], .ret) := by kernel_rfl
theorem o_r (S : P4 → P4 → P4) (n : Nat) (p out : P4) (i : Int) : sres Tryd.prog Tryd.f40 (runS Tryd.prog (HS S) 40 (oT Tryd.f40) (oX S Tryd.prog Tryd.f40 22 50 n p out i)) = some (qv out) := by kernel_rfl
theorem o_d (S : P4 → P4 → P4) (n : Nat) (p out : P4) (i : Int) : (runS Tryd.prog (HS S) 40 (oT Tryd.f40) (oX S Tryd.prog Tryd.f40 22 50 n p out i)).1.defers = [] := by kernel_rfl
theorem o_end (n : Nat) (p T : P4) (i : Int) : SW Tryd.prog [] (oT Tryd.f40) (oX rsumN Tryd.prog Tryd.f40 22 50 n p T i) (fun e s => (e = .normal ∨ e = .ret) ∧ s.1.defers = [] ∧ ∃ v x, sres Tryd.prog Tryd.f40 s = some v ∧ (flat v = true ∨ v = undef) ∧ s.2 = [] ++ x ∧ v = qv T) := by
  refine SW.run (X := HS rsumN) HS_ok mixed 40 (of_fstS (o_z rsumN n p T i)) (by simp) ?_
  exact ⟨.inr rfl, o_d rsumN n p T i, qv T, _, o_r rsumN n p T i, .inl (flat_qv T), (List.nil_append _).symm, rfl⟩
/-- The loop: behind j bits of n, the greatest first. -/
def oR (p : P4) (n : Nat) : Nat → P4
  | 0 => neuN
  | j + 1 => if n / 2 ^ (255 - j) % 2 = 1 then rsumN (rsumN (oR p n j) (oR p n j)) p else rsumN (oR p n j) (oR p n j)
theorem oR_ok {p : P4} (hp : p.ok) (n : Nat) : ∀ j, (oR p n j).ok
  | 0 => neuN_ok
  | j + 1 => by
    have ih := oR_ok hp n j
    unfold oR
    split
    · exact rsumN_ok (rsumN_ok ih ih) hp
    · exact rsumN_ok ih ih
def oftN (n : Nat) (p : P4) : P4 := oR p n 256
theorem oQ_eq (j : Nat) (hj : j < 256) : oQ (j : Int) = ((j / 8 : Nat) : Int) := by
  unfold oQ
  rw [Int.tdiv_eq_ediv_of_nonneg (by omega), wrap64' _ (by omega)]
  omega
theorem oU_eq (j : Nat) (hj : j < 256) : oU (j : Int) = ((j % 8 : Nat) : Int) := by
  unfold oU
  rw [Int.tmod_eq_emod_of_nonneg (by omega)]
  have : (j : Int) % 8 = ((j % 8 : Nat) : Int) := by omega
  rw [this]
  have h8 : j % 8 < 8 := Nat.mod_lt _ (by decide)
  have key : ∀ k : Fin 8, IntKind.u64.wrap ((k.val : Nat) : Int) = ((k.val : Nat) : Int) := by decide +kernel
  exact key ⟨j % 8, h8⟩
theorem oY_eq (n j : Nat) (hj : j < 256) : (bl n)[0 + (oQ (j : Int)).toNat * 1]? = some (.int .u8 (oY n (j : Int))) ∧ oY n (j : Int) = ((n / 256 ^ (j / 8) % 256 : Nat) : Int) := by
  have e : 0 + (oQ (j : Int)).toNat * 1 = j / 8 := by rw [oQ_eq j hj, Int.toNat_natCast]; omega
  have hb : (bl n)[j / 8]? = some (.int .u8 (by8 n (j / 8))) := by simp [bl, show j / 8 < 32 by omega]
  have ey : oY n (j : Int) = by8 n (j / 8) := by unfold oY; rw [e]; unfold intL; rw [hb]
  exact ⟨by rw [e, ey]; exact hb, ey⟩
theorem oO_ok (n j : Nat) (hj : j < 256) : ∀ p ∈ oO n (j : Int), p := by
  unfold oO
  refine al ?_ (al (oY_eq n j hj).1 (al ?_ al0))
  · rw [oQ_eq j hj]; omega
  · rw [oU_eq j hj]; omega
theorem byte_bit : ∀ (y : Fin 256) (k : Fin 8), bits .and .u8 (Int.fdiv ((y.val : Nat) : Int) (2 ^ min ((k.val : Nat) : Int).toNat 8)) 1 = ((y.val / 2 ^ k.val % 2 : Nat) : Int) := by decide +kernel
theorem oB_eq (n j : Nat) (hj : j < 256) : oB n (j : Int) = ((n / 2 ^ j % 2 : Nat) : Int) := by
  unfold oB
  rw [(oY_eq n j hj).2, oU_eq j hj]
  have h := byte_bit ⟨n / 256 ^ (j / 8) % 256, Nat.mod_lt _ (by decide)⟩ ⟨j % 8, Nat.mod_lt _ (by decide)⟩
  simp only at h
  rw [h]
  congr 1
  have e1 : (256 : Nat) ^ (j / 8) = 2 ^ (8 * (j / 8)) := by rw [Nat.pow_mul]
  have e2 : (256 : Nat) = 2 ^ (j % 8) * (2 * 2 ^ (7 - j % 8)) := by
    rw [← Nat.pow_succ', ← Nat.pow_add, show j % 8 + (7 - j % 8 + 1) = 8 by omega]
  have e3 : n / 2 ^ j = n / 2 ^ (8 * (j / 8)) / 2 ^ (j % 8) := by
    rw [Nat.div_div_eq_div_mul, ← Nat.pow_add, show 8 * (j / 8) + j % 8 = j by omega]
  rw [e1, e3]
  generalize n / 2 ^ (8 * (j / 8)) = y
  conv => lhs; rw [e2]
  rw [Nat.mod_mul_right_div_self, Nat.mod_mul_right_mod]
set_option maxRecDepth 10000 in
theorem often_any (n : Nat) (hn : n < RN) {p : P4} (lp : p.ok) (w : World) :
    Calls Tryd.prog 40 #[bv n, qv p] w fun e w' => e = .returned (qv (oftN n p)) ∧ Below w.heap.size w w' := by
  have hb : Tryd.f40.body = some (bodyOf Tryd.f40) := by kernel_rfl
  refine (calls_of_SW (gl := []) (m := []) (r := fun _ => none) (R := fun u => u = qv (oftN n p)) (args := [bv n, qv p]) (args' := [bv n, qv p]) Tryd.func40 hb ?_ (Rel.nil w) (by simp) (trL_flat (by simp [flat_bv, flat_qv]))).mono ?_
  · refine SW.seqC (by kernel_rfl) ?_
    refine SW.run (X := HS rsumN) HS_ok mixed 20 (of_fstS (o_1 rsumN n p)) (by simp) ?_
    show SW Tryd.prog [] (cR (bodyOf Tryd.f40)) (os1 rsumN Tryd.prog Tryd.f40 n p) _
    refine SW.seqC (by kernel_rfl) ?_
    refine SW.run (X := HS rsumN) HS_ok mixed 20 (of_fstS (o_2 rsumN n p)) (by simp) ?_
    show SW Tryd.prog [] (cR (cR (bodyOf Tryd.f40))) (os2 rsumN Tryd.prog Tryd.f40 n p) _
    refine SW.seqC (by kernel_rfl) ?_
    refine SW.seqC (by kernel_rfl) ?_
    refine SW.run (X := HS rsumN) HS_ok mixed 20 (of_fstS (o_3 rsumN n p)) (by simp) ?_
    show SW Tryd.prog [] (cR (cL (cR (cR (bodyOf Tryd.f40))))) (os3 rsumN Tryd.prog Tryd.f40 n p) _
    refine SW.blockC (by kernel_rfl) ?_
    refine SW.loopC (by kernel_rfl) (fun k s => k ≤ 256 ∧ oK s = ohd 22 50 n p (oR p n (256 - k)) ((k : Int) - 1)) 256 ⟨Nat.le_refl _, ?_⟩ ?_
    · have e2 : oR p n (256 - 256) = neuN := rfl
      have e3 : ((256 : Nat) : Int) - 1 = 255 := rfl
      rw [o_h rsumN, e2, e3]
    · rintro k s ⟨hk, hs⟩
      refine SW.forget (a := s.1) (m := s.2) oF ?_
      show SW Tryd.prog [] (oLB Tryd.f40) (oK s) _
      rw [hs]
      refine SW.seqC (by kernel_rfl) ?_
      cases k with
      | zero =>
        refine SW.run (X := (HtX rsumN).tell [(9, false)]) (Cx.tell_ok HtX_ok _) mixed 40 (of_fstS (o_x rsumN n p _ _)) (by simp) ?_
        show SW Tryd.prog [] (oT Tryd.f40) (oX rsumN Tryd.prog Tryd.f40 22 50 n p _ _) _
        exact o_end n p (oR p n (256 - 0)) _
      | succ j =>
        have hj : j < 256 := by omega
        have ei : ((j + 1 : Nat) : Int) - 1 = (j : Int) := by omega
        rw [ei]
        have lt := oR_ok lp n (256 - (j + 1))
        have hge : decide ((j : Int) ≥ 0) = true := by simp
        have hO := oO_ok n j hj
        have hB := oB_eq n j hj
        have e : 256 - j = (256 - (j + 1)) + 1 := by omega
        obtain ⟨s1, h1, k1⟩ := proj_some (o_go rsumN n p (oR p n (256 - (j + 1))) (j : Int))
        refine SW.run (X := (HtX rsumN).tell [(9, true)]) (Cx.tell_ok HtX_ok _) mixed 40 h1 (al hge al0) ?_
        show SW Tryd.prog [] (cR (oLB Tryd.f40)) s1 _
        refine SW.forget (a := s1.1) (m := s1.2) oF ?_
        show SW Tryd.prog [] (cR (oLB Tryd.f40)) (oK s1) _
        rw [k1]
        refine SW.seqC (by kernel_rfl) ?_
        refine SW.blockC (by kernel_rfl) ?_
        refine SW.seqC (by kernel_rfl) ?_
        obtain ⟨s2, h2, k2⟩ := proj_some (o_5 rsumN n p (oR p n (256 - (j + 1))) (j : Int))
        refine SW.run (X := HtX rsumN) HtX_ok mixed 40 h2 (al ⟨isQ_qv lt, isQ_qv lt⟩ al0) ?_
        show SW Tryd.prog [] (cR (oB1 Tryd.f40)) s2 _
        refine SW.forget (a := s2.1) (m := s2.2) oF ?_
        show SW Tryd.prog [] (cR (oB1 Tryd.f40)) (oK s2) _
        have eo : o2 rsumN (oR p n (256 - (j + 1))) = rsumN (oR p n (256 - (j + 1))) (oR p n (256 - (j + 1))) := by unfold o2; rw [q4_qv lt]
        rw [k2, eo]
        have lt2 := rsumN_ok lt lt
        by_cases hbit : n / 2 ^ j % 2 = 1
        · obtain ⟨s3, h3, k3⟩ := proj_some (o_t rsumN n p (rsumN (oR p n (256 - (j + 1))) (oR p n (256 - (j + 1)))) (j : Int))
          refine SW.run (X := (HtX rsumN).tell [(24, true)]) (Cx.tell_ok HtX_ok _) mixed 40 h3 ?_ ?_
          · intro q hq
            rcases List.mem_append.1 hq with hq | hq
            · exact hO q hq
            · refine (al ?_ (al ⟨isQ_qv lt2, isQ_qv lp⟩ al0)) q hq
              rw [hB, hbit]; rfl
          · show SW Tryd.prog [] (oR4 Tryd.f40) s3 _
            refine SW.forget (a := s3.1) (m := s3.2) oF ?_
            show SW Tryd.prog [] (oR4 Tryd.f40) (oK s3) _
            rw [k3, q4_qv lt2, q4_qv lp]
            obtain ⟨s4, h4, k4⟩ := proj_some (o_4 rsumN n p (rsumN (rsumN (oR p n (256 - (j + 1))) (oR p n (256 - (j + 1)))) p) (j : Int))
            refine SW.run (X := HS rsumN) HS_ok mixed 40 h4 (by simp) ⟨j, by omega, by omega, ?_⟩
            rw [k4, wrap64' _ (by omega), e, oR, show 255 - (256 - (j + 1)) = j by omega, if_pos hbit]
        · obtain ⟨s3, h3, k3⟩ := proj_some (o_f rsumN n p (rsumN (oR p n (256 - (j + 1))) (oR p n (256 - (j + 1)))) (j : Int))
          have hb0 : n / 2 ^ j % 2 = 0 := by omega
          refine SW.run (X := (HtX rsumN).tell [(24, false)]) (Cx.tell_ok HtX_ok _) mixed 40 h3 ?_ ?_
          · intro q hq
            rcases List.mem_append.1 hq with hq | hq
            · exact hO q hq
            · refine (al ?_ al0) q hq
              rw [hB, hb0]; rfl
          · show SW Tryd.prog [] (oR4 Tryd.f40) s3 _
            refine SW.forget (a := s3.1) (m := s3.2) oF ?_
            show SW Tryd.prog [] (oR4 Tryd.f40) (oK s3) _
            rw [k3]
            obtain ⟨s4, h4, k4⟩ := proj_some (o_4 rsumN n p (rsumN (oR p n (256 - (j + 1))) (oR p n (256 - (j + 1)))) (j : Int))
            refine SW.run (X := HS rsumN) HS_ok mixed 40 h4 (by simp) ⟨j, by omega, by omega, ?_⟩
            rw [k4, wrap64' _ (by omega), e, oR, show 255 - (256 - (j + 1)) = j by omega, if_neg hbit]
  · rintro e w' ⟨v, rfl, rfl, hb⟩
    exact ⟨rfl, hb⟩
theorem rep_oR {p : P4} {P : PT} (lp : p.ok) (h : Rep (cP p) P) (n : Nat) (hn : n < 2 ^ 256) : ∀ j, j ≤ 256 → Rep (cP (oR p n j)) (pmul (n / 2 ^ (256 - j)) P)
  | 0, _ => by
    rw [Nat.sub_zero, Nat.div_eq_of_lt hn]
    show Rep (cP neuN) (Pt.zero DK)
    rw [cP_neu]; exact rep_neu FK
  | j + 1, hj => by
    have ih := rep_oR lp h n hn j (by omega)
    have l := oR_ok lp n j
    have e1 : 256 - j = (255 - j) + 1 := by omega
    have e2 : 256 - (j + 1) = 255 - j := by omega
    have hd : n / 2 ^ (255 - j) = n / 2 ^ (256 - j) + n / 2 ^ (256 - j) + n / 2 ^ (255 - j) % 2 := by
      rw [e1, Nat.pow_succ, ← Nat.div_div_eq_div_mul]; omega
    have h2 := rep_rsum l l ih ih
    rw [show padd (pmul (n / 2 ^ (256 - j)) P) (pmul (n / 2 ^ (256 - j)) P) = pmul (n / 2 ^ (256 - j) + n / 2 ^ (256 - j)) P from (Pt.smul_add FK P _ _).symm] at h2
    rw [e2]
    unfold oR
    split
    · rename_i hb
      rw [hb] at hd
      rw [hd]
      exact rep_rsum (rsumN_ok l l) lp h2 h
    · rename_i hb
      have hb0 : n / 2 ^ (255 - j) % 2 = 0 := by omega
      rw [hb0, Nat.add_zero] at hd
      rw [hd]
      exact h2
theorem rep_often {p : P4} {P : PT} (lp : p.ok) (h : Rep (cP p) P) (n : Nat) (hn : n < RN) : Rep (cP (oftN n p)) (pmul n P) := by
  have := rep_oR lp h n hn 256 (Nat.le_refl _)
  rw [Nat.sub_self, Nat.pow_zero, Nat.div_one] at this
  exact this
def gRoft : List Value → Option (List Prop × Value)
  | [A, B] => some ([IsB A ∧ IsQ B], qv (oftN (bnum A) (q4 B)))
  | _ => none
theorem gRoft_ok {X : Cx} (hX : X.Ok Tryd.prog) : (X.pure 40 gRoft).Ok Tryd.prog := by
  refine gBody_ok hX Tryd.func40 (by kernel_rfl) (by kernel_rfl) ?_
  intro args ps v ha hg hp
  unfold gRoft at hg
  split at hg
  · rename_i A B
    simp only [Option.some.injEq, Prod.mk.injEq] at hg
    obtain ⟨rfl, rfl⟩ := hg
    obtain ⟨hA, ⟨hB, lB⟩⟩ := hp _ (List.mem_singleton.2 rfl)
    refine ⟨.inl (flat_qv _), fun w => ?_⟩
    have h := often_any (bnum A) (bnum_lt hA) lB w
    rw [← (show A = bv (bnum A) from hA), ← hB] at h
    exact h
  · simp at hg
def H2 : Cx := H1.pure 40 gRoft
theorem H2_ok : H2.Ok Tryd.prog := gRoft_ok H1_ok
end Go.Proofs.YtnmgpkpdjpjbgaaDoor
