/- The law PointAll: its run, and that it answers true. -/
import Derived.Test.YtnmgpkpdjpjbgaaDoorPoiTD
namespace Go.Proofs.YtnmgpkpdjpjbgaaDoor
open Go Go.RowKit
set_option linter.unusedSimpArgs false
set_option linter.unusedVariables false
def FE : Cx := ((((((((FCg.pure 15 gAdp).pure 16 gNeg).pure 17 gPml).pure 18 gClr).pure 19 gSml).pure 21 gChk).pure 23 gBas).pure 25 gZer).pure 27 gGnr
theorem FE_ok : FE.Ok Tryd.prog := rgGnr_ok (rgZer_ok (rgBas_ok (rgChk_ok (rgSml_ok (rgClr_ok (rgPml_ok (rgNeg_ok (rgAdp_ok FCg_ok))))))))
theorem selfN (x : Int) : (!(x == x)) = false := by simp
theorem selfE (A : Value) : eqV A A = true := List.all_eq_true.2 fun i _ => by simp
theorem all_run (p q n : Nat) : sfunG Tryd.prog (FE.tell [(85, false), (89, false), (94, false), (99, false), (104, false), (111, false), (115, true), (119, true), (124, true), (129, true), (134, true), (141, true), (146, true), (151, true)]) M1 100 Tryd.f3 (bodyOf Tryd.f3) [bv p, bv q, bv n] = some ([IsB (bv p) ∧ IsB (bv q), IsB (bv p), IsB (bv n) ∧ IsB (bv p), IsB (bv p), IsB (bv p), IsB (bv p) ∧ IsB (bv q), IsB (bv p), IsB (bv n) ∧ IsB (bv p), IsB (bv p), IsB (bv p), (!(ADE (bv p) (bv q) == ADE (bv p) (bv q))) = false, (!(REV (bv p) == REV (bv p))) = false, (!(REV (bv p) == REV (bv p))) = false, (!(REV (bv p) == REV (bv p))) = false, (!(REV (bv p) == REV (bv p))) = false, IsB (bv p), IsB (bv p), (!(REV (bv p) == REV (bv p))) = false, eqV (ADV (bv p) (bv q)) (ADV (bv p) (bv q)) = true, eqV (NEV (bv p)) (NEV (bv p)) = true, eqV (MLV (bv n) (bv p)) (MLV (bv n) (bv p)) = true, eqV (CLV (bv p)) (CLV (bv p)) = true, (SMV (bv p) == SMV (bv p)) = true, IsB (bv n), IsB (bv n), eqV (BAV (bv n)) (BAV (bv n)) = true, eqV (bv 1) (bv 1) = true, eqV (bv GY) (bv GY) = true], .bool true) := by kernel_rfl
theorem pointAll_walk (p q n : Nat) (hp : p < RN) (hq : q < RN) (hn : n < RN) (w : World) (hw : Glo M1 w) : Calls Tryd.prog 3 #[bv p, bv q, bv n] w fun e w' => e = .returned (.bool true) ∧ Below w.heap.size w w' :=
  sfunG_calls (Cx.tell_ok FE_ok _) mixed M1_flat (by kernel_rfl) Tryd.func3 (by kernel_rfl) (all_run p q n) (al ib2 (al (isB_bv _) (al ib2 (al (isB_bv _) (al (isB_bv _) (al ib2 (al (isB_bv _) (al ib2 (al (isB_bv _) (al (isB_bv _) (al (selfN _) (al (selfN _) (al (selfN _) (al (selfN _) (al (selfN _) (al (isB_bv _) (al (isB_bv _) (al (selfN _) (al (selfE _) (al (selfE _) (al (selfE _) (al (selfE _) (al (beq_self_eq_true _) (al (isB_bv _) (al (isB_bv _) (al (selfE _) (al (selfE _) (al (selfE _) al0)))))))))))))))))))))))))))) (by simp [flat_bv]) (.inl rfl) w hw
end Go.Proofs.YtnmgpkpdjpjbgaaDoor
