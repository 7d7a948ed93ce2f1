/- The generator taken L times is the neutral point. -/
import Derived.Test.YtnmgpkpdjpjbgaaDoorPoiJ
namespace Go.Proofs.YtnmgpkpdjpjbgaaDoor
open Go
set_option linter.unusedVariables false
def LN : Nat := 7237005577332262213973186563042994240857116359379907606001950938285454250989
def zeroB (p : P4) : Bool := decide (p.x % pp = 0) && (decide (p.y % pp = p.z % pp))
theorem LB_run : zeroB (timesN LN genN) = true := by decide +kernel
theorem LB_zero : pmul LN BP = Pt.zero DK := by
  have h := rep_times rep_gen LN (by decide)
  have z := LB_run
  unfold zeroB at z
  simp only [Bool.and_eq_true, decide_eq_true_eq] at z
  obtain ⟨zx, zy⟩ := z
  obtain ⟨h1, h2, h3, _⟩ := h
  have hx : cK (timesN LN genN).x = (pmul LN BP).x * cK (timesN LN genN).z := h2
  have hy : cK (timesN LN genN).y = (pmul LN BP).y * cK (timesN LN genN).z := h3
  have hz : cK (timesN LN genN).z ≠ 0 := h1
  rw [cK_eq_zero.2 zx] at hx
  rw [cK_eq.2 zy] at hy
  refine Pt.ext' ?_ ?_
  · refine FK.cancel hz ?_
    rw [← hx]
    exact (kzero_mul _).symm
  · refine FK.cancel hz ?_
    rw [← hy]
    exact (kone_mul _).symm
end Go.Proofs.YtnmgpkpdjpjbgaaDoor
