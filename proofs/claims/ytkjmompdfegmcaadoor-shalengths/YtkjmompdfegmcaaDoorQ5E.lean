/- A sum of 64 bytes held against itself; the reference's sums with a letter for their state. -/
import Derived.Test.YtkjmompdfegmcaaDoorQ5RE
import Derived.Test.YtkjmompdfegmcaaDoorQ5S
import Derived.Test.YtkjmompdfegmcaaDoorShaCopiesW
namespace Go.Proofs.YtkjmompdfegmcaaDoor.Q5
open Go Go.RowKit
set_option linter.unusedSimpArgs false
set_option linter.unusedVariables false

theorem srow_at (s : St) (i : Nat) (h : i < 64) : (srow s)[i]? = some (B (sbyte s i)) := by
  rw [srow, List.getElem?_toArray, List.getElem?_map, List.getElem?_range h]; rfl
theorem same_items (s : St) (d : Nat) (w : World) : ∀ is : List Nat, (∀ i ∈ is, i < 64) →
    (Op.eqItems (d + 1) 5 (Tryd.prog.cellsOf 5) (srow s) (srow s) is).run Tryd.prog w = .ok true w
  | [], _ => by simp [Op.eqItems]
  | i :: is, h => by
    have hi := h i (by simp)
    have hc : Tryd.prog.cellsOf 5 = 1 := by kernel_rfl
    have hp : Tryd.prog.plainKey 5 = true := by kernel_rfl
    have p1 := run_part_plain (P := Tryd.prog) w hp (xs := srow s) (off := i) (srow_at s i hi)
    have p3 := run_equalIn_int (P := Tryd.prog) w d 5 .u8 .u8 (ub (sbyte s i)) (ub (sbyte s i)) Tryd.underlying5
    have ih := same_items s d w is (fun j hj => h j (by simp [hj]))
    rw [hc] at ih
    have p4 : (Op.equalIn (d + 1) 5 (B (sbyte s i)) (B (sbyte s i))).run Tryd.prog w = .ok true w := by
      refine p3.trans ?_; simp
    simp only [Op.eqItems, hc, Nat.mul_one, Sem.run_bind, p1, p4, Result.andThen_ok]
    exact ih
theorem eq_same (s : St) (w : World) : (Op.equalIn 10000 26 (.agg (srow s)) (.agg (srow s))).run Tryd.prog w = .ok true w := by
  obtain ⟨i, hi⟩ : ∃ i, Tryd.prog.info? 5 = some i := by
    cases h : Tryd.prog.info? 5 with
    | none => have := size_u8; rw [h] at this; cases this
    | some i => exact ⟨i, rfl⟩
  have := run_equalIn_array (P := Tryd.prog) w 9999 (srow s) (srow s) Tryd.underlying26 hi
  rw [same_items s 9998 w _ (fun i hi => List.mem_range.1 hi)] at this
  exact this
theorem rsum_at (S : St) (m : Nat → BitVec 8) (ad : Option Addr) (n cap : Nat) (hS : sumSt K512 H512 m n = S) (hn : n < 140737488354800) (w : World) (hm : Src w ad n cap m) :
    Calls Tryd.prog 10 #[.slice ad n cap] w fun e w' => e = .returned (.agg (srow S)) ∧ Below w.heap.size w w' := by
  subst hS; exact rsum_walk m ad n cap hn w hm
end Go.Proofs.YtkjmompdfegmcaaDoor.Q5
namespace Go.Proofs.YtkjmompdfegmcaaDoor
open Go Go.RowKit
theorem sum256_at (S : St) (m : Nat → BitVec 8) (n : Nat) (v : Value) (hS : sumSt K256 H256 m n = S) (hn : n < 1152921504606846976) (w : World) (hT : Tabs w K256 H256) (hv : Bytes w v n m w.heap.size) :
    Calls Tryd.prog 7 #[v] w fun e w' => e = .returned (.agg (srow S)) ∧ Below w.heap.size w w' := by
  subst hS; exact sum256_any K256 H256 m n v hn w hT hv
end Go.Proofs.YtkjmompdfegmcaaDoor
