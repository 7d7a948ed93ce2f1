/- 'New', 'Len' and 'Copy' of a Hash that is there; a sum held against itself. -/
import Derived.Test.YtkjmompdfegmcaaDoorShaQ
import Derived.ChangeKeysEq
import Derived.Laws.StructEq
namespace Go.Proofs.YtkjmompdfegmcaaDoor
open Go Go.RowKit
set_option linter.unusedSimpArgs false
set_option linter.unusedVariables false

theorem srow_at (s : St) (i : Nat) (h : i < 32) : (srow s)[i]? = some (B (sbyte s i)) := by
  rw [srow, List.getElem?_toArray, List.getElem?_map, List.getElem?_range h]; rfl
theorem same_items (s : St) (d : Nat) (w : World) : ∀ is : List Nat, (∀ i ∈ is, i < 32) →
    (Op.eqItems (d + 1) 5 (Tryd.prog.cellsOf 5) (srow s) (srow s) is).run Tryd.prog w = .ok true w
  | [], _ => by simp [Op.eqItems]
  | i :: is, h => by
    have hi := h i (by simp)
    have hc : Tryd.prog.cellsOf 5 = 1 := by kernel_rfl
    have hp : Tryd.prog.plainKey 5 = true := by kernel_rfl
    have p1 := run_part_plain (P := Tryd.prog) w hp (xs := srow s) (off := i) (srow_at s i hi)
    have p3 := run_equalIn_int (P := Tryd.prog) w d 5 .u8 .u8 (ub (sbyte s i)) (ub (sbyte s i)) Tryd.underlying5
    have ih := same_items s d w is (fun j hj => h j (by simp [hj]))
    rw [hc] at ih
    have p4 : (Op.equalIn (d + 1) 5 (B (sbyte s i)) (B (sbyte s i))).run Tryd.prog w = .ok true w := by
      refine p3.trans ?_; simp
    simp only [Op.eqItems, hc, Nat.mul_one, Sem.run_bind, p1, p4, Result.andThen_ok]
    exact ih
theorem eq_same (s : St) (w : World) : (Op.equalIn 10000 24 (.agg (srow s)) (.agg (srow s))).run Tryd.prog w = .ok true w := by
  obtain ⟨i, hi⟩ : ∃ i, Tryd.prog.info? 5 = some i := by
    cases h : Tryd.prog.info? 5 with
    | none => have := size_u8; rw [h] at this; cases this
    | some i => exact ⟨i, rfl⟩
  have := run_equalIn_array (P := Tryd.prog) w 9999 (srow s) (srow s) Tryd.underlying24 hi
  rw [same_items s 9998 w _ (fun i hi => List.mem_range.1 hi)] at this
  exact this

set_option maxRecDepth 100000 in
set_option maxHeartbeats 400000 in
theorem new_any (K : Nat → BitVec 32) (s0 : St) (w : World) (hT : Tabs w K s0) :
    Calls Tryd.prog 11 #[] w fun e w' => ∃ hb, e = .returned (.pointer (some ⟨hb, 0, none⟩)) ∧ Below w.heap.size w w' ∧ w.heap.size ≤ hb ∧ HRow w' hb s0 z8 0 := by
  have HT : Hid (Tabs w K s0) := hT
  clear hT
  have hzh := zero_hash
  go_enter Tryd.func11, Tryd.ntmps11
  go_wp2_with fail
  refine (begin_any s0 _ HT.out.sq).mono ?_
  rintro e w1 ⟨rfl, hb1⟩
  have hs1 := hb1.size
  have HB1 : Hid (Below w.heap.size w w1) := hb1
  clear hb1
  have hrs := hrow_size s0 z8 0
  have HTH : Hid ((w1.alloc (.cells (hrow St.zero z8 0) 40)).there w1.heap.size 0 (hrow s0 z8 0).size) := there_of_row (heap_alloc_new _ _) 0 _ (by rw [hrow_size, hrow_size]; omega)
  go_wp2_with (refine wpList_store_midL rfl 40 _ _ rfl w1.heap.size 0 (hrow s0 z8 0) rfl rfl HTH.out (by rw [hrow_size]; kernel_rfl) (by exact hrow_one _ _ _) ?_; intro w2 hw2; have HH : Hid (HRow w2 w1.heap.size s0 z8 0) := (by rw [hw2]; exact hrow_lay (hrow_size _ _ _) s0 z8 0); have HB2 : Hid (Below w1.heap.size w1 w2) := (by rw [hw2]; exact below_setCells _ (Nat.le_refl _) _ _ _ ((Below.refl _ _).alloc (Nat.le_refl _) _)); clear hw2)
  go_ret
  exact ⟨_, rfl, HB1.out.trans (HB2.out.mono hs1), hs1, HH.out⟩
end Go.Proofs.YtkjmompdfegmcaaDoor
