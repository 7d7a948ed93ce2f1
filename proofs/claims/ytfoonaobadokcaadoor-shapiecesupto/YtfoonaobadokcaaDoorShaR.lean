/- 'New', 'Len' and 'Copy' of a Hash that is there; a sum held against itself. -/
import Derived.Test.YtfoonaobadokcaaDoorShaQ
import Derived.ChangeKeysEq
import Derived.Laws.StructEq
namespace Go.Proofs.YtfoonaobadokcaaDoor
open Go Go.RowKit
set_option linter.unusedSimpArgs false
set_option linter.unusedVariables false

theorem srow_at (s : St) (i : Nat) (h : i < 32) : (srow s)[i]? = some (B (sbyte s i)) := by
  rw [srow, List.getElem?_toArray, List.getElem?_map, List.getElem?_range h]; rfl
theorem same_items (s : St) (d : Nat) (w : World) : ∀ is : List Nat, (∀ i ∈ is, i < 32) →
    (Op.eqItems (d + 1) 5 (Tryd.prog.cellsOf 5) (srow s) (srow s) is).run Tryd.prog w = .ok true w
  | [], _ => by simp [Op.eqItems]
  | i :: is, h => by
    have hi := h i (by simp)
    have hc : Tryd.prog.cellsOf 5 = 1 := by kernel_rfl
    have hp : Tryd.prog.plainKey 5 = true := by kernel_rfl
    have p1 := run_part_plain (P := Tryd.prog) w hp (xs := srow s) (off := i) (srow_at s i hi)
    have p3 := run_equalIn_int (P := Tryd.prog) w d 5 .u8 .u8 (ub (sbyte s i)) (ub (sbyte s i)) Tryd.underlying5
    have ih := same_items s d w is (fun j hj => h j (by simp [hj]))
    rw [hc] at ih
    have p4 : (Op.equalIn (d + 1) 5 (B (sbyte s i)) (B (sbyte s i))).run Tryd.prog w = .ok true w := by
      refine p3.trans ?_; simp
    simp only [Op.eqItems, hc, Nat.mul_one, Sem.run_bind, p1, p4, Result.andThen_ok]
    exact ih
theorem eq_same (s : St) (w : World) : (Op.equalIn 10000 24 (.agg (srow s)) (.agg (srow s))).run Tryd.prog w = .ok true w := by
  obtain ⟨i, hi⟩ : ∃ i, Tryd.prog.info? 5 = some i := by
    cases h : Tryd.prog.info? 5 with
    | none => have := size_u8; rw [h] at this; cases this
    | some i => exact ⟨i, rfl⟩
  have := run_equalIn_array (P := Tryd.prog) w 9999 (srow s) (srow s) Tryd.underlying24 hi
  rw [same_items s 9998 w _ (fun i hi => List.mem_range.1 hi)] at this
  exact this

set_option maxRecDepth 100000 in
set_option maxHeartbeats 400000 in
theorem new_any (K : Nat → BitVec 32) (s0 : St) (w : World) (hT : Tabs w K s0) :
    Calls Tryd.prog 16 #[] w fun e w' => ∃ hb, e = .returned (.pointer (some ⟨hb, 0, none⟩)) ∧ Below w.heap.size w w' ∧ w.heap.size ≤ hb ∧ HRow w' hb s0 z8 0 := by
  have HT : Hid (Tabs w K s0) := hT
  clear hT
  have hzh := zero_hash
  go_enter Tryd.func16, Tryd.ntmps16
  go_wp2_with fail
  refine (begin_any s0 _ HT.out.sq).mono ?_
  rintro e w1 ⟨rfl, hb1⟩
  have hs1 := hb1.size
  have HB1 : Hid (Below w.heap.size w w1) := hb1
  clear hb1
  have hrs := hrow_size s0 z8 0
  have HTH : Hid ((w1.alloc (.cells (hrow St.zero z8 0) 44)).there w1.heap.size 0 (hrow s0 z8 0).size) := there_of_row (heap_alloc_new _ _) 0 _ (by rw [hrow_size, hrow_size]; omega)
  go_wp2_with (refine wpList_store_midL rfl 44 _ _ rfl w1.heap.size 0 (hrow s0 z8 0) rfl rfl HTH.out (by rw [hrow_size]; kernel_rfl) (by exact hrow_one _ _ _) ?_; intro w2 hw2; have HH : Hid (HRow w2 w1.heap.size s0 z8 0) := (by rw [hw2]; exact hrow_lay (hrow_size _ _ _) s0 z8 0); have HB2 : Hid (Below w1.heap.size w1 w2) := (by rw [hw2]; exact below_setCells _ (Nat.le_refl _) _ _ _ ((Below.refl _ _).alloc (Nat.le_refl _) _)); clear hw2)
  go_ret
  exact ⟨_, rfl, HB1.out.trans (HB2.out.mono hs1), hs1, HH.out⟩
set_option maxHeartbeats 400000 in
theorem len_any (hb : Nat) (s : St) (buf : Nat → BitVec 8) (N : Nat) (w : World) (hw : HRow w hb s buf N) :
    Calls Tryd.prog 19 #[.pointer (some ⟨hb, 0, none⟩)] w fun e w' => e = .returned (.int .u64 (N : Int)) ∧ w' = w := by
  have hc := hw.len
  clear hw
  go_enter Tryd.func19, Tryd.ntmps19
  go_wp2
  go_ret
  exact ⟨rfl, rfl⟩
set_option maxRecDepth 100000 in
set_option maxHeartbeats 400000 in
theorem copy_any (hb : Nat) (s : St) (buf : Nat → BitVec 8) (N : Nat) (w : World) (hw : HRow w hb s buf N) :
    Calls Tryd.prog 20 #[.pointer (some ⟨hb, 0, none⟩)] w fun e w' => ∃ hb', e = .returned (.pointer (some ⟨hb', 0, none⟩)) ∧ Below w.heap.size w w' ∧ w.heap.size ≤ hb' ∧ HRow w' hb' s buf N := by
  have hzh := zero_hash
  have HW : Hid (HRow w hb s buf N) := hw
  have hlt := hw.lt
  clear hw
  have hrs := hrow_size s buf N
  have HWA : Hid ((w.alloc (.cells (hrow St.zero z8 0) 44)).heap[hb]? = some (.cells (hrow s buf N) 44 (0, 0))) := by
    show (w.alloc (.cells (hrow St.zero z8 0) 44)).heap[hb]? = _
    rw [((Below.refl w.heap.size w).alloc (Nat.le_refl _) _).block hb hlt]; exact HW.out
  have HTH : Hid ((w.alloc (.cells (hrow St.zero z8 0) 44)).there w.heap.size 0 (hrow s buf N).size) := there_of_row (heap_alloc_new _ _) 0 _ (by rw [hrow_size, hrow_size]; omega)
  go_enter Tryd.func20, Tryd.ntmps20
  go_wp2_with (first | (refine wpList_load_row rfl 44 _ rfl hb rfl _ _ _ _ HW.out Tryd.underlying44 rfl (by rw [hrow_size]; kernel_rfl) ?_) | (refine wpList_load_row rfl 44 _ rfl hb rfl _ _ _ _ HWA.out Tryd.underlying44 rfl (by rw [hrow_size]; kernel_rfl) ?_) | (refine wpList_store_midL rfl 44 _ _ rfl w.heap.size 0 (hrow s buf N) rfl rfl HTH.out (by rw [hrow_size]; kernel_rfl) (by exact hrow_one _ _ _) ?_; intro w2 hw2; have HH : Hid (HRow w2 w.heap.size s buf N) := (by rw [hw2]; exact hrow_lay (hrow_size _ _ _) s buf N); have HB2 : Hid (Below w.heap.size w w2) := (by rw [hw2]; exact below_setCells _ (Nat.le_refl _) _ _ _ ((Below.refl _ _).alloc (Nat.le_refl _) _)); clear hw2))
  go_ret
  exact ⟨_, rfl, HB2.out, Nat.le_refl _, HH.out⟩
end Go.Proofs.YtfoonaobadokcaaDoor
