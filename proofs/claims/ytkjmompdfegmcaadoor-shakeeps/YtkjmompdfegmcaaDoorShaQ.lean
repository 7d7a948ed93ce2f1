/- The statements' own opening: 'awake' answers true. -/
import Derived.Test.YtkjmompdfegmcaaDoorShaP
import Derived.Lib.SlBytesConst
namespace Go.Proofs.YtkjmompdfegmcaaDoor
open Go Go.RowKit

theorem srow_get (s : St) (i : Nat) (h : i < 32) : (srow s)[i]? = some (B (sbyte s i)) := by simp [srow, h]
theorem abc_row : (srow (sumSt K256 H256 abcM 3))[0]? = some (.int .u8 186) ∧ (srow (sumSt K256 H256 abcM 3))[1]? = some (.int .u8 120) ∧ (srow (sumSt K256 H256 abcM 3))[31]? = some (.int .u8 173) := by
  obtain ⟨h1, h2, h3⟩ := abc_bytes
  rw [srow_get _ _ (by omega), srow_get _ _ (by omega), srow_get _ _ (by omega), h1, h2, h3]
  exact ⟨rfl, rfl, rfl⟩
set_option maxRecDepth 100000 in
set_option maxHeartbeats 400000 in
theorem awake_any (w : World) (hT : Tabs w K256 H256) :
    Calls Tryd.prog 6 #[] w fun e w' => e = .returned (.bool true) ∧ Below w.heap.size w w' := by
  have HT : Hid (Tabs w K256 H256) := hT
  have hlt := hT.lt
  clear hT
  have hz := zero_32
  have kc := fun (w : World) (C : Array Value) (n c : Nat) => Lib.run_convert_bytes_const (P := Tryd.prog) w 22 5 C n c Tryd.underlying22 Tryd.underlying5
  have hst := srow_size (sumSt K256 H256 abcM 3)
  go_enter Tryd.func6, Tryd.ntmps6
  go_wp2_with fail
  have HA : Hid (∀ o : Obj, Below w.heap.size w (w.alloc o)) := fun o => (Below.refl _ _).alloc (Nat.le_refl _) _
  refine (sum256_any K256 H256 abcM 3 _ (by omega) _ (HT.out.below (HA.out _) hlt.1 hlt.2) ?_).mono ?_
  · refine Or.inr ⟨w.heap.size, 0, 3, rfl, Nat.le_refl _, by simp, by simp, fun i hi => ?_⟩
    rw [World.cell?_alloc_mark]
    match i, hi with
    | 0, _ => rfl
    | 1, _ => rfl
    | 2, _ => rfl
  rintro e w1 ⟨rfl, hb1⟩
  have HB1 : Hid (Below w.heap.size w w1) := (HA.out _).trans (hb1.mono (by simp))
  clear hb1
  have HTH : Hid ((w1.alloc (.cells z32 24)).there w1.heap.size 0 (srow (sumSt K256 H256 abcM 3)).size) := there_of_row (heap_alloc_new _ _) 0 _ (by rw [srow_size, z32_size]; omega)
  go_wp2_with (refine wpList_store_midL rfl 24 _ _ rfl w1.heap.size 0 (srow (sumSt K256 H256 abcM 3)) rfl rfl HTH.out (by rw [srow_size]; kernel_rfl) (by exact srow_one _) ?_; intro w2 hw2; have HB2 : Hid (Below w1.heap.size w1 w2) := (by rw [hw2]; exact below_setCells _ (Nat.le_refl _) _ _ _ ((Below.refl _ _).alloc (Nat.le_refl _) _)); have hra : w2.rangeAt w1.heap.size 0 (srow (sumSt K256 H256 abcM 3)).toList := (by rw [hw2]; exact World.rangeAt_setCells_same _ _ _ _ HTH.out); have k0 : w2.cell? ⟨w1.heap.size, 0, none⟩ = some (.int .u8 186) := hra 0 _ (by rw [Array.getElem?_toList]; exact abc_row.1); have k1 : w2.cell? ⟨w1.heap.size, 1, none⟩ = some (.int .u8 120) := (by have := hra 1 _ (by rw [Array.getElem?_toList]; exact abc_row.2.1); simpa using this); have k31 : w2.cell? ⟨w1.heap.size, 31, none⟩ = some (.int .u8 173) := (by have := hra 31 _ (by rw [Array.getElem?_toList]; exact abc_row.2.2); simpa using this); clear hra hw2)
  go_ret
  exact ⟨rfl, HB1.out.trans (HB2.out.mono HB1.out.size)⟩
/-- What the walk is told of a slice of integers that came in: it is nil; or it leads to a row of cap cells, the numbers zs, each fitting its kind. -/
def IsRow (k : IntKind) (w : World) (a : Option Addr) (len cap : Nat) (zs : List Int) : Prop :=
  (a = none ∧ len = 0 ∧ cap = 0 ∧ zs = []) ∨
  ∃ x, a = some x ∧ len ≤ cap ∧ cap ≤ maxLen ∧ zs.length = cap ∧ (∀ i, i < zs.length → w.cell? (x.add i) = some (.int k (zs.getD i 0))) ∧ ∀ n ∈ zs, (Lit.int k n).wf = true
end Go.Proofs.YtkjmompdfegmcaaDoor
