/- What comes in as a slice of bytes, and its bulk. -/
import Derived.Test.YtkjmompdfegmcaaDoorRows
import Derived.Test.YtkjmompdfegmcaaDoorShaQ
import Derived.ProofKit
import Derived.OpenShut
import Derived.ChangeOld
namespace Go.Proofs.YtkjmompdfegmcaaDoor
open Go Go.ChangeShapes Go.WideShapes Go.ChangeAt Go.RowKit

theorem byte_of (n : Int) (h : (Lit.int .u8 n).wf = true) : Value.int .u8 n = B (BitVec.ofInt 8 n) := by
  have h' : (0 : Int) ≤ n ∧ n ≤ 255 := by
    simp only [Lit.wf, Bool.and_eq_true, decide_eq_true_eq] at h
    exact h
  show Value.int .u8 n = Value.int .u8 (ub (BitVec.ofInt 8 n))
  congr 1
  rw [ub, BitVec.toNat_ofInt]
  omega
theorem bulk_lits {H : Type} : ∀ zs : List Int, Rows.uptoBulkAll (lits (H := H) .u8 zs) = zs.length
  | [] => by simp [lits, Rows.uptoBulkAll]
  | z :: zs => by
    have ih := bulk_lits (H := H) zs
    simp only [lits, List.map_cons, Rows.uptoBulkAll, Rows.uptoBulk, List.length_cons] at ih ⊢
    omega
theorem bytes_of {W : World} {base : Nat} {x : Addr} {l c : Nat} {zs : List Int} {H : Type} {d : DataW H} (hv : Value.okWide Tryd.prog W .any base 22 (.slice (some x) l c)) (hl : l ≤ c) (hz : zs.length = c)
    (hcell : ∀ i, i < zs.length → W.cell? (x.add i) = some (.int .u8 (zs.getD i 0))) (hwz : ∀ n ∈ zs, (Lit.int .u8 n).wf = true) (hd : d = .slice (lits .u8 (zs.take l)) (lits .u8 (zs.drop l))) :
    ∃ m, Bytes W (.slice (some x) l c) l m W.heap.size ∧ l ≤ Rows.uptoBulk d := by
  have hb : x.spot = none ∧ x.block < W.heap.size := by
    simp only [Value.okWide, Tryd.underlying22, Cell.okWide, Cell.ok] at hv
    obtain ⟨_, _, _, hs, row, cells, hsh, _⟩ := hv
    refine ⟨hs, ?_⟩
    unfold World.shape? at hsh
    cases hg : W.heap[x.block]? with
    | none => rw [hg] at hsh; simp at hsh
    | some o => exact (Array.getElem?_eq_some_iff.1 hg).1
  obtain ⟨b, off, sp⟩ := x
  obtain rfl : sp = none := hb.1
  refine ⟨fun i => BitVec.ofInt 8 (zs.getD i 0), .inr ⟨b, off, c, rfl, hl, hb.2, Nat.ne_of_lt hb.2, fun i hi => ?_⟩, ?_⟩
  · have h1 := hcell i (by omega)
    rw [addr_add0] at h1
    rw [h1, byte_of _ (hwz _ ?_)]
    rw [List.getD_eq_getElem?_getD, List.getElem?_eq_getElem (by omega : i < zs.length)]
    exact List.getElem_mem _
  · rw [hd]
    simp only [Rows.uptoBulk, bulk_lits, List.length_take, List.length_drop]
    omega
end Go.Proofs.YtkjmompdfegmcaaDoor
