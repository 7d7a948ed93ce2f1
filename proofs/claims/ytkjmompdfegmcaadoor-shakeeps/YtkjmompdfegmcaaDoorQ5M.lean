/- 'Mul64' by eight; what Sum512 holds. -/
import Derived.Test.YtkjmompdfegmcaaDoorQ5G
import Derived.Test.YtkjmompdfegmcaaDoorRgnT
import Derived.Lib.Mul64
import Derived.Laws.Externs
import Derived.Laws.Pointers
import Derived.Laws.Bits64b
namespace Go.Proofs.YtkjmompdfegmcaaDoor.Q5
open Go Go.RowKit
set_option linter.unusedSimpArgs false
set_option linter.unusedVariables false

namespace M64
theorem maskN (a : Nat) (ha : a < 18446744073709551616) : bits .and .u64 (a : Int) 4294967295 = ((a % 4294967296 : Nat) : Int) := by
  have h := bits_and_u64_nat a 4294967295 ha (by omega)
  have e : a &&& 4294967295 = a % 4294967296 := Nat.and_two_pow_sub_one_eq_mod a 32
  rw [e] at h
  exact h
theorem divN (a : Nat) : (a : Int) / 4294967296 = ((a / 4294967296 : Nat) : Int) := by omega
theorem mulN (a b : Nat) : (a : Int) * (b : Int) = ((a * b : Nat) : Int) := (Int.natCast_mul a b).symm
theorem addN (a b : Nat) : (a : Int) + (b : Int) = ((a + b : Nat) : Int) := (Int.natCast_add a b).symm
theorem wrapN (a : Nat) (ha : a < 18446744073709551616) : IntKind.u64.wrap (a : Int) = (a : Int) := by rw [IntKind.wrap_u64]; omega
theorem wrapM (a : Nat) : IntKind.u64.wrap (a : Int) = ((a % 18446744073709551616 : Nat) : Int) := by rw [IntKind.wrap_u64]; omega
end M64
set_option maxHeartbeats 1000000 in
theorem mul64_nat (x y : Nat) (hx : x < 18446744073709551616) (hy : y < 18446744073709551616) (w : World) :
    Calls Tryd.prog 20 #[.int .u64 x, .int .u64 y] w fun e w' => e = .returned (.tuple #[.int .u64 ((x * y / 18446744073709551616 : Nat) : Int), .int .u64 ((x * y % 18446744073709551616 : Nat) : Int)]) ∧ w' = w := by
  obtain ⟨bd, bt, bw, hhi⟩ := Lib.mul64_hi x y hx hy
  have ba := Lib.half_mul_le (a := x / 4294967296) (b := y / 4294967296) (by omega) (by omega)
  have bb := Lib.half_mul_le (a := x / 4294967296) (b := y % 4294967296) (by omega) (by omega)
  have bc := Lib.half_mul_le (a := x % 4294967296) (b := y / 4294967296) (by omega) (by omega)
  have ba' : x / 4294967296 * (y / 4294967296) < 18446744073709551616 := by omega
  have bb' : x / 4294967296 * (y % 4294967296) < 18446744073709551616 := by omega
  have bc' : x % 4294967296 * (y / 4294967296) < 18446744073709551616 := by omega
  have bh1 : x / 4294967296 * (y / 4294967296) + (x / 4294967296 * (y % 4294967296) + x % 4294967296 * (y % 4294967296) / 4294967296) / 4294967296 < 18446744073709551616 := by omega
  have bh : x / 4294967296 * (y / 4294967296) + (x / 4294967296 * (y % 4294967296) + x % 4294967296 * (y % 4294967296) / 4294967296) / 4294967296 + ((x / 4294967296 * (y % 4294967296) + x % 4294967296 * (y % 4294967296) / 4294967296) % 4294967296 + x % 4294967296 * (y / 4294967296)) / 4294967296 < 18446744073709551616 := by omega
  go_enter Tryd.func20, Tryd.ntmps20
  go_wp2
  simp only [M64.maskN x hx, M64.maskN y hy, M64.divN, M64.mulN, M64.addN, M64.wrapN _ bd, M64.wrapN _ bb', M64.wrapN _ bt, M64.maskN _ bt, M64.wrapN _ bc', M64.wrapN _ bw, M64.wrapN _ ba', M64.wrapN _ bh1, M64.wrapN _ bh, M64.wrapM (x * y)]
  rw [hhi]
  go_ret2
  exact ⟨rfl, rfl⟩
/-- Eight times a length. -/
theorem mul8 (n : Nat) (hn : n < 1152921504606846976) (w : World) :
    Calls Tryd.prog 20 #[.int .u64 (n : Int), .int .u64 8] w fun e w' => e = .returned (.tuple #[L 0, L (BitVec.ofNat 64 (8 * n))]) ∧ w' = w := by
  refine (mul64_nat n 8 (by omega) (by omega) w).mono ?_
  rintro e w' ⟨rfl, rfl⟩
  refine ⟨?_, rfl⟩
  have e1 : n * 8 / 18446744073709551616 = 0 := by omega
  have e2 : L (BitVec.ofNat 64 (8 * n)) = .int .u64 ((n * 8 % 18446744073709551616 : Nat) : Int) := by
    show Value.int .u64 ((BitVec.ofNat 64 (8 * n)).toNat : Int) = _
    rw [BitVec.toNat_ofNat, Nat.mul_comm]
  rw [e1, e2]; rfl
/-- The tables, in memory. -/
structure Tabs (w : World) : Prop where
  sq : ∀ i, i < 8 → w.cell? ⟨0, i, none⟩ = some (U (H512.at i))
  cu : ∀ i, i < 80 → w.cell? ⟨2, i, none⟩ = some (U (K512 i))
theorem Tabs.lt {w : World} (h : Tabs w) : 0 < w.heap.size ∧ 2 < w.heap.size :=
  ⟨block_lt_of_cell (h.sq 0 (by omega)), block_lt_of_cell (h.cu 0 (by omega))⟩
theorem Tabs.below {w w' : World} {B0 : Nat} (h : Tabs w) (hb : Below B0 w w') (h0 : 0 < B0 ∧ 2 < B0) : Tabs w' :=
  ⟨fun i hi => (hb.cell (p := ⟨_, i, none⟩) h0.1).trans (h.sq i hi), fun i hi => (hb.cell (p := ⟨_, i, none⟩) h0.2).trans (h.cu i hi)⟩
theorem mix_at (m : Nat → BitVec 8) (s s' : St) (hp : compress K512 s m = s') (b off n cap : Nat) (hn : 128 ≤ n) (hcap : n ≤ cap) (w : World) (hm : ∀ i, i < 128 → w.cell? ⟨b, off + i, none⟩ = some (B (m i)))
    (hK : ∀ i, i < 80 → w.cell? ⟨2, i, none⟩ = some (U (K512 i))) :
    Calls Tryd.prog 19 #[.agg s.row, .slice (some ⟨b, off, none⟩) n cap] w fun e w' => e = .returned (.agg s'.row) ∧ Below w.heap.size w w' := by
  refine (mix_walk K512 m (schedW m) (schedW_ok m) s b off n cap hn hcap w hm hK).mono ?_
  rintro e w' ⟨rfl, h⟩
  exact ⟨congrArg (fun s : St => Ending.returned (.agg s.row)) hp, h⟩
def zb : Array Value := (List.replicate 64 (Value.int .u8 0)).toArray
theorem zb_size : zb.size = 64 := by simp [zb]
theorem zero_b (w : World) : (zeroValue 26).run Tryd.prog w = .ok (.agg zb) w := by kernel_rfl
def z256 : Array Value := (List.replicate 256 (Value.int .u8 0)).toArray
theorem z256_brow : z256 = brow 256 (fun _ => 0) := by kernel_rfl
theorem zero_256 (w : World) : (zeroValue 49).run Tryd.prog w = .ok (.agg z256) w := by kernel_rfl
theorem size_8 : (Tryd.prog.info? 47).map (·.size) = some 8 := by kernel_rfl
theorem size_b : (Tryd.prog.info? 26).map (·.size) = some 64 := by kernel_rfl
theorem row_size (s : St) : s.row.size = 8 := rfl
theorem row_len (s : St) : s.row.toList.length = 8 := rfl
theorem heap_past' (b c : Nat) (hc : c ≠ b) : ∀ (vs : List Value) (o : Nat) (w : World), (w.setCells b o vs).heap[c]? = w.heap[c]?
  | [], _, _ => rfl
  | v :: r, o, w => by
    rw [World.setCells, heap_past' b c hc r (o + 1)]
    exact heap_setCell_other _ _ _ _ hc
/-- Within Sum512: the result's place, the state. -/
structure MX (w W : World) (s : St) : Prop where
  below : Below w.heap.size w W
  res : W.heap[w.heap.size]? = some (.cells zb 26 (0, 0))
  st : W.heap[w.heap.size + 1]? = some (.cells s.row 47 (0, 0))
theorem MX.size {w W : World} {s : St} (h : MX w W s) : w.heap.size + 2 ≤ W.heap.size := (Array.getElem?_eq_some_iff.1 h.st).1
theorem MX.more {w W W' : World} {s : St} (h : MX w W s) (hb : Below W.heap.size W W') : MX w W' s :=
  ⟨h.below.trans (hb.mono h.below.size), (hb.block _ (Array.getElem?_eq_some_iff.1 h.res).1).trans h.res, (hb.block _ (Array.getElem?_eq_some_iff.1 h.st).1).trans h.st⟩
theorem MX.range {w W : World} {s : St} (h : MX w W s) : W.rangeAt (w.heap.size + 1) 0 s.row.toList := fun j u hu => by
  rw [cell_of_row W _ _ _ _ _ h.st, Nat.zero_add, ← Array.getElem?_toList]; exact hu
theorem MX.there {w W : World} {s : St} (h : MX w W s) (s' : St) : W.there (w.heap.size + 1) 0 s'.row.size := there_of_row h.st 0 8 (by rw [row_size]; omega)
theorem MX.put {w W : World} {s : St} (h : MX w W s) (s' : St) : MX w (W.setCells (w.heap.size + 1) 0 s'.row.toList) s' := by
  have hh := below_setCells (B0 := w.heap.size + 1) (a := W) (w.heap.size + 1) (Nat.le_refl _) s'.row.toList 0 W (Below.refl _ _)
  exact ⟨h.below.trans (hh.mono (by omega)), (hh.block _ (by omega)).trans h.res, row_setCells h.st rfl s'⟩
theorem MX.drew {w W : World} {s : St} (h : MX w W s) : MX w { W with drawn := W.drawn + 1 } s := ⟨h.below.drew, h.res, h.st⟩
/-- Beside it the last blocks, in block q. -/
structure MY (w W : World) (s : St) (q : Nat) (f : Nat → BitVec 8) : Prop where
  mx : MX w W s
  pos : w.heap.size + 2 ≤ q
  last : W.heap[q]? = some (.cells (brow 256 f) 49 (0, 0))
theorem MY.qlt {w W : World} {s : St} {q : Nat} {f : Nat → BitVec 8} (h : MY w W s q f) : q < W.heap.size := (Array.getElem?_eq_some_iff.1 h.last).1
theorem MY.more {w W W' : World} {s : St} {q : Nat} {f : Nat → BitVec 8} (h : MY w W s q f) (hb : Below W.heap.size W W') : MY w W' s q f := ⟨h.mx.more hb, h.pos, (hb.block _ h.qlt).trans h.last⟩
theorem MY.put {w W : World} {s : St} {q : Nat} {f : Nat → BitVec 8} (h : MY w W s q f) (s' : St) : MY w (W.setCells (w.heap.size + 1) 0 s'.row.toList) s' q f := by
  refine ⟨h.mx.put s', h.pos, ?_⟩
  have hp := h.pos
  exact (heap_past' (w.heap.size + 1) q (by omega) s'.row.toList 0 W).trans h.last
theorem MY.drew {w W : World} {s : St} {q : Nat} {f : Nat → BitVec 8} (h : MY w W s q f) : MY w { W with drawn := W.drawn + 1 } s q f := ⟨h.mx.drew, h.pos, h.last⟩
theorem MY.cell {w W : World} {s : St} {q : Nat} {f : Nat → BitVec 8} (h : MY w W s q f) (i : Nat) (hi : i < 256) : W.cell? ⟨q, i, none⟩ = some (B (f i)) := by
  rw [cell_of_row W _ i _ _ _ h.last, brow_get, if_pos hi]
theorem MY.froz {w W : World} {s : St} {q : Nat} {f : Nat → BitVec 8} (h : MY w W s q f) (i : Nat) : W.frozen? ⟨q, i, none⟩ = false := frozen_of_row _ _ _ _ _ h.last
theorem MY.set {w W : World} {s : St} {q : Nat} {f f' : Nat → BitVec 8} (h : MY w W s q f) (o : Nat) (vs : List Value) (hn : o + vs.length ≤ 256) (hf : ∀ i, i < 256 → some (B (f' i)) = if o ≤ i ∧ i < o + vs.length then vs[i - o]? else some (B (f i))) :
    MY w (W.setCells q o vs) s q f' := by
  have hp := h.pos
  have hh := below_setCells (B0 := w.heap.size + 2) (a := W) q hp vs o W (Below.refl _ _)
  refine ⟨⟨h.mx.below.trans (hh.mono (by omega)), (hh.block _ (by omega)).trans h.mx.res, (hh.block _ (by omega)).trans h.mx.st⟩, hp, ?_⟩
  refine heap_setCells h.last o vs (by rw [brow_size]; exact hn) (fun i => ?_)
  rw [brow_get, brow_get]
  by_cases h1 : i < 256
  · rw [if_pos h1, if_pos h1]; exact hf i h1
  · rw [if_neg h1, if_neg h1]
    have hne : ¬ (o ≤ i ∧ i < o + vs.length) := by omega
    rw [if_neg hne]
end Go.Proofs.YtkjmompdfegmcaaDoor.Q5
