/- Small laws of memory that the walks want: rows in the midst of a block, results that lie in memory, frames. No dump is read here. -/
import Derived.Test.YtpojalbpekbfdaaGreatDoorTreB
import Derived.Deep.MidRow
import Derived.Laws.CopyOwn
import Derived.Lib.BufferOwn
import Derived.Deep.RegionHeld3
import Derived.Deep.DrawnRows
namespace Go.Proofs.YtpojalbpekbfdaaGreatDoor.Sh
open Go Go.RowKit

theorem below_setCells {B0 : Nat} {a : World} (b : Nat) (hB : B0 ≤ b) : ∀ (vs : List Value) (o : Nat) (w : World), Below B0 a w → Below B0 a (w.setCells b o vs)
  | [], _, _, h => h
  | v :: r, o, w, h => by
    rw [World.setCells]
    exact below_setCells b hB r (o + 1) _ (h.setCell hB v)
theorem setCells_append (b : Nat) : ∀ (xs : List Value) (o : Nat) (w : World) (ys : List Value), (w.setCells b o xs).setCells b (o + xs.length) ys = w.setCells b o (xs ++ ys)
  | [], _, _, _ => rfl
  | x :: r, o, w, ys => by
    rw [World.setCells, List.cons_append, World.setCells, ← setCells_append b r (o + 1) _ ys, List.length_cons]
    congr 1; omega
theorem below_drewN {B0 : Nat} {a w : World} (h : Below B0 a w) (n : Nat) : Below B0 a (w.drewN n) := by
  induction n with
  | zero => exact h
  | succ n ih => exact ih.drew

/-- A result that lies in memory as a row of cells. -/
theorem results_mid {P : Program} {fn : Func} {p : Tmp} {ty : TypeId} (h : fn.results = #[.cell p ty]) (tmps : Array Value) (w : World) (b o : Nat) (cs : List Value) (d : TypeDesc)
    (hp : tmps.getD p undef = .pointer (some ⟨b, o, none⟩)) (hc : w.rangeAt b o cs) (hu : P.underlying ty = some d) (hd : d.isRow = true) (hi : (P.info? ty).map (·.size) = some cs.length) :
    (results fn tmps).run P w = .ok (.agg cs.toArray) w := by
  have hp' : tmps[p]?.getD undef = .pointer (some ⟨b, o, none⟩) := by simpa using hp
  simp [results, h, hp', asAddr, run_loadVar_mid w b o ty cs d hc hu hd hi]

/-- Cells of a block known whole are there, and may be written. -/
theorem there_of_row {w : World} {g : Nat} {cs : Array Value} {t : TypeId} (hg : w.heap[g]? = some (.cells cs t (0, 0))) (o n : Nat) (hn : o + n ≤ cs.size) : w.there g o n := fun j hj =>
  ⟨by rw [cell_of_row w g (o + j) cs t _ hg, Array.getElem?_eq_getElem (by omega)]; rfl, frozen_of_row _ _ _ _ _ hg⟩
/-- A row stored in the midst of a block; the world behind it a letter. -/
theorem wpList_store_midL {P : Program} {ops : Array Oper} {rest : List Oper} {op : Oper} {a : Act} {w : World} {Q : Exit → Act → World → Prop} (hgd : op.guard = none) (ty : TypeId) (x y : Operand) (ho : op.op = .store ty x y)
    (b o : Nat) (cells : Array Value) (hx : a.eval x = .pointer (some ⟨b, o, none⟩)) (hy : a.eval y = .agg cells)
    (ht : w.there b o cells.size) (hi : (P.info? ty).map (·.size) = some cells.size) (h1 : cells.all (·.oneCell') = true)
    (h : ∀ w', w' = w.setCells b o cells.toList → wpList P ops Q rest (a.put op.dst undef) w') : wpList P ops Q (op :: rest) a w :=
  wpList_store_mid hgd ty x y ho b o cells hx hy ht hi h1 (h _ rfl)
/-- A cell of the block behind a row stored there. -/
theorem cell_setCells (w : World) (g o i : Nat) (vs : List Value) (ht : w.there g o vs.length) :
    (w.setCells g o vs).cell? ⟨g, i, none⟩ = if o ≤ i ∧ i < o + vs.length then vs[i - o]? else w.cell? ⟨g, i, none⟩ := by
  split
  · rename_i h
    have hj : i - o < vs.length := by omega
    have := World.cell?_setCells_in g vs o w (fun j hj => (ht j hj).1) (i - o) hj
    rw [show o + (i - o) = i by omega] at this
    rw [this, List.getElem?_eq_getElem hj]
  · rename_i h
    exact World.cell?_setCells_out g vs o w ⟨g, i, none⟩ (fun _ _ => by simp only; omega)
/-- A cell of another block. -/
theorem cell_setCells_other (w : World) (g o : Nat) (vs : List Value) (a : Addr) (h : a.block ≠ g) : (w.setCells g o vs).cell? a = w.cell? a :=
  World.cell?_setCells_out g vs o w a (fun e => absurd e h)
theorem there_of_cells {w : World} {g o n : Nat} (f : Nat → Value) (hc : ∀ i, i < n → w.cell? ⟨g, o + i, none⟩ = some (f i)) (hf : ∀ i, w.frozen? ⟨g, i, none⟩ = false) : w.there g o n := fun j hj =>
  ⟨by rw [hc j hj]; rfl, hf _⟩
theorem range_of_cells {w : World} {g o n : Nat} (f : Nat → Value) (hc : ∀ i, i < n → w.cell? ⟨g, o + i, none⟩ = some (f i)) : w.rangeAt g o ((List.range n).map f) := fun j v hv => by
  obtain ⟨hj, hv'⟩ := List.getElem?_eq_some_iff.1 hv
  simp at hj hv'
  rw [hc j hj, hv']
theorem addr_add0 (g o j : Nat) : (⟨g, o, none⟩ : Addr).add j = ⟨g, o + j, none⟩ := Addr.add_mid g o j
theorem arr_desc {P : Program} {t e : TypeId} {n : Nat} (hu : P.underlying t = some (.array n e)) : P.arrayLen t = n ∧ P.elem t = e := by
  constructor
  · simp [Program.arrayLen, hu]
  · simp [Program.elem, hu]
theorem size_run {P : Program} {e : TypeId} {s : Nat} (hs : (P.info? e).map (·.size) = some s) (w : World) : (sizeOf e).run P w = .ok s w := by
  cases hq : P.info? e with
  | none => simp [hq] at hs
  | some i => simp [hq] at hs; simp [sizeOf, typeInfo, hq, hs]
theorem sliceAt_lh {P : Program} (w : World) (t e : TypeId) (n g o : Nat) (lo hi : Int) (l h : Nat) (hl : lo = l) (hh : hi = h) (hu : P.underlying t = some (.array n e)) (hs : (P.info? e).map (·.size) = some 1) (h1 : l ≤ h) (h2 : h ≤ n) (h3 : l < n) :
    (Instr.sliceAt t (.pointer (some ⟨g, o, none⟩)) (some (.int .i64 lo)) (some (.int .i64 hi)) none).run P w = .ok (.slice (some ⟨g, o + l, none⟩) (h - l) (n - l)) w := by
  subst hl; subst hh
  obtain ⟨e1, e2⟩ := arr_desc hu
  rw [run_sliceAt_array_lh w t _ (by rw [e1, e2]; exact hu) _ _ _ _ (by omega) (by omega) (by rw [e1]; omega), e2, size_run hs w, e1]
  simp [slicedAt, addr_add0]
  omega
theorem sliceAt_h {P : Program} (w : World) (t e : TypeId) (n g o : Nat) (hi : Int) (h : Nat) (hh : hi = h) (hu : P.underlying t = some (.array n e)) (hs : (P.info? e).map (·.size) = some 1) (h2 : h ≤ n) :
    (Instr.sliceAt t (.pointer (some ⟨g, o, none⟩)) none (some (.int .i64 hi)) none).run P w = .ok (.slice (some ⟨g, o, none⟩) h n) w := by
  subst hh
  obtain ⟨e1, e2⟩ := arr_desc hu
  rw [run_sliceAt_array_h w t _ (by rw [e1, e2]; exact hu) _ _ (by omega) (by rw [e1]; omega), e2, size_run hs w, e1]
  simp [slicedAt, addr_add0]
theorem sliceAt_l {P : Program} (w : World) (t e : TypeId) (n g o : Nat) (lo : Int) (l : Nat) (hl : lo = l) (hu : P.underlying t = some (.array n e)) (hs : (P.info? e).map (·.size) = some 1) (h3 : l < n) :
    (Instr.sliceAt t (.pointer (some ⟨g, o, none⟩)) (some (.int .i64 lo)) none none).run P w = .ok (.slice (some ⟨g, o + l, none⟩) (n - l) (n - l)) w := by
  subst hl
  obtain ⟨e1, e2⟩ := arr_desc hu
  rw [run_sliceAt_array_l w t _ (by rw [e1, e2]; exact hu) _ _ (by omega) (by rw [e1]; omega), e2, size_run hs w, e1]
  simp [slicedAt, addr_add0]
  omega
theorem sliceAt_all {P : Program} (w : World) (t e : TypeId) (n g o : Nat) (hu : P.underlying t = some (.array n e)) (hs : (P.info? e).map (·.size) = some 1) :
    (Instr.sliceAt t (.pointer (some ⟨g, o, none⟩)) none none none).run P w = .ok (.slice (some ⟨g, o, none⟩) n n) w := by
  obtain ⟨e1, e2⟩ := arr_desc hu
  rw [run_sliceAt_array_all w t _ (by rw [e1, e2]; exact hu), e2, size_run hs w, e1]
  simp [slicedAt, addr_add0]
/-- 'copy' into a row of a block known whole; the world behind it a letter. -/
theorem wpList_copyL {P : Program} {w : World} {ops : Array Oper} {rest : List Oper} {o : Oper} {a : Act} {Q : Exit → Act → World → Prop} (hgd : o.guard = none) (d s : Operand) (dT sT : TypeId)
    (ho : o.op = .call { callee := .builtin .copy, args := #[d, s], argTypes := #[dT, sT] }) (elem : TypeId) (hu : P.underlying dT = some (.slice elem)) (hsz : (P.info? elem).map (·.size) = some 1)
    (g off dLen dCap : Nat) (ad : Addr) (sLen sCap : Nat) (hd : a.eval d = .slice (some ⟨g, off, none⟩) dLen dCap) (hs : a.eval s = .slice (some ad) sLen sCap)
    (cur : Array Value) (t : TypeId) (hg : w.heap[g]? = some (.cells cur t (0, 0))) (cs : List Value) (hn : cs.length = Nat.min sLen dLen)
    (hsrc : ∀ j v, cs[j]? = some v → w.cell? (ad.add j) = some v) (hfit : off + cs.length ≤ cur.size) (h1 : ∀ v ∈ cs, v.oneCell' = true)
    (h : ∀ w', w.grownBy w' (some g) → w'.heap.size = w.heap.size → w'.heap[g]? = some (.cells (cur.toList.take off ++ (cs ++ cur.toList.drop (off + cs.length))).toArray t (0, 0)) → wpList P ops Q rest (a.put o.dst (.int .i64 (cs.length : Int))) w') : wpList P ops Q (o :: rest) a w :=
  wpList_copy_own hgd d s dT sT ho elem hu hsz g off dLen dCap ad sLen sCap hd hs cur t hg cs hn hsrc hfit h1
    (h _ ⟨rfl, rfl, rfl, by simp [World.setRow], fun k _ hk => setRow_other w g k _ (fun e => hk (by rw [e]))⟩ (by simp) (setRow_heap w g cur _ t _ hg))
/-- The same as a step of a region that draws its order. -/
theorem step_copyL {P : Program} {ops : Array Oper} {o : Oper} {a : Act} {w : World} {K : Act → World → Prop} {Q : Exit → Act → World → Prop} {E : Prop} (hgd : o.guard = none) (d s : Operand) (dT sT : TypeId)
    (ho : o.op = .call { callee := .builtin .copy, args := #[d, s], argTypes := #[dT, sT] }) (elem : TypeId) (hu : P.underlying dT = some (.slice elem)) (hsz : (P.info? elem).map (·.size) = some 1)
    (g off dLen dCap : Nat) (ad : Addr) (sLen sCap : Nat) (hd : a.eval d = .slice (some ⟨g, off, none⟩) dLen dCap) (hs : a.eval s = .slice (some ad) sLen sCap)
    (cur : Array Value) (t : TypeId) (hg : w.heap[g]? = some (.cells cur t (0, 0))) (cs : List Value) (hn : cs.length = Nat.min sLen dLen)
    (hsrc : ∀ j v, cs[j]? = some v → w.cell? (ad.add j) = some v) (hfit : off + cs.length ≤ cur.size) (h1 : ∀ v ∈ cs, v.oneCell' = true)
    (h : ∀ w', w.grownBy w' (some g) → w'.heap.size = w.heap.size → w'.heap[g]? = some (.cells (cur.toList.take off ++ (cs ++ cur.toList.drop (off + cs.length))).toArray t (0, 0)) → K (a.put o.dst (.int .i64 (cs.length : Int))) w') :
    if Region.wanted o (yielded ops a.tmps) = true then Oper.wp P o a w K Q else E := by
  have hw : Region.wanted o (yielded ops a.tmps) = true := by simp [Region.wanted, hgd]
  rw [if_pos hw]
  have hrun := run_copy_row (P := P) w dT sT o.type elem g off dLen dCap ad sLen sCap cur t cs hu hsz hg hn hsrc hfit h1
  unfold Oper.wp
  simp [execOp, ho, resolve, invoke, builtin, hd, hs, hrun, Result.andThen]
  exact h _ ⟨rfl, rfl, rfl, by simp [World.setRow], fun k _ hk => setRow_other w g k _ (fun e => hk (by rw [e]))⟩ (by simp) (setRow_heap w g cur _ t _ hg)
/-- 'b[lo:]' of a slice of bytes. -/
theorem slice_l {P : Program} (w : World) (t e : TypeId) (b o len cap : Nat) (lo : Int) (l : Nat) (hl : lo = l) (hu : P.underlying t = some (.slice e)) (hs : (P.info? e).map (·.size) = some 1) (h1 : l ≤ len) :
    (Instr.slice t (.slice (some ⟨b, o, none⟩) len cap) (some (.int .i64 lo)) none none).run P w = .ok (.slice (some ⟨b, if cap = l then o else o + l, none⟩) (len - l) (cap - l)) w := by
  subst hl
  have e2 : P.elem t = e := by simp [Program.elem, hu]
  rw [run_slice_l w t _ _ _ (by rw [e2]; exact hu) _ _ (by omega) (by omega), e2, size_run hs w]
  simp [sliced, addr_add0]
  by_cases h : cap = l
  · simp [h]
  · simp [h]
theorem oneCell_U (x : BitVec 32) : (U x).oneCell' = true := rfl
theorem oneCell_B (x : BitVec 8) : (B x).oneCell' = true := rfl
end Go.Proofs.YtpojalbpekbfdaaGreatDoor.Sh
/- The schedule of SHA-256: what 'schedule256' answers. -/
namespace Go.Proofs.YtpojalbpekbfdaaGreatDoor.Sh
open Go Go.RowKit
attribute [local go_sem] u_xor u_and u_or u_add
attribute [local go_sem ↓] Go.wp_at_zero Go.wp_at_succ

/-- The schedule's words follow from the block's bytes. -/
structure Sched (m : Nat → BitVec 8) (W : Nat → BitVec 32) : Prop where
  first : ∀ t, t < 16 → W t = word (m (4 * t)) (m (4 * t + 1)) (m (4 * t + 2)) (m (4 * t + 3))
  later : ∀ t, 16 ≤ t → t < 64 → W t = lo1 (W (t - 2)) + W (t - 7) + lo0 (W (t - 15)) + W (t - 16)
/-- The words up to k, noughts behind. -/
def upto (W : Nat → BitVec 32) (k i : Nat) : BitVec 32 := if i < k then W i else 0

/-- Row of 64 words in memory. -/
def rowW (W : Nat → BitVec 32) (k : Nat) : Array Value := ((List.range 64).map fun i => U (upto W k i)).toArray
theorem rowW_get (W : Nat → BitVec 32) (k i : Nat) (h : i < 64) : (rowW W k)[i]? = some (U (upto W k i)) := by
  simp [rowW, h]
theorem rowW_size (W : Nat → BitVec 32) (k : Nat) : (rowW W k).size = 64 := by simp [rowW]
theorem rowW_set (W : Nat → BitVec 32) (k : Nat) : (rowW W k).setIfInBounds k (U (W k)) = rowW W (k + 1) := by
  apply Array.ext_getElem?
  intro i
  by_cases hi : i < 64
  · rw [rowW_get W (k + 1) i hi, Array.getElem?_setIfInBounds]
    by_cases e : k = i
    · subst e; simp [rowW_size, hi, upto]
    · rw [if_neg e, rowW_get W k i hi]
      have : upto W k i = upto W (k + 1) i := by
        unfold upto
        by_cases h1 : i < k
        · rw [if_pos h1, if_pos (by omega)]
        · rw [if_neg h1, if_neg (by omega)]
      rw [this]
  · rw [Array.getElem?_eq_none (by simp [rowW_size]; omega), Array.getElem?_eq_none (by simp [rowW_size]; omega)]
theorem rowW_one (W : Nat → BitVec 32) (k : Nat) : (rowW W k).all (·.oneCell') = true :=
  all_oneCell_toArray (fun v hv => by
    obtain ⟨i, _, rfl⟩ := List.mem_map.1 hv
    rfl)
/-- What the loops hold: the row is filled up to k, the result's place is empty, nothing old has turned. -/
structure SRel (w wr : World) (W : Nat → BitVec 32) (k : Nat) : Prop where
  below : Below w.heap.size w wr
  size : wr.heap.size = w.heap.size + 2
  row : wr.heap[w.heap.size + 1]? = some (.cells (rowW W k) 78 (0, 0))
  res : wr.heap[w.heap.size]? = some (.cells (rowW W 0) 78 (0, 0))
theorem SRel.start (w : World) (W : Nat → BitVec 32) : SRel w ((w.alloc (.cells (rowW W 0) 78)).alloc (.cells (rowW W 0) 78)) W 0 :=
  ⟨((Below.refl _ _).alloc (Nat.le_refl _) _).alloc (by simp) _, by simp, heap_alloc2_new _ _ _, heap_alloc2_old _ _ _⟩
theorem SRel.cell {w wr : World} {W : Nat → BitVec 32} {k : Nat} (h : SRel w wr W k) (i : Nat) (hi : i < 64) : wr.cell? ⟨w.heap.size + 1, i, none⟩ = some (U (upto W k i)) := by
  rw [cell_of_row wr _ i _ _ _ h.row]; exact rowW_get W k i hi
theorem SRel.frozen {w wr : World} {W : Nat → BitVec 32} {k : Nat} (h : SRel w wr W k) (i : Nat) : wr.frozen? ⟨w.heap.size + 1, i, none⟩ = false := frozen_of_row _ _ _ _ _ h.row
theorem SRel.drewN {w wr : World} {W : Nat → BitVec 32} {k : Nat} (h : SRel w wr W k) (n : Nat) : SRel w (wr.drewN n) W k := by
  induction n with
  | zero => exact h
  | succ n ih => exact ⟨ih.below.drew, ih.size, ih.row, ih.res⟩
theorem SRel.set {w wr : World} {W : Nat → BitVec 32} {k : Nat} (h : SRel w wr W k) : SRel w (wr.setCell ⟨w.heap.size + 1, k, none⟩ (U (W k))) W (k + 1) :=
  ⟨h.below.setCell (by simp) _, by simp [World.setCell]; exact h.size, by rw [heap_setCell_same _ _ _ _ _ _ h.row, rowW_set], by rw [heap_setCell_other _ _ _ _ (by simp)]; exact h.res⟩
theorem rowW_zero (W : Nat → BitVec 32) : rowW W 0 = (List.replicate 64 (Value.int .u32 0)).toArray := by
  apply Array.ext_getElem?
  intro i
  by_cases hi : i < 64
  · rw [rowW_get W 0 i hi, List.getElem?_toArray, List.getElem?_replicate, if_pos hi, upto, if_neg (Nat.not_lt_zero i)]; rfl
  · rw [Array.getElem?_eq_none (by rw [rowW_size]; omega), Array.getElem?_eq_none (by rw [List.size_toArray, List.length_replicate]; omega)]

theorem keep_ne (wr : World) (g k i : Nat) (v : Value) (h : i ≠ k) : ((wr.setCell ⟨g, k, none⟩ v).drew).cell? ⟨g, i, none⟩ = wr.cell? ⟨g, i, none⟩ :=
  World.cell?_setCell_other _ _ _ _ (fun e => h (by cases e; rfl))
set_option maxHeartbeats 400000 in
theorem sched_walk (m : Nat → BitVec 8) (W : Nat → BitVec 32) (hW : Sched m W) (b off n cap : Nat) (hn : 64 ≤ n) (hcap : n ≤ cap) (w : World) (hm : ∀ i, i < 64 → w.cell? ⟨b, off + i, none⟩ = some (B (m i))) :
    Calls Tryz.prog 92 #[.slice (some ⟨b, off, none⟩) n cap] w fun e w' => e = .returned (.agg (rowW W 64)) ∧ Below w.heap.size w w' := by
  have HM : Hid (∀ i, i < 64 → w.cell? ⟨b, off + i, none⟩ = some (B (m i))) := hm
  have hb : b < w.heap.size := block_lt_of_cell (hm 0 (by omega))
  clear hm
  have hst := SRel.start w W
  rw [rowW_zero] at hst
  have HST : Hid (SRel w ((w.alloc (.cells (List.replicate 64 (Value.int .u32 0)).toArray 78)).alloc (.cells (List.replicate 64 (Value.int .u32 0)).toArray 78)) W 0) := hst
  clear hst
  go_enter Tryz.func92, Tryz.ntmps92
  go_wp2
  go_loopw [4, 6] (fun _ i wr => ∃ k : Nat, k ≤ 16 ∧ i = .int .i64 k ∧ SRel w wr W k) (fun _ i _ => 16 - (intOf i).toNat)
  case atStart => exact ⟨0, by omega, rfl, HST.out⟩
  case round =>
    obtain ⟨k, hk, rfl, hr⟩ := hrel
    by_cases hlt : k < 16
    · have s1 := (hr.below.cell (p := ⟨b, off + 4 * k, none⟩) hb).trans (HM.out (4 * k) (by omega))
      have s2 := (hr.below.cell (p := ⟨b, off + 4 * k + 1, none⟩) hb).trans (HM.out (4 * k + 1) (by omega))
      have s3 := (hr.below.cell (p := ⟨b, off + 4 * k + 2, none⟩) hb).trans (HM.out (4 * k + 2) (by omega))
      have s4 := (hr.below.cell (p := ⟨b, off + 4 * k + 3, none⟩) hb).trans (HM.out (4 * k + 3) (by omega))
      have c1 := hr.cell k (by omega)
      have f1 := hr.frozen k
      have HR : Hid (SRel w _ W k) := hr
      clear hr
      go_wp2_with fail
      refine (word32_any b (off + 4 * k) _ _ _ _ _ _ s1 s2 s3 s4).mono ?_
      rintro e w' ⟨rfl, nq, rfl⟩
      rw [← hW.first k hlt]
      go_wp2
      go_roundw
      case rel => exact ⟨k + 1, by omega, by go_num, (HR.out.drewN nq).set⟩
      case measure => simp [intOf]; omega
    · obtain rfl : k = 16 := by omega
      have HR : Hid (SRel w wr W 16) := hr
      clear hr
      go_wp2
      go_loopw [5] (fun i wr => ∃ k : Nat, 16 ≤ k ∧ k ≤ 64 ∧ i = .int .i64 k ∧ SRel w wr W k) (fun i _ => 64 - (intOf i).toNat)
      case atStart => exact ⟨16, by omega, by omega, rfl, HR.out⟩
      case round =>
        obtain ⟨k, hk1, hk, rfl, hr⟩ := hrel
        by_cases hlt : k < 64
        · have e1 : (2 : Int) ≤ (k : Int) := by omega
          have e2 : (7 : Int) ≤ (k : Int) := by omega
          have e3 : (15 : Int) ≤ (k : Int) := by omega
          have e4 : (16 : Int) ≤ (k : Int) := by omega
          have l0 : (k : Int) < 64 := by omega
          have l1 : (k : Int) - 2 < 64 := by omega
          have l2 : (k : Int) - 7 < 64 := by omega
          have l3 : (k : Int) - 15 < 64 := by omega
          have l4 : (k : Int) - 16 < 64 := by omega
          have w1 : IntKind.i64.wrap ((k : Int) - 2) = (k : Int) - 2 := by simp [IntKind.wrap, IntKind.bits, IntKind.signed]; omega
          have w2 : IntKind.i64.wrap ((k : Int) - 7) = (k : Int) - 7 := by simp [IntKind.wrap, IntKind.bits, IntKind.signed]; omega
          have w3 : IntKind.i64.wrap ((k : Int) - 15) = (k : Int) - 15 := by simp [IntKind.wrap, IntKind.bits, IntKind.signed]; omega
          have w4 : IntKind.i64.wrap ((k : Int) - 16) = (k : Int) - 16 := by simp [IntKind.wrap, IntKind.bits, IntKind.signed]; omega
          have n1 : k - 2 ≠ k := by omega
          have n2 : k - 7 ≠ k := by omega
          have n3 : k - 15 ≠ k := by omega
          have n4 : k - 16 ≠ k := by omega
          have t1 : ((k : Int) - 2).toNat = k - 2 := by omega
          have t2 : ((k : Int) - 7).toNat = k - 7 := by omega
          have t3 : ((k : Int) - 15).toNat = k - 15 := by omega
          have t4 : ((k : Int) - 16).toNat = k - 16 := by omega
          have c1 := hr.cell k (by omega)
          have f1 := hr.frozen k
          have d1 := hr.cell (k - 2) (by omega)
          have d2 := hr.cell (k - 7) (by omega)
          have d3 := hr.cell (k - 15) (by omega)
          have d4 := hr.cell (k - 16) (by omega)
          rw [upto, if_pos (by omega)] at d1 d2 d3 d4
          have HR : Hid (SRel w _ W k) := hr
          clear hr
          go_wp2_with fail
          go_region_held3 (fun w' => w'.cell? ⟨w.heap.size + 1, k - 2, none⟩ = some (U (W (k - 2))) ∧ w'.cell? ⟨w.heap.size + 1, k - 7, none⟩ = some (U (W (k - 7))) ∧ w'.cell? ⟨w.heap.size + 1, k - 15, none⟩ = some (U (W (k - 15))) ∧ w'.cell? ⟨w.heap.size + 1, k - 16, none⟩ = some (U (W (k - 16)))) (first | exact ⟨d1, d2, d3, d4⟩ | exact ⟨(keep_ne _ _ _ _ _ n1).trans d1, (keep_ne _ _ _ _ _ n2).trans d2, (keep_ne _ _ _ _ _ n3).trans d3, (keep_ne _ _ _ _ _ n4).trans d4⟩)
            (first | (go_at_call 98; refine (lo1_any _ _).mono ?_; rintro e w' ⟨rfl, rfl⟩) | (go_at_call 99; refine (lo0_any _ _).mono ?_; rintro e w' ⟨rfl, rfl⟩))
          have hl : lo1 (W (k - 2)) + W (k - 7) + lo0 (W (k - 15)) + W (k - 16) = W k := (hW.later k hk1 hlt).symm
          rw [hl]
          clear hl
          go_wp2
          go_roundw
          case rel =>
            (repeat apply Exists.intro)
            exact ⟨⟨k + 1, by omega, by omega, by go_num, (HR.out.set).drewN 1⟩, rfl⟩
          case measure => simp [intOf]; omega
        · obtain rfl : k = 64 := by omega
          have HR : Hid (SRel w _ W 64) := hr
          have hrow := hr.row
          clear hr
          have hres := HR.out.res
          have ht : wr.there w.heap.size 0 (rowW W 64).size := by rw [rowW_size]; exact there_of_row hres 0 64 (by rw [rowW_size]; omega)
          have HT : Hid (wr.there w.heap.size 0 (rowW W 64).size) := ht
          clear ht hres
          go_wp2_with (first | (refine wpList_load_row rfl 78 _ rfl _ rfl _ _ _ _ hrow Tryz.underlying78 rfl (by rw [rowW_size]; kernel_rfl) ?_) | (refine wpList_store_mid rfl 78 _ _ rfl w.heap.size 0 (rowW W 64) rfl rfl HT.out (by rw [rowW_size]; kernel_rfl) (by exact rowW_one W 64) ?_))
          refine bodyPost_ret (v := .agg (rowW W 64)) ?_ rfl ⟨rfl, ?_⟩
          · exact results_mid Tryz.results92 _ _ w.heap.size 0 (rowW W 64).toList _ rfl (World.rangeAt_setCells_same _ _ _ _ HT.out) Tryz.underlying78 rfl (by rw [Array.length_toList, rowW_size]; kernel_rfl)
          · exact below_setCells _ (Nat.le_refl _) _ _ _ HR.out.below
end Go.Proofs.YtpojalbpekbfdaaGreatDoor.Sh
/- One block of SHA-256: what 'mix256' answers. -/
namespace Go.Proofs.YtpojalbpekbfdaaGreatDoor.Sh
open Go Go.RowKit

structure St where
  a : BitVec 32
  b : BitVec 32
  c : BitVec 32
  d : BitVec 32
  e : BitVec 32
  f : BitVec 32
  g : BitVec 32
  h : BitVec 32
def tt1 (s : St) (k w : BitVec 32) : BitVec 32 := s.h + up1 s.e + ((s.e &&& s.f) ^^^ (~~~ s.e &&& s.g)) + k + w
def tt2 (s : St) : BitVec 32 := up0 s.a + ((s.a &&& s.b) ^^^ (s.a &&& s.c) ^^^ (s.b &&& s.c))
def step (s : St) (k w : BitVec 32) : St := ⟨tt1 s k w + tt2 s, s.a, s.b, s.c, s.d + tt1 s k w, s.e, s.f, s.g⟩
def rounds (K W : Nat → BitVec 32) (s : St) : Nat → St
  | 0 => s
  | n + 1 => step (rounds K W s n) (K n) (W n)
def plus (s t : St) : St := ⟨s.a + t.a, s.b + t.b, s.c + t.c, s.d + t.d, s.e + t.e, s.f + t.f, s.g + t.g, s.h + t.h⟩
def St.row (s : St) : Array Value := #[U s.a, U s.b, U s.c, U s.d, U s.e, U s.f, U s.g, U s.h]
theorem St.one (s : St) : s.row.all (·.oneCell') = true :=
  all_oneCell_toArray (fun v hv => by
    simp only [List.mem_cons, List.not_mem_nil, or_false] at hv
    rcases hv with h | h | h | h | h | h | h | h <;> (subst h; rfl))
theorem u_not (x : BitVec 32) : bits .xor .u32 (4294967295 : Int) (u x) = u (~~~ x) := by
  show IntKind.u32.wrap ((BitVec.ofInt 32 (4294967295 : Int) ^^^ BitVec.ofInt 32 (u x)).toNat : Int) = _
  rw [u_ofInt, show BitVec.ofInt 32 (4294967295 : Int) = BitVec.allOnes 32 by decide, BitVec.allOnes_xor]; exact u_wrap _

theorem u_not' (x : BitVec 32) : bits .xor .u32 (if IntKind.u32.signed = true then -1 else IntKind.u32.max) (u x) = u (~~~ x) := u_not x

/-- What the loop holds: the state's box, the result's place, the schedule's row at p; nothing old has turned. -/
structure MRel (w wr : World) (s : St) (W : Nat → BitVec 32) (p : Nat) : Prop where
  below : Below w.heap.size w wr
  pos : w.heap.size + 2 ≤ p
  box : wr.heap[w.heap.size]? = some (.cells s.row 77 (0, 0))
  res : wr.heap[w.heap.size + 1]? = some (.cells (List.replicate 8 (Value.int .u32 0)).toArray 77 (0, 0))
  row : wr.rangeAt p 0 (rowW W 64).toList
theorem MRel.drewN {w wr : World} {s : St} {W : Nat → BitVec 32} {p : Nat} (h : MRel w wr s W p) (n : Nat) : MRel w (wr.drewN n) s W p :=
  ⟨below_drewN h.below n, h.pos, h.box, h.res, h.row⟩
theorem MRel.start (w : World) (s : St) (W : Nat → BitVec 32) (w1 : World) (Z : Array Value) (hZ : Z.size = 64)
    (hb : Below (w.heap.size + 2) ((w.alloc (.cells s.row 77)).alloc (.cells (List.replicate 8 (Value.int .u32 0)).toArray 77)) w1) :
    MRel w ((w1.alloc (.cells Z 78)).setCells w1.heap.size 0 (rowW W 64).toList) s W w1.heap.size := by
  have hz := hb.size
  simp at hz
  have b0 : Below w.heap.size w w1 := (((Below.refl _ _).alloc (Nat.le_refl _) _).alloc (by simp) _).trans (hb.mono (by omega))
  have b1 : Below w1.heap.size w1 ((w1.alloc (.cells Z 78)).setCells w1.heap.size 0 (rowW W 64).toList) :=
    below_setCells _ (Nat.le_refl _) _ _ _ ((Below.refl _ _).alloc (Nat.le_refl _) _)
  refine ⟨b0.trans (b1.mono (by omega)), hz, ?_, ?_, ?_⟩
  · rw [b1.block _ (by omega), hb.block _ (by omega)]; exact heap_alloc2_old _ _ _
  · rw [b1.block _ (by omega), hb.block _ (by omega)]; exact heap_alloc2_new _ _ _
  · exact World.rangeAt_setCells_same _ _ _ _ (there_of_row (heap_alloc_new _ _) 0 _ (by rw [Array.length_toList, rowW_size, hZ]; omega))
theorem MRel.cell {w wr : World} {s : St} {W : Nat → BitVec 32} {p : Nat} (h : MRel w wr s W p) (i : Nat) (hi : i < 64) : wr.cell? ⟨p, i, none⟩ = some (U (W i)) := by
  have := h.row i (U (W i)) (by rw [Array.getElem?_toList, rowW_get W 64 i hi, upto, if_pos hi])
  simpa using this
attribute [local go_sem] u_xor u_and u_or u_add u_not u_not'

set_option maxRecDepth 100000 in
set_option maxHeartbeats 1000000 in
theorem mix_walk (K : Nat → BitVec 32) (m : Nat → BitVec 8) (W : Nat → BitVec 32) (hW : Sched m W) (s : St) (b off n cap : Nat) (hn : 64 ≤ n) (hcap : n ≤ cap) (w : World) (hm : ∀ i, i < 64 → w.cell? ⟨b, off + i, none⟩ = some (B (m i)))
    (hK : ∀ i, i < 64 → w.cell? ⟨2, i, none⟩ = some (U (K i))) :
    Calls Tryz.prog 85 #[.agg s.row, .slice (some ⟨b, off, none⟩) n cap] w fun e w' => e = .returned (.agg (plus s (rounds K W s 64)).row) ∧ Below w.heap.size w w' := by
  have hb : b < w.heap.size := block_lt_of_cell (hm 0 (by omega))
  have hg : 2 < w.heap.size := block_lt_of_cell (hK 0 (by omega))
  have HM : Hid (∀ i, i < 64 → w.cell? ⟨b, off + i, none⟩ = some (B (m i))) := hm
  have HK : Hid (∀ i, i < 64 → w.cell? ⟨2, i, none⟩ = some (U (K i))) := hK
  clear hm hK
  obtain ⟨sa, sb, sc, sd, se, sf, sg, sh⟩ := s
  unfold St.row
  go_enter Tryz.func85, Tryz.ntmps85
  go_wp2_with fail
  refine (sched_walk m W hW b off n cap hn hcap _ ?_).mono ?_
  · intro i hi
    exact ((((Below.refl w.heap.size w).alloc (Nat.le_refl _) _).alloc (by simp) _).cell (p := ⟨b, off + i, none⟩) hb).trans (HM.out i hi)
  rintro e w1 ⟨rfl, hb1⟩
  have hst := fun Z hZ => MRel.start w ⟨sa, sb, sc, sd, se, sf, sg, sh⟩ W w1 Z hZ (hb1.mono (by simp))
  have HS : Hid (∀ Z : Array Value, Z.size = 64 → MRel w ((w1.alloc (.cells Z 78)).setCells w1.heap.size 0 (rowW W 64).toList) ⟨sa, sb, sc, sd, se, sf, sg, sh⟩ W w1.heap.size) := hst
  clear hst hb1
  go_wp2_with (refine wpList_store_midL rfl 78 _ _ rfl w1.heap.size 0 (rowW W 64) rfl rfl (by rw [rowW_size]; exact there_of_row (heap_alloc_new _ _) 0 64 (by simp)) (by rw [rowW_size]; kernel_rfl) (by exact rowW_one W 64) ?_; intro w3 hw3; have hM : MRel w w3 ⟨sa, sb, sc, sd, se, sf, sg, sh⟩ W w1.heap.size := (by rw [hw3]; exact HS.out _ rfl); clear hw3)
  generalize w1.heap.size = p at hM ⊢
  clear HS
  have c0 : w3.cell? ⟨w.heap.size, 0, none⟩ = some (U sa) := cell_of_row _ _ 0 _ _ _ hM.box
  have c1 : w3.cell? ⟨w.heap.size, 1, none⟩ = some (U sb) := cell_of_row _ _ 1 _ _ _ hM.box
  have c2 : w3.cell? ⟨w.heap.size, 2, none⟩ = some (U sc) := cell_of_row _ _ 2 _ _ _ hM.box
  have c3 : w3.cell? ⟨w.heap.size, 3, none⟩ = some (U sd) := cell_of_row _ _ 3 _ _ _ hM.box
  have c4 : w3.cell? ⟨w.heap.size, 4, none⟩ = some (U se) := cell_of_row _ _ 4 _ _ _ hM.box
  have c5 : w3.cell? ⟨w.heap.size, 5, none⟩ = some (U sf) := cell_of_row _ _ 5 _ _ _ hM.box
  have c6 : w3.cell? ⟨w.heap.size, 6, none⟩ = some (U sg) := cell_of_row _ _ 6 _ _ _ hM.box
  have c7 : w3.cell? ⟨w.heap.size, 7, none⟩ = some (U sh) := cell_of_row _ _ 7 _ _ _ hM.box
  have HMR : Hid (MRel w w3 ⟨sa, sb, sc, sd, se, sf, sg, sh⟩ W p) := hM
  clear hM
  go_quiet (fail)
  go_wp2
  go_quiet (fail)
  go_wp2
  clear c0 c1 c2 c3 c4 c5 c6 c7
  go_loopw [6, 7, 8, 9, 10, 11, 12, 13, 35] (fun xa xb xc xd xe xf xg xh i wr => ∃ (k : Nat) (r : St), k ≤ 64 ∧ i = .int .i64 k ∧ r = rounds K W ⟨sa, sb, sc, sd, se, sf, sg, sh⟩ k ∧ xa = U r.a ∧ xb = U r.b ∧ xc = U r.c ∧ xd = U r.d ∧ xe = U r.e ∧ xf = U r.f ∧ xg = U r.g ∧ xh = U r.h ∧ MRel w wr ⟨sa, sb, sc, sd, se, sf, sg, sh⟩ W p) (fun _ _ _ _ _ _ _ _ i _ => 64 - (intOf i).toNat)
  case atStart => exact ⟨0, _, by omega, rfl, rfl, rfl, rfl, rfl, rfl, rfl, rfl, rfl, rfl, (HMR.out.drewN _).drewN _⟩
  case round =>
    obtain ⟨k, r, hk, rfl, hr, rfl, rfl, rfl, rfl, rfl, rfl, rfl, rfl, hM⟩ := hrel
    obtain ⟨ra, rb, rc, rd, re, rf, rg, rh⟩ := r
    have HR : Hid (⟨ra, rb, rc, rd, re, rf, rg, rh⟩ = rounds K W ⟨sa, sb, sc, sd, se, sf, sg, sh⟩ k) := hr
    clear hr
    dsimp only
    by_cases hlt : k < 64
    · have hk1 : (k : Int) < 64 := by omega
      have c1 := (hM.below.cell (p := ⟨2, k, none⟩) hg).trans (HK.out k hlt)
      have c2 := hM.cell k hlt
      have HMM : Hid (MRel w _ ⟨sa, sb, sc, sd, se, sf, sg, sh⟩ W p) := hM
      clear hM
      go_wp2_with fail
      go_quiet ((go_at_call 93; exact Calls.quiet_of_same (up1_any _ _)))
      go_wp2_with (go_at_call 94; refine (up0_any _ _).mono ?_; rintro e w' ⟨rfl, rfl⟩)
      go_roundw
      case rel =>
        exact ⟨k + 1, step ⟨ra, rb, rc, rd, re, rf, rg, rh⟩ (K k) (W k), by omega, by go_num, by rw [HR.out]; rfl, rfl, rfl, rfl, rfl, rfl, rfl, rfl, rfl, HMM.out.drewN _⟩
      case measure => simp [intOf]; omega
    · obtain rfl : k = 64 := by omega
      have c0 : wr.cell? ⟨w.heap.size, 0, none⟩ = some (U sa) := cell_of_row _ _ 0 _ _ _ hM.box
      have c1 : wr.cell? ⟨w.heap.size, 1, none⟩ = some (U sb) := cell_of_row _ _ 1 _ _ _ hM.box
      have c2 : wr.cell? ⟨w.heap.size, 2, none⟩ = some (U sc) := cell_of_row _ _ 2 _ _ _ hM.box
      have c3 : wr.cell? ⟨w.heap.size, 3, none⟩ = some (U sd) := cell_of_row _ _ 3 _ _ _ hM.box
      have c4 : wr.cell? ⟨w.heap.size, 4, none⟩ = some (U se) := cell_of_row _ _ 4 _ _ _ hM.box
      have c5 : wr.cell? ⟨w.heap.size, 5, none⟩ = some (U sf) := cell_of_row _ _ 5 _ _ _ hM.box
      have c6 : wr.cell? ⟨w.heap.size, 6, none⟩ = some (U sg) := cell_of_row _ _ 6 _ _ _ hM.box
      have c7 : wr.cell? ⟨w.heap.size, 7, none⟩ = some (U sh) := cell_of_row _ _ 7 _ _ _ hM.box
      have HT : Hid (wr.there (w.heap.size + 1) 0 8) := there_of_row hM.res 0 8 (by simp)
      have HMM : Hid (MRel w _ ⟨sa, sb, sc, sd, se, sf, sg, sh⟩ W p) := hM
      clear hM
      go_wp2_with (refine wpList_store_mid rfl 77 _ _ rfl (w.heap.size + 1) 0 (plus ⟨sa, sb, sc, sd, se, sf, sg, sh⟩ ⟨ra, rb, rc, rd, re, rf, rg, rh⟩).row rfl rfl HT.out (by kernel_rfl) (St.one _) ?_)
      rw [← HR.out]
      refine bodyPost_ret (v := .agg (plus ⟨sa, sb, sc, sd, se, sf, sg, sh⟩ ⟨ra, rb, rc, rd, re, rf, rg, rh⟩).row) ?_ rfl ⟨rfl, ?_⟩
      · exact results_mid Tryz.results85 _ _ (w.heap.size + 1) 0 (plus ⟨sa, sb, sc, sd, se, sf, sg, sh⟩ ⟨ra, rb, rc, rd, re, rf, rg, rh⟩).row.toList _ rfl (World.rangeAt_setCells_same _ _ _ _ HT.out) Tryz.underlying77 rfl (by kernel_rfl)
      · exact below_setCells _ (by omega) _ _ _ HMM.out.below
end Go.Proofs.YtpojalbpekbfdaaGreatDoor.Sh
