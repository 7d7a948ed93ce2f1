/- Small laws of memory that the walks want: rows in the midst of a block, results that lie in memory, frames. No dump is read here. -/
import Derived.Test.YtpojalbpekbfdabDoorTreB
import Derived.Deep.MidRow
import Derived.Laws.CopyOwn
import Derived.Lib.BufferOwn
namespace Go.Proofs.YtpojalbpekbfdabDoor.Sh
open Go Go.RowKit

theorem below_setCells {B0 : Nat} {a : World} (b : Nat) (hB : B0 ≤ b) : ∀ (vs : List Value) (o : Nat) (w : World), Below B0 a w → Below B0 a (w.setCells b o vs)
  | [], _, _, h => h
  | v :: r, o, w, h => by
    rw [World.setCells]
    exact below_setCells b hB r (o + 1) _ (h.setCell hB v)
theorem setCells_append (b : Nat) : ∀ (xs : List Value) (o : Nat) (w : World) (ys : List Value), (w.setCells b o xs).setCells b (o + xs.length) ys = w.setCells b o (xs ++ ys)
  | [], _, _, _ => rfl
  | x :: r, o, w, ys => by
    rw [World.setCells, List.cons_append, World.setCells, ← setCells_append b r (o + 1) _ ys, List.length_cons]
    congr 1; omega
theorem below_drewN {B0 : Nat} {a w : World} (h : Below B0 a w) (n : Nat) : Below B0 a (w.drewN n) := by
  induction n with
  | zero => exact h
  | succ n ih => exact ih.drew

/-- A result that lies in memory as a row of cells. -/
theorem results_mid {P : Program} {fn : Func} {p : Tmp} {ty : TypeId} (h : fn.results = #[.cell p ty]) (tmps : Array Value) (w : World) (b o : Nat) (cs : List Value) (d : TypeDesc)
    (hp : tmps.getD p undef = .pointer (some ⟨b, o, none⟩)) (hc : w.rangeAt b o cs) (hu : P.underlying ty = some d) (hd : d.isRow = true) (hi : (P.info? ty).map (·.size) = some cs.length) :
    (results fn tmps).run P w = .ok (.agg cs.toArray) w := by
  have hp' : tmps[p]?.getD undef = .pointer (some ⟨b, o, none⟩) := by simpa using hp
  simp [results, h, hp', asAddr, run_loadVar_mid w b o ty cs d hc hu hd hi]

/-- Cells of a block known whole are there, and may be written. -/
theorem there_of_row {w : World} {g : Nat} {cs : Array Value} {t : TypeId} (hg : w.heap[g]? = some (.cells cs t (0, 0))) (o n : Nat) (hn : o + n ≤ cs.size) : w.there g o n := fun j hj =>
  ⟨by rw [cell_of_row w g (o + j) cs t _ hg, Array.getElem?_eq_getElem (by omega)]; rfl, frozen_of_row _ _ _ _ _ hg⟩
/-- A row stored in the midst of a block; the world behind it a letter. -/
theorem wpList_store_midL {P : Program} {ops : Array Oper} {rest : List Oper} {op : Oper} {a : Act} {w : World} {Q : Exit → Act → World → Prop} (hgd : op.guard = none) (ty : TypeId) (x y : Operand) (ho : op.op = .store ty x y)
    (b o : Nat) (cells : Array Value) (hx : a.eval x = .pointer (some ⟨b, o, none⟩)) (hy : a.eval y = .agg cells)
    (ht : w.there b o cells.size) (hi : (P.info? ty).map (·.size) = some cells.size) (h1 : cells.all (·.oneCell') = true)
    (h : ∀ w', w' = w.setCells b o cells.toList → wpList P ops Q rest (a.put op.dst undef) w') : wpList P ops Q (op :: rest) a w :=
  wpList_store_mid hgd ty x y ho b o cells hx hy ht hi h1 (h _ rfl)
/-- A cell of the block behind a row stored there. -/
theorem cell_setCells (w : World) (g o i : Nat) (vs : List Value) (ht : w.there g o vs.length) :
    (w.setCells g o vs).cell? ⟨g, i, none⟩ = if o ≤ i ∧ i < o + vs.length then vs[i - o]? else w.cell? ⟨g, i, none⟩ := by
  split
  · rename_i h
    have hj : i - o < vs.length := by omega
    have := World.cell?_setCells_in g vs o w (fun j hj => (ht j hj).1) (i - o) hj
    rw [show o + (i - o) = i by omega] at this
    rw [this, List.getElem?_eq_getElem hj]
  · rename_i h
    exact World.cell?_setCells_out g vs o w ⟨g, i, none⟩ (fun _ _ => by simp only; omega)
/-- A cell of another block. -/
theorem cell_setCells_other (w : World) (g o : Nat) (vs : List Value) (a : Addr) (h : a.block ≠ g) : (w.setCells g o vs).cell? a = w.cell? a :=
  World.cell?_setCells_out g vs o w a (fun e => absurd e h)
theorem there_of_cells {w : World} {g o n : Nat} (f : Nat → Value) (hc : ∀ i, i < n → w.cell? ⟨g, o + i, none⟩ = some (f i)) (hf : ∀ i, w.frozen? ⟨g, i, none⟩ = false) : w.there g o n := fun j hj =>
  ⟨by rw [hc j hj]; rfl, hf _⟩
theorem range_of_cells {w : World} {g o n : Nat} (f : Nat → Value) (hc : ∀ i, i < n → w.cell? ⟨g, o + i, none⟩ = some (f i)) : w.rangeAt g o ((List.range n).map f) := fun j v hv => by
  obtain ⟨hj, hv'⟩ := List.getElem?_eq_some_iff.1 hv
  simp at hj hv'
  rw [hc j hj, hv']
theorem addr_add0 (g o j : Nat) : (⟨g, o, none⟩ : Addr).add j = ⟨g, o + j, none⟩ := Addr.add_mid g o j
theorem arr_desc {P : Program} {t e : TypeId} {n : Nat} (hu : P.underlying t = some (.array n e)) : P.arrayLen t = n ∧ P.elem t = e := by
  constructor
  · simp [Program.arrayLen, hu]
  · simp [Program.elem, hu]
theorem size_run {P : Program} {e : TypeId} {s : Nat} (hs : (P.info? e).map (·.size) = some s) (w : World) : (sizeOf e).run P w = .ok s w := by
  cases hq : P.info? e with
  | none => simp [hq] at hs
  | some i => simp [hq] at hs; simp [sizeOf, typeInfo, hq, hs]
theorem sliceAt_lh {P : Program} (w : World) (t e : TypeId) (n g o : Nat) (lo hi : Int) (l h : Nat) (hl : lo = l) (hh : hi = h) (hu : P.underlying t = some (.array n e)) (hs : (P.info? e).map (·.size) = some 1) (h1 : l ≤ h) (h2 : h ≤ n) (h3 : l < n) :
    (Instr.sliceAt t (.pointer (some ⟨g, o, none⟩)) (some (.int .i64 lo)) (some (.int .i64 hi)) none).run P w = .ok (.slice (some ⟨g, o + l, none⟩) (h - l) (n - l)) w := by
  subst hl; subst hh
  obtain ⟨e1, e2⟩ := arr_desc hu
  rw [run_sliceAt_array_lh w t _ (by rw [e1, e2]; exact hu) _ _ _ _ (by omega) (by omega) (by rw [e1]; omega), e2, size_run hs w, e1]
  simp [slicedAt, addr_add0]
  omega
theorem sliceAt_h {P : Program} (w : World) (t e : TypeId) (n g o : Nat) (hi : Int) (h : Nat) (hh : hi = h) (hu : P.underlying t = some (.array n e)) (hs : (P.info? e).map (·.size) = some 1) (h2 : h ≤ n) :
    (Instr.sliceAt t (.pointer (some ⟨g, o, none⟩)) none (some (.int .i64 hi)) none).run P w = .ok (.slice (some ⟨g, o, none⟩) h n) w := by
  subst hh
  obtain ⟨e1, e2⟩ := arr_desc hu
  rw [run_sliceAt_array_h w t _ (by rw [e1, e2]; exact hu) _ _ (by omega) (by rw [e1]; omega), e2, size_run hs w, e1]
  simp [slicedAt, addr_add0]
theorem sliceAt_l {P : Program} (w : World) (t e : TypeId) (n g o : Nat) (lo : Int) (l : Nat) (hl : lo = l) (hu : P.underlying t = some (.array n e)) (hs : (P.info? e).map (·.size) = some 1) (h3 : l < n) :
    (Instr.sliceAt t (.pointer (some ⟨g, o, none⟩)) (some (.int .i64 lo)) none none).run P w = .ok (.slice (some ⟨g, o + l, none⟩) (n - l) (n - l)) w := by
  subst hl
  obtain ⟨e1, e2⟩ := arr_desc hu
  rw [run_sliceAt_array_l w t _ (by rw [e1, e2]; exact hu) _ _ (by omega) (by rw [e1]; omega), e2, size_run hs w, e1]
  simp [slicedAt, addr_add0]
  omega
theorem sliceAt_all {P : Program} (w : World) (t e : TypeId) (n g o : Nat) (hu : P.underlying t = some (.array n e)) (hs : (P.info? e).map (·.size) = some 1) :
    (Instr.sliceAt t (.pointer (some ⟨g, o, none⟩)) none none none).run P w = .ok (.slice (some ⟨g, o, none⟩) n n) w := by
  obtain ⟨e1, e2⟩ := arr_desc hu
  rw [run_sliceAt_array_all w t _ (by rw [e1, e2]; exact hu), e2, size_run hs w, e1]
  simp [slicedAt, addr_add0]
/-- 'copy' into a row of a block known whole; the world behind it a letter. -/
theorem wpList_copyL {P : Program} {w : World} {ops : Array Oper} {rest : List Oper} {o : Oper} {a : Act} {Q : Exit → Act → World → Prop} (hgd : o.guard = none) (d s : Operand) (dT sT : TypeId)
    (ho : o.op = .call { callee := .builtin .copy, args := #[d, s], argTypes := #[dT, sT] }) (elem : TypeId) (hu : P.underlying dT = some (.slice elem)) (hsz : (P.info? elem).map (·.size) = some 1)
    (g off dLen dCap : Nat) (ad : Addr) (sLen sCap : Nat) (hd : a.eval d = .slice (some ⟨g, off, none⟩) dLen dCap) (hs : a.eval s = .slice (some ad) sLen sCap)
    (cur : Array Value) (t : TypeId) (hg : w.heap[g]? = some (.cells cur t (0, 0))) (cs : List Value) (hn : cs.length = Nat.min sLen dLen)
    (hsrc : ∀ j v, cs[j]? = some v → w.cell? (ad.add j) = some v) (hfit : off + cs.length ≤ cur.size) (h1 : ∀ v ∈ cs, v.oneCell' = true)
    (h : ∀ w', w.grownBy w' (some g) → w'.heap.size = w.heap.size → w'.heap[g]? = some (.cells (cur.toList.take off ++ (cs ++ cur.toList.drop (off + cs.length))).toArray t (0, 0)) → wpList P ops Q rest (a.put o.dst (.int .i64 (cs.length : Int))) w') : wpList P ops Q (o :: rest) a w :=
  wpList_copy_own hgd d s dT sT ho elem hu hsz g off dLen dCap ad sLen sCap hd hs cur t hg cs hn hsrc hfit h1
    (h _ ⟨rfl, rfl, rfl, by simp [World.setRow], fun k _ hk => setRow_other w g k _ (fun e => hk (by rw [e]))⟩ (by simp) (setRow_heap w g cur _ t _ hg))
/-- The same as a step of a region that draws its order. -/
theorem step_copyL {P : Program} {ops : Array Oper} {o : Oper} {a : Act} {w : World} {K : Act → World → Prop} {Q : Exit → Act → World → Prop} {E : Prop} (hgd : o.guard = none) (d s : Operand) (dT sT : TypeId)
    (ho : o.op = .call { callee := .builtin .copy, args := #[d, s], argTypes := #[dT, sT] }) (elem : TypeId) (hu : P.underlying dT = some (.slice elem)) (hsz : (P.info? elem).map (·.size) = some 1)
    (g off dLen dCap : Nat) (ad : Addr) (sLen sCap : Nat) (hd : a.eval d = .slice (some ⟨g, off, none⟩) dLen dCap) (hs : a.eval s = .slice (some ad) sLen sCap)
    (cur : Array Value) (t : TypeId) (hg : w.heap[g]? = some (.cells cur t (0, 0))) (cs : List Value) (hn : cs.length = Nat.min sLen dLen)
    (hsrc : ∀ j v, cs[j]? = some v → w.cell? (ad.add j) = some v) (hfit : off + cs.length ≤ cur.size) (h1 : ∀ v ∈ cs, v.oneCell' = true)
    (h : ∀ w', w.grownBy w' (some g) → w'.heap.size = w.heap.size → w'.heap[g]? = some (.cells (cur.toList.take off ++ (cs ++ cur.toList.drop (off + cs.length))).toArray t (0, 0)) → K (a.put o.dst (.int .i64 (cs.length : Int))) w') :
    if Region.wanted o (yielded ops a.tmps) = true then Oper.wp P o a w K Q else E := by
  have hw : Region.wanted o (yielded ops a.tmps) = true := by simp [Region.wanted, hgd]
  rw [if_pos hw]
  have hrun := run_copy_row (P := P) w dT sT o.type elem g off dLen dCap ad sLen sCap cur t cs hu hsz hg hn hsrc hfit h1
  unfold Oper.wp
  simp [execOp, ho, resolve, invoke, builtin, hd, hs, hrun, Result.andThen]
  exact h _ ⟨rfl, rfl, rfl, by simp [World.setRow], fun k _ hk => setRow_other w g k _ (fun e => hk (by rw [e]))⟩ (by simp) (setRow_heap w g cur _ t _ hg)
/-- 'b[lo:]' of a slice of bytes. -/
theorem slice_l {P : Program} (w : World) (t e : TypeId) (b o len cap : Nat) (lo : Int) (l : Nat) (hl : lo = l) (hu : P.underlying t = some (.slice e)) (hs : (P.info? e).map (·.size) = some 1) (h1 : l ≤ len) :
    (Instr.slice t (.slice (some ⟨b, o, none⟩) len cap) (some (.int .i64 lo)) none none).run P w = .ok (.slice (some ⟨b, if cap = l then o else o + l, none⟩) (len - l) (cap - l)) w := by
  subst hl
  have e2 : P.elem t = e := by simp [Program.elem, hu]
  rw [run_slice_l w t _ _ _ (by rw [e2]; exact hu) _ _ (by omega) (by omega), e2, size_run hs w]
  simp [sliced, addr_add0]
  by_cases h : cap = l
  · simp [h]
  · simp [h]
theorem oneCell_U (x : BitVec 32) : (U x).oneCell' = true := rfl
theorem oneCell_B (x : BitVec 8) : (B x).oneCell' = true := rfl
end Go.Proofs.YtpojalbpekbfdabDoor.Sh
