/- land. -/
import Derived.Test.YtphjjjijdbljaaaDoorDskG
import Derived.Laws.CopyOwn
import Derived.Deep.QuietTactic
import Derived.BigQuiet
namespace Go.Proofs.YtphjjjijdbljaaaDoor
open Go Go.RowKit
set_option linter.unusedSimpArgs false
set_option linter.unusedVariables false
set_option maxRecDepth 100000

theorem size_u8' : (Tryd.prog.info? 5).map (·.size) = some 1 := by kernel_rfl
/-- What a crash leaves of a sector and a write to it. -/
def tear (c : Int) (old x : List Int) : List Int := if c = 1 then x else if c = 2 then x.take 32 ++ old.drop 32 else if c = 3 then old.take 32 ++ x.drop 32 else old
theorem upd_self (st : Nat → List Int) (i : Nat) : upd st i (st i) = st := by
  funext j; unfold upd; split
  · rename_i e; rw [e]
  · rfl
theorem bv_get' {xs : List Int} {j : Nat} {u : Value} : (bv xs)[j]? = some u ↔ ∃ z, xs[j]? = some z ∧ u = .int .u8 z := by
  unfold bv; rw [List.getElem?_map]
  cases xs[j]? with
  | none => simp
  | some z => simp; exact eq_comm
theorem splice_get {α : Type} (L cs : List α) (off q : Nat) (hf : off + cs.length ≤ L.length) : (L.take off ++ (cs ++ L.drop (off + cs.length)))[q]? = if off ≤ q ∧ q < off + cs.length then cs[q - off]? else L[q]? := by
  rw [List.getElem?_append]
  have hl : (L.take off).length = off := by rw [List.length_take]; omega
  rw [hl]
  by_cases h1 : q < off
  · rw [if_pos h1, if_neg (by omega), List.getElem?_take, if_pos h1]
  · rw [if_neg h1, List.getElem?_append]
    by_cases h2 : q < off + cs.length
    · rw [if_pos (by omega), if_pos (by omega)]
    · rw [if_neg (by omega), if_neg (by omega), List.getElem?_drop]
      congr 1; omega
/-- A part of a sector written over. -/
theorem SB.splice {w : World} {gs n : Nat} {st : Nat → List Int} (h : SB w gs n st) {i o : Nat} (hi : i < n) {ys : List Int} (ho : o + ys.length ≤ 64) {cur : Array Value} (c1 : w.heap[gs]? = some (.cells cur 66 (0, 0))) (c2 : cur.size = n * 64) :
    SB (w.setRow gs (cur.toList.take (i * 64 + o) ++ (bv ys ++ cur.toList.drop (i * 64 + o + (bv ys).length))).toArray) gs n (upd st i ((st i).take o ++ (ys ++ (st i).drop (o + ys.length)))) := by
  have hb := setRow_heap w gs cur (cur.toList.take (i * 64 + o) ++ (bv ys ++ cur.toList.drop (i * 64 + o + (bv ys).length))).toArray 66 _ c1
  have hl : cur.toList.length = n * 64 := by rw [Array.length_toList, c2]
  have hf : i * 64 + o + (bv ys).length ≤ cur.toList.length := by rw [hl, bv_length]; omega
  have hsi := h.len i hi
  refine ⟨⟨_, hb, ?_⟩, fun j hj => ?_, fun j hj m u hu => ?_⟩
  · rw [List.size_toArray, List.length_append, List.length_append, List.length_take, List.length_drop]; omega
  · unfold upd; split
    · simp [hsi]; omega
    · exact h.len j hj
  · rw [cell_of_row _ gs _ _ _ _ hb, List.getElem?_toArray, splice_get _ _ _ _ hf, bv_length]
    have hcell : ∀ q : Nat, w.cell? ⟨gs, q, none⟩ = cur.toList[q]? := fun q => by rw [cell_of_row w gs q cur _ _ c1]; simp
    by_cases e : j = i
    · subst e
      unfold upd at hu; rw [if_pos rfl] at hu
      have hm : m < 64 := by have := (List.getElem?_eq_some_iff.1 hu).1; rw [bv_length] at this; simp [hsi] at this; omega
      rw [bv_append, bv_append] at hu
      have hb1 : bv ((st j).take o) = (bv (st j)).take o := by simp [bv, List.map_take]
      have hb2 : bv ((st j).drop (o + ys.length)) = (bv (st j)).drop (o + (bv ys).length) := by simp [bv, List.map_drop]
      rw [hb1, hb2, splice_get _ _ _ _ (by rw [bv_length, bv_length, hsi]; exact ho), bv_length] at hu
      by_cases hin : o ≤ m ∧ m < o + ys.length
      · rw [if_pos hin] at hu
        rw [if_pos (by omega), show j * 64 + m - (j * 64 + o) = m - o by omega]; exact hu
      · rw [if_neg hin] at hu
        rw [if_neg (by omega), ← hcell]
        exact h.at' j hj m u hu
    · unfold upd at hu; rw [if_neg e] at hu
      have hm : m < 64 := by have := (List.getElem?_eq_some_iff.1 hu).1; rw [bv_length, h.len j hj] at this; exact this
      rw [if_neg (by omega), ← hcell]
      exact h.at' j hj m u hu
def lΩ (w0 : World) (gs n : Nat) (st : Nat → List Int) (i b : Nat) (x y : List Int) : Nat → (Nat → Value) → World → Prop
  | 0, _, w => SB w gs n st ∧ Chg (fun b => b = gs) w0 w ∧ w.rangeAt b 0 (bv x)
  | _, _, w => SB w gs n (upd st i y) ∧ Chg (fun b => b = gs) w0 w
def hfn (gs b off src cap base : Nat) : Nat → Value
  | 0 => .pointer (some ⟨gs, base, none⟩)
  | 1 => .pointer (some ⟨gs, base, none⟩)
  | 2 => .slice (some ⟨gs, off, none⟩) 32 cap
  | 3 => .slice (some ⟨b, src, none⟩) 32 cap
  | _ => undef
end Go.Proofs.YtphjjjijdbljaaaDoor
/- Restart. -/
namespace Go.Proofs.YtphjjjijdbljaaaDoor
open Go Go.RowKit
set_option linter.unusedSimpArgs false
set_option linter.unusedVariables false
set_option maxRecDepth 100000

/-- What stands behind a crash that has come to the write k. -/
def rsK (st : Nat → List Int) (wt : List (Nat × List Int)) (cs : List Int) : Nat → Nat → List Int
  | 0 => st
  | k + 1 => match wt[k]? with
    | some p => upd (rsK st wt cs k) p.1 (tear (gi cs k) (rsK st wt cs k p.1) p.2)
    | none => rsK st wt cs k
theorem rsK_step {st : Nat → List Int} {wt : List (Nat × List Int)} {cs : List Int} {k : Nat} {p : Nat × List Int} (h : wt[k]? = some p) : rsK st wt cs (k + 1) = upd (rsK st wt cs k) p.1 (tear (gi cs k) (rsK st wt cs k p.1) p.2) := by
  rw [rsK, h]
theorem gi_out {cs : List Int} {k : Nat} (h : cs.length ≤ k) : gi cs k = 0 := by simp [gi, List.getElem?_eq_none h]
theorem rsK_past {st : Nat → List Int} {wt : List (Nat × List Int)} {cs : List Int} : ∀ (k d : Nat), cs.length ≤ k ∨ wt.length ≤ k → rsK st wt cs (k + d) = rsK st wt cs k
  | k, 0, _ => rfl
  | k, d + 1, h => by
    rw [← Nat.add_assoc, rsK]
    cases hp : wt[k + d]? with
    | none => exact rsK_past k d h
    | some p =>
      have hl := (List.getElem?_eq_some_iff.1 hp).1
      have h0 : gi cs (k + d) = 0 := gi_out (by omega)
      simp only [h0]
      rw [show ∀ o x, tear 0 o x = o from fun o x => rfl, upd_self]
      exact rsK_past k d h
theorem rsK_min {st : Nat → List Int} {wt : List (Nat × List Int)} {cs : List Int} {m : Nat} (hm : m = min wt.length cs.length) : rsK st wt cs m = rsK st wt cs wt.length := by
  have := rsK_past (st := st) (wt := wt) (cs := cs) m (wt.length - m) (by omega)
  rw [← this]; congr 1; omega
def rsS (s : Dk) (cs : List Int) : Dk := { s with st := rsK s.st s.wt cs s.wt.length, wt := [], dn := false, fz := none }
theorem Sl.chg {F : Nat → Prop} {w w' : World} {v : Value} {xs : List Int} (h : Sl w v xs) (c : Chg F w w') (d : ∀ b, v.ownBlock = some b → xs ≠ [] → ¬ F b) : Sl w' v xs := by
  obtain ⟨ad, cap, rfl, hc, h⟩ := h
  refine ⟨ad, cap, rfl, hc, ?_⟩
  rcases h with h | ⟨b, o, rfl, hlt, hm⟩
  · exact .inl h
  · refine .inr ⟨b, o, rfl, Nat.lt_of_lt_of_le hlt c.size, fun i hi => ?_⟩
    rw [World.cell?_of_block (w := w) (w' := w') (a := ⟨b, o + i, none⟩) (c.other b hlt (d b rfl (fun e => by rw [e] at hi; simp at hi)))]; exact hm i hi
variable {F : Nat → Prop} {w : World} {g : Nat} {s : Dk} {gs : Nat} {wv : Value} {fd : Bool} {fz : Int}
theorem sl_cell {w : World} {cb co cap i : Nat} {cs : List Int} (h : Sl w (.slice (some ⟨cb, co, none⟩) cs.length cap) cs) (hi : i < cs.length) : w.cell? ⟨cb, co + i, none⟩ = some (.int .u8 (gi cs i)) := by
  obtain ⟨a1, c1, e1, -, h1⟩ := h
  cases e1
  rcases h1 with ⟨h1, -⟩ | ⟨cb, co, h1, h2, h3⟩
  · rw [h1] at hi; simp at hi
  · cases h1; exact h3 i hi
def RX (F : Nat → Prop) (w0 w : World) (g : Nat) (s : Dk) (cs : List Int) (gs : Nat) (wv : Value) (fd : Bool) (fz : Int) (k : Nat) : Prop := PX F w g { s with st := rsK s.st s.wt cs k } gs wv fd fz ∧ Chg F w0 w
theorem RX.keep {w0 w' : World} {cs : List Int} {k : Nat} (h : RX F w0 w g s cs gs wv fd fz k) (hb : Below w.heap.size w w') : RX F w0 w' g s cs gs wv fd fz k :=
  ⟨h.1.keep hb.size (fun b hb' => hb.block b (h.1.Flt b hb')), h.2.trans (Chg.ofBelow hb)⟩
theorem RX.step {w0 w' : World} {cs : List Int} {k : Nat} {p : Nat × List Int} (h : RX F w0 w g s cs gs wv fd fz k) (hp : s.wt[k]? = some p) (c : Chg (fun b => b = gs) w w') (hs : SB w' gs s.n (upd (rsK s.st s.wt cs k) p.1 (tear (gi cs k) (rsK s.st s.wt cs k p.1) p.2))) : RX F w0 w' g s cs gs wv fd fz (k + 1) := by
  obtain ⟨h, hc⟩ := h
  have hne : ∀ c, c < w.heap.size → c ≠ gs → w'.heap[c]? = w.heap[c]? := fun b hb hn => c.other b hb hn
  refine ⟨⟨h.db.keep (hne g h.db.lt h.ggs), h.fz, ?_, h.wb.keep (fun c hc => hne c (h.wb.lt hc) (fun e => h.wgs (by rw [hc, e]))), h.ggs, h.wg, h.wgs, h.Fg, h.Fgs, h.Fw, fun b hb => Nat.lt_of_lt_of_le (h.Flt b hb) c.size, h.n1, h.n2⟩, hc.trans (c.mono (fun b hb => by subst hb; exact h.Fgs))⟩
  show SB _ gs s.n (rsK s.st s.wt cs (k + 1))
  rw [rsK_step hp]; exact hs
def rΩ (F : Nat → Prop) (w0 : World) (g : Nat) (s : Dk) (cs : List Int) (cv : Value) (gs : Nat) (wv : Value) (fd : Bool) (fz : Int) (j b5 : Nat) (p : Nat × List Int) : Nat → (Nat → Value) → World → Prop
  | 0, _, w => RX F w0 w g s cs gs wv fd fz j ∧ w.rangeAt b5 0 (wc p) ∧ Sl w cv cs
  | _, _, w => RX F w0 w g s cs gs wv fd fz (j + 1)
def rf (g gs n b5 : Nat) (p : Nat × List Int) (cv : Value) (cb co k : Nat) (c : Int) : Nat → Value
  | 0 => .pointer (some ⟨g, 0, none⟩)
  | 1 => .pointer (some ⟨g, 0, none⟩)
  | 2 => .pointer (some ⟨g, 0, none⟩)
  | 3 => .slice (some ⟨gs, 0, none⟩) n n
  | 4 => .pointer (some ⟨b5, 0, none⟩)
  | 5 => .int .i64 (p.1 : Int)
  | 6 => .pointer (some ⟨gs, p.1 * 64, none⟩)
  | 7 => .pointer (some ⟨b5, 1, none⟩)
  | 8 => .agg (bv p.2).toArray
  | 9 => cv
  | 10 => .int .i64 (k : Int)
  | 11 => .pointer (some ⟨cb, co + k, none⟩)
  | 12 => .int .u8 c
  | _ => undef
end Go.Proofs.YtphjjjijdbljaaaDoor
/- filled. -/
namespace Go.Proofs.YtphjjjijdbljaaaDoor
open Go Go.RowKit
set_option linter.unusedSimpArgs false
set_option linter.unusedVariables false
set_option maxRecDepth 100000

/-- A byte of a filled sector. -/
def flb (b : Int) (i : Nat) : Int := if i = 63 then (b * 2) % 256 else (b + ((i % 32 : Nat) : Int)) % 256
def fill (b : Int) : List Int := (List.range 64).map (flb b)
theorem fill_length (b : Int) : (fill b).length = 64 := by simp [fill]
theorem fill_get (b : Int) {k : Nat} (h : k < 64) : (fill b)[k]? = some (flb b k) := by simp [fill, h]
/-- A sector of which the first k bytes are filled. -/
def part (b : Int) (k : Nat) : List Int := (fill b).take k ++ z64.drop k
theorem part_length (b : Int) {k : Nat} (h : k ≤ 64) : (part b k).length = 64 := by
  simp [part, fill_length, z64_length]; omega
theorem part_step (b : Int) {k : Nat} (h : k < 64) : (part b k).set k (flb b k) = part b (k + 1) := by
  apply List.ext_getElem?
  intro j
  have hz := z64_length
  have hf := fill_length b
  unfold part
  rw [List.getElem?_set]
  split
  · rename_i e; subst e
    rw [if_pos (by simp [hz, hf]; omega), List.getElem?_append_left (by simp [hf]; omega), List.getElem?_take, if_pos (by omega), fill_get b h]
  · rename_i e
    rw [List.getElem?_append, List.getElem?_append]
    simp only [List.length_take, hf]
    by_cases h1 : j < k
    · rw [if_pos (by omega), if_pos (by omega), List.getElem?_take, List.getElem?_take, if_pos h1, if_pos (by omega)]
    · rw [if_neg (by omega), if_neg (by omega), List.getElem?_drop, List.getElem?_drop]
      congr 1; omega
theorem bv_set (xs : List Int) (k : Nat) (z : Int) : (bv xs).toArray.setIfInBounds k (.int .u8 z) = (bv (xs.set k z)).toArray := by
  rw [List.setIfInBounds_toArray]; simp [bv, List.map_set]
/-- A row of 64 bytes, in a block of its own. -/
def SR (w : World) (b : Nat) (xs : List Int) : Prop := w.heap[b]? = some (.cells (bv xs).toArray 66 (0, 0))
theorem SR.range {w : World} {b : Nat} {xs : List Int} (h : SR w b xs) : w.rangeAt b 0 (bv xs) := fun j u hu => by
  rw [Nat.zero_add, cell_of_row w b j _ _ _ h]; simpa using hu
theorem SR.there {w : World} {b : Nat} {xs : List Int} (h : SR w b xs) (hx : xs.length = 64) : w.there b 0 64 := there_of_row' h 0 64 (by rw [List.size_toArray, bv_length, hx]; omega)
theorem SR.cell {w : World} {b k : Nat} {xs : List Int} (h : SR w b xs) (hk : k < xs.length) : w.cell? ⟨b, k, none⟩ = some (.int .u8 (gi xs k)) ∧ w.frozen? ⟨b, k, none⟩ = false := by
  refine ⟨?_, frozen_of_row _ _ _ _ _ h⟩
  rw [cell_of_row w b k _ _ _ h, List.getElem?_toArray, bv_get xs hk]
theorem SR.set {w : World} {b k : Nat} {xs : List Int} (h : SR w b xs) (z : Int) : SR (w.setCell ⟨b, k, none⟩ (.int .u8 z)) b (xs.set k z) := by
  unfold SR
  rw [heap_setCell_same h, bv_set]
theorem SR.lt {w : World} {b : Nat} {xs : List Int} (h : SR w b xs) : b < w.heap.size := (Array.getElem?_eq_some_iff.1 h).1
theorem two_rows (w : World) : Hid (Below w.heap.size w ((w.alloc (.cells (bv z64).toArray 66)).alloc (.cells (bv z64).toArray 66)) ∧ SR ((w.alloc (.cells (bv z64).toArray 66)).alloc (.cells (bv z64).toArray 66)) w.heap.size z64 ∧ SR ((w.alloc (.cells (bv z64).toArray 66)).alloc (.cells (bv z64).toArray 66)) (w.heap.size + 1) z64) := by
  refine ⟨((Below.refl _ _).alloc (Nat.le_refl _) _).alloc (by simp) _, ?_, ?_⟩
  · show ((w.heap.push _).push _)[w.heap.size]? = _
    rw [Array.getElem?_push_lt (by simp)]; simp
  · show ((w.heap.push _).push _)[w.heap.size + 1]? = _
    simp only [Array.getElem?_push, Array.size_push]; rw [if_pos trivial]
end Go.Proofs.YtphjjjijdbljaaaDoor
