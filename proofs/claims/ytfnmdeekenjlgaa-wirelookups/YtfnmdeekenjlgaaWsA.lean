/- Nodes, leaves, links and rows of 32 bytes in slices. -/
import Derived.Test.YtfnmdeekenjlgaaWirJ
import Derived.Test.YtfnmdeekenjlgaaWirF
import Derived.Great.BuildSlice
import Derived.Deep.DeepAppendWide
import Derived.Deep.MidRow
import Derived.Laws.AppendOwnNone
import Derived.Deep.CutRange
namespace Go.Proofs.Ytfnmdeekenjlgaa
open Go Go.RowKit
set_option linter.unusedSimpArgs false
set_option linter.unusedVariables false
set_option maxRecDepth 100000

structure L32 (x : List Int) : Prop where
  len : x.length = 32
  byt : Byt x
def z32 : List Int := List.replicate 32 0
theorem zero_32 (w : World) : (zeroValue 23).run Try.prog w = .ok (.agg (bv (List.replicate 32 0)).toArray) w := by kernel_rfl
theorem z32_l32 : L32 z32 := ⟨by simp [z32], fun z hz => by simp [z32] at hz; omega⟩
structure Nd where
  n : Int
  p : List Int
  h : List Int
structure Nd.Ok (x : Nd) : Prop where
  p : L32 x.p
  h : L32 x.h
def nc (x : Nd) : List Value := .int .i64 x.n :: (bv x.p ++ bv x.h)
theorem nc_length {x : Nd} (h : x.Ok) : (nc x).length = 65 := by simp [nc, bv_length, h.p.len, h.h.len]
theorem nc_size {x : Nd} (h : x.Ok) : (nc x).toArray.size = 65 := by simp [nc_length h]
theorem range_below {w w' : World} {b o : Nat} {cs : List Value} (h : w.rangeAt b o cs) (hb : Below w.heap.size w w') (hlt : b < w.heap.size) : w'.rangeAt b o cs := fun j v hj => (hb.cell (p := ⟨b, o + j, none⟩) hlt).trans (h j v hj)
theorem range_alloc (w : World) (l : List Value) (t : TypeId) (f : Nat × Nat) : (w.alloc (.cells l.toArray t f)).rangeAt w.heap.size 0 l := fun j v hj => by
  rw [Nat.zero_add, cell_alloc]; simpa using hj
theorem range_keep {W W' : World} {b o : Nat} {cs : List Value} (h : W.rangeAt b o cs) (e : W'.heap[b]? = W.heap[b]?) : W'.rangeAt b o cs := fun j v hj => by
  have := h j v hj
  unfold World.cell? at this ⊢
  rw [e]; exact this
theorem nc_n {w : World} {b o : Nat} {x : Nd} (h : w.rangeAt b o (nc x)) : w.cell? ⟨b, o, none⟩ = some (.int .i64 x.n) := h 0 _ rfl
theorem nc_p {w : World} {b o : Nat} {x : Nd} (h : w.rangeAt b o (nc x)) : w.rangeAt b (o + 1) (bv x.p) := fun j v hj => by
  have hl : j < (bv x.p).length := (List.getElem?_eq_some_iff.1 hj).1
  rw [show o + 1 + j = o + (j + 1) by omega]
  exact h (j + 1) v (by simp only [nc, List.getElem?_cons_succ]; rw [List.getElem?_append_left hl]; exact hj)
theorem nc_h {w : World} {b o : Nat} {x : Nd} (hk : x.Ok) (h : w.rangeAt b o (nc x)) : w.rangeAt b (o + 33) (bv x.h) := fun j v hj => by
  rw [show o + 33 + j = o + (j + 33) by omega]
  exact h (j + 33) v (by
    rw [show j + 33 = (j + 32) + 1 by omega]
    simp only [nc, List.getElem?_cons_succ]
    have hl : (bv x.p).length = 32 := by rw [bv_length, hk.p.len]
    rw [List.getElem?_append_right (by omega), hl, Nat.add_sub_cancel]; exact hj)
theorem size_nd : (Try.prog.info? 94).map (·.size) = some 65 := by kernel_rfl
theorem size_nc {x : Nd} (h : x.Ok) : (Try.prog.info? 94).map (·.size) = some (nc x).length := by rw [nc_length h]; exact size_nd
theorem size32 : (Try.prog.info? 23).map (·.size) = some 32 := by kernel_rfl
theorem size_l32 {x : List Int} (h : L32 x) : (Try.prog.info? 23).map (·.size) = some (bv x).length := by rw [bv_length, h.len]; exact size32
theorem below_setCells {B b : Nat} (hb : B ≤ b) : ∀ (vs : List Value) (o : Nat) {w W : World}, Below B w W → Below B w (W.setCells b o vs)
  | [], _, _, _, h => h
  | v :: r, o, w, W, h => by
    rw [World.setCells]
    exact below_setCells hb r (o + 1) (h.trans ⟨rfl, rfl, rfl, by simp [World.setCell], fun k hk => Below.heap_setCell _ _ _ k (by show k ≠ b; omega)⟩)
theorem there_of_row' {w : World} {g : Nat} {cs : Array Value} {t : TypeId} (hg : w.heap[g]? = some (.cells cs t (0, 0))) (o n : Nat) (hn : o + n ≤ cs.size) : w.there g o n := fun j hj =>
  ⟨by rw [cell_of_row w g (o + j) cs t _ hg, Array.getElem?_eq_getElem (by omega)]; rfl, frozen_of_row _ _ _ _ _ hg⟩
theorem bv_one' (x : List Int) : (bv x).toArray.all (·.oneCell') = true := all_oneCell_toArray (bv_one x)
def NS (w : World) (v : Value) (l : List Nd) : Prop := ∃ ad cap, v = .slice ad l.length cap ∧ l.length ≤ cap ∧ ((l = [] ∧ (ad = none → cap = 0)) ∨ ∃ b o, ad = some ⟨b, o, none⟩ ∧ b < w.heap.size ∧ ∀ (i : Nat) (x : Nd), l[i]? = some x → w.rangeAt b (o + i * 65) (nc x))
theorem NS.below {w w' : World} {v : Value} {l : List Nd} (h : NS w v l) (hb : Below w.heap.size w w') : NS w' v l := by
  obtain ⟨ad, cap, rfl, hc, h⟩ := h
  refine ⟨ad, cap, rfl, hc, ?_⟩
  rcases h with h | ⟨b, o, rfl, hlt, hm⟩
  · exact .inl h
  · exact .inr ⟨b, o, rfl, Nat.lt_of_lt_of_le hlt hb.size, fun i x hi => range_below (hm i x hi) hb hlt⟩
def ndz : Nd := ⟨0, z32, z32⟩
theorem ndz_ok : ndz.Ok := ⟨z32_l32, z32_l32⟩
theorem zero_nd (w : World) : (zeroValue 94).run Try.prog w = .ok (.agg (nc ndz).toArray) w := by kernel_rfl
theorem nc_one (x : Nd) : (nc x).toArray.all (·.oneCell') = true := all_oneCell_toArray (fun u hu => by
  unfold nc at hu
  rcases List.mem_cons.1 hu with rfl | hu
  · rfl
  · rcases List.mem_append.1 hu with hu | hu
    · exact bv_one _ u hu
    · exact bv_one _ u hu)
theorem load_g {P : Program} {ops : Array Oper} {rest : List Oper} {op : Oper} {a : Act} {w : World} {Q : Exit → Act → World → Prop} (hw : Region.wanted op (yielded ops a.tmps) = true) (ty : TypeId) (x : Operand) (ho : op.op = .load ty x)
    (b o : Nat) (hx : a.eval x = .pointer (some ⟨b, o, none⟩)) (cs : List Value) (d : TypeDesc) (hc : w.rangeAt b o cs)
    (hu : P.underlying ty = some d) (hd : d.isRow = true) (hi : (P.info? ty).map (·.size) = some cs.length)
    (h : wpList P ops Q rest (a.put op.dst (.agg cs.toArray)) w) : wpList P ops Q (op :: rest) a w := by
  unfold wpList
  rw [if_pos hw]
  exact .inl (wp_load_mid ty x ho b o hx cs d hc hu hd hi h)
theorem sl_range {W : World} {b o : Nat} {x : List Int} (hx : L32 x) (h : W.rangeAt b o (bv x)) (hb : b < W.heap.size) : Sl W (.slice (some ⟨b, o, none⟩) 32 32) x :=
  ⟨_, 32, by rw [hx.len], by rw [hx.len]; exact Nat.le_refl _, .inr ⟨b, o, rfl, hb, fun i hi => h i _ (bv_get x hi)⟩⟩
theorem ld {P : Program} {ops : Array Oper} {rest : List Oper} {op : Oper} {a : Act} {w : World} {Q : Exit → Act → World → Prop} (ty : TypeId) (x : Operand) (ho : op.op = .load ty x) (hw : Region.wanted op (yielded ops a.tmps) = true)
    (b o : Nat) (hx : a.eval x = .pointer (some ⟨b, o, none⟩)) (cs : List Value) (d : TypeDesc) (hc : w.rangeAt b o cs)
    (hu : P.underlying ty = some d) (hd : d.isRow = true) (hi : (P.info? ty).map (·.size) = some cs.length)
    (h : wpList P ops Q rest (a.put op.dst (.agg cs.toArray)) w) : wpList P ops Q (op :: rest) a w := load_g hw ty x ho b o hx cs d hc hu hd hi h
theorem there_new (w : World) {Z : Array Value} {t : TypeId} {n : Nat} (hn : n = Z.size) : (w.alloc (.cells Z t)).there w.heap.size 0 n := by
  have : (w.alloc (.cells Z t)).heap[w.heap.size]? = some (.cells Z t (0, 0)) := by show (w.heap.push _)[w.heap.size]? = _; simp
  exact there_of_row' this 0 n (by omega)
theorem laid_row {w U : World} {Z : Array Value} {cs : List Value} (hz : cs.length = Z.size) (h0 : 0 < cs.length) {t : TypeId} (e : (w.alloc (.cells Z t)).setCells w.heap.size 0 cs = U) : U.rangeAt w.heap.size 0 cs ∧ Below w.heap.size w U ∧ w.heap.size < U.heap.size := by
  have h1 : U.rangeAt w.heap.size 0 cs := by rw [← e]; exact World.rangeAt_setCells_same _ _ _ _ (there_new w hz)
  have h2 : Below w.heap.size w U := by rw [← e]; exact below_setCells (Nat.le_refl _) _ _ ((Below.refl _ w).alloc (Nat.le_refl _) _)
  refine ⟨h1, h2, ?_⟩
  have := h1 0 _ (List.getElem?_eq_getElem h0)
  unfold World.cell? at this
  cases hh : U.heap[w.heap.size]? with
  | none => rw [show ((⟨w.heap.size, 0 + 0, none⟩ : Addr).block) = w.heap.size from rfl, hh] at this; cases this
  | some X => exact (Array.getElem?_eq_some_iff.1 hh).1
def lf (p q : List Int) : List Value := bv p ++ bv q
theorem lf_length {p q : List Int} (hp : L32 p) (hq : L32 q) : (lf p q).length = 64 := by simp [lf, bv_length, hp.len, hq.len]
structure Lf where
  p : List Int
  q : List Int
structure Lf.Ok (x : Lf) : Prop where
  p : L32 x.p
  q : L32 x.q
def lfc (x : Lf) : List Value := lf x.p x.q
theorem lfc_length {x : Lf} (h : x.Ok) : (lfc x).length = 64 := lf_length h.p h.q
def LS (w : World) (v : Value) (l : List Lf) : Prop := ∃ ad cap, v = .slice ad l.length cap ∧ l.length ≤ cap ∧ ((l = [] ∧ (ad = none → cap = 0)) ∨ ∃ b o, ad = some ⟨b, o, none⟩ ∧ b < w.heap.size ∧ ∀ (i : Nat) (x : Lf), l[i]? = some x → w.rangeAt b (o + i * 64) (lfc x))
theorem LS.below {w w' : World} {v : Value} {l : List Lf} (h : LS w v l) (hb : Below w.heap.size w w') : LS w' v l := by
  obtain ⟨ad, cap, rfl, hc, h⟩ := h
  refine ⟨ad, cap, rfl, hc, ?_⟩
  rcases h with h | ⟨b, o, rfl, hlt, hm⟩
  · exact .inl h
  · exact .inr ⟨b, o, rfl, Nat.lt_of_lt_of_le hlt hb.size, fun i x hi => range_below (hm i x hi) hb hlt⟩
def lfz : Lf := ⟨z32, z32⟩
theorem lfz_ok : lfz.Ok := ⟨z32_l32, z32_l32⟩
theorem zero_lf (w : World) : (zeroValue 84).run Try.prog w = .ok (.agg (lfc lfz).toArray) w := by kernel_rfl
theorem size_lf' : (Try.prog.info? 84).map (·.size) = some 64 := by kernel_rfl
theorem size_lfc {x : Lf} (h : x.Ok) : (Try.prog.info? 84).map (·.size) = some (lfc x).length := by rw [lfc_length h]; exact size_lf'
theorem lfc_one (x : Lf) : (lfc x).toArray.all (·.oneCell') = true := all_oneCell_toArray (fun u hu => by
  unfold lfc lf at hu
  rcases List.mem_append.1 hu with hu | hu
  · exact bv_one _ u hu
  · exact bv_one _ u hu)
structure Lk where
  o : List Int
  n : List Int
  q : List Int
structure Lk.Ok (x : Lk) : Prop where
  o : L32 x.o
  n : L32 x.n
  q : L32 x.q
def lkc (x : Lk) : List Value := bv x.o ++ (bv x.n ++ bv x.q)
theorem lkc_length {x : Lk} (h : x.Ok) : (lkc x).length = 96 := by
  unfold lkc; rw [List.length_append, List.length_append, bv_length, bv_length, bv_length, h.o.len, h.n.len, h.q.len]
def KS (w : World) (v : Value) (l : List Lk) : Prop := ∃ ad cap, v = .slice ad l.length cap ∧ l.length ≤ cap ∧ ((l = [] ∧ (ad = none → cap = 0)) ∨ ∃ b o, ad = some ⟨b, o, none⟩ ∧ b < w.heap.size ∧ ∀ (i : Nat) (x : Lk), l[i]? = some x → w.rangeAt b (o + i * 96) (lkc x))
theorem KS.below {w w' : World} {v : Value} {l : List Lk} (h : KS w v l) (hb : Below w.heap.size w w') : KS w' v l := by
  obtain ⟨ad, cap, rfl, hc, h⟩ := h
  refine ⟨ad, cap, rfl, hc, ?_⟩
  rcases h with h | ⟨b, o, rfl, hlt, hm⟩
  · exact .inl h
  · exact .inr ⟨b, o, rfl, Nat.lt_of_lt_of_le hlt hb.size, fun i x hi => range_below (hm i x hi) hb hlt⟩
def lkz : Lk := ⟨z32, z32, z32⟩
theorem lkz_ok : lkz.Ok := ⟨z32_l32, z32_l32, z32_l32⟩
theorem zero_lk (w : World) : (zeroValue 110).run Try.prog w = .ok (.agg (lkc lkz).toArray) w := by kernel_rfl
theorem size_lk' : (Try.prog.info? 110).map (·.size) = some 96 := by kernel_rfl
theorem size_lkc {x : Lk} (h : x.Ok) : (Try.prog.info? 110).map (·.size) = some (lkc x).length := by rw [lkc_length h]; exact size_lk'
theorem lkc_all (x : Lk) : ∀ u ∈ lkc x, u.oneCell' = true := fun u hu => by
  unfold lkc at hu
  rcases List.mem_append.1 hu with hu | hu
  · exact bv_one _ u hu
  · rcases List.mem_append.1 hu with hu | hu
    · exact bv_one _ u hu
    · exact bv_one _ u hu
theorem lkc_one (x : Lk) : (lkc x).toArray.all (·.oneCell') = true := all_oneCell_toArray (lkc_all x)
theorem range_lk {w : World} {b o : Nat} {x : Lk} (hx : x.Ok) (h : w.rangeAt b o (lkc x)) : w.rangeAt b o (bv x.o) ∧ w.rangeAt b (o + 32) (bv x.n) ∧ w.rangeAt b (o + 64) (bv x.q) := by
  have l1 : (bv x.o).length = 32 := by rw [bv_length, hx.o.len]
  have l2 : (bv x.n).length = 32 := by rw [bv_length, hx.n.len]
  refine ⟨fun j u hu => ?_, fun j u hu => ?_, fun j u hu => ?_⟩
  · have hj := (List.getElem?_eq_some_iff.1 hu).1
    exact h j u (by unfold lkc; rw [List.getElem?_append_left hj]; exact hu)
  · have hj := (List.getElem?_eq_some_iff.1 hu).1
    have := h (32 + j) u (by unfold lkc; rw [List.getElem?_append_right (by omega), l1, Nat.add_sub_cancel_left, List.getElem?_append_left hj]; exact hu)
    rwa [show o + (32 + j) = o + 32 + j by omega] at this
  · have := h (64 + j) u (by unfold lkc; rw [List.getElem?_append_right (by omega), l1, List.getElem?_append_right (by omega), l2, show 64 + j - 32 - 32 = j by omega]; exact hu)
    rwa [show o + (64 + j) = o + 64 + j by omega] at this
def YS (w : World) (v : Value) (l : List (List Int)) : Prop := ∃ ad cap, v = .slice ad l.length cap ∧ l.length ≤ cap ∧ ((l = [] ∧ (ad = none → cap = 0)) ∨ ∃ b o, ad = some ⟨b, o, none⟩ ∧ b < w.heap.size ∧ ∀ (i : Nat) (x : List Int), l[i]? = some x → w.rangeAt b (o + i * 32) (bv x))
theorem YS.below {w w' : World} {v : Value} {l : List (List Int)} (h : YS w v l) (hb : Below w.heap.size w w') : YS w' v l := by
  obtain ⟨ad, cap, rfl, hc, h⟩ := h
  refine ⟨ad, cap, rfl, hc, ?_⟩
  rcases h with h | ⟨b, o, rfl, hlt, hm⟩
  · exact .inl h
  · exact .inr ⟨b, o, rfl, Nat.lt_of_lt_of_le hlt hb.size, fun i x hi => range_below (hm i x hi) hb hlt⟩
theorem lf_p {w : World} {b o : Nat} {p q : List Int} (h : w.rangeAt b o (lf p q)) : w.rangeAt b o (bv p) := fun j v hj => h j v (by
  unfold lf; rw [List.getElem?_append_left (List.getElem?_eq_some_iff.1 hj).1]; exact hj)
theorem lf_q {w : World} {b o : Nat} {p q : List Int} (hp : L32 p) (h : w.rangeAt b o (lf p q)) : w.rangeAt b (o + 32) (bv q) := fun j v hj => by
  have := h (32 + j) v (by unfold lf; rw [List.getElem?_append_right (by rw [bv_length, hp.len]; omega), bv_length, hp.len, show 32 + j - 32 = j by omega]; exact hj)
  rwa [show o + 32 + j = o + (32 + j) by omega]
end Go.Proofs.Ytfnmdeekenjlgaa
