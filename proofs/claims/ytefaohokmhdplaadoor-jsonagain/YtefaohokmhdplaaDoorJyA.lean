/- Printing: what is left of memory; a text between quotation marks. -/
import Derived.Test.YtefaohokmhdplaaDoorJsA
import Derived.Test.YtefaohokmhdplaaDoorJsG
import Derived.Test.YtefaohokmhdplaaDoorJsJ
import Derived.Laws.RangeAny
import Derived.Shelf.Utf8.AppendRunePlain
namespace Go.Proofs.YtefaohokmhdplaaDoor
open Go Go.RowKit Go.Shelf
set_option linter.unusedSimpArgs false
set_option linter.unusedVariables false
set_option maxRecDepth 100000

def hx (n : Int) : Int := if n < 10 then 48 + n else 87 + n
/-- A rune between quotation marks. -/
def rq (r : Int) : List Int := if r = 34 ∨ r = 92 then [92, r] else if r < 32 then [92, 117, 48, 48, hx (r / 16), hx (r % 16)] else Lib.encodeRuneZ r
def qr (s : ByteArray) : Nat → Nat → List Int
  | 0, _ => []
  | f + 1, i => if s.size ≤ i then [] else rq (Utf8.decode s i).1 ++ qr s f (i + (Utf8.decode s i).2)
def qt (s : ByteArray) : List Int := [34] ++ (qr s s.size 0 ++ [34])
theorem dec_wid (s : ByteArray) (i : Nat) (h : i < s.size) : 1 ≤ (Utf8.decode s i).2 := by
  by_cases ha : (s[i]'h).toNat < 128
  · rw [decode_ascii s i h ha]; exact Nat.le_refl _
  · exact (decode_high s i h (by omega)).2
theorem qr_more (s : ByteArray) : ∀ (f g i : Nat), s.size ≤ f + i → s.size ≤ g + i → qr s f i = qr s g i
  | 0, 0, i, h, k => rfl
  | 0, g + 1, i, h, k => by simp only [qr]; rw [if_pos (by omega)]
  | f + 1, 0, i, h, k => by simp only [qr]; rw [if_pos (by omega)]
  | f + 1, g + 1, i, h, k => by
    simp only [qr]
    split
    · rfl
    · have := dec_wid s i (by omega)
      rw [qr_more s f g _ (by omega) (by omega)]
def qe (s : ByteArray) (i : Nat) : List Int := qr s (s.size - i) i
theorem qe_end {s : ByteArray} {i : Nat} (h : s.size ≤ i) : qe s i = [] := by
  unfold qe; rw [show s.size - i = 0 by omega]; rfl
theorem qe_step {s : ByteArray} {i : Nat} (h : i < s.size) : qe s i = rq (Utf8.decode s i).1 ++ qe s (i + (Utf8.decode s i).2) := by
  have := dec_wid s i h
  unfold qe
  rw [show s.size - i = (s.size - i - 1) + 1 by omega]
  simp only [qr]
  rw [if_neg (by omega), qr_more s (s.size - i - 1) (s.size - (i + (Utf8.decode s i).2)) _ (by omega) (by omega)]
theorem qt_eq (s : ByteArray) : qt s = [34] ++ (qe s 0 ++ [34]) := by unfold qt qe; rw [Nat.sub_zero]
/-- What is not bytes stays; what lies below B stays. -/
def Kq (B : Nat) (w w' : World) : Prop := Below B w w' ∧ ∀ (c : Nat) (x : Obj), w.heap[c]? = some x → (∀ cs f, x ≠ Obj.cells cs 5 f) → w'.heap[c]? = some x
theorem Kq.refl (B : Nat) (w : World) : Kq B w w := ⟨Below.refl _ _, fun _ _ h _ => h⟩
theorem Kq.trans {B : Nat} {x y z : World} (h : Kq B x y) (k : Kq B y z) : Kq B x z := ⟨h.1.trans k.1, fun c v e hv => k.2 c v (h.2 c v e hv) hv⟩
theorem Kq.alloc {B : Nat} {w w' : World} (h : Kq B w w') (hB : B ≤ w.heap.size) (o : Obj) : Kq B w (w'.alloc o) :=
  ⟨h.1.alloc (Nat.le_trans hB h.1.size) _, fun c x e hx => (heap_alloc_old _ _ (Array.getElem?_eq_some_iff.1 (h.2 c x e hx)).1).trans (h.2 c x e hx)⟩
theorem Kq.grown {B : Nat} {w w1 w2 : World} {v : Value} {xs : List Int} (h : Kq B w w1) (hB : B ≤ w.heap.size) (ho : Ow B w1 v xs) (hg : w1.grownBy w2 v.ownBlock) : Kq B w w2 := by
  refine ⟨h.1.grown hg (Nat.le_trans hB h.1.size) (fun b e => ho.blk b e), fun c x e hx => ?_⟩
  have h1 := h.2 c x e hx
  rw [hg.block c (Array.getElem?_eq_some_iff.1 h1).1 (fun q => ?_)]
  · exact h1
  · rcases ho.2 with ⟨rfl, _⟩ | ⟨g, cap, cur, rfl, hg', hc', _⟩
    · simp [Value.ownBlock] at q
    · simp [Value.ownBlock] at q; subst q
      rw [h1] at hc'; cases hc'
      exact hx _ _ rfl
theorem Kq.size {B : Nat} {w w' : World} (h : Kq B w w') : w.heap.size ≤ w'.heap.size := h.1.size
/-- Bytes laid in a new block. -/
theorem Sl.new (w : World) (xs : List Int) (t : TypeId) : Sl (w.alloc (.cells (bv xs).toArray t)) (.slice (some ⟨w.heap.size, 0, none⟩) xs.length xs.length) xs := by
  refine ⟨_, xs.length, rfl, Nat.le_refl _, .inr ⟨_, 0, rfl, by simp, fun i hi => ?_⟩⟩
  have : (w.alloc (.cells (bv xs).toArray t)).heap[w.heap.size]? = some (.cells (bv xs).toArray t) := heap_alloc_new _ _
  have h2 := bv_get xs hi
  unfold World.cell?; rw [this]
  simpa using h2
/-- The iterator of a text, wherever it lies. -/
def itS (W : World) (K : Nat) (s : ByteArray) (p : Nat) : World := { W with heap := W.heap.setIfInBounds K (.stringIter s p) }
theorem run_next_at {W : World} {K : Nat} {s : ByteArray} {p : Nat} (h : W.heap[K]? = some (.stringIter s p)) (hp : p < s.size) (ty : TypeId) :
    (Instr.next (.pointer (some ⟨K, 0, none⟩)) true ty).run Tryd.prog W = .ok (.tuple #[.bool true, .int .i64 p, .int .i32 (Utf8.decode s p).1]) (itS W K s (p + (Utf8.decode s p).2)) := by
  simp only [Instr.next, getObj, setObj, Sem.run_bind, Sem.run, h, Result.andThen, hp, if_true]
  simp [goInt, itS]
theorem run_next_fin {W : World} {K : Nat} {s : ByteArray} {p : Nat} (h : W.heap[K]? = some (.stringIter s p)) (hp : ¬ p < s.size) (ty : TypeId) :
    (Instr.next (.pointer (some ⟨K, 0, none⟩)) true ty).run Tryd.prog W = .ok (.tuple #[.bool false]) W := by
  simp [Instr.next, getObj, Sem.run, h, hp]
theorem itS_at {W : World} {K : Nat} {s : ByteArray} {p q : Nat} (h : W.heap[K]? = some (.stringIter s p)) : (itS W K s q).heap[K]? = some (.stringIter s q) := by
  have := (Array.getElem?_eq_some_iff.1 h).1
  simp [itS, this]
theorem itS_ne {W : World} {K : Nat} {s : ByteArray} {q b : Nat} (h : b ≠ K) : (itS W K s q).heap[b]? = W.heap[b]? := by
  simp [itS, Array.getElem?_setIfInBounds]; intro e; exact absurd e.symm h
theorem itS_size (W : World) (K : Nat) (s : ByteArray) (q : Nat) : (itS W K s q).heap.size = W.heap.size := by simp [itS]
/-- The rune appended, with what stays. -/
theorem rune_keep (B : Nat) (v : Value) (xs : List Int) (r : Int) (hr0 : 0 ≤ r) (hr1 : r ≤ 2147483647) (w : World) (h : Ow B w v xs) (hl : xs.length + 4 ≤ 140737488355328) (hB : B ≤ w.heap.size) :
    Calls Tryd.prog 75 #[v, .int .i32 r] w fun e w' => ∃ v', e = .returned v' ∧ Ow B w' v' (xs ++ Lib.encodeRuneZ r) ∧ Kq B w w' := by
  refine (Any.utf8_AppendRune_plain apr (by kernel_rfl) B v xs.length (bv xs) r (by omega) (by omega) w h (by omega) hB).mono ?_
  rintro e w' ⟨v', rfl, h1, o, h2⟩
  refine ⟨v', rfl, ?_, ?_⟩
  · unfold Ow
    rw [List.length_append, bv_append, bv_rune, show (Lib.encodeRuneZ r).length = (Lib.runeCells r).length by rw [← bv_rune, bv_length]]
    exact h1
  · exact ((Kq.refl B w).alloc hB o).grown hB (h.alloc o) h2
end Go.Proofs.YtefaohokmhdplaaDoor
