/- JSON values in memory; rows of values and of members. -/
import Derived.Test.YtefaohokmhdplaaDoorJsI
import Derived.Test.YtefaohokmhdplaaDoorJsA
import Derived.Test.YtefaohokmhdplaaDoorJsF
import Derived.Laws.RangeAny
import Derived.Shelf.Utf8.AppendRunePlain
namespace Go.Proofs.YtefaohokmhdplaaDoor
open Go Go.RowKit
set_option linter.unusedSimpArgs false
set_option linter.unusedVariables false
set_option maxRecDepth 100000

/-- A slice that reads as these cells, k for each element, in a block of A. -/
def RV (A : Nat → Prop) (w : World) (k : Nat) (v : Value) (cs : List Value) : Prop :=
  ∃ ad n cap, v = .slice ad n cap ∧ cs.length = n * k ∧ n ≤ cap ∧ (n = 0 ∨ ∃ b o, ad = some ⟨b, o, none⟩ ∧ A b ∧ b < w.heap.size ∧ w.rangeAt b o cs)
theorem RV.keep {A A' : Nat → Prop} {w w' : World} {k : Nat} {v : Value} {cs : List Value} (h : RV A w k v cs) (hk : ∀ b, A b → b < w.heap.size → A' b ∧ w'.heap[b]? = w.heap[b]?) (hs : w.heap.size ≤ w'.heap.size) : RV A' w' k v cs := by
  obtain ⟨ad, n, cap, h0, h1, h2, h3⟩ := h
  refine ⟨ad, n, cap, h0, h1, h2, ?_⟩
  rcases h3 with h3 | ⟨b, o, h4, h5, h6, h7⟩
  · exact .inl h3
  · refine .inr ⟨b, o, h4, (hk b h5 h6).1, Nat.lt_of_lt_of_le h6 hs, fun j u hj => ?_⟩
    have := h7 j u hj
    simp only [World.cell?] at this ⊢
    rw [(hk b h5 h6).2]; exact this
def mcs (ms : List (ByteArray × Value)) : List Value := ms.flatMap fun m => [.string m.1, m.2]
theorem mcs_length (ms : List (ByteArray × Value)) : (mcs ms).length = ms.length * 2 := by
  induction ms with
  | nil => rfl
  | cons m t ih => simp [mcs] at ih ⊢; omega
/-- A value as an interface in memory. -/
inductive VJ (A : Nat → Prop) (w : World) : Value → JV → Prop
  | null : VJ A w (.iface 68 (.agg #[])) .null
  | bool (b : Bool) : VJ A w (.iface 70 (.bool b)) (.bool b)
  | num (t : ByteArray) : VJ A w (.iface 71 (.string t)) (.num t)
  | txt (t : ByteArray) : VJ A w (.iface 45 (.string t)) (.txt t)
  | lst (v : Value) (vs : List Value) (l : List JV) (h : RV A w 1 v vs) (hl : vs.length = l.length) (hv : ∀ (i : Nat) (x : Value) (j : JV), vs[i]? = some x → l[i]? = some j → VJ A w x j) : VJ A w (.iface 49 v) (.lst l)
  | obj (v : Value) (ms : List (ByteArray × Value)) (l : List (ByteArray × JV)) (h : RV A w 2 v (mcs ms)) (hl : ms.length = l.length) (hk : ∀ (i : Nat) (m : ByteArray × Value) (j : ByteArray × JV), ms[i]? = some m → l[i]? = some j → m.1 = j.1) (hv : ∀ (i : Nat) (m : ByteArray × Value) (j : ByteArray × JV), ms[i]? = some m → l[i]? = some j → VJ A w m.2 j.2) : VJ A w (.iface 73 v) (.obj l)
theorem VJ.keep {A A' : Nat → Prop} {w w' : World} {v : Value} {j : JV} (h : VJ A w v j) (hk : ∀ b, A b → b < w.heap.size → A' b ∧ w'.heap[b]? = w.heap[b]?) (hs : w.heap.size ≤ w'.heap.size) : VJ A' w' v j := by
  induction h with
  | null => exact .null
  | bool b => exact .bool b
  | num t => exact .num t
  | txt t => exact .txt t
  | lst v vs l h hl hv ih => exact .lst v vs l (h.keep hk hs) hl ih
  | obj v ms l h hl hk' hv ih => exact .obj v ms l (h.keep hk hs) hl hk' ih
theorem VJ.one {A : Nat → Prop} {w : World} {v : Value} {j : JV} (h : VJ A w v j) : v.oneCell' = true := by cases h <;> rfl
theorem oneCell_iface (t : TypeId) (p : Value) : (Value.iface t p).oneCell' = true := rfl
/-- Values in a row. -/
def VS (A : Nat → Prop) (w : World) (vs : List Value) (l : List JV) : Prop := vs.length = l.length ∧ ∀ (i : Nat) (x : Value) (j : JV), vs[i]? = some x → l[i]? = some j → VJ A w x j
def MS (A : Nat → Prop) (w : World) (ms : List (ByteArray × Value)) (l : List (ByteArray × JV)) : Prop :=
  ms.length = l.length ∧ (∀ (i : Nat) (m : ByteArray × Value) (j : ByteArray × JV), ms[i]? = some m → l[i]? = some j → m.1 = j.1) ∧ ∀ (i : Nat) (m : ByteArray × Value) (j : ByteArray × JV), ms[i]? = some m → l[i]? = some j → VJ A w m.2 j.2
theorem VS.keep {A A' : Nat → Prop} {w w' : World} {vs : List Value} {l : List JV} (h : VS A w vs l) (hk : ∀ b, A b → b < w.heap.size → A' b ∧ w'.heap[b]? = w.heap[b]?) (hs : w.heap.size ≤ w'.heap.size) : VS A' w' vs l :=
  ⟨h.1, fun i x j h1 h2 => (h.2 i x j h1 h2).keep hk hs⟩
theorem MS.keep {A A' : Nat → Prop} {w w' : World} {ms : List (ByteArray × Value)} {l : List (ByteArray × JV)} (h : MS A w ms l) (hk : ∀ b, A b → b < w.heap.size → A' b ∧ w'.heap[b]? = w.heap[b]?) (hs : w.heap.size ≤ w'.heap.size) : MS A' w' ms l :=
  ⟨h.1, h.2.1, fun i x j h1 h2 => (h.2.2 i x j h1 h2).keep hk hs⟩
theorem VS.push {A : Nat → Prop} {w : World} {vs : List Value} {l : List JV} {v : Value} {j : JV} (h : VS A w vs l) (hv : VJ A w v j) : VS A w (vs ++ [v]) (l ++ [j]) := by
  refine ⟨by simp [h.1], fun i x y h1 h2 => ?_⟩
  rcases Nat.lt_or_ge i vs.length with q | q
  · rw [List.getElem?_append_left q] at h1
    rw [List.getElem?_append_left (by rw [← h.1]; exact q)] at h2
    exact h.2 i x y h1 h2
  · rw [List.getElem?_append_right q] at h1
    rw [List.getElem?_append_right (by rw [← h.1]; exact q), ← h.1] at h2
    rcases Nat.eq_zero_or_pos (i - vs.length) with e | e
    · rw [e] at h1 h2; simp at h1 h2; subst h1; subst h2; exact hv
    · rw [List.getElem?_eq_none (by simp; omega)] at h1; cases h1
theorem MS.push {A : Nat → Prop} {w : World} {ms : List (ByteArray × Value)} {l : List (ByteArray × JV)} {k : ByteArray} {v : Value} {j : JV} (h : MS A w ms l) (hv : VJ A w v j) : MS A w (ms ++ [(k, v)]) (l ++ [(k, j)]) := by
  have H : ∀ (i : Nat) (x : ByteArray × Value) (y : ByteArray × JV), (ms ++ [(k, v)])[i]? = some x → (l ++ [(k, j)])[i]? = some y → x.1 = y.1 ∧ VJ A w x.2 y.2 := fun i x y h1 h2 => by
    rcases Nat.lt_or_ge i ms.length with q | q
    · rw [List.getElem?_append_left q] at h1
      rw [List.getElem?_append_left (by rw [← h.1]; exact q)] at h2
      exact ⟨h.2.1 i x y h1 h2, h.2.2 i x y h1 h2⟩
    · rw [List.getElem?_append_right q] at h1
      rw [List.getElem?_append_right (by rw [← h.1]; exact q), ← h.1] at h2
      rcases Nat.eq_zero_or_pos (i - ms.length) with e | e
      · rw [e] at h1 h2; simp at h1 h2; subst h1; subst h2; exact ⟨rfl, hv⟩
      · rw [List.getElem?_eq_none (by simp; omega)] at h1; cases h1
  exact ⟨by simp [h.1], fun i x y h1 h2 => (H i x y h1 h2).1, fun i x y h1 h2 => (H i x y h1 h2).2⟩
theorem info_val : ∃ i, Tryd.prog.info? 31 = some i ∧ i.zero = some .nilIface ∧ i.size = 1 ∧ i.bytes = 16 := by
  have h1 : (Tryd.prog.info? 31).map (·.size) = some 1 := by kernel_rfl
  have h2 : (Tryd.prog.info? 31).map (·.bytes) = some 16 := by kernel_rfl
  have h3 : (Tryd.prog.info? 31).map (·.zero) = some (some .nilIface) := by kernel_rfl
  cases hq : Tryd.prog.info? 31 with
  | none => rw [hq] at h1; cases h1
  | some i =>
    rw [hq] at h1 h2 h3
    exact ⟨i, rfl, Option.some.inj h3, Option.some.inj h1, Option.some.inj h2⟩
theorem info_mem : ∃ i, Tryd.prog.info? 75 = some i ∧ i.zero = some (.agg #[.string ⟨#[]⟩, .nilIface]) ∧ i.size = 2 ∧ i.bytes = 32 := by
  have h1 : (Tryd.prog.info? 75).map (·.size) = some 2 := by kernel_rfl
  have h2 : (Tryd.prog.info? 75).map (·.bytes) = some 32 := by kernel_rfl
  have h3 : (Tryd.prog.info? 75).map (·.zero) = some (some (.agg #[.string ⟨#[]⟩, .nilIface])) := by kernel_rfl
  cases hq : Tryd.prog.info? 75 with
  | none => rw [hq] at h1; cases h1
  | some i =>
    rw [hq] at h1 h2 h3
    exact ⟨i, rfl, Option.some.inj h3, Option.some.inj h1, Option.some.inj h2⟩
/-- append of one value onto a row of the call's own. -/
theorem app_val {ops : Array Oper} {rest : List Oper} {o : Oper} {a : Act} {Q : Exit → Act → World → Prop} {B0 : Nat} {wr : World} (hgd : o.guard = none) (s x : Operand) (ho : o.op = .call { callee := .builtin .append, args := #[s, x], argTypes := #[49, 49] })
    (v : Value) (n : Nat) (cs : List Value) (hs : a.eval s = v) (h0 : wr.ownsRow B0 31 1 v n cs) (b : Nat) (y : Value) (hx : a.eval x = .slice (some ⟨b, 0, none⟩) 1 1) (hy : wr.cell? ⟨b, 0, none⟩ = some y) (h1 : y.oneCell' = true) (hn : n ≤ 1000000000) (hB : B0 ≤ wr.heap.size)
    (h : ∀ v' w', w'.ownsRow B0 31 1 v' (n + 1) (cs ++ [y]) → wr.grownBy w' v.ownBlock → (v'.ownBlock = v.ownBlock ∨ v'.ownBlock = some wr.heap.size) → wpList Tryd.prog ops Q rest (a.put o.dst v') w') : wpList Tryd.prog ops Q (o :: rest) a wr := by
  obtain ⟨i, hi, hz, hsz, hby⟩ := info_val
  refine wpList_append_own_at wr hgd s x 49 ho B0 31 i .nilIface 1 16 Tryd.underlying49 hi hz hsz hby rfl (by decide) v n cs hs h0 ⟨b, 0, none⟩ 1 1 [y] hx rfl ?_ (fun u hu => by simp at hu; subst hu; exact h1) (by unfold maxLen; omega) (by omega) hB (fun v' w' h1 h2 _ h4 => h v' w' h1 h2 h4)
  intro j u hj
  match j, hj with
  | 0, hj => simp at hj; subst hj; rw [addr_add0]; exact hy
/-- append of one member. -/
theorem app_mem {ops : Array Oper} {rest : List Oper} {o : Oper} {a : Act} {Q : Exit → Act → World → Prop} {B0 : Nat} {wr : World} (hgd : o.guard = none) (s x : Operand) (ho : o.op = .call { callee := .builtin .append, args := #[s, x], argTypes := #[73, 73] })
    (v : Value) (n : Nat) (cs : List Value) (hs : a.eval s = v) (h0 : wr.ownsRow B0 75 2 v n cs) (b : Nat) (t : ByteArray) (y : Value) (hx : a.eval x = .slice (some ⟨b, 0, none⟩) 1 1) (ht : wr.cell? ⟨b, 0, none⟩ = some (.string t)) (hy : wr.cell? ⟨b, 1, none⟩ = some y) (h1 : y.oneCell' = true) (hn : n ≤ 1000000000) (hB : B0 ≤ wr.heap.size)
    (h : ∀ v' w', w'.ownsRow B0 75 2 v' (n + 1) (cs ++ [.string t, y]) → wr.grownBy w' v.ownBlock → (v'.ownBlock = v.ownBlock ∨ v'.ownBlock = some wr.heap.size) → wpList Tryd.prog ops Q rest (a.put o.dst v') w') : wpList Tryd.prog ops Q (o :: rest) a wr := by
  obtain ⟨i, hi, hz, hsz, hby⟩ := info_mem
  refine wpList_append_own_at wr hgd s x 73 ho B0 75 i (.agg #[.string ⟨#[]⟩, .nilIface]) 2 32 Tryd.underlying73 hi hz hsz hby rfl (by decide) v n cs hs h0 ⟨b, 0, none⟩ 1 1 [.string t, y] hx rfl ?_ (fun u hu => by simp at hu; exact hu.elim (fun e => by rw [e]; rfl) (fun e => by rw [e]; exact h1)) (by unfold maxLen; omega) (by omega) hB (fun v' w' h1 h2 _ h4 => h v' w' h1 h2 h4)
  intro j u hj
  match j, hj with
  | 0, hj => simp at hj; subst hj; rw [addr_add0]; exact ht
  | 1, hj => simp at hj; subst hj; rw [addr_add0]; exact hy
/-- A row of one's own reads. -/
theorem own_rv {A : Nat → Prop} {B0 : Nat} {w : World} {e : TypeId} {k : Nat} {v : Value} {n : Nat} {cs : List Value} (h : w.ownsRow B0 e k v n cs) (hA : ∀ b, v.ownBlock = some b → A b) : RV A w k v cs := by
  rcases h.2 with ⟨rfl, h0⟩ | ⟨g, cap, cur, rfl, hb, hg, hc, _, hs, ht⟩
  · exact ⟨none, 0, 0, rfl, by rw [h.1, h0], Nat.le_refl _, .inl rfl⟩
  · refine ⟨_, n, cap, rfl, h.1, hc, .inr ⟨g, 0, rfl, hA g rfl, (Array.getElem?_eq_some_iff.1 hg).1, fun i u hi => ?_⟩⟩
    have hlt : i < cs.length := (List.getElem?_eq_some_iff.1 hi).1
    rw [h.1] at hlt
    rw [← ht, List.getElem?_take, if_pos (by omega), Array.getElem?_toList] at hi
    simp only [World.cell?, hg, Nat.zero_add, Option.isSome_none, Bool.false_eq_true, if_false, hi]
theorem own_keep {B0 : Nat} {w w' : World} {e : TypeId} {k : Nat} {v : Value} {n : Nat} {cs : List Value} (h : w.ownsRow B0 e k v n cs) (hk : ∀ b, v.ownBlock = some b → w'.heap[b]? = w.heap[b]?) : w'.ownsRow B0 e k v n cs := by
  refine ⟨h.1, ?_⟩
  rcases h.2 with h | ⟨g, cap, cur, rfl, hb, hg, hc⟩
  · exact .inl h
  · exact .inr ⟨g, cap, cur, rfl, hb, by rw [hk g rfl]; exact hg, hc⟩
theorem own_lt {B0 : Nat} {w : World} {e : TypeId} {k : Nat} {v : Value} {n : Nat} {cs : List Value} (h : w.ownsRow B0 e k v n cs) : ∀ b, v.ownBlock = some b → B0 ≤ b ∧ b < w.heap.size := by
  intro b hb
  rcases h.2 with ⟨rfl, _⟩ | ⟨g, cap, cur, rfl, hg, hc, _⟩
  · simp [Value.ownBlock] at hb
  · simp [Value.ownBlock] at hb; subst hb; exact ⟨hg, (Array.getElem?_eq_some_iff.1 hc).1⟩
/-- A row of one's own does not lie in a block of another type. -/
theorem own_ne {B0 : Nat} {w : World} {e : TypeId} {k : Nat} {v : Value} {n : Nat} {cs : List Value} (h : w.ownsRow B0 e k v n cs) {c : Nat} {x : Array Value} {t : TypeId} (hc : w.heap[c]? = some (.cells x t (0, 0))) (ht : t ≠ e) : v.ownBlock ≠ some c := by
  intro hb
  rcases h.2 with ⟨rfl, _⟩ | ⟨g, cap, cur, rfl, hg, hc', _⟩
  · simp [Value.ownBlock] at hb
  · simp [Value.ownBlock] at hb; subst hb; rw [hc] at hc'; simp at hc'; exact ht hc'.2
end Go.Proofs.YtefaohokmhdplaaDoor
/- Printing: what is left of memory; a text between quotation marks. -/
namespace Go.Proofs.YtefaohokmhdplaaDoor
open Go Go.RowKit Go.Shelf
set_option linter.unusedSimpArgs false
set_option linter.unusedVariables false
set_option maxRecDepth 100000

def hx (n : Int) : Int := if n < 10 then 48 + n else 87 + n
/-- A rune between quotation marks. -/
def rq (r : Int) : List Int := if r = 34 ∨ r = 92 then [92, r] else if r < 32 then [92, 117, 48, 48, hx (r / 16), hx (r % 16)] else Lib.encodeRuneZ r
def qr (s : ByteArray) : Nat → Nat → List Int
  | 0, _ => []
  | f + 1, i => if s.size ≤ i then [] else rq (Utf8.decode s i).1 ++ qr s f (i + (Utf8.decode s i).2)
def qt (s : ByteArray) : List Int := [34] ++ (qr s s.size 0 ++ [34])
theorem dec_wid (s : ByteArray) (i : Nat) (h : i < s.size) : 1 ≤ (Utf8.decode s i).2 := by
  by_cases ha : (s[i]'h).toNat < 128
  · rw [decode_ascii s i h ha]; exact Nat.le_refl _
  · exact (decode_high s i h (by omega)).2
theorem qr_more (s : ByteArray) : ∀ (f g i : Nat), s.size ≤ f + i → s.size ≤ g + i → qr s f i = qr s g i
  | 0, 0, i, h, k => rfl
  | 0, g + 1, i, h, k => by simp only [qr]; rw [if_pos (by omega)]
  | f + 1, 0, i, h, k => by simp only [qr]; rw [if_pos (by omega)]
  | f + 1, g + 1, i, h, k => by
    simp only [qr]
    split
    · rfl
    · have := dec_wid s i (by omega)
      rw [qr_more s f g _ (by omega) (by omega)]
def qe (s : ByteArray) (i : Nat) : List Int := qr s (s.size - i) i
theorem qe_end {s : ByteArray} {i : Nat} (h : s.size ≤ i) : qe s i = [] := by
  unfold qe; rw [show s.size - i = 0 by omega]; rfl
theorem qe_step {s : ByteArray} {i : Nat} (h : i < s.size) : qe s i = rq (Utf8.decode s i).1 ++ qe s (i + (Utf8.decode s i).2) := by
  have := dec_wid s i h
  unfold qe
  rw [show s.size - i = (s.size - i - 1) + 1 by omega]
  simp only [qr]
  rw [if_neg (by omega), qr_more s (s.size - i - 1) (s.size - (i + (Utf8.decode s i).2)) _ (by omega) (by omega)]
theorem qt_eq (s : ByteArray) : qt s = [34] ++ (qe s 0 ++ [34]) := by unfold qt qe; rw [Nat.sub_zero]
/-- What is not bytes stays; what lies below B stays. -/
def Kq (B : Nat) (w w' : World) : Prop := Below B w w' ∧ ∀ (c : Nat) (x : Obj), w.heap[c]? = some x → (∀ cs f, x ≠ Obj.cells cs 5 f) → w'.heap[c]? = some x
theorem Kq.refl (B : Nat) (w : World) : Kq B w w := ⟨Below.refl _ _, fun _ _ h _ => h⟩
theorem Kq.trans {B : Nat} {x y z : World} (h : Kq B x y) (k : Kq B y z) : Kq B x z := ⟨h.1.trans k.1, fun c v e hv => k.2 c v (h.2 c v e hv) hv⟩
theorem Kq.alloc {B : Nat} {w w' : World} (h : Kq B w w') (hB : B ≤ w.heap.size) (o : Obj) : Kq B w (w'.alloc o) :=
  ⟨h.1.alloc (Nat.le_trans hB h.1.size) _, fun c x e hx => (heap_alloc_old _ _ (Array.getElem?_eq_some_iff.1 (h.2 c x e hx)).1).trans (h.2 c x e hx)⟩
theorem Kq.grown {B : Nat} {w w1 w2 : World} {v : Value} {xs : List Int} (h : Kq B w w1) (hB : B ≤ w.heap.size) (ho : Ow B w1 v xs) (hg : w1.grownBy w2 v.ownBlock) : Kq B w w2 := by
  refine ⟨h.1.grown hg (Nat.le_trans hB h.1.size) (fun b e => ho.blk b e), fun c x e hx => ?_⟩
  have h1 := h.2 c x e hx
  rw [hg.block c (Array.getElem?_eq_some_iff.1 h1).1 (fun q => ?_)]
  · exact h1
  · rcases ho.2 with ⟨rfl, _⟩ | ⟨g, cap, cur, rfl, hg', hc', _⟩
    · simp [Value.ownBlock] at q
    · simp [Value.ownBlock] at q; subst q
      rw [h1] at hc'; cases hc'
      exact hx _ _ rfl
theorem Kq.size {B : Nat} {w w' : World} (h : Kq B w w') : w.heap.size ≤ w'.heap.size := h.1.size
/-- Bytes laid in a new block. -/
theorem Sl.new (w : World) (xs : List Int) (t : TypeId) : Sl (w.alloc (.cells (bv xs).toArray t)) (.slice (some ⟨w.heap.size, 0, none⟩) xs.length xs.length) xs := by
  refine ⟨_, xs.length, rfl, Nat.le_refl _, .inr ⟨_, 0, rfl, by simp, fun i hi => ?_⟩⟩
  have : (w.alloc (.cells (bv xs).toArray t)).heap[w.heap.size]? = some (.cells (bv xs).toArray t) := heap_alloc_new _ _
  have h2 := bv_get xs hi
  unfold World.cell?; rw [this]
  simpa using h2
/-- The iterator of a text, wherever it lies. -/
def itS (W : World) (K : Nat) (s : ByteArray) (p : Nat) : World := { W with heap := W.heap.setIfInBounds K (.stringIter s p) }
theorem run_next_at {W : World} {K : Nat} {s : ByteArray} {p : Nat} (h : W.heap[K]? = some (.stringIter s p)) (hp : p < s.size) (ty : TypeId) :
    (Instr.next (.pointer (some ⟨K, 0, none⟩)) true ty).run Tryd.prog W = .ok (.tuple #[.bool true, .int .i64 p, .int .i32 (Utf8.decode s p).1]) (itS W K s (p + (Utf8.decode s p).2)) := by
  simp only [Instr.next, getObj, setObj, Sem.run_bind, Sem.run, h, Result.andThen, hp, if_true]
  simp [goInt, itS]
theorem run_next_fin {W : World} {K : Nat} {s : ByteArray} {p : Nat} (h : W.heap[K]? = some (.stringIter s p)) (hp : ¬ p < s.size) (ty : TypeId) :
    (Instr.next (.pointer (some ⟨K, 0, none⟩)) true ty).run Tryd.prog W = .ok (.tuple #[.bool false]) W := by
  simp [Instr.next, getObj, Sem.run, h, hp]
theorem itS_at {W : World} {K : Nat} {s : ByteArray} {p q : Nat} (h : W.heap[K]? = some (.stringIter s p)) : (itS W K s q).heap[K]? = some (.stringIter s q) := by
  have := (Array.getElem?_eq_some_iff.1 h).1
  simp [itS, this]
theorem itS_ne {W : World} {K : Nat} {s : ByteArray} {q b : Nat} (h : b ≠ K) : (itS W K s q).heap[b]? = W.heap[b]? := by
  simp [itS, Array.getElem?_setIfInBounds]; intro e; exact absurd e.symm h
theorem itS_size (W : World) (K : Nat) (s : ByteArray) (q : Nat) : (itS W K s q).heap.size = W.heap.size := by simp [itS]
/-- The rune appended, with what stays. -/
theorem rune_keep (B : Nat) (v : Value) (xs : List Int) (r : Int) (hr0 : 0 ≤ r) (hr1 : r ≤ 2147483647) (w : World) (h : Ow B w v xs) (hl : xs.length + 4 ≤ 140737488355328) (hB : B ≤ w.heap.size) :
    Calls Tryd.prog 75 #[v, .int .i32 r] w fun e w' => ∃ v', e = .returned v' ∧ Ow B w' v' (xs ++ Lib.encodeRuneZ r) ∧ Kq B w w' := by
  refine (Any.utf8_AppendRune_plain apr (by kernel_rfl) B v xs.length (bv xs) r (by omega) (by omega) w h (by omega) hB).mono ?_
  rintro e w' ⟨v', rfl, h1, o, h2⟩
  refine ⟨v', rfl, ?_, ?_⟩
  · unfold Ow
    rw [List.length_append, bv_append, bv_rune, show (Lib.encodeRuneZ r).length = (Lib.runeCells r).length by rw [← bv_rune, bv_length]]
    exact h1
  · exact ((Kq.refl B w).alloc hB o).grown hB (h.alloc o) h2
end Go.Proofs.YtefaohokmhdplaaDoor
