/- Bytes as lists of integers: slices, rows of a call's own, append. -/
import Derived.Test.YtefaohokmhdplaaDoorProg
import Derived.Test.YtefaohokmhdplaaDoorChecked
import Derived.WalkKit
import Derived.WalkSpells
import Derived.Laws.BytesArg
import Derived.Laws.AppendOwnNone
import Derived.Maps.AppendAt
import Derived.OwnWalk
namespace Go.Proofs.YtefaohokmhdplaaDoor
open Go Go.RowKit
set_option linter.unusedSimpArgs false
set_option linter.unusedVariables false

/-- The byte at a place. -/
def gi (xs : List Int) (i : Nat) : Int := xs.getD i 0
theorem gi_get {xs : List Int} {i : Nat} (h : i < xs.length) : gi xs i = xs[i] := by simp [gi, List.getD, List.getElem?_eq_getElem h]
def bv (xs : List Int) : List Value := xs.map (Value.int .u8)
theorem bv_length (xs : List Int) : (bv xs).length = xs.length := by simp [bv]
theorem bv_append (xs ys : List Int) : bv (xs ++ ys) = bv xs ++ bv ys := by simp [bv]
theorem bv_get (xs : List Int) {i : Nat} (h : i < xs.length) : (bv xs)[i]? = some (.int .u8 (gi xs i)) := by
  rw [gi_get h]; simp [bv, List.getElem?_eq_getElem h]
theorem bv_one (xs : List Int) : ∀ u ∈ bv xs, u.oneCell' = true := by
  intro u hu
  obtain ⟨z, _, rfl⟩ := List.mem_map.1 hu
  rfl
/-- Bytes. -/
def Byt (xs : List Int) : Prop := ∀ z ∈ xs, 0 ≤ z ∧ z ≤ 255
theorem Byt.get {xs : List Int} (h : Byt xs) {i : Nat} (hi : i < xs.length) : 0 ≤ gi xs i ∧ gi xs i ≤ 255 := by
  rw [gi_get hi]
  exact h _ (List.getElem_mem _)
theorem Byt.append {xs ys : List Int} (h : Byt xs) (k : Byt ys) : Byt (xs ++ ys) := fun z hz => by
  rcases List.mem_append.1 hz with hz | hz
  · exact h z hz
  · exact k z hz
theorem Byt.nil : Byt [] := fun z hz => by cases hz
/-- A slice that holds these bytes. -/
def Sl (w : World) (v : Value) (xs : List Int) : Prop :=
  ∃ ad cap, v = .slice ad xs.length cap ∧ xs.length ≤ cap ∧ ((xs = [] ∧ (ad = none → cap = 0)) ∨ ∃ b o, ad = some ⟨b, o, none⟩ ∧ b < w.heap.size ∧ ∀ i, i < xs.length → w.cell? ⟨b, o + i, none⟩ = some (.int .u8 (gi xs i)))
theorem Sl.below {w w' : World} {v : Value} {xs : List Int} {B0 : Nat} (h : Sl w v xs) (hb : Below B0 w w') (hB : w.heap.size ≤ B0) : Sl w' v xs := by
  obtain ⟨ad, cap, rfl, hc, h⟩ := h
  refine ⟨ad, cap, rfl, hc, ?_⟩
  rcases h with h | ⟨b, o, rfl, hlt, hm⟩
  · exact .inl h
  · exact .inr ⟨b, o, rfl, Nat.lt_of_lt_of_le hlt hb.size, fun i hi => (hb.cell (p := ⟨b, o + i, none⟩) (Nat.lt_of_lt_of_le hlt hB)).trans (hm i hi)⟩
theorem Sl.far {w w' : World} {v : Value} {xs : List Int} {row : Option Nat} (h : Sl w v xs) (hg : w.grownBy w' row) (hr : ∀ b, row = some b → v.ownBlock ≠ some b) : Sl w' v xs := by
  obtain ⟨ad, cap, rfl, hc, h⟩ := h
  refine ⟨ad, cap, rfl, hc, ?_⟩
  rcases h with h | ⟨b, o, rfl, hlt, hm⟩
  · exact .inl h
  · exact .inr ⟨b, o, rfl, Nat.lt_of_lt_of_le hlt hg.size, fun i hi => hg.cell (hm i hi) (fun e => hr b e.symm rfl)⟩
/-- A row of bytes of the call's own, in a block from B0 on. -/
def Ow (B0 : Nat) (w : World) (v : Value) (xs : List Int) : Prop := w.ownsRow B0 5 1 v xs.length (bv xs)
theorem Ow.nil (B0 : Nat) (w : World) : Ow B0 w (.slice none 0 0) [] := ⟨rfl, .inl ⟨rfl, rfl⟩⟩
theorem Ow.sl {B0 : Nat} {w : World} {v : Value} {xs : List Int} (h : Ow B0 w v xs) : Sl w v xs := by
  rcases h.2 with ⟨rfl, h0⟩ | ⟨g, cap, cur, hv, hb, hg, hc, _, hs, ht⟩
  · obtain rfl := List.length_eq_zero_iff.1 h0
    exact ⟨none, 0, rfl, Nat.le_refl _, .inl ⟨rfl, fun _ => rfl⟩⟩
  · refine ⟨_, cap, hv, hc, .inr ⟨g, 0, rfl, (Array.getElem?_eq_some_iff.1 hg).1, fun i hi => ?_⟩⟩
    have e : (cur.toList.take (xs.length * 1))[i]? = some (.int .u8 (gi xs i)) := by rw [ht]; exact bv_get xs hi
    rw [List.getElem?_take, if_pos (by omega), Array.getElem?_toList] at e
    simp only [World.cell?, hg, Nat.zero_add, Option.isSome_none, Bool.false_eq_true, if_false, e]
theorem Ow.blk {B0 : Nat} {w : World} {v : Value} {xs : List Int} (h : Ow B0 w v xs) : ∀ b, v.ownBlock = some b → B0 ≤ b := by
  intro b hb
  rcases h.2 with ⟨rfl, _⟩ | ⟨g, cap, cur, rfl, hg, _⟩
  · simp [Value.ownBlock] at hb
  · simp [Value.ownBlock] at hb; omega
theorem Ow.keep {B0 : Nat} {w w' : World} {v : Value} {xs : List Int} (h : Ow B0 w v xs) (hk : ∀ b, v.ownBlock = some b → w'.heap[b]? = w.heap[b]?) : Ow B0 w' v xs := by
  refine ⟨h.1, ?_⟩
  rcases h.2 with h | ⟨g, cap, cur, rfl, hb, hg, hc⟩
  · exact .inl h
  · exact .inr ⟨g, cap, cur, rfl, hb, by rw [hk g rfl]; exact hg, hc⟩
theorem Ow.below {B0 : Nat} {w w' : World} {v : Value} {xs : List Int} (h : Ow B0 w v xs) (hb : Below w.heap.size w w') : Ow B0 w' v xs := by
  refine h.keep (fun b e => hb.block b ?_)
  rcases h.2 with ⟨rfl, _⟩ | ⟨g, cap, cur, rfl, _, hg, _⟩
  · simp [Value.ownBlock] at e
  · simp [Value.ownBlock] at e; subst e; exact (Array.getElem?_eq_some_iff.1 hg).1
theorem Ow.lt {B0 : Nat} {w : World} {v : Value} {xs : List Int} (h : Ow B0 w v xs) : ∀ b, v.ownBlock = some b → b < w.heap.size := by
  intro b e
  rcases h.2 with ⟨rfl, _⟩ | ⟨g, cap, cur, rfl, _, hg, _⟩
  · simp [Value.ownBlock] at e
  · simp [Value.ownBlock] at e; subst e; exact (Array.getElem?_eq_some_iff.1 hg).1
theorem Ow.mono {B0 B1 : Nat} {w : World} {v : Value} {xs : List Int} (h : Ow B0 w v xs) (hB : B1 ≤ B0) : Ow B1 w v xs := by
  refine ⟨h.1, ?_⟩
  rcases h.2 with h | ⟨g, cap, cur, hv, hb, hg⟩
  · exact .inl h
  · exact .inr ⟨g, cap, cur, hv, Nat.le_trans hB hb, hg⟩
theorem Ow.alloc {B0 : Nat} {w : World} {v : Value} {xs : List Int} (h : Ow B0 w v xs) (o : Obj) : Ow B0 (w.alloc o) v xs := World.ownsRow.alloc h o
theorem Sl.one (w : World) (z : Int) (t : TypeId) : Sl (w.alloc (.cells #[.int .u8 z] t)) (.slice (some ⟨w.heap.size, 0, none⟩) 1 1) [z] := by
  refine ⟨_, 1, rfl, Nat.le_refl _, .inr ⟨_, 0, rfl, by simp, fun i hi => ?_⟩⟩
  obtain rfl : i = 0 := by simpa using hi
  have : (w.alloc (.cells #[.int .u8 z] t)).heap[w.heap.size]? = some (.cells #[.int .u8 z] t) := by show (w.heap.push _)[w.heap.size]? = _; simp
  unfold World.cell?; rw [this]; rfl
theorem Below.ofGrown {w w' : World} {v : Value} {B0 : Nat} (h : w.grownBy w' v.ownBlock) (hB : B0 ≤ w.heap.size) (hv : ∀ b, v.ownBlock = some b → B0 ≤ b) : Below B0 w w' :=
  (Below.refl B0 w).grown h hB hv
/-- What a row's going on leaves: all but its first block. -/
structure Gr (w wr : World) (v b : Value) : Prop where
  grown : w.grownBy wr v.ownBlock
  blk : b.ownBlock = v.ownBlock ∨ ∃ g, b.ownBlock = some g ∧ w.heap.size ≤ g
theorem Gr.refl (w : World) (v : Value) : Gr w w v v := ⟨World.grownBy.refl _ _, .inl rfl⟩
theorem Gr.step {w w1 w2 : World} {v b b' : Value} (h : Gr w w1 v b) (h1 : w1.grownBy w2 b.ownBlock) (h2 : b'.ownBlock = b.ownBlock ∨ b'.ownBlock = some w1.heap.size) : Gr w w2 v b' := by
  have hs := h.grown.size
  refine ⟨⟨h1.os.trans h.grown.os, h1.tape.trans h.grown.tape, h1.output.trans h.grown.output, Nat.le_trans hs h1.size, fun i hi hne => ?_⟩, ?_⟩
  · rw [h1.block i (by omega) (fun e => ?_)]
    · exact h.grown.block i hi hne
    · rcases h.blk with hb | ⟨g, hb, hg⟩
      · exact hne (e.trans hb)
      · rw [hb] at e; cases e; omega
  · rcases h2 with e | e
    · rcases h.blk with hb | ⟨g, hb, hg⟩
      · exact .inl (e.trans hb)
      · exact .inr ⟨g, e.trans hb, hg⟩
    · exact .inr ⟨_, e, hs⟩
theorem Gr.alloc {w w1 : World} {v b : Value} (h : Gr w w1 v b) (o : Obj) : Gr w (w1.alloc o) v b :=
  h.step (World.grownBy_alloc w1 o _) (.inl rfl)
theorem Gr.below {w wr : World} {v b : Value} {B0 : Nat} (h : Gr w wr v b) (hB : B0 ≤ w.heap.size) (hv : ∀ b, v.ownBlock = some b → B0 ≤ b) : Below B0 w wr := (Below.refl B0 w).grown h.grown hB hv
theorem info_u8 : ∃ i, Tryd.prog.info? 5 = some i ∧ i.zero = some (.int .u8 0) ∧ i.size = 1 ∧ i.bytes = 1 := by
  have h1 : (Tryd.prog.info? 5).map (·.size) = some 1 := by kernel_rfl
  have h2 : (Tryd.prog.info? 5).map (·.bytes) = some 1 := by kernel_rfl
  have h3 : (Tryd.prog.info? 5).map (·.zero) = some (some (.int .u8 0)) := by kernel_rfl
  cases hq : Tryd.prog.info? 5 with
  | none => rw [hq] at h1; cases h1
  | some i =>
    rw [hq] at h1 h2 h3
    exact ⟨i, rfl, Option.some.inj h3, Option.some.inj h1, Option.some.inj h2⟩
theorem addr_add0 (g o j : Nat) : (⟨g, o, none⟩ : Addr).add j = ⟨g, o + j, none⟩ := by unfold Addr.add; split <;> simp_all
/-- append of bytes onto a row of the call's own. -/
theorem app_u8 {ops : Array Oper} {rest : List Oper} {o : Oper} {a : Act} {Q : Exit → Act → World → Prop} {B0 : Nat} {wr : World} (hgd : o.guard = none) (s x : Operand) (ho : o.op = .call { callee := .builtin .append, args := #[s, x], argTypes := #[76, 76] })
    (hB : B0 ≤ wr.heap.size) (v : Value) (xs : List Int) (hs : a.eval s = v) (h0 : Ow B0 wr v xs) (u : Value) (hx : a.eval x = u) (ys : List Int) (hg : Sl wr u ys) (hk : xs.length + ys.length ≤ 140737488355328)
    (h : ∀ v' w', Ow B0 w' v' (xs ++ ys) → wr.grownBy w' v.ownBlock → Below B0 wr w' → (v'.ownBlock = v.ownBlock ∨ v'.ownBlock = some wr.heap.size) → wpList Tryd.prog ops Q rest (a.put o.dst v') w') : wpList Tryd.prog ops Q (o :: rest) a wr := by
  obtain ⟨i, hi, hz, hsz, hby⟩ := info_u8
  obtain ⟨ad, cap, rfl, hc, hg⟩ := hg
  have fin : ∀ v' w', w'.ownsRow B0 5 1 v' (xs.length + ys.length) (bv xs ++ bv ys) → wr.grownBy w' v.ownBlock → (v'.ownBlock = v.ownBlock ∨ v'.ownBlock = some wr.heap.size) → wpList Tryd.prog ops Q rest (a.put o.dst v') w' := by
    intro v' w' h1 h2 h4
    refine h v' w' ?_ h2 ((Below.refl B0 wr).grown h2 hB (fun b hb' => h0.blk b hb')) h4
    unfold Ow
    rw [List.length_append, bv_append]; exact h1
  rcases hg with ⟨rfl, hn⟩ | ⟨b, off, rfl, _, hm⟩
  · cases ad with
    | some A =>
      exact wpList_append_own_at wr hgd s x 76 ho B0 5 i (.int .u8 0) 1 1 Tryd.underlying76 hi hz hsz hby rfl (by decide) v xs.length (bv xs) hs h0 A 0 cap [] hx rfl (fun j u hu => by simp at hu) (fun _ h => by cases h) (by simp at hk; unfold maxLen; omega) (by simp at hk; omega) hB (fun v' w' h1 h2 _ h4 => fin v' w' h1 h2 h4)
    | none =>
      obtain rfl := hn rfl
      refine wpList_append_own_none hgd s x 76 ho B0 5 i 1 Tryd.underlying76 hi v xs.length (bv xs) hs h0 hx (h v wr (by rw [List.append_nil]; exact h0) ?_ (Below.refl _ _) (.inl rfl))
      exact World.grownBy.refl _ _
  · refine wpList_append_own_at wr hgd s x 76 ho B0 5 i (.int .u8 0) 1 1 Tryd.underlying76 hi hz hsz hby rfl (by decide) v xs.length (bv xs) hs h0 ⟨b, off, none⟩ ys.length cap (bv ys) hx (by rw [bv_length]; omega) ?_ (bv_one _) (by unfold maxLen; omega) (by omega) hB (fun v' w' h1 h2 _ h4 => fin v' w' h1 h2 h4)
    intro j u hu
    obtain ⟨hj, hv⟩ := List.getElem?_eq_some_iff.1 hu
    rw [bv_length] at hj
    rw [addr_add0, hm j hj, ← bv_get ys hj, ← hu]
/-- make of bytes, none of them there. -/
theorem make_u8 (w : World) {ops : Array Oper} {rest : List Oper} {o : Oper} {a : Act} {Q : Exit → Act → World → Prop}
    (hg : o.guard = none) (l c : Operand) (hop : o.op = Op.makeSlice 76 l c) (kl kc : IntKind) (C : Int) (n : Nat) (hl : a.eval l = .int kl 0) (hc : a.eval c = .int kc C) (hC : C = (n : Int)) (hn : n ≤ 140737488355328)
    (hK : ∀ w', Ow w.heap.size w' (.slice (some ⟨w.heap.size, 0, none⟩) 0 n) [] → Below w.heap.size w w' → wpList Tryd.prog ops Q rest (a.put o.dst (.slice (some ⟨w.heap.size, 0, none⟩) 0 n)) w') :
    wpList Tryd.prog ops Q (o :: rest) a w := by
  obtain ⟨i, hi, hz, hsz, hby⟩ := info_u8
  refine wpList_make_own w hg l c 76 hop w.heap.size 5 i (.int .u8 0) 1 Tryd.underlying76 hi hz hsz kl kc C n hl hc hC (by rw [hby]; omega) (by unfold maxLen; omega) (Nat.le_refl _) ?_
  intro w' h1 h2
  exact hK w' h1 ((Below.refl _ w).grown h2 (Nat.le_refl _) (fun b e => by cases e))
/-- make of noughts. -/
theorem make_full (w : World) {ops : Array Oper} {rest : List Oper} {o : Oper} {a : Act} {Q : Exit → Act → World → Prop}
    (hg : o.guard = none) (l c : Operand) (hop : o.op = Op.makeSlice 76 l c) (kl kc : IntKind) (L C : Int) (n : Nat) (hl : a.eval l = .int kl L) (hc : a.eval c = .int kc C) (hL : L = (n : Int)) (hC : C = (n : Int)) (hn : n ≤ 140737488355328)
    (hK : ∀ w', Ow w.heap.size w' (.slice (some ⟨w.heap.size, 0, none⟩) n n) (List.replicate n 0) → Below w.heap.size w w' → wpList Tryd.prog ops Q rest (a.put o.dst (.slice (some ⟨w.heap.size, 0, none⟩) n n)) w') :
    wpList Tryd.prog ops Q (o :: rest) a w := by
  obtain ⟨i, hi, hz, hsz, hby⟩ := info_u8
  refine wpList_make_full w hg l c 76 hop w.heap.size 5 i (.int .u8 0) 1 Tryd.underlying76 hi hz hsz kl kc L C n hl hc hL hC (by rw [hby]; omega) (by unfold maxLen; omega) (Nat.le_refl _) ?_
  intro w' h1 h2
  refine hK w' ?_ ((Below.refl _ w).grown h2 (Nat.le_refl _) (fun b e => by cases e))
  unfold Ow
  have e : (madeCells (Value.int .u8 0).cells (n * 1)).toList = bv (List.replicate n 0) := by
    rw [show (Value.int .u8 0).cells = #[Value.int .u8 0] from rfl, toList_madeCells_one, Nat.mul_one]; simp [bv]
  rw [e] at h1
  rw [List.length_replicate]; exact h1
/-- A byte stored into a row of the call's own. -/
theorem Ow.set {B0 g n cap : Nat} {w : World} {xs : List Int} (h : Ow B0 w (.slice (some ⟨g, 0, none⟩) n cap) xs) (j : Nat) (z : Int) :
    Ow B0 (w.setCell ⟨g, j, none⟩ (.int .u8 z)) (.slice (some ⟨g, 0, none⟩) n cap) (xs.set j z) ∧ w.grownBy (w.setCell ⟨g, j, none⟩ (.int .u8 z)) (some g) := by
  have hn : n = xs.length := by
    rcases h.2 with ⟨h', _⟩ | ⟨g', cap', cur, h', _⟩
    · simp at h'
    · simp at h'; exact h'.2.1
  subst hn
  obtain ⟨h1, h2⟩ := World.ownsRow.stored h j (.int .u8 z)
  refine ⟨?_, h2⟩
  unfold Ow
  rw [List.length_set, show bv (xs.set j z) = (bv xs).set j (.int .u8 z) by simp [bv, List.map_set]]
  exact h1
/-- A cell of a row of the call's own: there, and not frozen. -/
theorem Ow.cell {B0 g n cap : Nat} {w : World} {xs : List Int} (h : Ow B0 w (.slice (some ⟨g, 0, none⟩) n cap) xs) {j : Nat} (hj : j < xs.length) :
    w.cell? ⟨g, j, none⟩ = some (.int .u8 (gi xs j)) ∧ w.frozen? ⟨g, j, none⟩ = false := by
  refine ⟨?_, ?_⟩
  · obtain ⟨ad, cap', hv, _, h1⟩ := h.sl
    rcases h1 with ⟨rfl, _⟩ | ⟨b, o, rfl, _, hm⟩
    · simp at hj
    · have hv' : g = b ∧ 0 = o := by simp at hv; exact ⟨hv.1.1, hv.1.2⟩
      obtain ⟨rfl, rfl⟩ := hv'
      have := hm j hj
      rwa [Nat.zero_add] at this
  · rcases h.2 with ⟨h', _⟩ | ⟨g', cap', cur, h', _, hg, _⟩
    · simp at h'
    · simp at h'; obtain ⟨rfl, _⟩ := h'
      simp [World.frozen?, hg]
end Go.Proofs.YtefaohokmhdplaaDoor
