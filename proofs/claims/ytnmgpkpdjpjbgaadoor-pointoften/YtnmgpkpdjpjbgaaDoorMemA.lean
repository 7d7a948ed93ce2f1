/- A small memory beside the great one: values with block numbers of their own, and how they are turned into the world's. -/
import Derived.Test.YtnmgpkpdjpjbgaaDoorProg
import Derived.Test.YtnmgpkpdjpjbgaaDoorChecked
import Derived.WalkKit
import Derived.Orders
import Derived.Deep.MidRow
import Derived.ChangeKeysEq
import Derived.Laws.StructEq
namespace Go.Proofs.YtnmgpkpdjpjbgaaDoor
open Go Go.RowKit
set_option linter.unusedSimpArgs false
set_option linter.unusedVariables false

/-- A block of the small memory. -/
structure Blk where
  cells : List Value
  ty : TypeId
/-- The small memory: blocks, and places kept free for blocks. -/
abbrev Mem := List (Option Blk)
def getB (m : Mem) (b : Nat) : Option Blk := (m[b]?).getD none
/-- The world's number of a small block. -/
abbrev Ren := Nat → Option Nat
def Le (r r' : Ren) : Prop := ∀ b c, r b = some c → r' b = some c
theorem Le.refl (r : Ren) : Le r r := fun _ _ h => h
theorem Le.trans {r r' r'' : Ren} (h : Le r r') (k : Le r' r'') : Le r r'' := fun b c e => k b c (h b c e)
def upd (r : Ren) (i c : Nat) : Ren := fun b => if b = i then some c else r b
theorem le_upd {r : Ren} {i c : Nat} (h : r i = none) : Le r (upd r i c) := fun b d e => by
  unfold upd
  split
  · rename_i hb; subst hb; rw [h] at e; cases e
  · exact e
theorem getB_set (m : Mem) (i b : Nat) (x : Option Blk) : getB (m.set i x) b = if b = i ∧ i < m.length then x else getB m b := by
  unfold getB
  rw [List.getElem?_set]
  by_cases h : i = b
  · subst h
    by_cases hl : i < m.length
    · simp [hl]
    · simp [hl, List.getElem?_eq_none (Nat.le_of_not_lt hl)]
  · have : ¬ (b = i ∧ i < m.length) := fun e => h e.1.symm
    rw [if_neg h, if_neg this]
theorem getB_lt {m : Mem} {b : Nat} {B : Blk} (h : getB m b = some B) : b < m.length := by
  unfold getB at h
  rcases Nat.lt_or_ge b m.length with hl | hl
  · exact hl
  · rw [List.getElem?_eq_none hl] at h; cases h
theorem getB_hole {m : Mem} {b : Nat} (h : m[b]? = some none) : getB m b = none := by unfold getB; rw [h]; rfl
theorem getB_app (m : Mem) (k b : Nat) : getB (m ++ List.replicate k none) b = getB m b := by
  unfold getB
  rcases Nat.lt_or_ge b m.length with hl | hl
  · rw [List.getElem?_append_left hl]
  · rw [List.getElem?_append_right hl, List.getElem?_eq_none hl, List.getElem?_replicate]
    split <;> rfl

/-- One cell without an address. -/
def flat1 : Value → Bool
  | .bool _ => true
  | .int _ _ => true
  | .float _ _ => true
  | .complex _ _ _ => true
  | .string _ => true
  | .pointer none => true
  | .slice none _ _ => true
  | .map none => true
  | .chan none => true
  | .nilFunc => true
  | .nilIface => true
  | _ => false
def flat2 : Value → Bool
  | .agg cs => cs.toList.all flat1
  | v => flat1 v
def flat : Value → Bool
  | .tuple vs => vs.toList.all flat2
  | v => flat2 v
/-- A cell, its block renamed. -/
def tr1 (r : Ren) : Value → Option Value
  | .pointer (some a) => (r a.block).map fun b => .pointer (some ⟨b, a.off, a.spot⟩)
  | .slice (some a) l c => (r a.block).map fun b => .slice (some ⟨b, a.off, a.spot⟩) l c
  | v => if flat1 v then some v else none
def trL (f : Value → Option Value) : List Value → Option (List Value)
  | [] => some []
  | v :: r => match f v, trL f r with
    | some v', some r' => some (v' :: r')
    | _, _ => none
def tr2 (r : Ren) : Value → Option Value
  | .agg cs => (trL (tr1 r) cs.toList).map fun l => .agg l.toArray
  | v => tr1 r v
def tr (r : Ren) : Value → Option Value
  | .tuple vs => (trL (tr2 r) vs.toList).map fun l => .tuple l.toArray
  | v => tr2 r v

theorem trL_cons {f : Value → Option Value} {v : Value} {l l' : List Value} (h : trL f (v :: l) = some l') : ∃ v' r', f v = some v' ∧ trL f l = some r' ∧ l' = v' :: r' := by
  simp only [trL] at h
  split at h
  · rename_i v' r' h1 h2
    exact ⟨v', r', h1, h2, by simpa using h.symm⟩
  · simp at h
theorem trL_mk {f : Value → Option Value} {v v' : Value} {l l' : List Value} (h : f v = some v') (h' : trL f l = some l') : trL f (v :: l) = some (v' :: l') := by
  simp only [trL, h, h']
theorem trL_len {f : Value → Option Value} : ∀ {l l' : List Value}, trL f l = some l' → l'.length = l.length
  | [], l', h => by simp only [trL, Option.some.injEq] at h; subst h; rfl
  | v :: l, l', h => by
    obtain ⟨v', r', _, h2, rfl⟩ := trL_cons h
    simp [trL_len h2]
theorem trL_get {f : Value → Option Value} : ∀ {l l' : List Value}, trL f l = some l' → ∀ {i : Nat} {v : Value}, l[i]? = some v → ∃ v', f v = some v' ∧ l'[i]? = some v'
  | [], _, _, i, v, hi => by simp at hi
  | x :: l, l', h, i, v, hi => by
    obtain ⟨v', r', h1, h2, rfl⟩ := trL_cons h
    cases i with
    | zero => simp at hi; subst hi; exact ⟨v', h1, rfl⟩
    | succ i => simp at hi; simpa using trL_get h2 hi
theorem trL_mono {f g : Value → Option Value} (hfg : ∀ v v', f v = some v' → g v = some v') : ∀ {l l' : List Value}, trL f l = some l' → trL g l = some l'
  | [], _, h => h
  | v :: l, l', h => by
    obtain ⟨v', r', h1, h2, rfl⟩ := trL_cons h
    exact trL_mk (hfg _ _ h1) (trL_mono hfg h2)
theorem trL_set {f : Value → Option Value} {u u' : Value} (hu : f u = some u') : ∀ {l l' : List Value} (i : Nat), trL f l = some l' → trL f (l.set i u) = some (l'.set i u')
  | [], l', i, h => by simp only [trL, Option.some.injEq] at h; subst h; rfl
  | v :: l, l', i, h => by
    obtain ⟨v', r', h1, h2, rfl⟩ := trL_cons h
    cases i with
    | zero => exact trL_mk hu h2
    | succ i => exact trL_mk h1 (trL_set hu i h2)
theorem trL_append {f : Value → Option Value} : ∀ {l l' k k' : List Value}, trL f l = some l' → trL f k = some k' → trL f (l ++ k) = some (l' ++ k')
  | [], l', k, k', h, hk => by simp only [trL, Option.some.injEq] at h; subst h; exact hk
  | v :: l, l', k, k', h, hk => by
    obtain ⟨v', r', h1, h2, rfl⟩ := trL_cons h
    exact trL_mk h1 (trL_append h2 hk)
theorem trL_drop {f : Value → Option Value} : ∀ {l l' : List Value} (n : Nat), trL f l = some l' → trL f (l.drop n) = some (l'.drop n)
  | l, l', 0, h => h
  | [], l', n + 1, h => by simp only [trL, Option.some.injEq] at h; subst h; rfl
  | v :: l, l', n + 1, h => by
    obtain ⟨v', r', _, h2, rfl⟩ := trL_cons h
    exact trL_drop n h2
theorem trL_take {f : Value → Option Value} : ∀ {l l' : List Value} (n : Nat), trL f l = some l' → trL f (l.take n) = some (l'.take n)
  | l, l', 0, _ => rfl
  | [], l', n + 1, h => by simp only [trL, Option.some.injEq] at h; subst h; rfl
  | v :: l, l', n + 1, h => by
    obtain ⟨v', r', h1, h2, rfl⟩ := trL_cons h
    exact trL_mk h1 (trL_take n h2)
theorem trL_all {f : Value → Option Value} {p : Value → Bool} (hp : ∀ v, p v = true → f v = some v) : ∀ {l : List Value}, l.all p = true → trL f l = some l
  | [], _ => rfl
  | v :: l, h => by
    simp only [List.all_cons, Bool.and_eq_true] at h
    exact trL_mk (hp v h.1) (trL_all hp h.2)
theorem trL_mem {f : Value → Option Value} : ∀ {l l' : List Value}, trL f l = some l' → ∀ v' ∈ l', ∃ v, f v = some v'
  | [], _, h, v', hm => by simp only [trL, Option.some.injEq] at h; subst h; cases hm
  | v :: l, l', h, v', hm => by
    obtain ⟨x, r', h1, h2, rfl⟩ := trL_cons h
    rcases List.mem_cons.1 hm with rfl | hm
    · exact ⟨v, h1⟩
    · exact trL_mem h2 v' hm
theorem tr1_flat (r : Ren) (v : Value) (h : flat1 v = true) : tr1 r v = some v := by
  unfold tr1
  split
  · simp [flat1] at h
  · simp [flat1] at h
  · simp [h]
theorem tr2_flat (r : Ren) (v : Value) (h : flat2 v = true) : tr2 r v = some v := by
  unfold tr2
  split
  · simp only [flat2] at h
    rw [trL_all (tr1_flat r) h]; rfl
  · rename_i hn
    refine tr1_flat r v ?_
    unfold flat2 at h
    split at h
    · rename_i cs; exact absurd rfl (hn cs)
    · exact h
theorem tr_flat (r : Ren) (v : Value) (h : flat v = true) : tr r v = some v := by
  unfold tr
  split
  · simp only [flat] at h
    rw [trL_all (tr2_flat r) h]; rfl
  · rename_i hn
    refine tr2_flat r v ?_
    unfold flat at h
    split at h
    · rename_i cs; exact absurd rfl (hn cs)
    · exact h
theorem tr1_more {r r' : Ren} (hl : Le r r') (v v' : Value) (h : tr1 r v = some v') : tr1 r' v = some v' := by
  unfold tr1 at h ⊢
  split at h
  · rename_i a
    cases hb : r a.block with
    | none => simp [hb] at h
    | some c => simp only [hb, Option.map_some] at h; simp only [hl _ _ hb, Option.map_some]; exact h
  · rename_i a _ _
    cases hb : r a.block with
    | none => simp [hb] at h
    | some c => simp only [hb, Option.map_some] at h; simp only [hl _ _ hb, Option.map_some]; exact h
  · exact h
theorem tr2_more {r r' : Ren} (hl : Le r r') (v v' : Value) (h : tr2 r v = some v') : tr2 r' v = some v' := by
  unfold tr2 at h ⊢
  split at h
  · rename_i cs
    cases hb : trL (tr1 r) cs.toList with
    | none => simp [hb] at h
    | some k => simp only [hb, Option.map_some] at h; simp only [trL_mono (tr1_more hl) hb, Option.map_some]; exact h
  · exact tr1_more hl _ _ h
theorem tr_more {r r' : Ren} (hl : Le r r') (v v' : Value) (h : tr r v = some v') : tr r' v = some v' := by
  unfold tr at h ⊢
  split at h
  · rename_i cs
    cases hb : trL (tr2 r) cs.toList with
    | none => simp [hb] at h
    | some k => simp only [hb, Option.map_some] at h; simp only [trL_mono (tr2_more hl) hb, Option.map_some]; exact h
  · exact tr2_more hl _ _ h
theorem tr1_one {r : Ren} {v v' : Value} (h : tr1 r v = some v') : v'.oneCell' = true := by
  unfold tr1 at h
  split at h
  · rename_i a; cases hb : r a.block <;> simp [hb] at h; subst h; rfl
  · rename_i a _ _; cases hb : r a.block <;> simp [hb] at h; subst h; rfl
  · split at h
    · rename_i hf
      simp only [Option.some.injEq] at h; subst h
      cases v <;> simp_all [flat1, Value.oneCell']
    · simp at h
/-- The cells of a value that goes into a variable. -/
theorem tr2_cells {r : Ren} {v v' : Value} (h : tr2 r v = some v') : trL (tr1 r) v.cells.toList = some v'.cells.toList := by
  unfold tr2 at h
  split at h
  · rename_i cs
    cases hb : trL (tr1 r) cs.toList with
    | none => simp [hb] at h
    | some k => simp only [hb, Option.map_some, Option.some.injEq] at h; subst h; simpa [Value.cells] using hb
  · rename_i hn
    have h1 := tr1_one h
    have e1 : v.cells = #[v] := by cases v <;> first | rfl | exact absurd rfl (hn _)
    have e2 : v'.cells = #[v'] := by cases v' <;> first | rfl | simp [Value.oneCell'] at h1
    rw [e1, e2]
    exact trL_mk h rfl

/-- The small memory lies in the world, under the renaming r. -/
structure Rel (r : Ren) (m : Mem) (w : World) : Prop where
  cells : ∀ (b : Nat) (B : Blk), getB m b = some B → ∃ c cs, r b = some c ∧ trL (tr1 r) B.cells = some cs ∧ w.heap[c]? = some (.cells cs.toArray B.ty (0, 0))
  full : ∀ (b c : Nat), r b = some c → ∃ B, getB m b = some B
  inj : ∀ (b b' c : Nat), r b = some c → r b' = some c → b = b'
/-- What a call leaves of the world that it met: all but the blocks of r. -/
structure Fr (r : Ren) (w w' : World) : Prop where
  os : w'.os = w.os
  tape : w'.tape = w.tape
  output : w'.output = w.output
  size : w.heap.size ≤ w'.heap.size
  block : ∀ k, k < w.heap.size → (∀ b : Nat, r b ≠ some k) → w'.heap[k]? = w.heap[k]?
theorem Fr.refl (r : Ren) (w : World) : Fr r w w := ⟨rfl, rfl, rfl, Nat.le_refl _, fun _ _ _ => rfl⟩
theorem Rel.lt {r : Ren} {m : Mem} {w : World} (h : Rel r m w) {b c : Nat} (hb : r b = some c) : c < w.heap.size := by
  obtain ⟨B, hB⟩ := h.full b c hb
  obtain ⟨c', cs, h1, _, h3⟩ := h.cells b B hB
  rw [hb] at h1
  cases h1
  exact (Array.getElem?_eq_some_iff.1 h3).1
theorem Rel.below {r : Ren} {m : Mem} {w w' : World} (h : Rel r m w) (hb : Below w.heap.size w w') : Rel r m w' :=
  ⟨fun b B hB => by
    obtain ⟨c, cs, h1, h2, h3⟩ := h.cells b B hB
    exact ⟨c, cs, h1, h2, by rw [hb.block c (h.lt h1)]; exact h3⟩, h.full, h.inj⟩
theorem Rel.heap {r : Ren} {m : Mem} {w w' : World} (h : Rel r m w) (hb : w'.heap = w.heap) : Rel r m w' :=
  ⟨fun b B hB => by rw [hb]; exact h.cells b B hB, h.full, h.inj⟩
theorem Rel.reserve {r : Ren} {m : Mem} {w : World} (h : Rel r m w) (k : Nat) : Rel r (m ++ List.replicate k none) w :=
  ⟨fun b B hB => by rw [getB_app] at hB; exact h.cells b B hB, fun b c hc => by rw [getB_app]; exact h.full b c hc, h.inj⟩
theorem Rel.hole {r : Ren} {m : Mem} {w : World} (h : Rel r m w) {i : Nat} (hi : m[i]? = some none) : r i = none := by
  cases hr : r i with
  | none => rfl
  | some c =>
    obtain ⟨B, hB⟩ := h.full i c hr
    rw [getB_hole hi] at hB; cases hB
theorem Rel.alloc {r : Ren} {m : Mem} {w : World} (h : Rel r m w) {i : Nat} (hi : m[i]? = some none) {l l' : List Value} (t : TypeId) (hl : trL (tr1 r) l = some l') :
    Rel (upd r i w.heap.size) (m.set i (some ⟨l, t⟩)) (w.alloc (.cells l'.toArray t)) := by
  have hr := h.hole hi
  have hle := le_upd (c := w.heap.size) hr
  have hlt : i < m.length := (List.getElem?_eq_some_iff.1 hi).1
  refine ⟨fun b B hB => ?_, fun b c hc => ?_, fun b b' c h1 h2 => ?_⟩
  · rw [getB_set] at hB
    split at hB
    · rename_i e
      obtain ⟨rfl, _⟩ := e
      cases hB
      exact ⟨w.heap.size, l', by simp [upd], trL_mono (tr1_more hle) hl, by show (w.heap.push _)[w.heap.size]? = _; simp⟩
    · obtain ⟨c, cs, h1, h2, h3⟩ := h.cells b B hB
      refine ⟨c, cs, hle _ _ h1, trL_mono (tr1_more hle) h2, ?_⟩
      rw [Below.heap_alloc _ _ _ (h.lt h1)]; exact h3
  · rw [getB_set]
    by_cases e : b = i
    · rw [if_pos ⟨e, hlt⟩]; exact ⟨_, rfl⟩
    · rw [if_neg (fun x => e x.1)]
      unfold upd at hc
      rw [if_neg e] at hc
      exact h.full b c hc
  · unfold upd at h1 h2
    split at h1 <;> split at h2
    · rename_i e1 e2; rw [e1, e2]
    · cases h1; have := h.lt h2; omega
    · cases h2; have := h.lt h1; omega
    · exact h.inj b b' c h1 h2
/-- Many cells of a list set. -/
def setL : List Value → Nat → List Value → List Value
  | l, _, [] => l
  | l, o, v :: r => setL (l.set o v) (o + 1) r
theorem setL_len : ∀ (vs l : List Value) (o : Nat), (setL l o vs).length = l.length
  | [], _, _ => rfl
  | v :: r, l, o => by simp only [setL]; rw [setL_len r]; simp
/-- The same, by pieces. -/
def putL (l : List Value) (o : Nat) (vs : List Value) : List Value := l.take o ++ (vs ++ l.drop (o + vs.length))
theorem setL_put : ∀ (vs l : List Value) (o : Nat), o + vs.length ≤ l.length → setL l o vs = putL l o vs
  | [], l, o, h => by simp [setL, putL]
  | v :: r, l, o, h => by
    simp only [List.length_cons] at h
    have ho : o < l.length := by omega
    rw [setL, setL_put r (l.set o v) (o + 1) (by simp; omega)]
    unfold putL
    have e1 : (l.set o v).take (o + 1) = l.take o ++ [v] := by
      rw [List.take_add_one, List.take_set_of_le (Nat.le_refl o)]
      simp [ho]
    have e2 : (l.set o v).drop (o + 1 + r.length) = l.drop (o + 1 + r.length) := List.drop_set_of_lt (by omega)
    rw [e1, e2, List.length_cons, show o + (r.length + 1) = o + 1 + r.length by omega]
    simp
theorem trL_setL {f : Value → Option Value} : ∀ {vs vs' l l' : List Value} (o : Nat), trL f vs = some vs' → trL f l = some l' → trL f (setL l o vs) = some (setL l' o vs')
  | [], vs', l, l', o, h, hl => by simp only [trL, Option.some.injEq] at h; subst h; exact hl
  | v :: r, vs', l, l', o, h, hl => by
    obtain ⟨v', r', h1, h2, rfl⟩ := trL_cons h
    exact trL_setL (o + 1) h2 (trL_set h1 o hl)
theorem heap_setCells_same (c : Nat) (t : TypeId) : ∀ (vs : List Value) (o : Nat) (l : List Value) (w : World), w.heap[c]? = some (.cells l.toArray t (0, 0)) →
    (w.setCells c o vs).heap[c]? = some (.cells (setL l o vs).toArray t (0, 0))
  | [], _, _, _, h => h
  | v :: r, o, l, w, h => by
    simp only [World.setCells, setL]
    refine heap_setCells_same c t r (o + 1) (l.set o v) _ ?_
    simp only [World.setCell, Array.getElem?_modify, if_true, h, Option.map_some]
    simp
theorem heap_setCells_past2 (c k : Nat) (hk : k ≠ c) : ∀ (vs : List Value) (o : Nat) (w : World), (w.setCells c o vs).heap[k]? = w.heap[k]?
  | [], _, _ => rfl
  | v :: r, o, w => by
    simp only [World.setCells]
    rw [heap_setCells_past2 c k hk r (o + 1)]
    exact Below.heap_setCell _ _ _ _ hk
theorem size_setCellsM (c : Nat) : ∀ (vs : List Value) (o : Nat) (w : World), (w.setCells c o vs).heap.size = w.heap.size
  | [], _, _ => rfl
  | v :: r, o, w => by
    simp only [World.setCells]
    rw [size_setCellsM c r (o + 1)]
    simp [World.setCell]
theorem rest_setCells (c : Nat) : ∀ (vs : List Value) (o : Nat) (w : World), (w.setCells c o vs).os = w.os ∧ (w.setCells c o vs).tape = w.tape ∧ (w.setCells c o vs).output = w.output
  | [], _, _ => ⟨rfl, rfl, rfl⟩
  | v :: r, o, w => by
    simp only [World.setCells]
    obtain ⟨h1, h2, h3⟩ := rest_setCells c r (o + 1) (w.setCell ⟨c, o, none⟩ v)
    exact ⟨h1, h2, h3⟩
theorem Rel.store {r : Ren} {m : Mem} {w : World} (h : Rel r m w) {b c : Nat} {B : Blk} (hB : getB m b = some B) (hc : r b = some c) {vs vs' : List Value} (o : Nat) (hv : trL (tr1 r) vs = some vs') :
    Rel r (m.set b (some ⟨setL B.cells o vs, B.ty⟩)) (w.setCells c o vs') := by
  have hlt := getB_lt hB
  refine ⟨fun b' B' hB' => ?_, fun b' c' hc' => ?_, h.inj⟩
  · rw [getB_set] at hB'
    split at hB'
    · rename_i e
      obtain ⟨rfl, _⟩ := e
      cases hB'
      obtain ⟨c', cs, h1, h2, h3⟩ := h.cells b' B hB
      rw [hc] at h1; cases h1
      exact ⟨c, setL cs o vs', hc, trL_setL o hv h2, heap_setCells_same c B.ty vs' o cs w h3⟩
    · rename_i e
      obtain ⟨c', cs, h1, h2, h3⟩ := h.cells b' B' hB'
      refine ⟨c', cs, h1, h2, ?_⟩
      rw [heap_setCells_past2 c c' (fun e' => e ⟨h.inj b' b c (e' ▸ h1) hc, hlt⟩)]
      exact h3
  · rw [getB_set]
    by_cases e : b' = b
    · rw [if_pos ⟨e, hlt⟩]; exact ⟨_, rfl⟩
    · rw [if_neg (fun x => e x.1)]; exact h.full b' c' hc'
/-- A value of which nothing is known. -/
def poison : Value := .tuple #[.tuple #[]]
def good : Value → Bool
  | .tuple ⟨[.tuple ⟨[]⟩]⟩ => false
  | _ => true
theorem good_ne {v : Value} (h : good v = true) : v ≠ poison := by rintro rfl; simp [good, poison] at h
end Go.Proofs.YtnmgpkpdjpjbgaaDoor
/- One operation in the small memory, and that the world does the same. -/
namespace Go.Proofs.YtnmgpkpdjpjbgaaDoor
open Go Go.RowKit
set_option linter.unusedSimpArgs false
set_option linter.unusedVariables false

/-- A piece of the model that only computes. -/
def pureRun {α : Type} (P : Program) : Sem α → Option α
  | .pure a => some a
  | .program k => pureRun P (k P)
  | .mark _ k => pureRun P k
  | _ => none
theorem pureRun_run {α : Type} {P : Program} : ∀ (s : Sem α) (a : α), pureRun P s = some a → ∀ w, s.run P w = .ok a w
  | .pure x, a, h, w => by simp only [pureRun, Option.some.injEq] at h; subst h; rfl
  | .program k, a, h, w => by simp only [pureRun] at h; simpa [Sem.run] using pureRun_run (k P) a h w
  | .mark m k, a, h, w => by simp only [pureRun] at h; simpa [Sem.run] using pureRun_run k a h w
  | .load .., _, h, _ => by simp [pureRun] at h
  | .store .., _, h, _ => by simp [pureRun] at h
  | .new .., _, h, _ => by simp [pureRun] at h
  | .shape .., _, h, _ => by simp [pureRun] at h
  | .freeze .., _, h, _ => by simp [pureRun] at h
  | .frozen .., _, h, _ => by simp [pureRun] at h
  | .getObj .., _, h, _ => by simp [pureRun] at h
  | .setObj .., _, h, _ => by simp [pureRun] at h
  | .choose .., _, h, _ => by simp [pureRun] at h
  | .sys .., _, h, _ => by simp [pureRun] at h
  | .halt .., _, h, _ => by simp [pureRun] at h

/-- Contracts: what a call of f answers, in this memory (which it leaves as it is), and on what terms; pf: those that look at no memory; sym: an index in range is a term, not a test; dec: tests whose outcome is told; wf: those that write memory, and W: what they answer and leave; gl: the package-level variables that are known; deci: integers that are told, by their slot. -/
structure Cx where
  C : FuncId → List Value → Mem → Option (List Prop × Value)
  pf : FuncId → Bool
  sym : Bool
  dec : List (Nat × Bool)
  wf : FuncId → Bool
  W : FuncId → List Value → Mem → Option (List Prop × Value × Mem)
  gl : List Nat
  deci : List (Nat × Int)
/-- A test whose outcome is told, by its slot: on that term it is plain. -/
def told (X : Cx) (o : Oper) (v : Value) : List Prop × Value :=
  match v with
  | .bool x => match o.dst.bind fun d => X.dec.lookup d with
    | some b => ([x = b], .bool b)
    | none => ([], .bool x)
  | .int k x => match o.dst.bind fun d => X.deci.lookup d with
    | some c => ([x = c], .int k c)
    | none => ([], .int k x)
  | v => ([], v)
theorem told_spec {X : Cx} {o : Oper} {v : Value} (h : ∀ p ∈ (told X o v).1, p) : (told X o v).2 = v := by
  unfold told at *
  cases v with
  | bool x =>
    simp only at *
    split at h
    · rename_i b hb
      have : x = b := h _ (List.mem_singleton.2 rfl)
      rw [this]
    · rfl
  | int k x =>
    simp only at *
    split at h
    · rename_i b hb
      have : x = b := h _ (List.mem_singleton.2 rfl)
      rw [this]
    · rfl
  | _ => rfl

def blkAt : Value → Option (Nat × Nat)
  | .pointer (some ⟨b, o, none⟩) => some (b, o)
  | _ => none
theorem blkAt_spec {v : Value} {b o : Nat} (h : blkAt v = some (b, o)) : v = .pointer (some ⟨b, o, none⟩) := by
  unfold blkAt at h
  split at h
  · simp only [Option.some.injEq, Prod.mk.injEq] at h; obtain ⟨rfl, rfl⟩ := h; rfl
  · simp at h
def okX (gl : List Nat) (ev : Operand → Value) : Operand → Bool
  | .tmp t => good (ev (.tmp t))
  | .const v => flat v
  | .global g => gl.contains g && decide (blkAt (ev (.global g)) = some (g, 0))
  | _ => false
def flatX (ev : Operand → Value) : Operand → Bool
  | .tmp t => flat (ev (.tmp t))
  | .const v => flat v && flat (ev (.const v))
  | _ => false
def notTup : Value → Bool
  | .tuple _ => false
  | _ => true
def rowT (P : Program) (t : TypeId) : Option (Bool × Nat) :=
  match P.underlying t, P.info? t with
  | some d, some i => some (d.isRow, i.size)
  | _, _ => none
def sload (P : Program) (t b o : Nat) (m : Mem) : Option Value :=
  match getB m b, rowT P t with
  | some B, some (true, n) => if o + n ≤ B.cells.length then some (.agg ((B.cells.drop o).take n).toArray) else none
  | some B, some (false, _) => B.cells[o]?
  | _, _ => none
def intL (l : List Value) (i : Nat) : Int :=
  match l[i]? with
  | some (.int _ a) => a
  | _ => 0
/-- A load, of an integer at a place that is not plain too. -/
def sloadX (P : Program) (sym : Bool) (t b o : Nat) (m : Mem) : Option (List Prop × Value) :=
  match sym, P.underlying t, getB m b, P.info? t with
  | true, some (.int k), some B, some _ => some ([B.cells[o]? = some (.int k (intL B.cells o))], .int k (intL B.cells o))
  | _, _, _, _ => (sload P t b o m).map fun v => ([], v)
theorem sloadX_spec {P : Program} {sym : Bool} {t b o : Nat} {m : Mem} {ps : List Prop} {v : Value} (h : sloadX P sym t b o m = some (ps, v)) (hp : ∀ p ∈ ps, p) : sload P t b o m = some v := by
  unfold sloadX at h
  split at h
  · rename_i k B i hu hB hi
    simp only [Option.some.injEq, Prod.mk.injEq] at h
    obtain ⟨rfl, rfl⟩ := h
    have := hp _ (List.mem_singleton.2 rfl)
    unfold sload rowT
    simp only [hB, hu, hi, TypeDesc.isRow]
    exact this
  · cases hs : sload P t b o m with
    | none => simp [hs] at h
    | some u => simp only [hs, Option.map_some, Option.some.injEq, Prod.mk.injEq] at h; rw [h.2]
theorem sloadX_same {P : Program} {sym : Bool} {t b o : Nat} {m m' : Mem} (h : getB m' b = getB m b) : sloadX P sym t b o m' = sloadX P sym t b o m := by
  unfold sloadX sload; rw [h]
theorem sloadX_blk {P : Program} {sym : Bool} {t b o : Nat} {m : Mem} {q : List Prop × Value} (h : sloadX P sym t b o m = some q) : ∃ B, getB m b = some B := by
  unfold sloadX at h
  split at h
  · exact ⟨_, by assumption⟩
  · cases hs : sload P t b o m with
    | none => simp [hs] at h
    | some u =>
      unfold sload at hs
      cases hb : getB m b with
      | none => simp [hb] at hs
      | some B => exact ⟨B, rfl⟩
def sstore (P : Program) (t b o : Nat) (v : Value) (m : Mem) : Option Mem :=
  match getB m b, rowT P t with
  | some B, some (_, n) => if v.cells.size = n ∧ o + n ≤ B.cells.length then some (m.set b (some ⟨putL B.cells o v.cells.toList, B.ty⟩)) else none
  | _, _ => none
/-- Rows of integers, held against one another. -/
def isInt (k : IntKind) : Value → Bool
  | .int k' _ => decide (k' = k)
  | _ => false
def intAt (xs : Array Value) (i : Nat) : Int :=
  match xs[i]? with
  | some (.int _ a) => a
  | _ => 0
def eqB (xs ys : Array Value) (n : Nat) : Bool := (List.range n).all fun i => intAt xs i == intAt ys i
def seqv (P : Program) (t : TypeId) : Value → Value → Option Bool
  | .agg xs, .agg ys => match P.underlying t with
    | some (.array n e) => match P.underlying e, P.info? e with
      | some (.int k), some i =>
        if i.size = 1 ∧ xs.size = n ∧ ys.size = n ∧ xs.toList.all (isInt k) = true ∧ ys.toList.all (isInt k) = true ∧ P.eqGuardType P.depth t = false then some (eqB xs ys n) else none
      | _, _ => none
    | _ => none
  | _, _ => none
def seqO (P : Program) (o : Oper) (ev : Operand → Value) : Option Value :=
  match o.op with
  | .binOp .eql t x y _ => (seqv P t (ev x) (ev y)).map fun b => .bool b
  | .binOp .neq t x y _ => (seqv P t (ev x) (ev y)).map fun b => .bool (!b)
  | _ => none
theorem isInt_at {k : IntKind} {xs : Array Value} {i : Nat} (h : xs.toList.all (isInt k) = true) (hi : i < xs.size) : xs[i]? = some (.int k (intAt xs i)) := by
  have hm : xs[i]? = some xs[i] := by simp [hi]
  have := List.all_eq_true.1 h xs[i] (by simp)
  unfold intAt
  rw [hm]
  generalize xs[i] = v at *
  cases v <;> simp [isInt] at this
  subst this; rfl
theorem eqItems_run {P : Program} {e : TypeId} {k : IntKind} {i : TypeInfo} (hu : P.underlying e = some (.int k)) (hi : P.info? e = some i) (hs : i.size = 1) (xs ys : Array Value) (hx : xs.toList.all (isInt k) = true) (hy : ys.toList.all (isInt k) = true) (d : Nat) (w : World) : ∀ is : List Nat, (∀ i ∈ is, i < xs.size ∧ i < ys.size) →
    (Op.eqItems (d + 1) e (P.cellsOf e) xs ys is).run P w = .ok (is.all fun i => intAt xs i == intAt ys i) w
  | [], _ => by simp [Op.eqItems]
  | j :: is, h => by
    obtain ⟨h1, h2⟩ := h j (by simp)
    have hc : P.cellsOf e = 1 := by simp [Program.cellsOf, hi, hs]
    have part1 : ∀ zs : Array Value, zs.toList.all (isInt k) = true → j < zs.size → (part e zs j).run P w = .ok (.int k (intAt zs j)) w := fun zs hz hj => by
      simp [part, isAgg, run_underlying hu, isInt_at hz hj]
    have ih := eqItems_run hu hi hs xs ys hx hy d w is (fun q hq => h q (by simp [hq]))
    rw [hc] at ih
    simp only [Op.eqItems, hc, Nat.mul_one, Sem.run_bind, part1 xs hx h1, part1 ys hy h2, Result.andThen_ok, run_equalIn_int w d e k k _ _ hu, List.all_cons]
    by_cases hq : (intAt xs j == intAt ys j) = true
    · simp [hq, ih]
    · simp [hq]
theorem seqv_run {P : Program} {t : TypeId} {x y : Value} {b : Bool} (h : seqv P t x y = some b) (w : World) :
    (Op.equal t x y).run P w = .ok b w ∧ ∀ (op : BinOp) (p q : Operand), (eqGuard op t p q x y).run P w = .ok () w := by
  unfold seqv at h
  split at h
  · rename_i xs ys
    split at h
    · rename_i n e hu
      split at h
      · rename_i k i hue hi
        split at h
        · rename_i hc
          obtain ⟨c1, c2, c3, c4, c5, c6⟩ := hc
          simp only [Option.some.injEq] at h; subst h
          refine ⟨?_, fun op p q => ?_⟩
          · show (Op.equalIn (9999 + 1) t (.agg xs) (.agg ys)).run P w = _
            rw [run_equalIn_array w 9999 xs ys hu hi]
            exact eqItems_run hue hi c1 xs ys c4 c5 9998 w _ (fun i hi => by rw [List.mem_range] at hi; omega)
          · unfold eqGuard
            cases op <;> simp [c6]
        · simp at h
      · simp at h
    · simp at h
  · simp at h
theorem seqO_run {P : Program} {o : Oper} {ev : Operand → Value} {v : Value} (h : seqO P o ev = some v) (w : World) : (execOp ev o).run P w = .ok (.value v) w ∧ flat v = true := by
  unfold seqO at h
  split at h
  · rename_i t x y ty ho
    cases hs : seqv P t (ev x) (ev y) with
    | none => simp [hs] at h
    | some b =>
      simp only [hs, Option.map_some, Option.some.injEq] at h; subst h
      obtain ⟨h1, h2⟩ := seqv_run hs w
      refine ⟨?_, rfl⟩
      have hb : binOp .eql t (ev x) (ev y) = (do pure (.bool (← Op.equal t (ev x) (ev y)))) := by
        unfold seqv at hs
        split at hs
        · rename_i e1 e2; rw [e1, e2]; rfl
        · simp at hs
      simp only [execOp, ho, Sem.run_bind, h2, Result.andThen_ok, hb, h1, Sem.run_pure]
  · rename_i t x y ty ho
    cases hs : seqv P t (ev x) (ev y) with
    | none => simp [hs] at h
    | some b =>
      simp only [hs, Option.map_some, Option.some.injEq] at h; subst h
      obtain ⟨h1, h2⟩ := seqv_run hs w
      refine ⟨?_, rfl⟩
      have hb : binOp .neq t (ev x) (ev y) = (do pure (.bool (!(← Op.equal t (ev x) (ev y))))) := by
        unfold seqv at hs
        split at hs
        · rename_i e1 e2; rw [e1, e2]; rfl
        · simp at hs
      simp only [execOp, ho, Sem.run_bind, h2, Result.andThen_ok, hb, h1, Sem.run_pure]
  · simp at h
/-- A shift by a count that is not plain. -/
def sshift (sym : Bool) (o : Oper) (ev : Operand → Value) : Option (List Prop × Value) :=
  match sym, o.op with
  | true, .binOp .shl _ x y _ => match ev x, ev y with
    | .int k a, .int _ c => some ([0 ≤ c], .int k (k.wrap (a * 2 ^ min c.toNat k.bits)))
    | _, _ => none
  | true, .binOp .shr _ x y _ => match ev x, ev y with
    | .int k a, .int _ c => some ([0 ≤ c], .int k (a.fdiv (2 ^ min c.toNat k.bits)))
    | _, _ => none
  | _, _ => none
theorem sshift_run {P : Program} {sym : Bool} {o : Oper} {ev : Operand → Value} {ps : List Prop} {v : Value} (h : sshift sym o ev = some (ps, v)) (hp : ∀ p ∈ ps, p) (w : World) : (execOp ev o).run P w = .ok (.value v) w ∧ flat v = true := by
  unfold sshift at h
  split at h
  · rename_i t x y ty ho
    split at h
    · rename_i k a k' c hx hy
      simp only [Option.some.injEq, Prod.mk.injEq] at h
      obtain ⟨rfl, rfl⟩ := h
      have hc : ¬ c < 0 := by have := hp _ (List.mem_singleton.2 rfl); omega
      refine ⟨?_, rfl⟩
      simp only [execOp, ho, hx, hy, Sem.run_bind, eqGuard]
      simp [binOp, Op.shift, hc]
    · simp at h
  · rename_i t x y ty ho
    split at h
    · rename_i k a k' c hx hy
      simp only [Option.some.injEq, Prod.mk.injEq] at h
      obtain ⟨rfl, rfl⟩ := h
      have hc : ¬ c < 0 := by have := hp _ (List.mem_singleton.2 rfl); omega
      refine ⟨?_, rfl⟩
      simp only [execOp, ho, hx, hy, Sem.run_bind, eqGuard]
      simp [binOp, Op.shift, hc]
    · simp at h
  · simp at h
def spure (P : Program) (sym : Bool) (o : Oper) (ev : Operand → Value) (m : Mem) : Option (List Prop × Value × Mem) :=
  match o.op with
  | .select .. => none
  | op =>
    if op.operands.toList.all (flatX ev) then
      match sshift sym o ev with
      | some (ps, v) => some (ps, v, m)
      | none => match seqO P o ev with
        | some v => some ([], v, m)
        | none => match pureRun P (execOp ev o) with
          | some (.value v) => if flat v then some ([], v, m) else none
          | _ => none
    else none
def within (sym : Bool) (n : Int) (len : Nat) : Option (List Prop) :=
  if sym then some [0 ≤ n ∧ n < len] else if 0 ≤ n ∧ n < len then some [] else none
theorem within_spec {sym : Bool} {n : Int} {len : Nat} {ps : List Prop} (h : within sym n len = some ps) (hp : ∀ p ∈ ps, p) : 0 ≤ n ∧ n < len := by
  unfold within at h
  cases sym
  · simp only [Bool.false_eq_true, if_false] at h
    split at h
    · assumption
    · simp at h
  · simp only [if_true, Option.some.injEq] at h
    subst h
    exact hp _ (by simp)
def sindex (P : Program) (sym : Bool) (t : TypeId) (x i : Value) : Option (List Prop × Value) :=
  match P.underlying t, x, i with
  | some (.array len elem), .pointer (some ⟨b, o, none⟩), .int _ n =>
    match within sym n len, P.info? elem with
    | some ps, some e => some (ps, .pointer (some ⟨b, o + n.toNat * e.size, none⟩))
    | _, _ => none
  | some (.slice elem), .slice (some ⟨b, o, none⟩) len _, .int _ n =>
    match within sym n len, P.info? elem with
    | some ps, some e => some (ps, .pointer (some ⟨b, o + n.toNat * e.size, none⟩))
    | _, _ => none
  | _, _, _ => none
/-- A field's address. -/
def sfield (P : Program) (t : TypeId) (x : Value) (i : Nat) : Option Value :=
  match P.underlying t, x with
  | some (.struct fs), .pointer (some ⟨b, o, none⟩) => match fs[i]? with
    | some f => match P.info? f.type with
      | some e => if e.size = 0 then none else some (.pointer (some ⟨b, o + f.offset, none⟩))
      | none => none
    | none => none
  | _, _ => none
def sslice (P : Program) (t : TypeId) (x : Value) (lo hi : Option Value) : Option Value :=
  match P.underlying t, x with
  | some (.array n elem), .pointer (some ⟨b, o, none⟩) =>
    match pureRun P (Instr.sliceBounds false n n lo hi none), P.info? elem with
    | some (l, h, m), some e => some (.slice (some ⟨b, if m = l then o else o + l * e.size, none⟩) (h - l) (m - l))
    | _, _ => none
  | some (.slice elem), .slice (some ⟨b, o, none⟩) len cap =>
    match pureRun P (Instr.sliceBounds true len cap lo hi none), P.info? elem with
    | some (l, h, m), some e => some (.slice (some ⟨b, if m = l then o else o + l * e.size, none⟩) (h - l) (m - l))
    | _, _ => none
  | _, _ => none
/-- A bound of a slice, that is not plain. -/
def symB (x : Option Value) (dflt most : Nat) : Option (List Prop × Nat) :=
  match x with
  | none => some ([], dflt)
  | some (.int _ n) => some ([0 ≤ n ∧ n ≤ most], n.toNat)
  | _ => none
def symBounds (len cap : Nat) (lo hi : Option Value) : Option (List Prop × Nat × Nat) :=
  match symB hi len cap with
  | some (ps, h) => match symB lo 0 h with
    | some (qs, l) => some (ps ++ qs, l, h)
    | none => none
  | none => none
theorem symBounds_run {P : Program} {sl : Bool} {len cap l h : Nat} {lo hi : Option Value} {ps : List Prop} (hb : symBounds len cap lo hi = some (ps, l, h)) (hp : ∀ p ∈ ps, p) (w : World) :
    (Instr.sliceBounds sl len cap lo hi none).run P w = .ok (l, h, cap) w := by
  unfold symBounds at hb
  split at hb
  · rename_i qs h' hh
    split at hb
    · rename_i ts l' hl
      simp only [Option.some.injEq, Prod.mk.injEq] at hb
      obtain ⟨rfl, rfl, rfl⟩ := hb
      unfold symB at hh hl
      split at hh
      · simp only [Option.some.injEq, Prod.mk.injEq] at hh
        obtain ⟨rfl, rfl⟩ := hh
        split at hl
        · simp only [Option.some.injEq, Prod.mk.injEq] at hl
          obtain ⟨rfl, rfl⟩ := hl
          simp [Instr.sliceBounds]
        · rename_i k n
          simp only [Option.some.injEq, Prod.mk.injEq] at hl
          obtain ⟨rfl, rfl⟩ := hl
          have h1 := hp _ (List.mem_append_right _ (List.mem_singleton.2 rfl))
          simp [Instr.sliceBounds, Instr.sliceBound, asIntOf, h1]
        · simp at hl
      · rename_i k n
        simp only [Option.some.injEq, Prod.mk.injEq] at hh
        obtain ⟨rfl, rfl⟩ := hh
        have h0 := hp _ (List.mem_append_left _ (List.mem_singleton.2 rfl))
        split at hl
        · simp only [Option.some.injEq, Prod.mk.injEq] at hl
          obtain ⟨rfl, rfl⟩ := hl
          simp [Instr.sliceBounds, Instr.sliceBound, asIntOf, h0]
        · rename_i k' n'
          simp only [Option.some.injEq, Prod.mk.injEq] at hl
          obtain ⟨rfl, rfl⟩ := hl
          have h1 := hp _ (List.mem_append_right _ (List.mem_singleton.2 rfl))
          simp only [Instr.sliceBounds, Instr.sliceBound, asIntOf, Sem.run_bind, Sem.run_pure, Result.andThen_ok, if_pos h0, if_pos h1]
        · simp at hl
      · simp at hh
    · simp at hb
  · simp at hb
/-- A slice whose bounds, or length, are not plain. -/
def ssliceX (P : Program) (sym : Bool) (t : TypeId) (x : Value) (lo hi : Option Value) : Option (List Prop × Value) :=
  match sym, P.underlying t, x with
  | true, some (.array n elem), .pointer (some ⟨b, o, none⟩) =>
    match symBounds n n lo hi, P.info? elem with
    | some (ps, l, h), some e => some (ps, .slice (some ⟨b, if n = l then o else o + l * e.size, none⟩) (h - l) (n - l))
    | _, _ => none
  | true, some (.slice elem), .slice (some ⟨b, o, none⟩) len cap =>
    match symBounds len cap lo hi, P.info? elem with
    | some (ps, l, h), some e => some (ps, .slice (some ⟨b, if cap = l then o else o + l * e.size, none⟩) (h - l) (cap - l))
    | _, _ => none
  | true, some (.slice elem), .slice none len cap =>
    match symBounds len cap lo hi, P.info? elem with
    | some (ps, l, h), some _ => some (ps, .slice none (h - l) (cap - l))
    | _, _ => none
  | _, _, _ => (sslice P t x lo hi).map fun v => ([], v)
/-- len, copy. -/
def slen (P : Program) (t : TypeId) (x : Value) : Option Value :=
  match P.underlying t, x with
  | some .string, .string s => some (goInt s.size)
  | some (.array n _), _ => some (goInt n)
  | some (.slice _), .slice _ n _ => some (goInt n)
  | _, _ => none
def scopy (P : Program) (dT : TypeId) (d s : Value) (m : Mem) : Option (Value × Mem) :=
  match P.underlying dT, d, s with
  | some (.slice elem), .slice (some ⟨b, o, none⟩) dl _, .slice (some ⟨b', o', none⟩) sl _ =>
    match P.info? elem, getB m b, getB m b' with
    | some e, some B, some B' =>
      if e.size = 1 ∧ o + Nat.min sl dl ≤ B.cells.length ∧ o' + Nat.min sl dl ≤ B'.cells.length then
        some (goInt (Nat.min sl dl), m.set b (some ⟨setL B.cells o ((B'.cells.drop o').take (Nat.min sl dl)), B.ty⟩))
      else none
    | _, _, _ => none
  | _, _, _ => none
/-- A copy of a length that is not plain. -/
def scopyX (P : Program) (sym : Bool) (dT : TypeId) (d s : Value) (m : Mem) : Option (List Prop × Value × Mem) :=
  match sym, P.underlying dT, d, s with
  | true, some (.slice elem), .slice (some ⟨b, o, none⟩) dl _, .slice (some ⟨b', o', none⟩) sl _ =>
    match P.info? elem, getB m b, getB m b' with
    | some e, some B, some B' => if e.size = 1 then
        some ([o + Nat.min sl dl ≤ B.cells.length ∧ o' + Nat.min sl dl ≤ B'.cells.length], goInt (Nat.min sl dl), m.set b (some ⟨setL B.cells o ((B'.cells.drop o').take (Nat.min sl dl)), B.ty⟩))
      else none
    | _, _, _ => none
  | _, _, _, _ => (scopy P dT d s m).map fun q => ([], q.1, q.2)
theorem scopyX_spec {P : Program} {sym : Bool} {dT : TypeId} {d s v : Value} {m m' : Mem} {ps : List Prop} (h : scopyX P sym dT d s m = some (ps, v, m')) (hp : ∀ p ∈ ps, p) : scopy P dT d s m = some (v, m') := by
  unfold scopyX at h
  split at h
  · rename_i elem b o dl dc b' o' sl sc hu
    split at h
    · rename_i e B B' he hB hB'
      split at h
      · rename_i h1
        simp only [Option.some.injEq, Prod.mk.injEq] at h
        obtain ⟨rfl, rfl, rfl⟩ := h
        have := hp _ (List.mem_singleton.2 rfl)
        unfold scopy
        simp only [hu, he, hB, hB', if_pos (show e.size = 1 ∧ o + Nat.min sl dl ≤ B.cells.length ∧ o' + Nat.min sl dl ≤ B'.cells.length from ⟨h1, this⟩)]
      · simp at h
    · simp at h
  · simp only [Option.map_eq_some_iff] at h
    obtain ⟨q, hq, hq2⟩ := h
    simp only [Prod.mk.injEq] at hq2
    rw [← hq2.2.1, ← hq2.2.2]
    exact hq
/-- One operation. -/
def sop (P : Program) (X : Cx) (id : Nat) (o : Oper) (ev : Operand → Value) (m : Mem) : Option (List Prop × Value × Mem) :=
  match o.op with
  | .move x => if okX X.gl ev x then some ([], ev x, m) else none
  | .assign x => if okX X.gl ev x then some ([], ev x, m) else none
  | .alloc t =>
    match P.info? t, m[id]? with
    | some i, some none => match i.zero with
      | some z => if flat2 z then some ([], .pointer (some ⟨id, 0, none⟩), m.set id (some ⟨z.cells.toList, t⟩)) else none
      | none => none
    | _, _ => none
  | .box t x => match m[id]? with
    | some none => if okX X.gl ev x && notTup (ev x) then some ([], .pointer (some ⟨id, 0, none⟩), m.set id (some ⟨(ev x).cells.toList, t⟩)) else none
    | _ => none
  | .load t x =>
    if okX X.gl ev x then
      match ev x with
      | .pointer (some ⟨b, o, none⟩) => (sloadX P X.sym t b o m).map fun q => (q.1, q.2, m)
      | _ => none
    else none
  | .store t x y =>
    if okX X.gl ev x && okX X.gl ev y && notTup (ev y) then
      match ev x with
      | .pointer (some ⟨b, o, none⟩) => (sstore P t b o (ev y) m).map fun m' => ([], undef, m')
      | _ => none
    else none
  | .indexAddr t x i => if okX X.gl ev x && flatX ev i then (sindex P X.sym t (ev x) (ev i)).map fun q => (q.1, q.2, m) else none
  | .fieldAddr t x i => if okX X.gl ev x then (sfield P t (ev x) i).map fun v => ([], v, m) else none
  | .nilCheck x => if okX X.gl ev x then
      match ev x with
      | .pointer (some p) => some ([], .pointer (some p), m)
      | _ => spure P X.sym o ev m
    else none
  | .slice t x lo hi none => if okX X.gl ev x && lo.all (flatX ev) && hi.all (flatX ev) then (ssliceX P X.sym t (ev x) (lo.map ev) (hi.map ev)).map fun q => (q.1, q.2, m) else none
  | .call ⟨.value (.func f), args, _⟩ => if args.toList.all (okX X.gl ev) then
      if X.wf f then X.W f (args.toList.map ev) m else (X.C f (args.toList.map ev) m).map fun q => (q.1, q.2, m)
    else none
  | .call ⟨.builtin .copy, args, ts⟩ => match args.toList, ts.toList with
    | [x, y], [dT, _] => if okX X.gl ev x && okX X.gl ev y then scopyX P X.sym dT (ev x) (ev y) m else none
    | _, _ => none
  | .call ⟨.builtin .len, args, ts⟩ => match args.toList, ts.toList with
    | [x], [t] => if okX X.gl ev x then (slen P t (ev x)).map fun v => ([], v, m) else none
    | _, _ => none
  | _ => spure P X.sym o ev m

/-- A call in the world: an extern's answer, or a function's body. -/
def CallOK (P : Program) (f : FuncId) (args : Array Value) (w : World) (R : Value → World → Prop) : Prop :=
  (∃ v w', (callFunc f args).run P w = .ok (.value v) w' ∧ R v w') ∨
  ((callFunc f args).run P w = .ok (.enter f args) w ∧ Calls P f args w fun e w' => ∃ v, e = .returned v ∧ R v w')
structure Cx.Ok (X : Cx) (P : Program) : Prop where
  wcall : ∀ f args m ps v m', X.W f args m = some (ps, v, m') → (∀ p ∈ ps, p) → ∀ r w args', Rel r m w → (∀ g ∈ X.gl, r g = some g) → trL (tr r) args = some args' → CallOK P f args'.toArray w fun v' w' => tr r v = some v' ∧ Rel r m' w' ∧ Fr r w w'
  call : ∀ f args m ps v, X.C f args m = some (ps, v) → (∀ p ∈ ps, p) → ∀ r w args', Rel r m w → (∀ g ∈ X.gl, r g = some g) → trL (tr r) args = some args' → CallOK P f args'.toArray w fun v' w' => tr r v = some v' ∧ Below w.heap.size w w'
  pure : ∀ f, X.pf f = true → ∀ args m m', X.C f args m = X.C f args m'
  more : ∀ f args (m : Mem) q i B, m[i]? = some none → X.C f args m = some q → X.C f args (m.set i (some B)) = some q

/-- The small state and the world's, by the renaming r; since (r₀, w₀). -/
structure Sim (gl : List Nat) (r₀ : Ren) (w₀ : World) (a : Act) (m : Mem) (A : Act) (w : World) (r : Ren) : Prop where
  rel : Rel r m w
  ext : Le r₀ r ∧ ∀ b c, r b = some c → r₀ b = some c ∨ w₀.heap.size ≤ c
  fr : Fr r₀ w₀ w
  size : A.tmps.size = a.tmps.size
  tmps : ∀ t, a.eval (.tmp t) = poison ∨ tr r (a.eval (.tmp t)) = some (A.eval (.tmp t))
  defers : A.defers = a.defers
  glob : ∀ g ∈ gl, r g = some g
variable {gl : List Nat} {r₀ r : Ren} {w₀ w : World} {a A : Act} {m : Mem} {P : Program} {X : Cx}
theorem tr_undef (r : Ren) : tr r undef = some undef := rfl
theorem Sim.eval (S : Sim gl r₀ w₀ a m A w r) {x : Operand} (h : okX gl a.eval x = true) : tr r (a.eval x) = some (A.eval x) := by
  cases x with
  | tmp t =>
    rcases S.tmps t with e | e
    · exact absurd e (good_ne h)
    · exact e
  | const v => exact tr_flat r v h
  | global g =>
    simp only [okX, Bool.and_eq_true] at h
    have := S.glob g (by simpa using h.1)
    simp [Act.eval, tr, tr2, tr1, this]
  | func f => simp [okX] at h
theorem good_of_flat {v : Value} (h : flat v = true) : good v = true := by
  unfold good
  split
  · simp [flat, flat2, flat1] at h
  · rfl
theorem okX_of_flatX {gl : List Nat} {ev : Operand → Value} {x : Operand} (h : flatX ev x = true) : okX gl ev x = true := by
  cases x with
  | tmp t => exact good_of_flat h
  | const v => simp only [flatX, Bool.and_eq_true] at h; exact h.1
  | global g => simp [flatX] at h
  | func f => simp [flatX] at h
theorem Sim.evalFlat (S : Sim gl r₀ w₀ a m A w r) {x : Operand} (h : flatX a.eval x = true) : A.eval x = a.eval x := by
  have h1 := S.eval (okX_of_flatX (gl := gl) h)
  cases x with
  | tmp t => simp only [flatX] at h; rw [tr_flat r _ h] at h1; exact (Option.some.inj h1).symm
  | const v => rfl
  | global g => simp [flatX] at h
  | func f => simp [flatX] at h
theorem Sim.evals (S : Sim gl r₀ w₀ a m A w r) : ∀ {xs : List Operand}, xs.all (okX gl a.eval) = true → trL (tr r) (xs.map a.eval) = some (xs.map A.eval)
  | [], _ => rfl
  | x :: xs, h => by
    simp only [List.all_cons, Bool.and_eq_true] at h
    exact trL_mk (S.eval h.1) (Sim.evals S h.2)
theorem eval_put (a : Act) (d : Nat) (v : Value) (t : Nat) : (a.put (some d) v).eval (.tmp t) = if d = t then (if d < a.tmps.size then v else undef) else a.eval (.tmp t) := by
  simp only [Act.put, Act.eval, Array.getD_eq_getD_getElem?, Array.getElem?_setIfInBounds]
  by_cases h : d = t
  · subst h
    rw [if_pos rfl, if_pos rfl]
    by_cases hl : d < a.tmps.size
    · simp [hl]
    · simp [hl]
  · rw [if_neg h, if_neg h]
/-- The step's end: the value goes into its slot. -/
theorem Sim.put (S : Sim gl r₀ w₀ a m A w r) {r' : Ren} {m' : Mem} {w' : World} {v v' : Value} (hr : Rel r' m' w') (hl : Le r r') (hn : ∀ b c, r' b = some c → r b = some c ∨ w₀.heap.size ≤ c) (hf : Fr r₀ w₀ w')
    (hv : tr r' v = some v') (d : Option Tmp) : Sim gl r₀ w₀ (a.put d v) m' (A.put d v') w' r' := by
  obtain ⟨e1, e2⟩ := S.ext
  refine ⟨hr, ⟨e1.trans hl, fun b c h => ?_⟩, hf, ?_, fun t => ?_, ?_, fun g hg => hl g g (S.glob g hg)⟩
  · rcases hn b c h with h | h
    · exact e2 b c h
    · exact .inr h
  · cases d <;> simp [Act.put, S.size]
  · have old : a.eval (.tmp t) = poison ∨ tr r' (a.eval (.tmp t)) = some (A.eval (.tmp t)) := (S.tmps t).imp id (tr_more hl _ _)
    cases d with
    | none => exact old
    | some d =>
      rw [eval_put, eval_put, S.size]
      by_cases h : d = t
      · rw [if_pos h, if_pos h]
        split
        · exact .inr hv
        · exact .inr (tr_undef _)
      · rw [if_neg h, if_neg h]; exact old
  · cases d <;> exact S.defers
theorem Sim.put0 (S : Sim gl r₀ w₀ a m A w r) {v v' : Value} (hv : tr r v = some v') (d : Option Tmp) : Sim gl r₀ w₀ (a.put d v) m (A.put d v') w r :=
  S.put S.rel (Le.refl _) (fun _ _ h => .inl h) S.fr hv d
/-- What is known of a slot may be let go. -/
theorem Sim.forget (S : Sim gl r₀ w₀ a m A w r) (t : Nat) : Sim gl r₀ w₀ (a.put (some t) poison) m A w r := by
  refine ⟨S.rel, S.ext, S.fr, by simp [Act.put, S.size], fun k => ?_, S.defers, S.glob⟩
  rw [eval_put]
  by_cases h : t = k
  · rw [if_pos h]
    by_cases hl : t < a.tmps.size
    · rw [if_pos hl]; exact .inl rfl
    · rw [if_neg hl]
      refine .inr ?_
      subst h
      have : A.eval (.tmp t) = undef := by simp [Act.eval, Array.getElem?_eq_none (show A.tmps.size ≤ t by rw [S.size]; omega)]
      rw [this]; exact tr_undef _
  · rw [if_neg h]; exact S.tmps k
theorem Sim.reserve (S : Sim gl r₀ w₀ a m A w r) (k : Nat) : Sim gl r₀ w₀ a (m ++ List.replicate k none) A w r :=
  ⟨S.rel.reserve k, S.ext, S.fr, S.size, S.tmps, S.defers, S.glob⟩
theorem wp_of_run {o : Oper} {v : Value} {w' : World} {K : Act → World → Prop} {Q : Exit → Act → World → Prop} (hr : (execOp A.eval o).run P w = .ok (.value v) w') (h : K (A.put o.dst v) w') : o.wp P A w K Q := by
  unfold Oper.wp; rw [hr]; exact h
theorem wp_of_skip {o : Oper} {w' : World} {K : Act → World → Prop} {Q : Exit → Act → World → Prop} (hr : (execOp A.eval o).run P w = .ok .skip w') (h : K (A.put o.dst undef) w') : o.wp P A w K Q := by
  unfold Oper.wp; rw [hr]; exact h
theorem tr_ptr {v : Value} {b o : Nat} (h : tr r (.pointer (some ⟨b, o, none⟩)) = some v) : ∃ c, r b = some c ∧ v = .pointer (some ⟨c, o, none⟩) := by
  simp only [tr, tr2, tr1] at h
  cases hb : r b with
  | none => simp [hb] at h
  | some c => simp only [hb, Option.map_some, Option.some.injEq] at h; exact ⟨c, rfl, h.symm⟩
theorem tr_slice {v : Value} {b o l k : Nat} (h : tr r (.slice (some ⟨b, o, none⟩) l k) = some v) : ∃ c, r b = some c ∧ v = .slice (some ⟨c, o, none⟩) l k := by
  simp only [tr, tr2, tr1] at h
  cases hb : r b with
  | none => simp [hb] at h
  | some c => simp only [hb, Option.map_some, Option.some.injEq] at h; exact ⟨c, rfl, h.symm⟩
theorem tr_of_ptr {b c o : Nat} (h : r b = some c) : tr r (.pointer (some ⟨b, o, none⟩)) = some (.pointer (some ⟨c, o, none⟩)) := by
  simp [tr, tr2, tr1, h]
theorem tr_of_slice {b c o l k : Nat} (h : r b = some c) : tr r (.slice (some ⟨b, o, none⟩) l k) = some (.slice (some ⟨c, o, none⟩) l k) := by
  simp [tr, tr2, tr1, h]
theorem tr_int {v : Value} {k : IntKind} {n : Int} (h : tr r (.int k n) = some v) : v = .int k n := by
  simp [tr, tr2, tr1, flat1] at h; exact h.symm
theorem tr_tr2 {v v' : Value} (hn : notTup v = true) (h : tr r v = some v') : tr2 r v = some v' := by
  unfold tr at h
  split at h
  · simp [notTup] at hn
  · exact h
theorem tr_of_tr2 {v v' : Value} (h : tr2 r v = some v') : tr r v = some v' := by
  unfold tr
  split
  · simp [tr2, tr1, flat1] at h
  · exact h
theorem tr2_of_tr1 {v v' : Value} (h : tr1 r v = some v') : tr2 r v = some v' := by
  unfold tr2
  split
  · simp [tr1, flat1] at h
  · exact h
/-- The load. -/
theorem load_run (R : Rel r m w) {t b c o : Nat} {v : Value} (hb : r b = some c) (h : sload P t b o m = some v) :
    ∃ v', tr r v = some v' ∧ (loadVar t ⟨c, o, none⟩).run P w = .ok v' w := by
  unfold sload at h
  split at h
  · rename_i B n hB hT
    split at h
    · rename_i hlen
      simp only [Option.some.injEq] at h; subst h
      obtain ⟨c', cs, h1, h2, h3⟩ := R.cells b B hB
      rw [hb] at h1; cases h1
      have e2 := trL_take n (trL_drop o h2)
      refine ⟨.agg ((cs.drop o).take n).toArray, tr_of_tr2 (by simp [tr2, e2]), ?_⟩
      unfold rowT at hT
      split at hT
      · rename_i d i hu hi
        simp only [Option.some.injEq, Prod.mk.injEq] at hT
        have hl := trL_len h2
        refine run_loadVar_mid w c o t _ d ?_ hu hT.1 ?_
        · intro j u hu
          rw [List.getElem?_take] at hu
          split at hu
          · rw [List.getElem?_drop] at hu
            simp [World.cell?, h3, hu]
          · simp at hu
        · rw [hi]; simp [hT.2]; omega
      · simp at hT
    · simp at h
  · rename_i B n hB hT
    obtain ⟨c', cs, h1, h2, h3⟩ := R.cells b B hB
    rw [hb] at h1; cases h1
    obtain ⟨v', h4, h5⟩ := trL_get h2 h
    refine ⟨v', tr_of_tr2 (tr2_of_tr1 h4), ?_⟩
    unfold rowT at hT
    split at hT
    · rename_i d i hu hi
      simp only [Option.some.injEq, Prod.mk.injEq] at hT
      have hagg : (isAgg t).run P w = .ok false w := by
        unfold isAgg
        rw [Sem.run_bind, run_underlying hu w]
        cases d <;> simp_all
      have hc : w.cell? ⟨c, o, none⟩ = some v' := by simp [World.cell?, h3, h5]
      simp [loadVar, hagg, hc]
    · simp at hT
  · simp at h
/-- The store. -/
theorem store_run (R : Rel r m w) {t b c o : Nat} {v v' : Value} {m' : Mem} (hb : r b = some c) (hv : tr2 r v = some v') (h : sstore P t b o v m = some m') :
    (storeVar t ⟨c, o, none⟩ v').run P w = .ok () (w.setCells c o v'.cells.toList) ∧ Rel r m' (w.setCells c o v'.cells.toList) := by
  unfold sstore at h
  split at h
  · rename_i B d0 n hB hT
    split at h
    · rename_i hlen
      simp only [Option.some.injEq] at h; subst h
      have hcs := tr2_cells hv
      have hput : putL B.cells o v.cells.toList = setL B.cells o v.cells.toList := (setL_put _ _ _ (by rw [Array.length_toList]; omega)).symm
      rw [hput]
      refine ⟨?_, R.store hB hb o hcs⟩
      obtain ⟨c', cs, h1, h2, h3⟩ := R.cells b B hB
      rw [hb] at h1; cases h1
      have hl := trL_len h2
      have hl' := trL_len hcs
      simp only [Array.length_toList] at hl'
      unfold rowT at hT
      split at hT
      · rename_i d i hu hi
        simp only [Option.some.injEq, Prod.mk.injEq] at hT
        have hst := run_storeCells_cells (P := P) c o v'.cells.toList 0 w (fun j hj => by
            simp only [Array.length_toList] at hj
            have : o + 0 + j < cs.length := by omega
            simp only [World.cell?, h3, Option.isSome_none, Bool.false_eq_true, if_false]
            simp only [List.getElem?_toArray, List.getElem?_eq_getElem this, Option.isSome_some]) (fun j hj => by simp [World.frozen?, h3])
          (fun u hu => by obtain ⟨x, hx⟩ := trL_mem hcs u hu; exact tr1_one hx)
        simp only [Nat.add_zero] at hst
        have hs : v'.cells.size = i.size := by omega
        simp [storeVar, sizeOf, typeInfo, hi, hs, hst]
      · simp at hT
    · simp at h
  · simp at h
theorem fr_setCells {r₀ : Ren} {w₀ w : World} (h : Fr r₀ w₀ w) {c : Nat} (hc : (∃ b : Nat, r₀ b = some c) ∨ w₀.heap.size ≤ c) (o : Nat) (vs : List Value) : Fr r₀ w₀ (w.setCells c o vs) := by
  obtain ⟨e1, e2, e3⟩ := rest_setCells c vs o w
  refine ⟨e1.trans h.os, e2.trans h.tape, e3.trans h.output, by rw [size_setCellsM]; exact h.size, fun k hk hn => ?_⟩
  rw [heap_setCells_past2 c k (fun e => by subst e; rcases hc with ⟨b, hc⟩ | hc; exact hn b hc; omega)]
  exact h.block k hk hn
theorem fr_alloc {r₀ : Ren} {w₀ w : World} (h : Fr r₀ w₀ w) (o : Obj) : Fr r₀ w₀ (w.alloc o) :=
  ⟨h.os, h.tape, h.output, by have := h.size; simp; omega, fun k hk hn => by rw [Below.heap_alloc _ _ _ (by have := h.size; omega)]; exact h.block k hk hn⟩
theorem fr_below {r₀ : Ren} {w₀ w w' : World} (h : Fr r₀ w₀ w) (hb : Below w.heap.size w w') : Fr r₀ w₀ w' :=
  ⟨hb.os.trans h.os, hb.tape.trans h.tape, hb.output.trans h.output, Nat.le_trans h.size hb.size, fun k hk hn => by rw [hb.block k (by have := h.size; omega)]; exact h.block k hk hn⟩
theorem Sim.frTrans (S : Sim gl r₀ w₀ a m A w r) {w' : World} (h : Fr r w w') : Fr r₀ w₀ w' :=
  ⟨h.os.trans S.fr.os, h.tape.trans S.fr.tape, h.output.trans S.fr.output, Nat.le_trans S.fr.size h.size, fun k hk hn => by
    rw [h.block k (by have := S.fr.size; omega) (fun b e => by
      rcases S.ext.2 b k e with h1 | h1
      · exact hn b h1
      · omega)]
    exact S.fr.block k hk hn⟩
theorem Sim.home (S : Sim gl r₀ w₀ a m A w r) {b c : Nat} (h : r b = some c) : (∃ b : Nat, r₀ b = some c) ∨ w₀.heap.size ≤ c :=
  (S.ext.2 b c h).imp (fun h => ⟨b, h⟩) id
theorem spure_wp {sym : Bool} {o : Oper} {ps : List Prop} {v : Value} {m' : Mem} (h : spure P sym o a.eval m = some (ps, v, m')) (hp : ∀ p ∈ ps, p) (S : Sim gl r₀ w₀ a m A w r) {K : Act → World → Prop} {Q : Exit → Act → World → Prop}
    (hK : ∀ A' w' r', Sim gl r₀ w₀ (a.put o.dst v) m' A' w' r' → K A' w') : o.wp P A w K Q := by
  unfold spure at h
  split at h
  · simp at h
  · rename_i op hns
    split at h
    · rename_i hall
      have he : execOp A.eval o = execOp a.eval o := execOp_congr o (fun cs b e => hns cs b e) (fun x hx => S.evalFlat (List.all_eq_true.1 hall x (by simpa using hx)))
      split at h
      · rename_i qs v' hq
        simp only [Option.some.injEq, Prod.mk.injEq] at h
        obtain ⟨rfl, rfl, rfl⟩ := h
        obtain ⟨q1, q2⟩ := sshift_run (P := P) hq hp w
        exact wp_of_run (by rw [he]; exact q1) (hK _ _ _ (S.put0 (tr_flat r _ q2) _))
      · split at h
        · rename_i v' hq
          simp only [Option.some.injEq, Prod.mk.injEq] at h
          obtain ⟨rfl, rfl, rfl⟩ := h
          obtain ⟨q1, q2⟩ := seqO_run hq w
          exact wp_of_run (by rw [he]; exact q1) (hK _ _ _ (S.put0 (tr_flat r _ q2) _))
        · split at h
          · rename_i v' hpr
            split at h
            · rename_i hf
              simp only [Option.some.injEq, Prod.mk.injEq] at h
              obtain ⟨rfl, rfl, rfl⟩ := h
              exact wp_of_run (by rw [he]; exact pureRun_run _ _ hpr w) (hK _ _ _ (S.put0 (tr_flat r _ hf) _))
            · simp at h
          · simp at h
    · simp at h
end Go.Proofs.YtnmgpkpdjpjbgaaDoor
/- Each operation of the small memory is the world's. -/
namespace Go.Proofs.YtnmgpkpdjpjbgaaDoor
open Go Go.RowKit
set_option linter.unusedSimpArgs false
set_option linter.unusedVariables false
variable {gl : List Nat} {r₀ r : Ren} {w₀ w : World} {a A : Act} {m : Mem} {P : Program} {X : Cx}

theorem index_run {sym : Bool} {t : TypeId} {x x' i v : Value} {ps : List Prop} (hx : tr r x = some x') (h : sindex P sym t x i = some (ps, v)) (hp : ∀ p ∈ ps, p) :
    ∃ v', tr r v = some v' ∧ ∀ w, (Instr.indexAt t x' i).run P w = .ok v' w := by
  unfold sindex at h
  split at h
  · rename_i len elem b o k n hu
    obtain ⟨c, hb, rfl⟩ := tr_ptr hx
    split at h
    · rename_i ps' e hn he
      simp only [Option.some.injEq, Prod.mk.injEq] at h; obtain ⟨rfl, rfl⟩ := h
      have hn := within_spec hn hp
      refine ⟨_, tr_of_ptr hb, fun w => ?_⟩
      simp [Instr.indexAt, asIntOf, run_underlying hu w, Instr.sureAddr, sizeOf, typeInfo, he, hn, Addr.add_mid]
    · simp at h
  · rename_i elem b o len cap k n hu
    obtain ⟨c, hb, rfl⟩ := tr_slice hx
    split at h
    · rename_i ps' e hn he
      simp only [Option.some.injEq, Prod.mk.injEq] at h; obtain ⟨rfl, rfl⟩ := h
      have hn := within_spec hn hp
      refine ⟨_, tr_of_ptr hb, fun w => ?_⟩
      simp [Instr.indexAt, asIntOf, run_underlying hu w, sizeOf, typeInfo, he, hn, Addr.add_mid]
    · simp at h
  · simp at h
theorem field_run {t : TypeId} {i : Nat} {x x' v : Value} (hx : tr r x = some x') (h : sfield P t x i = some v) :
    ∃ v', tr r v = some v' ∧ ∀ w, (Instr.fieldAt t x' i).run P w = .ok v' w := by
  unfold sfield at h
  split at h
  · rename_i fs b o hu
    obtain ⟨c, hb, rfl⟩ := tr_ptr hx
    split at h
    · rename_i f hf
      split at h
      · rename_i e he
        split at h
        · simp at h
        · rename_i hz
          simp only [Option.some.injEq] at h; subst h
          refine ⟨_, tr_of_ptr hb, fun w => ?_⟩
          simp [Instr.fieldAt, run_underlying hu w, hf, Instr.sureAddr, fieldPlace, sizeOf, typeInfo, he, hz, Addr.add_mid]
      · simp at h
    · simp at h
  · simp at h
theorem slice_run {t : TypeId} {x x' v : Value} {lo hi : Option Value} (hx : tr r x = some x') (h : sslice P t x lo hi = some v) :
    ∃ v', tr r v = some v' ∧ ∀ w, (Instr.sliceAt t x' lo hi none).run P w = .ok v' w := by
  unfold sslice at h
  split at h
  · rename_i n elem b o hu
    obtain ⟨c, hb, rfl⟩ := tr_ptr hx
    split at h
    · rename_i l hh mm e hp he
      simp only [Option.some.injEq] at h; subst h
      refine ⟨_, tr_of_slice hb, fun w => ?_⟩
      simp only [Instr.sliceAt, Sem.run_bind, run_underlying hu w, Result.andThen_ok, Instr.sureAddr, Sem.run_pure, pureRun_run _ _ hp w, sizeOf, typeInfo, run_program, he]
      by_cases hm : mm = l
      · simp [hm]
      · simp [hm, Addr.add_mid]
    · simp at h
  · rename_i elem b o len cap hu
    obtain ⟨c, hb, rfl⟩ := tr_slice hx
    split at h
    · rename_i l hh mm e hp he
      simp only [Option.some.injEq] at h; subst h
      refine ⟨_, tr_of_slice hb, fun w => ?_⟩
      simp only [Instr.sliceAt, Sem.run_bind, run_underlying hu w, Result.andThen_ok, Instr.slice, Sem.run_pure, pureRun_run _ _ hp w, sizeOf, typeInfo, run_program, he]
      by_cases hm : mm = l
      · simp [hm]
      · simp [hm, Addr.add_mid]
    · simp at h
  · simp at h
theorem sliceX_run {sym : Bool} {t : TypeId} {x x' v : Value} {lo hi : Option Value} {ps : List Prop} (hx : tr r x = some x') (h : ssliceX P sym t x lo hi = some (ps, v)) (hp : ∀ p ∈ ps, p) :
    ∃ v', tr r v = some v' ∧ ∀ w, (Instr.sliceAt t x' lo hi none).run P w = .ok v' w := by
  unfold ssliceX at h
  split at h
  · rename_i n elem b o hu
    obtain ⟨c, hb, rfl⟩ := tr_ptr hx
    split at h
    · rename_i qs l hh e hs he
      simp only [Option.some.injEq, Prod.mk.injEq] at h
      obtain ⟨rfl, rfl⟩ := h
      refine ⟨_, tr_of_slice hb, fun w => ?_⟩
      simp only [Instr.sliceAt, Sem.run_bind, run_underlying hu w, Result.andThen_ok, Instr.sureAddr, Sem.run_pure, symBounds_run hs hp w, sizeOf, typeInfo, run_program, he]
      by_cases hm : n = l
      · simp [hm]
      · simp [hm, Addr.add_mid]
    · simp at h
  · rename_i elem b o len cap hu
    obtain ⟨c, hb, rfl⟩ := tr_slice hx
    split at h
    · rename_i qs l hh e hs he
      simp only [Option.some.injEq, Prod.mk.injEq] at h
      obtain ⟨rfl, rfl⟩ := h
      refine ⟨_, tr_of_slice hb, fun w => ?_⟩
      simp only [Instr.sliceAt, Sem.run_bind, run_underlying hu w, Result.andThen_ok, Instr.slice, Sem.run_pure, symBounds_run hs hp w, sizeOf, typeInfo, run_program, he]
      by_cases hm : cap = l
      · simp [hm]
      · simp [hm, Addr.add_mid]
    · simp at h
  · rename_i elem len cap hu
    have hx' : x' = .slice none len cap := by simp [tr, tr2, tr1, flat1] at hx; exact hx.symm
    subst hx'
    split at h
    · rename_i qs l hh e hs he
      simp only [Option.some.injEq, Prod.mk.injEq] at h
      obtain ⟨rfl, rfl⟩ := h
      refine ⟨.slice none (hh - l) (cap - l), by simp [tr, tr2, tr1, flat1], fun w => ?_⟩
      simp only [Instr.sliceAt, Sem.run_bind, run_underlying hu w, Result.andThen_ok, Instr.slice, Sem.run_pure, symBounds_run hs hp w, sizeOf, typeInfo, run_program, he]
      by_cases hm : cap = l
      · simp [hm]
      · simp [hm]
    · simp at h
  · simp only [Option.map_eq_some_iff] at h
    obtain ⟨q, hq, hq2⟩ := h
    simp only [Prod.mk.injEq] at hq2
    rw [← hq2.2]
    exact slice_run hx hq
theorem len_run {t ty : TypeId} {x x' v : Value} (hx : tr r x = some x') (h : slen P t x = some v) : flat v = true ∧ ∀ w, (Builtin.len_ #[t] ty #[x']).run P w = .ok v w := by
  unfold slen at h
  split at h
  · rename_i s hu
    have : x' = .string s := by simp [tr, tr2, tr1, flat1] at hx; exact hx.symm
    subst this
    simp only [Option.some.injEq] at h; subst h
    exact ⟨rfl, fun w => by simp [Builtin.len_, run_underlying hu]⟩
  · rename_i n e hu
    simp only [Option.some.injEq] at h; subst h
    exact ⟨rfl, fun w => by simp [Builtin.len_, run_underlying hu]⟩
  · rename_i e p n c hu
    simp only [Option.some.injEq] at h; subst h
    have : ∃ p', x' = .slice p' n c := by
      cases p with
      | none => simp [tr, tr2, tr1, flat1] at hx; exact ⟨_, hx.symm⟩
      | some p =>
        simp only [tr, tr2, tr1] at hx
        cases hb : r p.block with
        | none => simp [hb] at hx
        | some c' => simp only [hb, Option.map_some, Option.some.injEq] at hx; exact ⟨_, hx.symm⟩
    obtain ⟨p', rfl⟩ := this
    exact ⟨rfl, fun w => by simp [Builtin.len_, run_underlying hu]⟩
  · simp at h
theorem copy_run (R : Rel r m w) {dT sT ty : TypeId} {d d' s s' v : Value} {m' : Mem} (hd : tr r d = some d') (hs : tr r s = some s') (h : scopy P dT d s m = some (v, m')) :
    flat v = true ∧ ∃ (c o : Nat) (vs : List Value), (∃ b : Nat, r b = some c) ∧ (Builtin.copy_ #[dT, sT] ty #[d', s']).run P w = .ok v (w.setCells c o vs) ∧ Rel r m' (w.setCells c o vs) := by
  unfold scopy at h
  split at h
  · rename_i elem b o dl dc b' o' sl sc hu
    split at h
    · rename_i e B B' he hB hB'
      split at h
      · rename_i hc
        obtain ⟨c1, c2, c3⟩ := hc
        simp only [Option.some.injEq, Prod.mk.injEq] at h
        obtain ⟨rfl, rfl⟩ := h
        refine ⟨rfl, ?_⟩
        obtain ⟨c, hb, rfl⟩ := tr_slice hd
        obtain ⟨c', hb', rfl⟩ := tr_slice hs
        obtain ⟨x1, cs, p1, p2, p3⟩ := R.cells b B hB
        rw [hb] at p1; cases p1
        obtain ⟨x2, cs', q1, q2, q3⟩ := R.cells b' B' hB'
        rw [hb'] at q1; cases q1
        have hv := trL_take (Nat.min sl dl) (trL_drop o' q2)
        have l1 := trL_len p2
        have l2 := trL_len q2
        have l3 : ((cs'.drop o').take (Nat.min sl dl)).length = Nat.min sl dl := by rw [List.length_take, List.length_drop]; exact Nat.min_eq_left (by omega)
        refine ⟨c, o, (cs'.drop o').take (Nat.min sl dl), ⟨b, hb⟩, ?_, R.store hB hb o hv⟩
        have := run_copy_cells (P := P) w dT sT ty elem c o dl dc ⟨c', o', none⟩ sl sc ((cs'.drop o').take (Nat.min sl dl)) hu (by rw [he]; simp [c1]) l3
          (fun j u hj => by
            rw [Addr.add_mid]
            rw [List.getElem?_take] at hj
            split at hj
            · rw [List.getElem?_drop] at hj
              simp [World.cell?, q3, hj]
            · simp at hj)
          (fun j hj => by
            rw [l3] at hj
            have : o + j < cs.length := by omega
            simp [World.cell?, p3, this]) (fun j hj => by simp [World.frozen?, p3])
          (fun u hu => by obtain ⟨z, hz⟩ := trL_mem hv u hu; exact tr1_one hz)
        rw [l3] at this
        exact this
      · simp at h
    · simp at h
  · simp at h
theorem sop_wp (hX : X.Ok P) {o : Oper} {ps : List Prop} {v : Value} {m' : Mem} {id : Nat} (h : sop P X id o a.eval m = some (ps, v, m')) (hp : ∀ p ∈ ps, p) (S : Sim X.gl r₀ w₀ a m A w r) {K : Act → World → Prop} {Q : Exit → Act → World → Prop}
    (hK : ∀ A' w' r', Sim X.gl r₀ w₀ (a.put o.dst v) m' A' w' r' → K A' w') : o.wp P A w K Q := by
  unfold sop at h
  split at h
  · rename_i x ho
    split at h
    · rename_i hx
      simp only [Option.some.injEq, Prod.mk.injEq] at h
      obtain ⟨rfl, rfl, rfl⟩ := h
      exact wp_of_run (v := A.eval x) (by simp [execOp, ho]) (hK _ _ _ (S.put0 (S.eval hx) _))
    · simp at h
  · rename_i x ho
    split at h
    · rename_i hx
      simp only [Option.some.injEq, Prod.mk.injEq] at h
      obtain ⟨rfl, rfl, rfl⟩ := h
      exact wp_of_run (v := A.eval x) (by simp [execOp, ho]) (hK _ _ _ (S.put0 (S.eval hx) _))
    · simp at h
  · rename_i t ho
    split at h
    · rename_i i hi hid
      split at h
      · rename_i z hz
        split at h
        · rename_i hf
          simp only [Option.some.injEq, Prod.mk.injEq] at h
          obtain ⟨rfl, rfl, rfl⟩ := h
          have hcs := tr2_cells (tr2_flat r z hf)
          have hn := S.rel.hole hid
          refine wp_of_run (v := .pointer (some ⟨w.heap.size, 0, none⟩)) (w' := w.alloc (.cells z.cells t)) (by simp [execOp, ho, Instr.alloc, zeroValue, typeInfo, hi, hz, newVar, newRow]) (hK _ _ (upd r id w.heap.size) (S.put ?_ (le_upd hn) (fun b c hc => ?_) (fr_alloc S.fr _) (tr_of_ptr (by simp [upd])) _))
          · simpa using S.rel.alloc hid t hcs
          · unfold upd at hc
            split at hc
            · cases hc; exact .inr S.fr.size
            · exact .inl hc
        · simp at h
      · simp at h
    · simp at h
  · rename_i t x ho
    split at h
    · rename_i hid
      split at h
      · rename_i hx
        simp only [Bool.and_eq_true] at hx
        simp only [Option.some.injEq, Prod.mk.injEq] at h
        obtain ⟨rfl, rfl, rfl⟩ := h
        have hcs := tr2_cells (tr_tr2 hx.2 (S.eval hx.1))
        have hn := S.rel.hole hid
        refine wp_of_run (v := .pointer (some ⟨w.heap.size, 0, none⟩)) (w' := w.alloc (.cells (A.eval x).cells t)) (by simp [execOp, ho, Instr.box, newVar, newRow]) (hK _ _ (upd r id w.heap.size) (S.put ?_ (le_upd hn) (fun b c hc => ?_) (fr_alloc S.fr _) (tr_of_ptr (by simp [upd])) _))
        · simpa using S.rel.alloc hid t hcs
        · unfold upd at hc
          split at hc
          · cases hc; exact .inr S.fr.size
          · exact .inl hc
      · simp at h
    · simp at h
  · rename_i t x ho
    split at h
    · rename_i hx
      split at h
      · rename_i b o' he
        cases hl : sloadX P X.sym t b o' m with
        | none => simp [hl] at h
        | some u =>
          simp only [hl, Option.map_some, Option.some.injEq, Prod.mk.injEq] at h
          obtain ⟨rfl, rfl, rfl⟩ := h
          have hl := sloadX_spec hl hp
          have h1 := S.eval hx
          rw [he] at h1
          obtain ⟨c, hb, e⟩ := tr_ptr h1
          obtain ⟨v', h2, h3⟩ := load_run S.rel hb hl
          exact wp_of_run (v := v') (by simp [execOp, ho, e, Instr.loadAt, Instr.sureAddr, h3]) (hK _ _ _ (S.put0 h2 _))
      · simp at h
    · simp at h
  · rename_i t x y ho
    split at h
    · rename_i hx
      simp only [Bool.and_eq_true] at hx
      split at h
      · rename_i b o' he
        cases hl : sstore P t b o' (a.eval y) m with
        | none => simp [hl] at h
        | some mm =>
          simp only [hl, Option.map_some, Option.some.injEq, Prod.mk.injEq] at h
          obtain ⟨rfl, rfl, rfl⟩ := h
          have h1 := S.eval hx.1.1
          rw [he] at h1
          obtain ⟨c, hb, e⟩ := tr_ptr h1
          obtain ⟨h3, h4⟩ := store_run S.rel hb (tr_tr2 hx.2 (S.eval hx.1.2)) hl
          refine wp_of_skip (w' := w.setCells c o' (A.eval y).cells.toList) (by simp [execOp, ho, e, Instr.storeAt, Instr.sureAddr, h3]) (hK _ _ r (S.put h4 (Le.refl _) (fun _ _ h => .inl h) (fr_setCells S.fr (S.home hb) _ _) (tr_undef _) _))
      · simp at h
    · simp at h
  · rename_i t x i ho
    split at h
    · rename_i hx
      simp only [Bool.and_eq_true] at hx
      cases hl : sindex P X.sym t (a.eval x) (a.eval i) with
      | none => simp [hl] at h
      | some u =>
        simp only [hl, Option.map_some, Option.some.injEq, Prod.mk.injEq] at h
        obtain ⟨rfl, rfl, rfl⟩ := h
        obtain ⟨v', h2, h3⟩ := index_run (S.eval hx.1) hl hp
        exact wp_of_run (v := v') (by simp [execOp, ho, S.evalFlat hx.2, h3]) (hK _ _ _ (S.put0 h2 _))
    · simp at h
  · rename_i t x i ho
    split at h
    · rename_i hx
      cases hl : sfield P t (a.eval x) i with
      | none => simp [hl] at h
      | some u =>
        simp only [hl, Option.map_some, Option.some.injEq, Prod.mk.injEq] at h
        obtain ⟨rfl, rfl, rfl⟩ := h
        obtain ⟨v', h2, h3⟩ := field_run (S.eval hx) hl
        exact wp_of_run (v := v') (by simp [execOp, ho, h3]) (hK _ _ _ (S.put0 h2 _))
    · simp at h
  · rename_i x ho
    split at h
    · rename_i hx
      split at h
      · rename_i p he
        simp only [Option.some.injEq, Prod.mk.injEq] at h
        obtain ⟨rfl, rfl, rfl⟩ := h
        have h1 := S.eval hx
        have h2 : ∃ p', A.eval x = .pointer (some p') := by
          rw [he] at h1
          simp only [tr, tr2, tr1] at h1
          cases hb : r p.block with
          | none => simp [hb] at h1
          | some c => simp only [hb, Option.map_some, Option.some.injEq] at h1; exact ⟨_, h1.symm⟩
        obtain ⟨p', hp'⟩ := h2
        refine wp_of_run (v := A.eval x) (by simp [execOp, ho, hp']) (hK _ _ _ (S.put0 (by rw [← he]; exact h1) _))
      · exact spure_wp h hp S hK
    · simp at h
  · rename_i t x lo hi ho
    split at h
    · rename_i hx
      simp only [Bool.and_eq_true] at hx
      have elo : lo.map A.eval = lo.map a.eval := by
        cases lo with
        | none => rfl
        | some y => simp only [Option.map_some, S.evalFlat (by simpa using hx.1.2)]
      have ehi : hi.map A.eval = hi.map a.eval := by
        cases hi with
        | none => rfl
        | some y => simp only [Option.map_some, S.evalFlat (by simpa using hx.2)]
      cases hl : ssliceX P X.sym t (a.eval x) (lo.map a.eval) (hi.map a.eval) with
      | none => simp [hl] at h
      | some u =>
        simp only [hl, Option.map_some, Option.some.injEq, Prod.mk.injEq] at h
        obtain ⟨rfl, rfl, rfl⟩ := h
        obtain ⟨v', h2, h3⟩ := sliceX_run (S.eval hx.1.1) hl hp
        exact wp_of_run (v := v') (by simp [execOp, ho, elo, ehi, h3]) (hK _ _ _ (S.put0 h2 _))
    · simp at h
  · rename_i f args ts ho
    split at h
    · rename_i hx
      have e : (args.toList.map A.eval).toArray = args.map A.eval := by rw [← Array.toList_map, Array.toArray_toList]
      have hrun : (execOp A.eval o).run P w = (callFunc f (args.map A.eval)).run P w := by
        simp [execOp, ho, resolve, Act.eval, Deferred.ofValue, invoke]
      split at h
      · have hc := hX.wcall f _ m ps v m' h hp r w _ S.rel S.glob (S.evals hx)
        rw [e] at hc
        unfold Oper.wp
        rw [hrun]
        rcases hc with ⟨v', w', h1, h2, h3, h4⟩ | ⟨h1, h2⟩
        · rw [h1]
          exact hK _ _ r (S.put h3 (Le.refl _) (fun _ _ h => .inl h) (S.frTrans h4) h2 _)
        · rw [h1]
          refine Calls.mono h2 ?_
          rintro e w' ⟨v', rfl, h3, h4, h5⟩
          exact hK _ _ r (S.put h4 (Le.refl _) (fun _ _ h => .inl h) (S.frTrans h5) h3 _)
      cases hl : X.C f (args.toList.map a.eval) m with
      | none => simp [hl] at h
      | some u =>
        simp only [hl, Option.map_some, Option.some.injEq, Prod.mk.injEq] at h
        obtain ⟨rfl, rfl, rfl⟩ := h
        have hc := hX.call f _ m u.1 u.2 hl hp r w _ S.rel S.glob (S.evals hx)
        rw [e] at hc
        unfold Oper.wp
        rw [hrun]
        rcases hc with ⟨v', w', h1, h2, h3⟩ | ⟨h1, h2⟩
        · rw [h1]
          exact hK _ _ r (S.put (S.rel.below h3) (Le.refl _) (fun _ _ h => .inl h) (fr_below S.fr h3) h2 _)
        · rw [h1]
          refine Calls.mono h2 ?_
          rintro e w' ⟨v', rfl, h3, h4⟩
          exact hK _ _ r (S.put (S.rel.below h4) (Le.refl _) (fun _ _ h => .inl h) (fr_below S.fr h4) h3 _)
    · simp at h
  · rename_i args ts ho
    split at h
    · rename_i x y dT sT hargs hts
      split at h
      · rename_i hx
        simp only [Bool.and_eq_true] at hx
        have hl := scopyX_spec h hp
        · obtain ⟨hfl, c, o', vs, ⟨b, hb⟩, h3, h4⟩ := copy_run (sT := sT) (ty := o.type) S.rel (S.eval hx.1) (S.eval hx.2) hl
          have ea : args = #[x, y] := by rw [← Array.toArray_toList (xs := args), hargs]
          have et : ts = #[dT, sT] := by rw [← Array.toArray_toList (xs := ts), hts]
          subst ea; subst et
          refine wp_of_run (v := v) (w' := w.setCells c o' vs) (by simp [execOp, ho, resolve, invoke, builtin, h3]) (hK _ _ r (S.put h4 (Le.refl _) (fun _ _ h => .inl h) (fr_setCells S.fr (S.home hb) _ _) (tr_flat _ _ hfl) _))
      · simp at h
    · simp at h
  · rename_i args ts ho
    split at h
    · rename_i x t hargs hts
      split at h
      · rename_i hx
        cases hl : slen P t (a.eval x) with
        | none => simp [hl] at h
        | some u =>
          simp only [hl, Option.map_some, Option.some.injEq, Prod.mk.injEq] at h
          obtain ⟨rfl, rfl, rfl⟩ := h
          obtain ⟨hfl, h3⟩ := len_run (ty := o.type) (S.eval hx) hl
          have ea : args = #[x] := by rw [← Array.toArray_toList (xs := args), hargs]
          have et : ts = #[t] := by rw [← Array.toArray_toList (xs := ts), hts]
          subst ea; subst et
          exact wp_of_run (v := u) (by simp [execOp, ho, resolve, invoke, builtin, h3]) (hK _ _ _ (S.put0 (tr_flat _ _ hfl) _))
      · simp at h
    · simp at h
  · exact spure_wp h hp S hK
/-- One operation, its test told. -/
def sopD (P : Program) (X : Cx) (id : Nat) (o : Oper) (ev : Operand → Value) (m : Mem) : Option (List Prop × Value × Mem) :=
  match sop P X id o ev m with
  | some (ps, v, m') => some (ps ++ (told X o v).1, (told X o v).2, m')
  | none => none
theorem sopD_some {id : Nat} {o : Oper} {ev : Operand → Value} {ps : List Prop} {v : Value} {m' : Mem} (h : sopD P X id o ev m = some (ps, v, m')) :
    ∃ qs u, sop P X id o ev m = some (qs, u, m') ∧ ps = qs ++ (told X o u).1 ∧ v = (told X o u).2 := by
  unfold sopD at h
  split at h
  · rename_i qs u m2 hs
    simp only [Option.some.injEq, Prod.mk.injEq] at h
    obtain ⟨rfl, rfl, rfl⟩ := h
    exact ⟨qs, u, hs, rfl, rfl⟩
  · simp at h
theorem sopD_of {id : Nat} {o : Oper} {ev : Operand → Value} {qs : List Prop} {u : Value} {m' : Mem} (h : sop P X id o ev m = some (qs, u, m')) : sopD P X id o ev m = some (qs ++ (told X o u).1, (told X o u).2, m') := by
  unfold sopD; rw [h]
theorem sopD_wp (hX : X.Ok P) {id : Nat} {o : Oper} {ps : List Prop} {v : Value} {m' : Mem} (h : sopD P X id o a.eval m = some (ps, v, m')) (hp : ∀ p ∈ ps, p) (S : Sim X.gl r₀ w₀ a m A w r) {K : Act → World → Prop} {Q : Exit → Act → World → Prop}
    (hK : ∀ A' w' r', Sim X.gl r₀ w₀ (a.put o.dst v) m' A' w' r' → K A' w') : o.wp P A w K Q := by
  obtain ⟨qs, u, h1, rfl, rfl⟩ := sopD_some h
  rw [told_spec (fun p hq => hp p (by simp [hq]))] at hK
  exact sop_wp hX h1 (fun p hq => hp p (by simp [hq])) S hK
end Go.Proofs.YtnmgpkpdjpjbgaaDoor
/- Regions: in the text's order, and in whatever order. -/
namespace Go.Proofs.YtnmgpkpdjpjbgaaDoor
open Go Go.RowKit
set_option linter.unusedSimpArgs false
set_option linter.unusedVariables false
variable {gl : List Nat} {r₀ r : Ren} {w₀ w : World} {a A : Act} {m : Mem} {P : Program} {X : Cx}

/-- 0: looks at no memory; 1: reads; 2: makes a block; 3: writes. -/
def kind (X : Cx) (o : Oper) : Nat :=
  match o.op with
  | .alloc _ => 2
  | .box _ _ => 2
  | .load _ _ => 1
  | .store _ _ _ => 3
  | .call ⟨.value (.func f), _, _⟩ => if X.wf f then 3 else if X.pf f then 0 else 1
  | .call ⟨.builtin .copy, _, _⟩ => 3
  | _ => 0
theorem spure_mem {sym : Bool} {o : Oper} {ev : Operand → Value} {ps : List Prop} {v : Value} {m' : Mem} (h : spure P sym o ev m = some (ps, v, m')) : m' = m ∧ ∀ m2, spure P sym o ev m2 = some (ps, v, m2) := by
  unfold spure at h ⊢
  split at h
  · simp at h
  · split at h
    · rename_i hall
      split at h
      · rename_i qs v' hz
        simp only [Option.some.injEq, Prod.mk.injEq] at h
        obtain ⟨rfl, rfl, rfl⟩ := h
        exact ⟨rfl, fun m2 => by simp only [hall, hz, if_true]⟩
      · rename_i hz
        split at h
        · rename_i v' hq
          simp only [Option.some.injEq, Prod.mk.injEq] at h
          obtain ⟨rfl, rfl, rfl⟩ := h
          exact ⟨rfl, fun m2 => by simp only [hall, hz, hq, if_true]⟩
        · rename_i hq
          split at h
          · rename_i v' hp
            split at h
            · rename_i hf
              simp only [Option.some.injEq, Prod.mk.injEq] at h
              obtain ⟨rfl, rfl, rfl⟩ := h
              exact ⟨rfl, fun m2 => by simp only [hall, hz, hq, hp, hf, if_true]⟩
            · simp at h
          · simp at h
    · simp at h
theorem hole_ne {i b : Nat} {B : Blk} (hi : m[i]? = some none) (hb : getB m b = some B) : b ≠ i := by
  rintro rfl
  rw [getB_hole hi] at hb; cases hb
theorem getB_fill {i b : Nat} {x : Option Blk} (h : b ≠ i) : getB (m.set i x) b = getB m b := by
  rw [getB_set, if_neg (fun e => h e.1)]
theorem sloadX_more {sym : Bool} {t b o i : Nat} {q : List Prop × Value} (B : Blk) (hi : m[i]? = some none) (h : sloadX P sym t b o m = some q) : sloadX P sym t b o (m.set i (some B)) = some q := by
  obtain ⟨B', hb⟩ := sloadX_blk h
  rw [sloadX_same (getB_fill (hole_ne hi hb))]; exact h
theorem sop_mem0 (hX : X.Ok P) {id : Nat} {o : Oper} {ev : Operand → Value} {ps : List Prop} {v : Value} {m' : Mem} (hk : kind X o = 0) (h : sop P X id o ev m = some (ps, v, m')) : m' = m ∧ ∀ m2, sop P X id o ev m2 = some (ps, v, m2) := by
  unfold sop at h ⊢
  unfold kind at hk
  split at h <;> rename_i ho <;> simp only [ho] at hk ⊢
  case h_1 =>
    split at h
    · simp only [Option.some.injEq, Prod.mk.injEq] at h; obtain ⟨rfl, rfl, rfl⟩ := h; exact ⟨rfl, fun m2 => by simp_all⟩
    · simp at h
  case h_2 =>
    split at h
    · simp only [Option.some.injEq, Prod.mk.injEq] at h; obtain ⟨rfl, rfl, rfl⟩ := h; exact ⟨rfl, fun m2 => by simp_all⟩
    · simp at h
  case h_3 => omega
  case h_4 => omega
  case h_5 => omega
  case h_6 => omega
  case h_7 t x i =>
    split at h
    · rename_i hx
      cases hl : sindex P X.sym t (ev x) (ev i) with
      | none => simp [hl] at h
      | some u => simp only [hl, Option.map_some, Option.some.injEq, Prod.mk.injEq] at h; obtain ⟨rfl, rfl, rfl⟩ := h; exact ⟨rfl, fun m2 => by simp [hx]⟩
    · simp at h
  case h_8 t x i =>
    split at h
    · rename_i hx
      cases hl : sfield P t (ev x) i with
      | none => simp [hl] at h
      | some u => simp only [hl, Option.map_some, Option.some.injEq, Prod.mk.injEq] at h; obtain ⟨rfl, rfl, rfl⟩ := h; exact ⟨rfl, fun m2 => by simp [hx]⟩
    · simp at h
  case h_9 x =>
    split at h
    · rename_i hx
      split at h
      · rename_i p he
        simp only [Option.some.injEq, Prod.mk.injEq] at h; obtain ⟨rfl, rfl, rfl⟩ := h
        exact ⟨rfl, fun m2 => by simp [hx]⟩
      · rename_i hne
        obtain ⟨h1, h2⟩ := spure_mem h
        exact ⟨h1, fun m2 => by rw [if_pos hx]; exact h2 m2⟩
    · simp at h
  case h_10 t x lo hi =>
    split at h
    · rename_i hx
      cases hl : ssliceX P X.sym t (ev x) (lo.map ev) (hi.map ev) with
      | none => simp [hl] at h
      | some u => simp only [hl, Option.map_some, Option.some.injEq, Prod.mk.injEq] at h; obtain ⟨rfl, rfl, rfl⟩ := h; exact ⟨rfl, fun m2 => by simp [hx]⟩
    · simp at h
  case h_11 f args ts =>
    have hw : X.wf f = false := by
      cases hw : X.wf f
      · rfl
      · simp [hw] at hk
    simp only [hw, Bool.false_eq_true, if_false] at hk h ⊢
    split at h
    · rename_i hx
      cases hl : X.C f (args.toList.map ev) m with
      | none => simp [hl] at h
      | some u =>
        simp only [hl, Option.map_some, Option.some.injEq, Prod.mk.injEq] at h; obtain ⟨rfl, rfl, rfl⟩ := h
        have hp : X.pf f = true := by
          cases hp : X.pf f
          · simp [hp] at hk
          · rfl
        exact ⟨rfl, fun m2 => by rw [hX.pure f hp _ m2 m]; simp [hx, hl]⟩
    · simp at h
  case h_12 => omega
  case h_13 args ts =>
    split at h
    · rename_i x t hargs hts
      split at h
      · rename_i hx
        cases hl : slen P t (ev x) with
        | none => simp [hl] at h
        | some u => simp only [hl, Option.map_some, Option.some.injEq, Prod.mk.injEq] at h; obtain ⟨rfl, rfl, rfl⟩ := h; exact ⟨rfl, fun m2 => by simp [hx]⟩
      · simp at h
    · simp at h
  case h_14 =>
    obtain ⟨h1, h2⟩ := spure_mem h
    exact ⟨h1, h2⟩
theorem sop_mem1 (hX : X.Ok P) {id : Nat} {o : Oper} {ev : Operand → Value} {ps : List Prop} {v : Value} {m' : Mem} (hk : kind X o = 1) (h : sop P X id o ev m = some (ps, v, m')) : m' = m ∧ ∀ i B, m[i]? = some none → sop P X id o ev (m.set i (some B)) = some (ps, v, m.set i (some B)) := by
  unfold sop at h ⊢
  unfold kind at hk
  split at h <;> rename_i ho <;> simp only [ho] at hk ⊢
  case h_1 => omega
  case h_2 => omega
  case h_3 => omega
  case h_4 => omega
  case h_6 => omega
  case h_7 => omega
  case h_8 => omega
  case h_9 => omega
  case h_10 => omega
  case h_5 t x =>
    split at h
    · rename_i hx
      split at h
      · rename_i b o' he
        cases hl : sloadX P X.sym t b o' m with
        | none => simp [hl] at h
        | some u => simp only [hl, Option.map_some, Option.some.injEq, Prod.mk.injEq] at h; obtain ⟨rfl, rfl, rfl⟩ := h; exact ⟨rfl, fun i B hi => by simp [hx, sloadX_more B hi hl]⟩
      · simp at h
    · simp at h
  case h_11 f args ts =>
    have hw : X.wf f = false := by
      cases hw : X.wf f
      · rfl
      · simp [hw] at hk
    simp only [hw, Bool.false_eq_true, if_false] at hk h ⊢
    split at h
    · rename_i hx
      cases hl : X.C f (args.toList.map ev) m with
      | none => simp [hl] at h
      | some u =>
        simp only [hl, Option.map_some, Option.some.injEq, Prod.mk.injEq] at h; obtain ⟨rfl, rfl, rfl⟩ := h
        exact ⟨rfl, fun i B hi => by rw [hX.more f _ _ _ i B hi hl]; simp [hx]⟩
    · simp at h
  case h_12 => omega
  case h_13 => omega
  case h_14 => omega
theorem sop_mem2 {id : Nat} {o : Oper} {ev : Operand → Value} {ps : List Prop} {v : Value} {m' : Mem} (hk : kind X o = 2) (h : sop P X id o ev m = some (ps, v, m')) :
    m[id]? = some none ∧ ∃ B, m' = m.set id (some B) ∧ ∀ m2 : Mem, m2[id]? = some none → sop P X id o ev m2 = some (ps, v, m2.set id (some B)) := by
  unfold sop at h ⊢
  unfold kind at hk
  split at h <;> rename_i ho <;> simp only [ho] at hk ⊢
  case h_1 => omega
  case h_2 => omega
  case h_3 =>
    split at h
    · rename_i i hi hid
      split at h
      · rename_i z hz
        split at h
        · rename_i hf
          simp only [Option.some.injEq, Prod.mk.injEq] at h
          obtain ⟨rfl, rfl, rfl⟩ := h
          exact ⟨hid, _, rfl, fun m2 h2 => by simp [hi, h2, hz, hf]⟩
        · simp at h
      · simp at h
    · simp at h
  case h_4 =>
    split at h
    · rename_i hid
      split at h
      · rename_i hx
        simp only [Option.some.injEq, Prod.mk.injEq] at h
        obtain ⟨rfl, rfl, rfl⟩ := h
        exact ⟨hid, _, rfl, fun m2 h2 => by simp [h2, hx]⟩
      · simp at h
    · simp at h
  case h_5 => omega
  case h_6 => omega
  case h_7 => omega
  case h_8 => omega
  case h_9 => omega
  case h_10 => omega
  case h_11 =>
    split at hk
    · omega
    · split at hk <;> omega
  case h_12 => omega
  case h_13 => omega
  case h_14 => omega
theorem memD0 (hX : X.Ok P) {id : Nat} {o : Oper} {ev : Operand → Value} {ps : List Prop} {v : Value} {m' : Mem} (hk : kind X o = 0) (h : sopD P X id o ev m = some (ps, v, m')) : m' = m ∧ ∀ m2, sopD P X id o ev m2 = some (ps, v, m2) := by
  obtain ⟨qs, u, h1, rfl, rfl⟩ := sopD_some h
  obtain ⟨e, h2⟩ := sop_mem0 hX hk h1
  exact ⟨e, fun m2 => sopD_of (h2 m2)⟩
theorem memD1 (hX : X.Ok P) {id : Nat} {o : Oper} {ev : Operand → Value} {ps : List Prop} {v : Value} {m' : Mem} (hk : kind X o = 1) (h : sopD P X id o ev m = some (ps, v, m')) : m' = m ∧ ∀ i B, m[i]? = some none → sopD P X id o ev (m.set i (some B)) = some (ps, v, m.set i (some B)) := by
  obtain ⟨qs, u, h1, rfl, rfl⟩ := sopD_some h
  obtain ⟨e, h2⟩ := sop_mem1 hX hk h1
  exact ⟨e, fun i B hi => sopD_of (h2 i B hi)⟩
theorem memD2 {id : Nat} {o : Oper} {ev : Operand → Value} {ps : List Prop} {v : Value} {m' : Mem} (hk : kind X o = 2) (h : sopD P X id o ev m = some (ps, v, m')) :
    m[id]? = some none ∧ ∃ B, m' = m.set id (some B) ∧ ∀ m2 : Mem, m2[id]? = some none → sopD P X id o ev m2 = some (ps, v, m2.set id (some B)) := by
  obtain ⟨qs, u, h1, rfl, rfl⟩ := sopD_some h
  obtain ⟨e, B, h2, h3⟩ := sop_mem2 hk h1
  exact ⟨e, B, h2, fun m2 hm => sopD_of (h3 m2 hm)⟩
def blk : Value → Option Nat
  | .pointer (some p) => some p.block
  | .slice (some p) _ _ => some p.block
  | _ => none
def makes (o : Oper) : Bool :=
  match o.op with
  | .alloc _ => true
  | .box _ _ => true
  | _ => false
/-- The place kept for operation i's block. -/
def idOf (h0 : Nat) (ops : Array Oper) (i : Nat) : Nat := h0 + ((ops.toList.take i).filter makes).length
/-- Who writes a slot. -/
def wr (ops : Array Oper) (x : Nat) : List (Oper × Nat) := ops.toList.zipIdx.filter fun p => p.1.dst == some x
/-- An address that leads to the block of another one's. -/
def addrOf (o : Oper) : Option Operand :=
  match o.op with
  | .indexAddr _ y _ => some y
  | .fieldAddr _ y _ => some y
  | .nilCheck y => some y
  | .move y => some y
  | _ => none
/-- The block that an address leads to, told ahead of the region. -/
def rootN (a₀ : Act) (ops : Array Oper) (h0 : Nat) : Nat → Nat → Option Nat
  | 0, _ => none
  | n + 1, x => match wr ops x with
    | [] => blk (a₀.eval (.tmp x))
    | [(o, k)] => if (blk (a₀.eval (.tmp x))).isSome then none else if makes o then some (idOf h0 ops k) else match addrOf o with
      | some (.tmp y) => rootN a₀ ops h0 n y
      | some (.global g) => some g
      | _ => none
    | _ => none
def rootB (a₀ : Act) (ops : Array Oper) (h0 : Nat) (x : Operand) : Option Nat :=
  match x with
  | .tmp t => rootN a₀ ops h0 6 t
  | .global g => some g
  | _ => none
/-- A load and a store at two blocks. -/
def farApart (a₀ : Act) (ops : Array Oper) (h0 : Nat) (oi oj : Oper) : Bool :=
  match oi.op, oj.op with
  | .load _ x, .store _ y _ => match rootB a₀ ops h0 x, rootB a₀ ops h0 y with
    | some b, some b' => b != b'
    | _, _ => false
  | _, _ => false
/-- A load or a store that leads elsewhere than to the block id. -/
def notAt (a₀ : Act) (ops : Array Oper) (h0 id : Nat) (oj : Oper) : Bool :=
  match oj.op with
  | .load _ y => match rootB a₀ ops h0 y with
    | some b => b != id
    | none => false
  | .store _ y _ => match rootB a₀ ops h0 y with
    | some b => b != id
    | none => false
  | _ => false
structure Keeps (a₀ : Act) (ops : Array Oper) (h0 : Nat) (a : Act) : Prop where
  same : ∀ t, wr ops t = [] → a.eval (.tmp t) = a₀.eval (.tmp t)
  roots : ∀ n x b, rootN a₀ ops h0 n x = some b → ∀ b', blk (a.eval (.tmp x)) = some b' → b' = b
theorem Keeps.root {a₀ : Act} {ops : Array Oper} {h0 : Nat} {a : Act} (h : Keeps a₀ ops h0 a) (x : Operand) (b : Nat) (hb : rootB a₀ ops h0 x = some b) (b' : Nat) (hb' : blk (a.eval x) = some b') : b' = b := by
  cases x with
  | tmp t => exact h.roots 6 t b hb b' hb'
  | global g => simp only [rootB, Option.some.injEq] at hb; subst hb; simp [Act.eval, blk] at hb'; exact hb'.symm
  | const v => simp [rootB] at hb
  | func f => simp [rootB] at hb
def kindOK (X : Cx) (a₀ : Act) (ops : Array Oper) (h0 i j : Nat) (oi oj : Oper) : Bool :=
  kind X oi == 0 || (kind X oi == 1 && (decide (kind X oj ≤ 2) || farApart a₀ ops h0 oi oj)) ||
  (kind X oi == 2 && (kind X oj == 0 || (kind X oj == 2 && idOf h0 ops i != idOf h0 ops j) || notAt a₀ ops h0 (idOf h0 ops i) oj))
theorem sload_set {sym : Bool} {t b o b' : Nat} {B : Option Blk} (h : b' ≠ b) : sloadX P sym t b o (m.set b' B) = sloadX P sym t b o m := sloadX_same (getB_fill (Ne.symm h))
theorem sstore_set {t b o b' : Nat} {v : Value} {B : Option Blk} {m' : Mem} (h : b' ≠ b) (hs : sstore P t b o v (m.set b' B) = some m') : ∃ x, m' = (m.set b' B).set b x ∧ sstore P t b o v m = some (m.set b x) := by
  unfold sstore at hs ⊢
  rw [getB_fill (Ne.symm h)] at hs
  split at hs
  · rename_i B' d n h1 h2
    split at hs
    · rename_i hc
      simp only [Option.some.injEq] at hs
      exact ⟨_, hs.symm, by simp only [if_pos hc]⟩
    · simp at hs
  · simp at hs
theorem far_mem {a₀ : Act} {ops : Array Oper} {h0 idi idj : Nat} {oi oj : Oper} (hE : Keeps a₀ ops h0 a) (hf : farApart a₀ ops h0 oi oj = true) {pi pj : List Prop} {vi vj : Value} {mj : Mem}
    (hi : sop P X idi oi a.eval m = some (pi, vi, m)) (hj : sop P X idj oj a.eval m = some (pj, vj, mj)) : sop P X idi oi a.eval mj = some (pi, vi, mj) := by
  unfold farApart at hf
  split at hf
  · rename_i t x t' y z ho1 ho2
    split at hf
    · rename_i p q e1 e2
      simp only [bne_iff_ne, ne_eq] at hf
      have k1 := hE.root x p e1
      have k2 := hE.root y q e2
      unfold sop at hi hj ⊢
      simp only [ho1, ho2] at hi hj ⊢
      split at hj
      · split at hj
        · rename_i b o heq
          split at hi
          · rename_i hok
            rw [if_pos hok]
            split at hi
            · rename_i b2 o2 heq2
              have hb := k2 b (by rw [heq]; rfl)
              have hb2 := k1 b2 (by rw [heq2]; rfl)
              subst hb; subst hb2
              cases hs : sstore P t' b o (a.eval z) m with
              | none => simp [hs] at hj
              | some mm =>
                simp only [hs, Option.map_some, Option.some.injEq, Prod.mk.injEq] at hj
                obtain ⟨_, _, rfl⟩ := hj
                have hset : ∃ B, mm = m.set b B := by
                  unfold sstore at hs
                  split at hs
                  · split at hs
                    · simp only [Option.some.injEq] at hs; exact ⟨_, hs.symm⟩
                    · simp at hs
                  · simp at hs
                obtain ⟨B, rfl⟩ := hset
                simp only [heq2, sload_set (fun e => hf e.symm)]
                cases hl : sloadX P X.sym t b2 o2 m with
                | none => simp [hl] at hi
                | some u => simp only [hl, Option.map_some, Option.some.injEq, Prod.mk.injEq] at hi ⊢; exact ⟨hi.1, hi.2.1, trivial⟩
            · simp at hi
          · simp at hi
        · simp at hj
      · simp at hj
    · simp at hf
  · simp at hf
theorem farD_mem {a₀ : Act} {ops : Array Oper} {h0 idi idj : Nat} {oi oj : Oper} (hE : Keeps a₀ ops h0 a) (hf : farApart a₀ ops h0 oi oj = true) {pi pj : List Prop} {vi vj : Value} {mj : Mem}
    (hi : sopD P X idi oi a.eval m = some (pi, vi, m)) (hj : sopD P X idj oj a.eval m = some (pj, vj, mj)) : sopD P X idi oi a.eval mj = some (pi, vi, mj) := by
  obtain ⟨qi, ui, h1, rfl, rfl⟩ := sopD_some hi
  obtain ⟨qj, uj, h2, rfl, rfl⟩ := sopD_some hj
  exact sopD_of (far_mem hE hf h1 h2)
/-- A block that is made ahead of a load or store elsewhere. -/
theorem notAt_mem {a₀ : Act} {ops : Array Oper} {h0 id idj : Nat} {oj : Oper} (hE : Keeps a₀ ops h0 a) (hf : notAt a₀ ops h0 id oj = true) {pj : List Prop} {vj : Value} {mij : Mem} {B : Option Blk} (hid : m[id]? = some none)
    (hj : sop P X idj oj a.eval (m.set id B) = some (pj, vj, mij)) : ∃ mj, sop P X idj oj a.eval m = some (pj, vj, mj) ∧ mj[id]? = some none ∧ mij = mj.set id B := by
  unfold notAt at hf
  split at hf
  · rename_i t y ho
    split at hf
    · rename_i p e
      simp only [bne_iff_ne, ne_eq] at hf
      have k := hE.root y p e
      unfold sop at hj ⊢
      simp only [ho] at hj ⊢
      split at hj
      · rename_i hok
        rw [if_pos hok]
        split at hj
        · rename_i b o heq
          have hb := k b (by rw [heq]; rfl)
          subst hb
          rw [sload_set (fun e => hf e.symm)] at hj
          cases hl : sloadX P X.sym t b o m with
          | none => simp [hl] at hj
          | some u =>
            simp only [hl, Option.map_some, Option.some.injEq, Prod.mk.injEq] at hj
            obtain ⟨rfl, rfl, rfl⟩ := hj
            exact ⟨m, by simp [heq, hl], hid, rfl⟩
        · simp at hj
      · simp at hj
    · simp at hf
  · rename_i t y z ho
    split at hf
    · rename_i p e
      simp only [bne_iff_ne, ne_eq] at hf
      have k := hE.root y p e
      unfold sop at hj ⊢
      simp only [ho] at hj ⊢
      split at hj
      · rename_i hok
        rw [if_pos hok]
        split at hj
        · rename_i b o heq
          have hb := k b (by rw [heq]; rfl)
          subst hb
          cases hl : sstore P t b o (a.eval z) (m.set id B) with
          | none => simp [hl] at hj
          | some u =>
            simp only [hl, Option.map_some, Option.some.injEq, Prod.mk.injEq] at hj
            obtain ⟨rfl, rfl, rfl⟩ := hj
            obtain ⟨x, rfl, hs⟩ := sstore_set (fun e => hf e.symm) hl
            exact ⟨m.set b x, by simp [heq, hs], by rw [List.getElem?_set_ne hf]; exact hid, List.set_comm _ _ (fun e => hf e.symm)⟩
        · simp at hj
      · simp at hj
    · simp at hf
  · simp at hf
theorem mem_comm (hX : X.Ok P) {a₀ : Act} {ops : Array Oper} {h0 i j : Nat} (hE : Keeps a₀ ops h0 a) {oi oj : Oper} {pi pj : List Prop} {vi vj : Value} {mi mij : Mem} (hi : sopD P X (idOf h0 ops i) oi a.eval m = some (pi, vi, mi)) (hj : sopD P X (idOf h0 ops j) oj a.eval mi = some (pj, vj, mij)) (hk : kindOK X a₀ ops h0 i j oi oj = true) :
    ∃ mj, sopD P X (idOf h0 ops j) oj a.eval m = some (pj, vj, mj) ∧ sopD P X (idOf h0 ops i) oi a.eval mj = some (pi, vi, mij) := by
  simp only [kindOK, Bool.or_eq_true, Bool.and_eq_true, beq_iff_eq, decide_eq_true_eq, bne_iff_ne, ne_eq] at hk
  rcases hk with (h0 | ⟨h1, h2⟩) | ⟨h1, h2⟩
  · obtain ⟨rfl, h⟩ := memD0 hX h0 hi
    exact ⟨mij, hj, h mij⟩
  · obtain ⟨rfl, h⟩ := memD1 hX h1 hi
    refine ⟨mij, hj, ?_⟩
    rcases h2 with h2 | h2
    · have : kind X oj = 0 ∨ kind X oj = 1 ∨ kind X oj = 2 := by omega
      rcases this with k | k | k
      · obtain ⟨rfl, _⟩ := memD0 hX k hj; exact hi
      · obtain ⟨rfl, _⟩ := memD1 hX k hj; exact hi
      · obtain ⟨hid, B, rfl, _⟩ := memD2 k hj; exact h _ B hid
    · exact farD_mem hE h2 hi hj
  · obtain ⟨hid, B, rfl, h⟩ := memD2 h1 hi
    rcases h2 with (k | ⟨k, hne⟩) | k
    · obtain ⟨rfl, h'⟩ := memD0 hX k hj
      exact ⟨m, h' m, h m hid⟩
    · obtain ⟨hid2, B2, rfl, h'⟩ := memD2 k hj
      rw [List.getElem?_set_ne hne] at hid2
      refine ⟨m.set (idOf h0 ops j) (some B2), h' m hid2, ?_⟩
      rw [h _ (by rw [List.getElem?_set_ne (Ne.symm hne)]; exact hid), List.set_comm _ _ (Ne.symm hne)]
    · obtain ⟨qj, uj, h3, rfl, rfl⟩ := sopD_some hj
      obtain ⟨mj, h4, h5, rfl⟩ := notAt_mem hE k hid h3
      exact ⟨mj, sopD_of h4, h mj h5⟩
theorem flatX_congr {ev ev' : Operand → Value} {x : Operand} (h : ev x = ev' x) : flatX ev x = flatX ev' x := by
  cases x <;> simp_all [flatX]
theorem all_congr {xs : List Operand} {p q : Operand → Bool} (h : ∀ x ∈ xs, p x = q x) : xs.all p = xs.all q := by
  induction xs with
  | nil => rfl
  | cons x xs ih => simp only [List.all_cons, h x (by simp), ih fun y hy => h y (by simp [hy])]
theorem spure_congr {sym : Bool} {ev ev' : Operand → Value} (o : Oper) (h : ∀ x ∈ o.op.operands, ev x = ev' x) (m : Mem) : spure P sym o ev m = spure P sym o ev' m := by
  unfold spure
  split
  · rfl
  · rename_i op hns
    have hq : seqO P o ev = seqO P o ev' := by
      unfold seqO
      split <;> rename_i ho
      · rename_i x y _; simp only [ho, Op.operands] at h; rw [h x (by simp), h y (by simp)]
      · rename_i x y _; simp only [ho, Op.operands] at h; rw [h x (by simp), h y (by simp)]
      · rfl
    have hz : sshift sym o ev = sshift sym o ev' := by
      unfold sshift
      split <;> rename_i ho
      · rename_i x y _; simp only [ho, Op.operands] at h; rw [h x (by simp), h y (by simp)]
      · rename_i x y _; simp only [ho, Op.operands] at h; rw [h x (by simp), h y (by simp)]
      · rfl
    rw [all_congr (fun x hx => flatX_congr (h x (by simpa using hx))), execOp_congr o (fun cs b e => hns cs b e) h, hq, hz]
theorem okX_congr {gl : List Nat} {ev ev' : Operand → Value} {x : Operand} (h : ev x = ev' x) : okX gl ev x = okX gl ev' x := by
  cases x <;> simp_all [okX]
theorem sop_congr {id : Nat} {ev ev' : Operand → Value} (o : Oper) (h : ∀ x ∈ o.op.operands, ev x = ev' x) (m : Mem) : sop P X id o ev m = sop P X id o ev' m := by
  have hp := spure_congr (P := P) (sym := X.sym) o h m
  unfold sop
  split <;> rename_i ho <;> simp only [ho, Op.operands] at h
  case h_1 x => rw [okX_congr (h x (by simp)), h x (by simp)]
  case h_2 x => rw [okX_congr (h x (by simp)), h x (by simp)]
  case h_3 => rfl
  case h_4 x => rw [okX_congr (h x (by simp)), h x (by simp)]
  case h_5 x => rw [okX_congr (h x (by simp)), h x (by simp)]
  case h_6 x y => rw [okX_congr (h x (by simp)), okX_congr (h y (by simp)), h x (by simp), h y (by simp)]
  case h_7 x i => rw [okX_congr (h x (by simp)), flatX_congr (h i (by simp)), h x (by simp), h i (by simp)]
  case h_8 x i => rw [okX_congr (h x (by simp)), h x (by simp)]
  case h_9 x => rw [okX_congr (h x (by simp)), h x (by simp), hp]
  case h_10 x lo hi =>
    have h0 := h x (by simp)
    have e1 := okX_congr (gl := X.gl) h0
    have e2 : lo.all (flatX ev) = lo.all (flatX ev') ∧ lo.map ev = lo.map ev' := by
      cases lo with
      | none => exact ⟨rfl, rfl⟩
      | some y => have hy := h y (by simp); exact ⟨by simp [flatX_congr hy], by simp [hy]⟩
    have e3 : hi.all (flatX ev) = hi.all (flatX ev') ∧ hi.map ev = hi.map ev' := by
      cases hi with
      | none => exact ⟨rfl, rfl⟩
      | some y => have hy := h y (by simp); exact ⟨by simp [flatX_congr hy], by simp [hy]⟩
    rw [e1, e2.1, e2.2, e3.1, e3.2, h0]
  case h_11 f args ts =>
    have hall : ∀ x ∈ args.toList, ev x = ev' x := fun x hx => h x (by simp [Call.operands]; right; simpa using hx)
    rw [all_congr (fun x hx => okX_congr (hall x hx)), List.map_congr_left hall]
  case h_12 args ts =>
    split
    · rename_i x y dT sT hargs hts
      have hx := h x (by simp [Call.operands]; rw [← Array.mem_toList_iff, hargs]; simp)
      have hy := h y (by simp [Call.operands]; rw [← Array.mem_toList_iff, hargs]; simp)
      rw [okX_congr hx, okX_congr hy, hx, hy]
    · rfl
  case h_13 args ts =>
    split
    · rename_i x t hargs hts
      have hx := h x (by simp [Call.operands]; rw [← Array.mem_toList_iff, hargs]; simp)
      rw [okX_congr hx, hx]
    · rfl
  case h_14 => exact hp
theorem sopD_congr {id : Nat} {ev ev' : Operand → Value} (o : Oper) (h : ∀ x ∈ o.op.operands, ev x = ev' x) (m : Mem) : sopD P X id o ev m = sopD P X id o ev' m := by
  unfold sopD; rw [sop_congr o h m]
/-- Is the guard's outcome known? -/
def guardOK (ops : Array Oper) (a : Act) (o : Oper) : Bool :=
  match o.guard with
  | none => true
  | some (j, _) => match (ops[j]?).bind (·.dst) with
    | some t => good (a.eval (.tmp t))
    | none => true
/-- One operation of a region. -/
def sstep (P : Program) (X : Cx) (ops : Array Oper) (h0 i : Nat) (s : Act × Mem) : Option (List Prop × Act × Mem) :=
  match ops[i]? with
  | none => none
  | some o =>
    if guardOK ops s.1 o then
      if Region.wanted o (yielded ops s.1.tmps) then
        match sopD P X (idOf h0 ops i) o s.1.eval s.2 with
        | some (ps, v, m') => some (ps, s.1.put o.dst v, m')
        | none => none
      else some ([], s.1.put o.dst undef, s.2)
    else none
variable {ops : Array Oper}
theorem sop_put {id : Nat} {o : Oper} {d : Option Tmp} {v : Value} (h : ∀ t, d = some t → t ∉ o.looksAt ops) (m : Mem) : sopD P X id o (a.put d v).eval m = sopD P X id o a.eval m :=
  sopD_congr o (fun x hx => Act.eval_put fun t ht hxt => h t ht (by
    subst hxt
    exact List.mem_append_left _ (List.mem_filterMap.2 ⟨.tmp t, by simpa using hx, rfl⟩))) m
theorem guard_put {o : Oper} {d : Option Tmp} {v : Value} (h : ∀ t, d = some t → t ∉ o.looksAt ops) : guardOK ops (a.put d v) o = guardOK ops a o := by
  unfold guardOK
  cases hg : o.guard with
  | none => rfl
  | some q =>
    obtain ⟨j, want⟩ := q
    simp only
    cases ht : (ops[j]?).bind (·.dst) with
    | none => rfl
    | some t =>
      simp only
      rw [Act.eval_put (fun d' hd e => h d' hd (by cases e; simp [Oper.looksAt, hg, ht]))]
theorem wr_of {i : Nat} {o : Oper} (ho : ops[i]? = some o) {t : Nat} (hd : o.dst = some t) : (o, i) ∈ wr ops t :=
  List.mem_filter.2 ⟨List.mem_zipIdx_iff_getElem?.2 (by simpa using ho), by simp [hd]⟩
theorem sindex_blk {sym : Bool} {t : TypeId} {x i v : Value} {ps : List Prop} (h : sindex P sym t x i = some (ps, v)) : blk v = blk x := by
  unfold sindex at h
  split at h
  · split at h
    · simp only [Option.some.injEq, Prod.mk.injEq] at h; obtain ⟨_, rfl⟩ := h; rfl
    · simp at h
  · split at h
    · simp only [Option.some.injEq, Prod.mk.injEq] at h; obtain ⟨_, rfl⟩ := h; rfl
    · simp at h
  · simp at h
theorem sfield_blk {t : TypeId} {i : Nat} {x v : Value} (h : sfield P t x i = some v) : blk v = blk x := by
  unfold sfield at h
  split at h
  · split at h
    · split at h
      · split at h
        · simp at h
        · simp only [Option.some.injEq] at h; subst h; rfl
      · simp at h
    · simp at h
  · simp at h
theorem flat_blk {v : Value} (h : flat v = true) : blk v = none := by
  unfold blk
  split
  · simp [flat, flat2, flat1] at h
  · simp [flat, flat2, flat1] at h
  · rfl
theorem spure_blk {sym : Bool} {o : Oper} {ev : Operand → Value} {ps : List Prop} {v : Value} {m' : Mem} (h : spure P sym o ev m = some (ps, v, m')) : blk v = none := by
  unfold spure at h
  split at h
  · simp at h
  · split at h
    · split at h
      · rename_i hz
        simp only [Option.some.injEq, Prod.mk.injEq] at h
        obtain ⟨_, rfl, _⟩ := h
        unfold sshift at hz
        split at hz
        · split at hz
          · simp only [Option.some.injEq, Prod.mk.injEq] at hz; rw [← hz.2]; rfl
          · simp at hz
        · split at hz
          · simp only [Option.some.injEq, Prod.mk.injEq] at hz; rw [← hz.2]; rfl
          · simp at hz
        · simp at hz
      · split at h
        · rename_i hq
          simp only [Option.some.injEq, Prod.mk.injEq] at h
          obtain ⟨_, rfl, _⟩ := h
          unfold seqO at hq
          split at hq
          · rename_i t x y _ _; cases hs : seqv P t (ev x) (ev y) <;> simp [hs] at hq; rw [← hq]; rfl
          · rename_i t x y _ _; cases hs : seqv P t (ev x) (ev y) <;> simp [hs] at hq; rw [← hq]; rfl
          · simp at hq
        · split at h
          · split at h
            · rename_i hf
              simp only [Option.some.injEq, Prod.mk.injEq] at h
              obtain ⟨_, rfl, _⟩ := h
              exact flat_blk hf
            · simp at h
          · simp at h
    · simp at h
theorem keeps_put {a₀ : Act} {h0 i : Nat} {o : Oper} (ho : ops[i]? = some o) {v : Value} (hE : Keeps a₀ ops h0 a)
    (hv : ∀ y, addrOf o = some y → blk v = none ∨ blk v = blk (a.eval y)) (hm : makes o = true → blk v = none ∨ blk v = some (idOf h0 ops i)) : Keeps a₀ ops h0 (a.put o.dst v) := by
  refine ⟨fun t ht => ?_, fun n x b hb b' hb' => ?_⟩
  · rw [Act.eval_put (fun d hd e => ?_)]
    · exact hE.same t ht
    · cases e
      have := wr_of ho hd
      rw [ht] at this; cases this
  · by_cases hd : o.dst = some x
    · have hw := wr_of ho hd
      have hput : blk ((a.put o.dst v).eval (.tmp x)) = some b' → blk v = some b' := by
        rw [hd, eval_put, if_pos rfl]
        split
        · exact id
        · intro h; cases h
      have hvb := hput hb'
      cases n with
      | zero => simp [rootN] at hb
      | succ n =>
        simp only [rootN] at hb
        split at hb
        · rename_i hwy; rw [hwy] at hw; cases hw
        · rename_i o' k hwr
          rw [hwr] at hw
          have e := List.mem_singleton.1 hw
          simp only [Prod.mk.injEq] at e
          obtain ⟨rfl, rfl⟩ := e
          split at hb
          · simp at hb
          · split at hb
            · rename_i hmk
              rcases hm hmk with h | h
              · rw [h] at hvb; cases hvb
              · rw [h] at hvb; cases hb; cases hvb; rfl
            · split at hb
              · rename_i y hy
                rcases hv _ hy with h | h
                · rw [h] at hvb; cases hvb
                · rw [h] at hvb; exact hE.roots n y b hb b' hvb
              · rename_i g hy
                rcases hv _ hy with h | h
                · rw [h] at hvb; cases hvb
                · rw [h] at hvb
                  simp only [Option.some.injEq] at hb; subst hb
                  simp [Act.eval, blk] at hvb; exact hvb.symm
              · simp at hb
        · simp at hb
    · rw [Act.eval_put (fun d hd' e => hd (by cases e; exact hd'))] at hb'
      exact hE.roots n x b hb b' hb'
theorem told_blk {o : Oper} {v : Value} : blk (told X o v).2 = blk v := by
  unfold told
  split
  · split <;> rfl
  · split <;> rfl
  · rfl
theorem keeps_step {a₀ : Act} {h0 i : Nat} {ps : List Prop} {s s' : Act × Mem} (h : sstep P X ops h0 i s = some (ps, s')) (hE : Keeps a₀ ops h0 s.1) : Keeps a₀ ops h0 s'.1 := by
  unfold sstep at h
  cases ho : ops[i]? with
  | none => simp [ho] at h
  | some o =>
    simp only [ho] at h
    split at h
    · split at h
      · split at h
        · rename_i qs v m' hs
          simp only [Option.some.injEq, Prod.mk.injEq] at h
          obtain ⟨_, rfl⟩ := h
          obtain ⟨q, u, h1, _, rfl⟩ := sopD_some hs
          refine keeps_put ho hE (fun y hy => ?_) (fun hmk => ?_)
          · rw [told_blk]
            unfold addrOf at hy
            unfold sop at h1
            split at hy
            · rename_i t y' j hop
              simp only [Option.some.injEq] at hy; subst hy
              simp only [hop] at h1
              split at h1
              · cases hl : sindex P X.sym t (s.1.eval y') (s.1.eval j) with
                | none => simp [hl] at h1
                | some z =>
                  simp only [hl, Option.map_some, Option.some.injEq, Prod.mk.injEq] at h1
                  obtain ⟨_, rfl, _⟩ := h1
                  exact .inr (sindex_blk hl)
              · simp at h1
            · rename_i t y' j hop
              simp only [Option.some.injEq] at hy; subst hy
              simp only [hop] at h1
              split at h1
              · cases hl : sfield P t (s.1.eval y') j with
                | none => simp [hl] at h1
                | some z =>
                  simp only [hl, Option.map_some, Option.some.injEq, Prod.mk.injEq] at h1
                  obtain ⟨_, rfl, _⟩ := h1
                  exact .inr (sfield_blk hl)
              · simp at h1
            · rename_i y' hop
              simp only [Option.some.injEq] at hy; subst hy
              simp only [hop] at h1
              split at h1
              · split at h1
                · rename_i p he
                  simp only [Option.some.injEq, Prod.mk.injEq] at h1
                  obtain ⟨_, rfl, _⟩ := h1
                  exact .inr (by rw [he])
                · exact .inl (spure_blk h1)
              · simp at h1
            · rename_i y' hop
              simp only [Option.some.injEq] at hy; subst hy
              simp only [hop] at h1
              split at h1
              · simp only [Option.some.injEq, Prod.mk.injEq] at h1
                obtain ⟨_, rfl, _⟩ := h1
                exact .inr rfl
              · simp at h1
            · simp at hy
          · rw [told_blk]
            unfold makes at hmk
            unfold sop at h1
            split at hmk
            · rename_i t hop
              simp only [hop] at h1
              split at h1
              · split at h1
                · split at h1
                  · simp only [Option.some.injEq, Prod.mk.injEq] at h1; obtain ⟨_, rfl, _⟩ := h1; exact .inr rfl
                  · simp at h1
                · simp at h1
              · simp at h1
            · rename_i t y hop
              simp only [hop] at h1
              split at h1
              · split at h1
                · simp only [Option.some.injEq, Prod.mk.injEq] at h1; obtain ⟨_, rfl, _⟩ := h1; exact .inr rfl
                · simp at h1
              · simp at h1
            · simp at hmk
        · simp at h
      · simp only [Option.some.injEq, Prod.mk.injEq] at h
        obtain ⟨_, rfl⟩ := h
        exact keeps_put ho hE (fun _ _ => .inl rfl) (fun _ => .inl rfl)
    · simp at h
theorem keeps_start {a₀ : Act} {h0 : Nat} : Keeps a₀ ops h0 a₀ := by
  refine ⟨fun _ _ => rfl, fun n x b hb b' hb' => ?_⟩
  cases n with
  | zero => simp [rootN] at hb
  | succ n =>
    simp only [rootN] at hb
    split at hb
    · rw [hb] at hb'; exact (Option.some.inj hb').symm
    · split at hb
      · simp at hb
      · rename_i hn; rw [hb'] at hn; simp at hn
    · simp at hb
theorem step_comm (hX : X.Ok P) {a₀ : Act} {h0 i j : Nat} {oi oj : Oper} (hi : ops[i]? = some oi) (hj : ops[j]? = some oj) (hap : oi.apart ops oj = true) (hk : kindOK X a₀ ops h0 i j oi oj = true)
    {pi pj : List Prop} {s si sij : Act × Mem} (hE : Keeps a₀ ops h0 s.1) (h1 : sstep P X ops h0 i s = some (pi, si)) (h2 : sstep P X ops h0 j si = some (pj, sij)) : ∃ sj, sstep P X ops h0 j s = some (pj, sj) ∧ sstep P X ops h0 i sj = some (pi, sij) := by
  obtain ⟨p1, p2, p3⟩ := Oper.apart_spec hap
  unfold sstep at *
  simp only [hi, hj] at *
  split at h1
  · rename_i gi
    split at h1
    · rename_i wi
      cases hs : sopD P X (idOf h0 ops i) oi s.1.eval s.2 with
      | none => simp [hs] at h1
      | some p =>
        obtain ⟨qi, vi, mi⟩ := p
        simp only [hs, Option.some.injEq, Prod.mk.injEq] at h1
        obtain ⟨rfl, rfl⟩ := h1
        simp only [wanted_put oj s.1 oi.dst vi p1, guard_put (a := s.1) p1] at h2
        split at h2
        · rename_i gj
          split at h2
          · rename_i wj
            rw [sop_put p1] at h2
            cases ht : sopD P X (idOf h0 ops j) oj s.1.eval mi with
            | none => simp [ht] at h2
            | some q =>
              obtain ⟨qj, vj, mij⟩ := q
              simp only [ht, Option.some.injEq, Prod.mk.injEq] at h2
              obtain ⟨rfl, rfl⟩ := h2
              obtain ⟨mj, c1, c2⟩ := mem_comm hX hE hs ht hk
              refine ⟨(s.1.put oj.dst vj, mj), by simp [gj, wj, c1], ?_⟩
              simp only [wanted_put oi s.1 oj.dst vj p3, guard_put (a := s.1) p3, gi, wi, if_true, sop_put p3, c2, Act.put_comm s.1 vi vj p2]
          · rename_i wj
            simp only [Option.some.injEq, Prod.mk.injEq] at h2
            obtain ⟨rfl, rfl⟩ := h2
            refine ⟨(s.1.put oj.dst undef, s.2), by simp [gj, wj], ?_⟩
            simp only [wanted_put oi s.1 oj.dst undef p3, guard_put (a := s.1) p3, gi, wi, if_true, sop_put p3, hs, Act.put_comm s.1 vi undef p2]
        · simp at h2
    · rename_i wi
      simp only [Option.some.injEq, Prod.mk.injEq] at h1
      obtain ⟨rfl, rfl⟩ := h1
      simp only [wanted_put oj s.1 oi.dst undef p1, guard_put (a := s.1) p1] at h2
      split at h2
      · rename_i gj
        split at h2
        · rename_i wj
          rw [sop_put p1] at h2
          cases ht : sopD P X (idOf h0 ops j) oj s.1.eval s.2 with
          | none => simp [ht] at h2
          | some q =>
            obtain ⟨qj, vj, mij⟩ := q
            simp only [ht, Option.some.injEq, Prod.mk.injEq] at h2
            obtain ⟨rfl, rfl⟩ := h2
            refine ⟨(s.1.put oj.dst vj, mij), by simp [gj, wj], ?_⟩
            simp only [wanted_put oi s.1 oj.dst vj p3, guard_put (a := s.1) p3, gi, wi, if_true, Act.put_comm s.1 undef vj p2]; rfl
        · rename_i wj
          simp only [Option.some.injEq, Prod.mk.injEq] at h2
          obtain ⟨rfl, rfl⟩ := h2
          refine ⟨(s.1.put oj.dst undef, s.2), by simp [gj, wj], ?_⟩
          simp only [wanted_put oi s.1 oj.dst undef p3, guard_put (a := s.1) p3, gi, wi, if_true, Act.put_comm s.1 undef undef p2]; rfl
      · simp at h2
  · simp at h1

/-- Whatever order is drawn, the end is 'out'. -/
def SAny (P : Program) (X : Cx) (ops : Array Oper) (h0 : Nat) (out : Act × Mem) : Nat → Array Bool → Act × Mem → Prop
  | 0, listed, s => Region.ready .any ops listed = [] ∧ s = out
  | n + 1, listed, s => (Region.ready .any ops listed = [] → s = out) ∧ ∀ i ∈ Region.ready .any ops listed, ∃ ps s', sstep P X ops h0 i s = some (ps, s') ∧ (∀ p ∈ ps, p) ∧ SAny P X ops h0 out n (listed.setIfInBounds i true) s'
def mask (acc : List Nat) : List Edge → Nat
  | [] => 0
  | e :: es => if Region.binds .any e then 2 ^ e.on ||| acc.getD e.on 0 ||| mask acc es else mask acc es
/-- Of each operation those that it waits for, as bits. -/
def ancs : List Oper → List Nat → List Nat
  | [], acc => acc
  | o :: os, acc => ancs os (acc ++ [mask acc o.after.toList])
theorem mask_spec {acc : List Nat} {i : Nat} : ∀ {es : List Edge}, (mask acc es).testBit i = true → ∃ e ∈ es, Region.binds .any e = true ∧ (e.on = i ∨ (acc.getD e.on 0).testBit i = true)
  | [], h => by simp [mask] at h
  | e :: es, h => by
    simp only [mask] at h
    split at h
    · rename_i hb
      simp only [Nat.testBit_or, Bool.or_eq_true, Nat.testBit_two_pow, decide_eq_true_eq] at h
      rcases h with (h | h) | h
      · exact ⟨e, by simp, hb, .inl h⟩
      · exact ⟨e, by simp, hb, .inr h⟩
      · obtain ⟨e', h1, h2⟩ := mask_spec h; exact ⟨e', by simp [h1], h2⟩
    · obtain ⟨e', h1, h2⟩ := mask_spec h; exact ⟨e', by simp [h1], h2⟩
theorem ancs_spec : ∀ (os : List Oper) (acc : List Nat), (ancs os acc).take acc.length = acc ∧ (∀ t o, os[t]? = some o → (ancs os acc)[acc.length + t]? = some (mask ((ancs os acc).take (acc.length + t)) o.after.toList)) ∧ (ancs os acc).length = acc.length + os.length
  | [], acc => ⟨by simp [ancs], fun t o h => by simp at h, by simp [ancs]⟩
  | o :: os, acc => by
    obtain ⟨h1, h2, h3⟩ := ancs_spec os (acc ++ [mask acc o.after.toList])
    have h0 : (ancs os (acc ++ [mask acc o.after.toList])).take acc.length = acc := by
      have := congrArg (List.take acc.length) h1
      rw [List.take_take] at this
      simpa using this
    simp only [ancs]
    refine ⟨h0, fun t o' ht => ?_, by rw [h3]; simp; omega⟩
    cases t with
    | zero =>
      simp at ht; subst ht
      rw [Nat.add_zero, h0]
      have := congrArg (fun l => l[acc.length]?) h1
      simp only [List.getElem?_take] at this
      rw [if_pos (by simp)] at this
      rw [this]; simp
    | succ t =>
      have := h2 t o' (by simpa using ht)
      simp only [List.length_append, List.length_cons, List.length_nil] at this
      rw [show acc.length + (t + 1) = acc.length + (0 + 1) + t by omega]
      exact this
theorem anc_edge {j i : Nat} {o : Oper} (ho : ops[j]? = some o) (h : ((ancs ops.toList []).getD j 0).testBit i = true) :
    ∃ e ∈ o.after, Region.binds .any e = true ∧ (e.on = i ∨ (e.on < j ∧ ((ancs ops.toList []).getD e.on 0).testBit i = true)) := by
  obtain ⟨_, h2, _⟩ := ancs_spec ops.toList []
  have h3 := h2 j o (by simpa using ho)
  simp only [List.length_nil, Nat.zero_add] at h3
  rw [List.getD_eq_getElem?_getD, h3] at h
  obtain ⟨e, he, hb, h4⟩ := mask_spec h
  refine ⟨e, by simpa using he, hb, h4.imp id fun h5 => ?_⟩
  rw [List.getD_eq_getElem?_getD, List.getElem?_take] at h5
  split at h5
  · rename_i hlt; exact ⟨hlt, by rw [List.getD_eq_getElem?_getD]; exact h5⟩
  · simp at h5
def Closed (ops : Array Oper) (listed : Array Bool) : Prop := ∀ j o, ops[j]? = some o → listed.getD j false = true → ∀ e ∈ o.after, Region.binds .any e = true → listed.getD e.on false = true
theorem closed_anc {listed : Array Bool} (hc : Closed ops listed) {i : Nat} : ∀ (j : Nat), listed.getD j false = true → ((ancs ops.toList []).getD j 0).testBit i = true → listed.getD i false = true := by
  intro j
  induction j using Nat.strongRecOn with
  | _ j ih =>
    intro hl ht
    cases ho : ops[j]? with
    | none =>
      obtain ⟨_, _, h3⟩ := ancs_spec ops.toList []
      have : (ancs ops.toList []).getD j 0 = 0 := by
        rw [List.getD_eq_getElem?_getD, List.getElem?_eq_none]; rfl
        rw [h3]; rw [Array.getElem?_eq_none_iff] at ho; simpa using ho
      rw [this] at ht; simp at ht
    | some o =>
      obtain ⟨e, he, hb, h4⟩ := anc_edge ho ht
      have h5 := hc j o ho hl e he hb
      rcases h4 with rfl | ⟨h6, h7⟩
      · exact h5
      · exact ih e.on h6 h5 h7
theorem ready_anc {listed : Array Bool} (hc : Closed ops listed) {i j : Nat} (hj : j ∈ Region.ready .any ops listed) (ht : ((ancs ops.toList []).getD j 0).testBit i = true) : listed.getD i false = true := by
  obtain ⟨_, o, ho, hall⟩ := mem_ready.1 hj
  obtain ⟨e, he, hb, h4⟩ := anc_edge ho ht
  have h5 := hall e he hb
  rcases h4 with rfl | ⟨_, h7⟩
  · exact h5
  · exact closed_anc hc e.on h5 h7
theorem not_both {listed : Array Bool} {i : Nat} (h1 : listed.getD i true = false) (h2 : listed.getD i false = true) : False := by
  rcases Nat.lt_or_ge i listed.size with h | h
  · simp [h] at h1 h2; rw [h1] at h2; cases h2
  · simp [Array.getElem?_eq_none h] at h2
theorem closed_set {listed : Array Bool} (hc : Closed ops listed) {j : Nat} (hj : j ∈ Region.ready .any ops listed) : Closed ops (listed.setIfInBounds j true) := by
  intro k o ho hl e he hb
  refine getD_set_true ?_
  by_cases hjk : j = k
  · subst hjk
    obtain ⟨_, o', ho', hall⟩ := mem_ready.1 hj
    rw [ho] at ho'; cases ho'
    exact hall e he hb
  · rw [getD_set_ne false hjk] at hl; exact hc k o ho hl e he hb
theorem SAny_first (hX : X.Ok P) {a₀ : Act} {h0 i : Nat} {oi : Oper} (hi : ops[i]? = some oi) {out : Act × Mem} : ∀ (fuel : Nat) (listed : Array Bool) (s si : Act × Mem) (ps : List Prop), (∀ p ∈ ps, p) → Keeps a₀ ops h0 s.1 → Closed ops listed →
    (∀ j oj, ops[j]? = some oj → j ≠ i → listed.getD j true = false → ((ancs ops.toList []).getD j 0).testBit i = false → oi.apart ops oj = true ∧ kindOK X a₀ ops h0 i j oi oj = true) →
    i ∈ Region.ready .any ops listed → sstep P X ops h0 i s = some (ps, si) → SAny P X ops h0 out fuel (listed.setIfInBounds i true) si → SAny P X ops h0 out (fuel + 1) listed s := by
  intro fuel
  induction fuel with
  | zero =>
    intro listed s si ps hps _ _ _ hr hs H
    refine ⟨fun h => (by rw [h] at hr; cases hr), fun j hj => ?_⟩
    by_cases hji : j = i
    · subst hji; exact ⟨ps, si, hs, hps, H⟩
    · have := ready_mono hj hji
      rw [H.1] at this
      cases this
  | succ fuel ih =>
    intro listed s si ps hps hE hc hfree hr hs H
    refine ⟨fun h => (by rw [h] at hr; cases hr), fun j hj => ?_⟩
    by_cases hji : j = i
    · subst hji; exact ⟨ps, si, hs, hps, H⟩
    · obtain ⟨pj, sij, h1, hpj, h2⟩ := H.2 j (ready_mono hj hji)
      obtain ⟨hjun, oj, hoj, hall⟩ := mem_ready.1 hj
      have hbit : ((ancs ops.toList []).getD j 0).testBit i = false := by
        cases hb : ((ancs ops.toList []).getD j 0).testBit i with
        | false => rfl
        | true => exact (not_both (mem_ready.1 hr).1 (ready_anc hc hj hb)).elim
      obtain ⟨hap, hk⟩ := hfree j oj hoj hji hjun hbit
      obtain ⟨sj, c1, c2⟩ := step_comm hX hi hoj hap hk hE hs h1
      refine ⟨pj, sj, c1, hpj, ih _ sj sij ps hps (keeps_step c1 hE) (closed_set hc hj) (fun k ok hk' hki hun hb => hfree k ok hk' hki ?_ hb) (ready_mono hr (Ne.symm hji)) c2 ?_⟩
      · by_cases hjk : j = k
        · subst hjk; exact hjun
        · rw [getD_set_ne true hjk] at hun; exact hun
      · rw [Array.setIfInBounds_comm _ _ hji]; exact h2
def canFirst (X : Cx) (a₀ : Act) (ops : Array Oper) (h0 : Nat) (M : List Nat) (listed : Array Bool) (i : Nat) : Bool :=
  match ops[i]? with
  | none => false
  | some oi => (List.range ops.size).all fun j => j == i || listed.getD j true || (M.getD j 0).testBit i || match ops[j]? with
      | some oj => oi.apart ops oj && kindOK X a₀ ops h0 i j oi oj
      | none => true
/-- The region's run: those first that may come first; what is left comes alone. -/
def srun (P : Program) (X : Cx) (a₀ : Act) (ops : Array Oper) (h0 : Nat) (M : List Nat) : Nat → Array Bool → List Prop → Act × Mem → Option (List Prop × Act × Mem)
  | 0, listed, qs, s => match Region.ready .any ops listed with
    | [] => some (qs, s)
    | _ => none
  | n + 1, listed, qs, s => match Region.ready .any ops listed with
    | [] => some (qs, s)
    | i :: rest => match (i :: rest).find? (canFirst X a₀ ops h0 M listed) with
      | some k => match sstep P X ops h0 k s with
        | some (ps, s') => srun P X a₀ ops h0 M n (listed.setIfInBounds k true) (qs ++ ps) s'
        | none => none
      | none => match rest with
        | [] => match sstep P X ops h0 i s with
          | some (ps, s') => srun P X a₀ ops h0 M n (listed.setIfInBounds i true) (qs ++ ps) s'
          | none => none
        | _ => none
theorem srun_any (hX : X.Ok P) {a₀ : Act} {h0 : Nat} {out : Act × Mem} {rs : List Prop} (hrs : ∀ p ∈ rs, p) : ∀ (n : Nat) (listed : Array Bool) (qs : List Prop) (s : Act × Mem), Keeps a₀ ops h0 s.1 → Closed ops listed → srun P X a₀ ops h0 (ancs ops.toList []) n listed qs s = some (rs, out) → (∀ p ∈ qs, p) ∧ SAny P X ops h0 out n listed s := by
  intro n
  induction n with
  | zero =>
    intro listed qs s _ _ h
    unfold srun at h
    split at h
    · rename_i hr
      simp only [Option.some.injEq, Prod.mk.injEq] at h
      exact ⟨by rw [h.1]; exact hrs, hr, h.2⟩
    · simp at h
  | succ n ih =>
    intro listed qs s hE hc h
    unfold srun at h
    split at h
    · rename_i hr
      simp only [Option.some.injEq, Prod.mk.injEq] at h
      exact ⟨by rw [h.1]; exact hrs, fun _ => h.2, by rw [hr]; simp⟩
    · rename_i i rest hr
      split at h
      · rename_i k hk
        have hm : k ∈ Region.ready .any ops listed := by rw [hr]; exact List.mem_of_find?_eq_some hk
        have hf := List.find?_some hk
        split at h
        · rename_i ps s' hs
          obtain ⟨h0, h1⟩ := ih _ _ s' (keeps_step hs hE) (closed_set hc hm) h
          obtain ⟨_, ok, hok, _⟩ := mem_ready.1 hm
          refine ⟨fun p hp => h0 p (by simp [hp]), SAny_first hX hok n listed s s' ps (fun p hp => h0 p (by simp [hp])) hE hc (fun j oj hoj hji hun hb => ?_) hm hs h1⟩
          simp only [canFirst, hok, List.all_eq_true, List.mem_range] at hf
          have := hf j (Array.getElem?_eq_some_iff.1 hoj).1
          simp only [hoj, Bool.or_eq_true, beq_iff_eq, hji, false_or, hun, Bool.false_eq_true, hb, Bool.and_eq_true] at this
          exact this
        · simp at h
      · split at h
        · split at h
          · rename_i ps s' hs
            have hm : i ∈ Region.ready .any ops listed := by rw [hr]; simp
            obtain ⟨h0, h1⟩ := ih _ _ s' (keeps_step hs hE) (closed_set hc hm) h
            refine ⟨fun p hp => h0 p (by simp [hp]), fun h0 => (by rw [hr] at h0; cases h0), fun j hj => ?_⟩
            rw [hr] at hj
            simp at hj
            subst hj
            exact ⟨ps, s', hs, fun p hp => h0 p (by simp [hp]), h1⟩
          · simp at h
        · simp at h
theorem tr_bool {b : Bool} {v : Value} (h : tr r v = some (.bool b)) : v = .bool b := by
  cases v with
  | tuple vs => simp [tr] at h
  | agg cs => simp [tr, tr2] at h
  | pointer p => cases p <;> simp [tr, tr2, tr1, flat1] at h
  | slice p l c => cases p <;> simp [tr, tr2, tr1, flat1] at h
  | map p => cases p <;> simp [tr, tr2, tr1, flat1] at h
  | chan p => cases p <;> simp [tr, tr2, tr1, flat1] at h
  | _ => simp [tr, tr2, tr1, flat1] at h <;> simp [h]
theorem wanted_sim (S : Sim gl r₀ w₀ a m A w r) (o : Oper) (hg : guardOK ops a o = true) : Region.wanted o (yielded ops A.tmps) = Region.wanted o (yielded ops a.tmps) := by
  unfold Region.wanted
  unfold guardOK at hg
  cases hgd : o.guard with
  | none => rfl
  | some q =>
    obtain ⟨j, want⟩ := q
    simp only [hgd] at hg ⊢
    have hy : yielded ops A.tmps j = yielded ops a.tmps j := by
      unfold yielded
      cases ht : (ops[j]?).bind (·.dst) with
      | none => rfl
      | some t =>
        simp only [ht] at hg
        simp only [Option.bind_some]
        have hev := S.eval (x := .tmp t) hg
        simp only [Act.eval, Array.getD_eq_getD_getElem?] at hev
        have hsz := S.size
        cases hta : a.tmps[t]? with
        | none =>
          have : A.tmps[t]? = none := by
            rw [Array.getElem?_eq_none_iff] at hta ⊢; omega
          rw [this]
        | some v =>
          obtain ⟨v', hv'⟩ : ∃ v', A.tmps[t]? = some v' := by
            have hlt : t < A.tmps.size := by rw [S.size]; exact (Array.getElem?_eq_some_iff.1 hta).1
            exact ⟨A.tmps[t], by simp [hlt]⟩
          rw [hta, hv'] at hev
          simp only [Option.getD_some] at hev
          rw [hv']
          by_cases hv : ∃ b, v' = .bool b
          · obtain ⟨b, rfl⟩ := hv
            rw [tr_bool hev]
          · have hv2 : ¬ ∃ b, v = .bool b := by
              rintro ⟨b, rfl⟩
              simp [tr, tr2, tr1, flat1] at hev
              exact hv ⟨b, hev.symm⟩
            cases v' <;> cases v <;> first | rfl | (exact absurd ⟨_, rfl⟩ hv) | (exact absurd ⟨_, rfl⟩ hv2)
    rw [hy]
theorem step_wp (hX : X.Ok P) {h0 i : Nat} {ps : List Prop} {s s' : Act × Mem} (h : sstep P X ops h0 i s = some (ps, s')) (hp : ∀ p ∈ ps, p) (S : Sim X.gl r₀ w₀ s.1 s.2 A w r) {K : Act → World → Prop} {Q : Exit → Act → World → Prop}
    (hK : ∀ A' w' r', Sim X.gl r₀ w₀ s'.1 s'.2 A' w' r' → K A' w') : wpOp P ops Q i K A w := by
  unfold sstep at h
  unfold wpOp
  cases ho : ops[i]? with
  | none => simp [ho] at h
  | some o =>
    simp only [ho] at h ⊢
    split at h
    · rename_i hg
      rw [wanted_sim S o hg]
      split at h
      · rename_i hw
        rw [if_pos hw]
        cases hs : sopD P X (idOf h0 ops i) o s.1.eval s.2 with
        | none => simp [hs] at h
        | some p =>
          obtain ⟨qs, v, m'⟩ := p
          simp only [hs, Option.some.injEq, Prod.mk.injEq] at h
          obtain ⟨rfl, rfl⟩ := h
          exact .inl (sopD_wp hX hs hp S hK)
      · rename_i hw
        rw [if_neg hw]
        simp only [Option.some.injEq, Prod.mk.injEq] at h
        obtain ⟨rfl, rfl⟩ := h
        exact hK _ _ _ (S.put0 (tr_undef r) _)
    · simp at h
theorem any_wp (hX : X.Ok P) {h0 : Nat} {out : Act × Mem} {Q : Exit → Act → World → Prop} (hQ : ∀ A w r, Sim X.gl r₀ w₀ out.1 out.2 A w r → Q .normal A w) :
    ∀ (n : Nat) (listed : Array Bool) (s : Act × Mem) (A : Act) (w : World) (r : Ren), SAny P X ops h0 out n listed s → Sim X.gl r₀ w₀ s.1 s.2 A w r → wpAny P .any ops Q n listed A w := by
  intro n
  induction n with
  | zero => intro listed s A w r h S; exact ⟨h.1, hQ _ _ _ (h.2 ▸ S)⟩
  | succ n ih =>
    intro listed s A w r h S
    refine ⟨fun h0 => hQ _ _ _ (h.1 h0 ▸ S), fun i hi => ?_⟩
    obtain ⟨ps, s', h1, hp, h2⟩ := h.2 i hi
    exact step_wp hX h1 hp S (fun A' w' r' S' => ih _ s' A' w' r' h2 S')
/-- In the text's order. -/
def sseq (P : Program) (X : Cx) (ops : Array Oper) (h0 : Nat) : List Nat → List Prop → Act × Mem → Option (List Prop × Act × Mem)
  | [], qs, s => some (qs, s)
  | i :: l, qs, s => match sstep P X ops h0 i s with
    | some (ps, s') => sseq P X ops h0 l (qs ++ ps) s'
    | none => none
theorem sseq_ob {h0 : Nat} {rs : List Prop} {out : Act × Mem} : ∀ (l : List Nat) (qs : List Prop) (s : Act × Mem), sseq P X ops h0 l qs s = some (rs, out) → ∀ p ∈ qs, p ∈ rs
  | [], qs, s, h, p, hp => by simp only [sseq, Option.some.injEq, Prod.mk.injEq] at h; rw [← h.1]; exact hp
  | i :: l, qs, s, h, p, hp => by
    simp only [sseq] at h
    split at h
    · exact sseq_ob l _ _ h p (by simp [hp])
    · simp at h
theorem seq_wp (hX : X.Ok P) {h0 : Nat} {out : Act × Mem} {rs : List Prop} (hrs : ∀ p ∈ rs, p) {Q : Exit → Act → World → Prop} (hQ : ∀ A w r, Sim X.gl r₀ w₀ out.1 out.2 A w r → Q .normal A w) :
    ∀ (l : List Nat) (qs : List Prop) (s : Act × Mem) (A : Act) (w : World) (r : Ren), sseq P X ops h0 l qs s = some (rs, out) → Sim X.gl r₀ w₀ s.1 s.2 A w r → wpOps P ops Q l A w := by
  intro l
  induction l with
  | nil => intro qs s A w r h S; simp only [sseq, Option.some.injEq, Prod.mk.injEq] at h; obtain ⟨_, rfl⟩ := h; exact hQ _ _ _ S
  | cons i l ih =>
    intro qs s A w r h S
    rw [wpOps_cons]
    simp only [sseq] at h
    split at h
    · rename_i ps s' hs
      exact step_wp hX hs (fun p hp => hrs p (sseq_ob l _ _ h p (by simp [hp]))) S (fun A' w' r' S' => ih _ s' A' w' r' h S')
    · simp at h
theorem Sim.draw (S : Sim gl r₀ w₀ a m A w r) : Sim gl r₀ w₀ a m A { w with drawn := w.drawn + 1 } r :=
  ⟨S.rel.heap rfl, S.ext, ⟨S.fr.os, S.fr.tape, S.fr.output, S.fr.size, S.fr.block⟩, S.size, S.tmps, S.defers, S.glob⟩
def forgets (ops : Array Oper) : List Nat := ops.toList.filterMap fun o =>
  match o.op with
  | .indexAddr _ _ _ => o.dst
  | .fieldAddr _ _ _ => o.dst
  | .nilCheck _ => o.dst
  | .alloc _ => o.dst
  | .box _ _ => o.dst
  | _ => none
def forgetL (a : Act) : List Nat → Act
  | [] => a
  | t :: l => forgetL (a.put (some t) poison) l
theorem Sim.forgetL : ∀ (l : List Nat) {a : Act}, Sim gl r₀ w₀ a m A w r → Sim gl r₀ w₀ (forgetL a l) m A w r
  | [], _, S => S
  | t :: l, _, S => Sim.forgetL l (S.forget t)
def sregion (P : Program) (X : Cx) (ops : Array Oper) (draw : Bool) (s : Act × Mem) : Option (List Prop × Act × Mem) :=
  if draw then
    srun P X (forgetL s.1 (forgets ops)) ops s.2.length (ancs ops.toList []) ops.size (Array.replicate ops.size false) [] (forgetL s.1 (forgets ops), s.2 ++ List.replicate (ops.toList.filter makes).length none)
  else sseq P X ops s.2.length (List.range ops.size) [] (s.1, s.2 ++ List.replicate (ops.toList.filter makes).length none)
theorem closed_none : Closed ops (Array.replicate ops.size false) := fun j o ho hl => by
  have := (Array.getElem?_eq_some_iff.1 ho).1
  simp [this] at hl
theorem region_wp (hX : X.Ok P) (hm : P.follows .mixedOrders = true) {id : Nat} {draw : Bool} {rs : List Prop} {s out : Act × Mem} (h : sregion P X ops draw s = some (rs, out)) (hrs : ∀ p ∈ rs, p) (S : Sim X.gl r₀ w₀ s.1 s.2 A w r) {Q : Exit → Act → World → Prop}
    (hQ : ∀ A w r, Sim X.gl r₀ w₀ out.1 out.2 A w r → Q .normal A w) : (Code.region id ops draw).wp P Q A w := by
  unfold sregion at h
  cases draw with
  | true =>
    rw [if_pos rfl] at h
    have S2 := ((S.forgetL (forgets ops)).reserve (ops.toList.filter makes).length).draw
    have hk := keeps_start (ops := ops) (a₀ := forgetL s.1 (forgets ops)) (h0 := s.2.length)
    generalize forgetL s.1 (forgets ops) = a1 at *
    generalize s.2 ++ List.replicate (ops.toList.filter makes).length none = m1 at *
    exact wp_region_any hm (any_wp hX hQ _ _ (a1, m1) A _ r (srun_any hX hrs _ _ _ (a1, m1) hk closed_none h).2 S2)
  | false =>
    rw [if_neg (by simp)] at h
    have S2 := S.reserve (ops.toList.filter makes).length
    generalize s.2 ++ List.replicate (ops.toList.filter makes).length none = m1 at *
    exact wp_region (seq_wp hX hrs hQ _ _ (s.1, m1) A w r h S2)
end Go.Proofs.YtnmgpkpdjpjbgaaDoor
/- Code and functions in the small memory. -/
namespace Go.Proofs.YtnmgpkpdjpjbgaaDoor
open Go Go.RowKit
set_option linter.unusedSimpArgs false
set_option linter.unusedVariables false
variable {gl : List Nat} {r₀ r : Ren} {w₀ w : World} {a A : Act} {m : Mem} {P : Program} {X : Cx}

/-- The code c, begun in the small state s, ends as Q says, wherever that state lies. -/
def SW (P : Program) (gl : List Nat) (c : Code) (s : Act × Mem) (Q : Exit → Act × Mem → Prop) : Prop :=
  ∀ r₀ w₀ A w r, Sim gl r₀ w₀ s.1 s.2 A w r → c.wp P (fun e A' w' => ∃ s' r', Q e s' ∧ Sim gl r₀ w₀ s'.1 s'.2 A' w' r') A w
def thenS (N : Act × Mem → Prop) (Q : Exit → Act × Mem → Prop) : Exit → Act × Mem → Prop
  | .normal, s => N s
  | e, s => Q e s
def blockS (id : Nat) (Q : Exit → Act × Mem → Prop) : Exit → Act × Mem → Prop
  | .exit k, s => if k = id then Q .normal s else Q (.exit k) s
  | e, s => Q e s
theorem SW.mono {c : Code} {s : Act × Mem} {Q Q' : Exit → Act × Mem → Prop} (h : SW P gl c s Q) (hq : ∀ e s, Q e s → Q' e s) : SW P gl c s Q' :=
  fun r₀ w₀ A w r S => wp_mono (h r₀ w₀ A w r S) fun e A' w' ⟨s', r', h1, h2⟩ => ⟨s', r', hq _ _ h1, h2⟩
theorem SW.skip {s : Act × Mem} {Q : Exit → Act × Mem → Prop} (h : Q .normal s) : SW P gl .skip s Q := fun _ _ _ _ r S => wp_skip ⟨s, r, h, S⟩
theorem SW.label {l : Nat} {s : Act × Mem} {Q : Exit → Act × Mem → Prop} (h : Q .normal s) : SW P gl (.label l) s Q := fun _ _ _ _ r S => wp_label ⟨s, r, h, S⟩
theorem SW.exit {id : Nat} {s : Act × Mem} {Q : Exit → Act × Mem → Prop} (h : Q (.exit id) s) : SW P gl (.exit id) s Q := fun _ _ _ _ r S => wp_exit ⟨s, r, h, S⟩
theorem SW.ret {s : Act × Mem} {Q : Exit → Act × Mem → Prop} (h : Q .ret s) : SW P gl .ret s Q := fun _ _ _ _ r S => wp_ret ⟨s, r, h, S⟩
theorem SW.seq {x y : Code} {s : Act × Mem} {Q : Exit → Act × Mem → Prop} (h : SW P gl x s (thenS (fun s' => SW P gl y s' Q) Q)) : SW P gl (.seq x y) s Q := by
  intro r₀ w₀ A w r S
  refine wp_seq (wp_mono (h r₀ w₀ A w r S) ?_)
  rintro e A' w' ⟨s', r', h1, h2⟩
  cases e with
  | normal => exact h1 r₀ w₀ A' w' r' h2
  | _ => exact ⟨s', r', h1, h2⟩
theorem SW.cond {c : Operand} {x y : Code} {s : Act × Mem} {Q : Exit → Act × Mem → Prop} {t : Bool} (hok : okX gl s.1.eval c = true) (hc : s.1.eval c = .bool t) (h : SW P gl (if t then x else y) s Q) : SW P gl (.cond c x y) s Q := by
  intro r₀ w₀ A w r S
  have h1 := S.eval hok
  rw [hc] at h1
  have h2 : A.eval c = .bool t := by simp [tr, tr2, tr1, flat1] at h1; exact h1.symm
  exact wp_cond h2 (h r₀ w₀ A w r S)
theorem SW.block {id : Nat} {c : Code} {s : Act × Mem} {Q : Exit → Act × Mem → Prop} (h : SW P gl c s (blockS id Q)) : SW P gl (.block id c) s Q := by
  intro r₀ w₀ A w r S
  refine wp_block (wp_mono (h r₀ w₀ A w r S) ?_)
  rintro e A' w' ⟨s', r', h1, h2⟩
  cases e with
  | exit k =>
    simp only [blockS] at h1
    simp only [Exit.inBlock]
    split at h1
    · rename_i hk; rw [if_pos hk]; exact ⟨s', r', h1, h2⟩
    · rename_i hk; rw [if_neg hk]; exact ⟨s', r', h1, h2⟩
  | _ => exact ⟨s', r', h1, h2⟩
theorem least {p : Nat → Prop} : ∀ n, p n → ∃ k, p k ∧ k ≤ n ∧ ∀ j, p j → k ≤ j := by
  intro n
  induction n using Nat.strongRecOn with
  | _ n ih =>
    intro hn
    by_cases h : ∃ j, j < n ∧ p j
    · obtain ⟨j, hj, hp⟩ := h
      obtain ⟨k, h1, h2, h3⟩ := ih j hj hp
      exact ⟨k, h1, by omega, h3⟩
    · exact ⟨n, hn, Nat.le_refl _, fun j hj => by
        rcases Nat.lt_or_ge j n with h1 | h1
        · exact absurd ⟨j, h1, hj⟩ h
        · exact h1⟩
open Classical in
/-- A loop, by a measure that falls. -/
theorem SW.loop {c : Code} {s : Act × Mem} {Q : Exit → Act × Mem → Prop} (I : Nat → Act × Mem → Prop) (n : Nat) (h0 : I n s)
    (round : ∀ n s, I n s → SW P gl c s (thenS (fun s' => ∃ k, k < n ∧ I k s') Q)) : SW P gl (.loop c) s Q := by
  intro r₀ w₀ A w r S
  let p (A : Act) (w : World) (n : Nat) : Prop := ∃ s r, I n s ∧ Sim gl r₀ w₀ s.1 s.2 A w r
  let mu (A : Act) (w : World) : Nat := if h : ∃ n, p A w n then Classical.choose (least (p := p A w) (Classical.choose h) (Classical.choose_spec h)) else 0
  have hmu : ∀ A w n, p A w n → p A w (mu A w) ∧ mu A w ≤ n := by
    intro A w n hn
    have h : ∃ n, p A w n := ⟨n, hn⟩
    have := Classical.choose_spec (least (p := p A w) (Classical.choose h) (Classical.choose_spec h))
    have e : mu A w = Classical.choose (least (p := p A w) (Classical.choose h) (Classical.choose_spec h)) := dif_pos h
    rw [e]
    exact ⟨this.1, this.2.2 n hn⟩
  refine wp_loop (fun A w => ∃ n, p A w n) mu ⟨n, s, r, h0, S⟩ ?_
  rintro A w ⟨n, hn⟩
  obtain ⟨⟨s, r, hI, S⟩, _⟩ := hmu A w n hn
  refine wp_mono (round _ s hI r₀ w₀ A w r S) ?_
  rintro e A' w' ⟨s', r', h1, h2⟩
  cases e with
  | normal =>
    obtain ⟨k, hk, hI'⟩ := h1
    have := (hmu A' w' k ⟨s', r', hI', h2⟩).2
    exact ⟨⟨k, s', r', hI', h2⟩, by omega⟩
  | _ => exact ⟨s', r', h1, h2⟩
theorem SW.region (hX : X.Ok P) (hm : P.follows .mixedOrders = true) {id : Nat} {ops : Array Oper} {draw : Bool} {rs : List Prop} {s out : Act × Mem} {Q : Exit → Act × Mem → Prop} (h : sregion P X ops draw s = some (rs, out)) (hrs : ∀ p ∈ rs, p) (hq : Q .normal out) : SW P X.gl (.region id ops draw) s Q :=
  fun _ _ _ _ _ S => region_wp hX hm h hrs S fun A w r S' => ⟨out, r, hq, S'⟩
/-- The run of a code whose tests are all plain, and the terms that it asks. -/
def sexec (P : Program) (X : Cx) : Nat → Code → List Prop → Act × Mem → Option (List Prop × Exit × Act × Mem)
  | 0, _, _, _ => none
  | n + 1, c, qs, s => match c with
    | .skip => some (qs, .normal, s)
    | .label _ => some (qs, .normal, s)
    | .region _ ops d => match sregion P X ops d s with
      | some (ps, s') => some (qs ++ ps, .normal, s')
      | none => none
    | .seq a b => match sexec P X n a qs s with
      | some (qs', .normal, s') => sexec P X n b qs' s'
      | r => r
    | .cond c a b => if okX X.gl s.1.eval c then
        match s.1.eval c with
        | .bool true => sexec P X n a qs s
        | .bool false => sexec P X n b qs s
        | _ => none
      else none
    | .block id b => match sexec P X n b qs s with
      | some (qs', .exit k, s') => if k = id then some (qs', .normal, s') else some (qs', .exit k, s')
      | r => r
    | .loop b => match sexec P X n b qs s with
      | some (qs', .normal, s') => sexec P X n (.loop b) qs' s'
      | r => r
    | .exit id => some (qs, .exit id, s)
    | .ret => some (qs, .ret, s)
    | _ => none
theorem sexec_ob : ∀ (n : Nat) (c : Code) (qs : List Prop) (s : Act × Mem) (rs : List Prop) (e : Exit) (s' : Act × Mem), sexec P X n c qs s = some (rs, e, s') → ∀ p ∈ qs, p ∈ rs := by
  intro n
  induction n with
  | zero => intro c qs s rs e s' h; simp [sexec] at h
  | succ n ih =>
    intro c qs s rs e s' h p hp
    unfold sexec at h
    split at h
    · simp only [Option.some.injEq, Prod.mk.injEq] at h; rw [← h.1]; exact hp
    · simp only [Option.some.injEq, Prod.mk.injEq] at h; rw [← h.1]; exact hp
    · split at h
      · simp only [Option.some.injEq, Prod.mk.injEq] at h; rw [← h.1]; simp [hp]
      · simp at h
    · split at h
      · rename_i h1; exact ih _ _ _ _ _ _ h p (ih _ _ _ _ _ _ h1 p hp)
      · exact ih _ _ _ _ _ _ h p hp
    · split at h
      · split at h
        · exact ih _ _ _ _ _ _ h p hp
        · exact ih _ _ _ _ _ _ h p hp
        · simp at h
      · simp at h
    · split at h
      · rename_i h1
        have := ih _ _ _ _ _ _ h1 p hp
        split at h
        · simp only [Option.some.injEq, Prod.mk.injEq] at h; rw [← h.1]; exact this
        · simp only [Option.some.injEq, Prod.mk.injEq] at h; rw [← h.1]; exact this
      · exact ih _ _ _ _ _ _ h p hp
    · split at h
      · rename_i h1; exact ih _ _ _ _ _ _ h p (ih _ _ _ _ _ _ h1 p hp)
      · exact ih _ _ _ _ _ _ h p hp
    · simp only [Option.some.injEq, Prod.mk.injEq] at h; rw [← h.1]; exact hp
    · simp only [Option.some.injEq, Prod.mk.injEq] at h; rw [← h.1]; exact hp
    · simp at h
theorem sexec_sound (hX : X.Ok P) (hm : P.follows .mixedOrders = true) {rs : List Prop} (hrs : ∀ p ∈ rs, p) : ∀ (n : Nat) (c : Code) (qs ts : List Prop) (s : Act × Mem) (e : Exit) (s' : Act × Mem), sexec P X n c qs s = some (ts, e, s') → (∀ p ∈ ts, p ∈ rs) → SW P X.gl c s (fun e' s'' => e' = e ∧ s'' = s') := by
  intro n
  induction n using Nat.strongRecOn with
  | _ n ih =>
    intro c qs ts s e s' h hts
    cases n with
    | zero => simp [sexec] at h
    | succ n =>
      unfold sexec at h
      split at h
      · simp only [Option.some.injEq, Prod.mk.injEq] at h; obtain ⟨_, rfl, rfl⟩ := h; exact SW.skip ⟨rfl, rfl⟩
      · simp only [Option.some.injEq, Prod.mk.injEq] at h; obtain ⟨_, rfl, rfl⟩ := h; exact SW.label ⟨rfl, rfl⟩
      · split at h
        · rename_i hr
          simp only [Option.some.injEq, Prod.mk.injEq] at h; obtain ⟨rfl, rfl, rfl⟩ := h; exact SW.region hX hm hr (fun p hp => hrs p (hts p (by simp [hp]))) ⟨rfl, rfl⟩
        · simp at h
      · split at h
        · rename_i q1 s1 h1
          refine SW.seq ((ih n (by omega) _ _ _ s _ _ h1 (fun p hp => hts p (sexec_ob _ _ _ _ _ _ _ h p hp))).mono ?_)
          rintro e1 s2 ⟨rfl, rfl⟩
          exact ih n (by omega) _ _ _ _ _ _ h hts
        · rename_i hn
          refine SW.seq ((ih n (by omega) _ _ _ s _ _ h hts).mono ?_)
          rintro e1 s2 ⟨rfl, rfl⟩
          cases e1 with
          | normal => exact absurd h (hn _ _)
          | _ => exact ⟨rfl, rfl⟩
      · split at h
        · rename_i hok
          split at h
          · rename_i he; exact SW.cond hok he (ih n (by omega) _ _ _ s _ _ h hts)
          · rename_i he; exact SW.cond hok he (ih n (by omega) _ _ _ s _ _ h hts)
          · simp at h
        · simp at h
      · split at h
        · rename_i q1 k s1 h1
          have hq1 : ∀ p ∈ q1, p ∈ rs := by
            intro p hp
            split at h
            · simp only [Option.some.injEq, Prod.mk.injEq] at h; exact hts p (by rw [← h.1]; exact hp)
            · simp only [Option.some.injEq, Prod.mk.injEq] at h; exact hts p (by rw [← h.1]; exact hp)
          refine SW.block ((ih n (by omega) _ _ _ s _ _ h1 hq1).mono ?_)
          rintro e1 s2 ⟨rfl, rfl⟩
          simp only [blockS]
          split at h
          · rename_i hk; rw [if_pos hk]; simp only [Option.some.injEq, Prod.mk.injEq] at h; exact ⟨h.2.1, h.2.2⟩
          · rename_i hk; rw [if_neg hk]; simp only [Option.some.injEq, Prod.mk.injEq] at h; exact ⟨h.2.1, h.2.2⟩
        · rename_i hn
          refine SW.block ((ih n (by omega) _ _ _ s _ _ h hts).mono ?_)
          rintro e1 s2 ⟨rfl, rfl⟩
          cases e1 with
          | exit k => exact absurd h (hn _ _ _)
          | _ => exact ⟨rfl, rfl⟩
      · rename_i b
        have h' : sexec P X (n + 1) (.loop b) qs s = some (ts, e, s') := by unfold sexec; exact h
        refine SW.loop (fun k s => k ≤ n + 1 ∧ ∃ qs, sexec P X k (.loop b) qs s = some (ts, e, s')) (n + 1) ⟨Nat.le_refl _, qs, h'⟩ ?_
        rintro k s ⟨hk, qs, hs⟩
        cases k with
        | zero => simp [sexec] at hs
        | succ k =>
          unfold sexec at hs
          simp only at hs
          split at hs
          · rename_i q1 s1 h1
            refine (ih k (by omega) _ _ _ s _ _ h1 (fun p hp => hts p (sexec_ob _ _ _ _ _ _ _ hs p hp))).mono ?_
            rintro e1 s2 ⟨rfl, rfl⟩
            exact ⟨k, by omega, by omega, _, hs⟩
          · rename_i hn
            refine (ih k (by omega) _ _ _ s _ _ hs hts).mono ?_
            rintro e1 s2 ⟨rfl, rfl⟩
            cases e1 with
            | normal => exact absurd hs (hn _ _)
            | _ => exact ⟨rfl, rfl⟩
      · simp only [Option.some.injEq, Prod.mk.injEq] at h; obtain ⟨_, rfl, rfl⟩ := h; exact SW.exit ⟨rfl, rfl⟩
      · simp only [Option.some.injEq, Prod.mk.injEq] at h; obtain ⟨_, rfl, rfl⟩ := h; exact SW.ret ⟨rfl, rfl⟩
      · simp at h
/-- A part of a code whose tests are all plain. -/
theorem SW.run (hX : X.Ok P) (hm : P.follows .mixedOrders = true) {c : Code} {s s' : Act × Mem} {e : Exit} {ps : List Prop} {Q : Exit → Act × Mem → Prop} (n : Nat) (h : sexec P X n c [] s = some (ps, e, s')) (hp : ∀ p ∈ ps, p) (hq : Q e s') : SW P X.gl c s Q :=
  (sexec_sound hX hm hp n c [] ps s e s' h (fun _ h => h)).mono (by rintro e1 s1 ⟨rfl, rfl⟩; exact hq)
/-- What a function answers. -/
def sres1 (P : Program) (s : Act × Mem) : ResultVar → Option Value
  | .tmp t => if good (s.1.eval (.tmp t)) then some (s.1.eval (.tmp t)) else none
  | .cell x t => match s.1.eval (.tmp x) with
    | .pointer (some ⟨b, o, none⟩) => sload P t b o s.2
    | _ => none
def sresL (P : Program) (s : Act × Mem) : List ResultVar → Option (List Value)
  | [] => some []
  | x :: l => match sres1 P s x, sresL P s l with
    | some v, some vs => some (v :: vs)
    | _, _ => none
def sres (P : Program) (fn : Func) (s : Act × Mem) : Option Value :=
  match sresL P s fn.results.toList with
  | some [v] => some v
  | some vs => if vs.all notTup then some (.tuple vs.toArray) else none
  | none => none
def rv1 (T : Array Value) : ResultVar → Sem Value
  | .tmp t => pure (T.getD t undef)
  | .cell y t => do loadVar t (← asAddr (T.getD y undef))
theorem results_eq (fn : Func) (T : Array Value) : results fn T = (do
    let vs ← fn.results.mapM (rv1 T)
    pure (if h : vs.size = 1 then vs[0] else .tuple vs)) := by
  unfold results
  have : (fun x => (match x with
    | .tmp t => pure (T.getD t undef)
    | .cell a t => do loadVar t (← asAddr (T.getD a undef)) : Sem Value)) = rv1 T := by
    funext x; cases x <;> rfl
  exact congrArg (fun g => (do
    let vs ← fn.results.mapM g
    pure (if h : vs.size = 1 then vs[0] else .tuple vs) : Sem Value)) this
theorem sres1_run (S : Sim gl r₀ w₀ a m A w r) {x : ResultVar} {v : Value} (h : sres1 P (a, m) x = some v) :
    ∃ v', tr r v = some v' ∧ (rv1 A.tmps x).run P w = .ok v' w := by
  cases x with
  | tmp t =>
    simp only [sres1] at h
    split at h
    · rename_i hg
      simp only [Option.some.injEq] at h; subst h
      exact ⟨_, S.eval (x := .tmp t) hg, rfl⟩
    · simp at h
  | cell y t =>
    simp only [sres1] at h
    split at h
    · rename_i b o he
      have h1 := S.eval (x := .tmp y) (by show good (a.eval (.tmp y)) = true; rw [he]; rfl)
      rw [he] at h1
      obtain ⟨c, hb, e⟩ := tr_ptr h1
      obtain ⟨v', h2, h3⟩ := load_run S.rel hb h
      refine ⟨v', h2, ?_⟩
      have e' : A.tmps.getD y undef = .pointer (some ⟨c, o, none⟩) := e
      simp only [rv1, e', asAddr, Sem.run_bind, Sem.run_pure, Result.andThen_ok, h3]
    · simp at h
theorem sresL_run (S : Sim gl r₀ w₀ a m A w r) : ∀ {xs : List ResultVar} {vs : List Value}, sresL P (a, m) xs = some vs →
    ∃ vs', trL (tr r) vs = some vs' ∧ (xs.mapM (rv1 A.tmps)).run P w = .ok vs' w
  | [], vs, h => by simp only [sresL, Option.some.injEq] at h; subst h; exact ⟨[], rfl, rfl⟩
  | x :: xs, vs, h => by
    simp only [sresL] at h
    split at h
    · rename_i v vs1 h1 h2
      simp only [Option.some.injEq] at h; subst h
      obtain ⟨v', e1, e2⟩ := sres1_run S h1
      obtain ⟨vs', e3, e4⟩ := sresL_run S h2
      refine ⟨v' :: vs', trL_mk e1 e3, ?_⟩
      simp only [List.mapM_cons, Sem.run_bind, e2, Result.andThen_ok, e4, Sem.run_pure]
    · simp at h
theorem trL_tr2 : ∀ {vs vs' : List Value}, vs.all notTup = true → trL (tr r) vs = some vs' → trL (tr2 r) vs = some vs'
  | [], _, _, h => h
  | v :: vs, vs', hn, h => by
    simp only [List.all_cons, Bool.and_eq_true] at hn
    obtain ⟨v', r', h1, h2, rfl⟩ := trL_cons h
    exact trL_mk (tr_tr2 hn.1 h1) (trL_tr2 hn.2 h2)
theorem sres_run (S : Sim gl r₀ w₀ a m A w r) {fn : Func} {v : Value} (h : sres P fn (a, m) = some v) : ∃ v', tr r v = some v' ∧ (results fn A.tmps).run P w = .ok v' w := by
  unfold sres at h
  cases hl : sresL P (a, m) fn.results.toList with
  | none => simp [hl] at h
  | some vs =>
    obtain ⟨vs', h1, h2⟩ := sresL_run S hl
    have hrun : (fn.results.mapM (rv1 A.tmps)).run P w = .ok vs'.toArray w := by
      rw [Array.mapM_eq_mapM_toList]
      simp only [Sem.run_map, h2, Result.andThen_ok]
    rw [hl] at h
    have hlen := trL_len h1
    rw [results_eq, Sem.run_bind, hrun]
    simp only [Result.andThen_ok, Sem.run_pure, List.size_toArray]
    split at h
    · rename_i u he
      simp only [Option.some.injEq] at h he; subst h; subst he
      obtain ⟨u', q, e1, e2, rfl⟩ := trL_cons h1
      simp only [trL, Option.some.injEq] at e2; subst e2
      exact ⟨u', e1, rfl⟩
    · rename_i us hne he
      simp only [Option.some.injEq] at he; subst he
      split at h
      · rename_i hall
        simp only [Option.some.injEq] at h; subst h
        refine ⟨.tuple vs'.toArray, ?_, ?_⟩
        · simp [tr, trL_tr2 hall h1]
        · have : ¬ vs'.length = 1 := by
            intro e
            rw [hlen] at e
            obtain ⟨u, hu⟩ := List.length_eq_one_iff.1 e
            exact hne u (by rw [hu])
          simp [this]
      · simp at h
    · simp at h
/-- How a function begins. -/
def sinit (fn : Func) (args : List Value) : Act := { tmps := args.toArray ++ Array.replicate (fn.ntmps - args.length) undef, defers := [] }
theorem trL_rep (r : Ren) : ∀ n, trL (tr r) (List.replicate n undef) = some (List.replicate n undef)
  | 0 => rfl
  | n + 1 => trL_mk (tr_undef r) (trL_rep r n)
theorem tmps_of {l l' : List Value} (h : trL (tr r) l = some l') (a A : Act) (ha : a.tmps = l.toArray) (hA : A.tmps = l'.toArray) : A.tmps.size = a.tmps.size ∧ ∀ t, a.eval (.tmp t) = poison ∨ tr r (a.eval (.tmp t)) = some (A.eval (.tmp t)) := by
  have hl := trL_len h
  refine ⟨by rw [ha, hA]; simp [hl], fun t => .inr ?_⟩
  simp only [Act.eval, Array.getD_eq_getD_getElem?, ha, hA, List.getElem?_toArray]
  cases ht : l[t]? with
  | none =>
    have : l'[t]? = none := by rw [List.getElem?_eq_none_iff] at ht ⊢; omega
    rw [this]; exact tr_undef r
  | some v =>
    obtain ⟨v', h1, h2⟩ := trL_get h ht
    rw [h2]; exact h1
/-- A function's contract from its body's run in the small memory: it leaves that memory as it is. -/
theorem calls_of_SW {f : FuncId} {fn : Func} {c : Code} {args : List Value} {m : Mem} {R : Value → Prop} (hf : P.funcs[f]? = some fn) (hb : fn.body = some c)
    (h : SW P gl c (sinit fn args, m) fun e s => (e = .normal ∨ e = .ret) ∧ s.1.defers = [] ∧ ∃ v x, sres P fn s = some v ∧ (flat v = true ∨ v = undef) ∧ s.2 = m ++ x ∧ R v)
    {r : Ren} {w : World} {args' : List Value} (hr : Rel r m w) (hgl : ∀ g ∈ gl, r g = some g) (ha : trL (tr r) args = some args') :
    Calls P f args'.toArray w fun e w' => ∃ v, e = .returned v ∧ R v ∧ Below w.heap.size w w' := by
  refine calls_of_wp hf hb ?_
  have S : Sim gl r w (sinit fn args) m { tmps := args'.toArray ++ Array.replicate (fn.ntmps - args'.toArray.size) undef, defers := [] } w r := by
    have hl := trL_len ha
    obtain ⟨h1, h2⟩ := tmps_of (trL_append ha (trL_rep r (fn.ntmps - args.length))) (sinit fn args) { tmps := args'.toArray ++ Array.replicate (fn.ntmps - args'.toArray.size) undef, defers := [] }
      (by simp [sinit]) (by simp [hl])
    exact ⟨hr, ⟨Le.refl _, fun _ _ h => .inl h⟩, Fr.refl _ _, h1, h2, rfl, hgl⟩
  refine wp_mono (h r w _ w r S) ?_
  rintro e A' w' ⟨s, r', ⟨he, hd, v, x, h1, h2, h3, h4⟩, S'⟩
  obtain ⟨v', e1, e2⟩ := sres_run (a := s.1) (m := s.2) S' h1
  have hv : tr r' v = some v := by
    rcases h2 with h2 | rfl
    · exact tr_flat r' v h2
    · exact tr_undef r'
  rw [hv] at e1
  cases e1
  have hbel : Below w.heap.size w w' := by
    refine ⟨S'.fr.os, S'.fr.tape, S'.fr.output, S'.fr.size, fun k hk => ?_⟩
    by_cases hm : ∃ b, r b = some k
    · obtain ⟨b, hbk⟩ := hm
      obtain ⟨B, hB⟩ := hr.full b k hbk
      obtain ⟨c1, cs1, p1, p2, p3⟩ := hr.cells b B hB
      rw [hbk] at p1; cases p1
      have hB' : getB s.2 b = some B := by
        rw [h3]; unfold getB at hB ⊢
        rw [List.getElem?_append_left (getB_lt hB)]; exact hB
      obtain ⟨c2, cs2, q1, q2, q3⟩ := S'.rel.cells b B hB'
      rw [S'.ext.1 _ _ hbk] at q1; cases q1
      rw [trL_mono (tr1_more S'.ext.1) p2] at q2
      cases q2
      rw [q3, p3]
    · exact S'.fr.block k hk (fun b e => hm ⟨b, e⟩)
  have hdef : A'.defers = [] := S'.defers.trans hd
  rcases he with rfl | rfl
  · exact ⟨hdef, v, e2, v, rfl, h4, hbel⟩
  · exact ⟨hdef, v, e2, v, rfl, h4, hbel⟩
/-- What is known of slots may be let go. -/
theorem SW.forget {c : Code} {a : Act} {m : Mem} {Q : Exit → Act × Mem → Prop} (l : List Nat) (h : SW P gl c (forgetL a l, m) Q) : SW P gl c (a, m) Q :=
  fun r₀ w₀ A w r S => h r₀ w₀ A w r (Sim.forgetL l S)
theorem Rel.nil (w : World) : Rel (fun _ => none) [] w := ⟨fun b B h => (by simp [getB] at h), fun b c h => (by cases h), fun b b' c h => (by cases h)⟩
/-- One block of the memory, seen alone. -/
theorem Rel.one {r : Ren} {m : Mem} {w : World} (h : Rel r m w) {b c : Nat} {B : Blk} (hB : getB m b = some B) (hc : r b = some c) {cs : List Value} (hcs : trL (tr1 r) B.cells = some cs) (hfl : B.cells.all flat1 = true) : Rel (fun k => if k = 0 then some c else none) [some B] w := by
  refine ⟨fun k B' hB' => ?_, fun k c' hc' => ?_, fun k k' c' h1 h2 => ?_⟩
  · have hk : k = 0 := by
      have := getB_lt hB'
      simp at this; exact this
    subst hk
    simp [getB] at hB'
    subst hB'
    obtain ⟨c2, cs2, p1, p2, p3⟩ := h.cells b B hB
    rw [hc] at p1; cases p1
    refine ⟨c, B.cells, rfl, trL_all (tr1_flat _) hfl, ?_⟩
    rw [trL_all (tr1_flat r) hfl] at p2
    cases p2; exact p3
  · split at hc'
    · rename_i e; subst e; exact ⟨B, rfl⟩
    · cases hc'
  · split at h1
    · split at h2
      · rename_i e1 e2; rw [e1, e2]
      · cases h2
    · cases h1
/-- A contract for calls that look at no memory. -/
def Cx.pure (X : Cx) (f : FuncId) (g : List Value → Option (List Prop × Value)) : Cx :=
  ⟨fun k args m => if k = f then (if args.all flat then g args else none) else X.C k args m, fun k => k == f || X.pf k, X.sym, X.dec, fun k => !(k == f) && X.wf k, X.W, X.gl, X.deci⟩
theorem trL_flat {args : List Value} (h : args.all flat = true) : trL (tr r) args = some args := trL_all (tr_flat r) h
theorem Cx.pure_ok (hX : X.Ok P) {f : FuncId} {g : List Value → Option (List Prop × Value)}
    (h : ∀ args ps v, args.all flat = true → g args = some (ps, v) → (∀ p ∈ ps, p) → (flat v = true ∨ v = undef) ∧ ∀ w, CallOK P f args.toArray w fun v' w' => v' = v ∧ Below w.heap.size w w') : (X.pure f g).Ok P := by
  refine ⟨hX.wcall, fun k args m ps v hc hp r w args' hr hgl ha => ?_, fun k hk args m m' => ?_, fun k args m q i B hi hc => ?_⟩
  · simp only [Cx.pure] at hc
    split at hc
    · rename_i e
      subst e
      split at hc
      · rename_i hall
        obtain ⟨h1, h2⟩ := h args ps v hall hc hp
        have h1 : tr r v = some v := by
          rcases h1 with h1 | rfl
          · exact tr_flat r v h1
          · exact tr_undef r
        rw [trL_flat hall] at ha
        cases ha
        rcases h2 w with ⟨v', w', p1, p2, p3⟩ | ⟨p1, p2⟩
        · exact .inl ⟨v', w', p1, by rw [p2]; exact h1, p3⟩
        · refine .inr ⟨p1, p2.mono ?_⟩
          rintro e w' ⟨v', rfl, q1, q2⟩
          exact ⟨v', rfl, by rw [q1]; exact h1, q2⟩
      · simp at hc
    · exact hX.call k args m ps v hc hp r w args' hr hgl ha
  · simp only [Cx.pure] at hk ⊢
    split
    · rfl
    · rename_i e
      have : X.pf k = true := by
        cases hp : X.pf k
        · simp [hp, e] at hk
        · rfl
      exact hX.pure k this args m m'
  · simp only [Cx.pure] at hc ⊢
    split at hc
    · rename_i e; rw [if_pos e]; exact hc
    · rename_i e; rw [if_neg e]; exact hX.more k args m q i B hi hc
/-- A contract for calls that read memory. -/
def Cx.read (X : Cx) (f : FuncId) (g : List Value → Mem → Option (List Prop × Value)) : Cx :=
  ⟨fun k args m => if k = f then g args m else X.C k args m, fun k => !(k == f) && X.pf k, X.sym, X.dec, fun k => !(k == f) && X.wf k, X.W, X.gl, X.deci⟩
theorem Cx.read_ok (hX : X.Ok P) {f : FuncId} {g : List Value → Mem → Option (List Prop × Value)}
    (h : ∀ args m ps v, g args m = some (ps, v) → (∀ p ∈ ps, p) → ∀ r w args', Rel r m w → (∀ g ∈ X.gl, r g = some g) → trL (tr r) args = some args' → CallOK P f args'.toArray w fun v' w' => tr r v = some v' ∧ Below w.heap.size w w')
    (hmore : ∀ args (m : Mem) q i B, m[i]? = some none → g args m = some q → g args (m.set i (some B)) = some q) : (X.read f g).Ok P := by
  refine ⟨hX.wcall, fun k args m ps v hc hp r w args' hr hgl ha => ?_, fun k hk args m m' => ?_, fun k args m q i B hi hc => ?_⟩
  · simp only [Cx.read] at hc
    split at hc
    · rename_i e; subst e; exact h args m ps v hc hp r w args' hr hgl ha
    · exact hX.call k args m ps v hc hp r w args' hr hgl ha
  · simp only [Cx.read, Bool.and_eq_true, Bool.not_eq_true', beq_eq_false_iff_ne] at hk ⊢
    rw [if_neg hk.1, if_neg hk.1]
    exact hX.pure k hk.2 args m m'
  · simp only [Cx.read] at hc ⊢
    split at hc
    · rename_i e; rw [if_pos e]; exact hmore _ _ _ _ _ hi hc
    · rename_i e; rw [if_neg e]; exact hX.more k args m q i B hi hc
def Cx.none : Cx := ⟨fun _ _ _ => Option.none, fun _ => true, false, [], fun _ => false, fun _ _ _ => Option.none, [], []⟩
theorem Cx.none_ok : Cx.none.Ok P := ⟨fun _ _ _ _ _ _ h => (by cases h), fun _ _ _ _ _ h => (by cases h), fun _ _ _ _ _ => rfl, fun _ _ _ _ _ _ _ h => (by cases h)⟩
/-- A contract for calls that write memory. -/
def Cx.write (X : Cx) (f : FuncId) (g : List Value → Mem → Option (List Prop × Value × Mem)) : Cx :=
  ⟨X.C, X.pf, X.sym, X.dec, fun k => k == f || X.wf k, fun k args m => if k = f then g args m else X.W k args m, X.gl, X.deci⟩
theorem Cx.write_ok (hX : X.Ok P) {f : FuncId} {g : List Value → Mem → Option (List Prop × Value × Mem)}
    (h : ∀ args m ps v m', g args m = some (ps, v, m') → (∀ p ∈ ps, p) → ∀ r w args', Rel r m w → (∀ g ∈ X.gl, r g = some g) → trL (tr r) args = some args' → CallOK P f args'.toArray w fun v' w' => tr r v = some v' ∧ Rel r m' w' ∧ Fr r w w') : (X.write f g).Ok P := by
  refine ⟨fun k args m ps v m' hc hp r w args' hr hgl ha => ?_, hX.call, hX.pure, hX.more⟩
  simp only [Cx.write] at hc
  split at hc
  · rename_i e; subst e; exact h args m ps v m' hc hp r w args' hr hgl ha
  · exact hX.wcall k args m ps v m' hc hp r w args' hr hgl ha
/-- A function's contract from its body's run in the small memory: it leaves the memory m' (its cells bear no new address). -/
theorem calls_of_SWm {f : FuncId} {fn : Func} {c : Code} {args : List Value} {m m' : Mem} {R : Value → Prop} (hf : P.funcs[f]? = some fn) (hb : fn.body = some c)
    (hsame : ∀ b B, getB m' b = some B → (∃ B0, getB m b = some B0) ∧ B.cells.all flat1 = true) (hfull : ∀ b B, getB m b = some B → ∃ B', getB m' b = some B')
    (h : SW P gl c (sinit fn args, m) fun e s => (e = .normal ∨ e = .ret) ∧ s.1.defers = [] ∧ ∃ v x, sres P fn s = some v ∧ (flat v = true ∨ v = undef) ∧ s.2 = m' ++ x ∧ R v)
    {r : Ren} {w : World} {args' : List Value} (hr : Rel r m w) (hgl : ∀ g ∈ gl, r g = some g) (ha : trL (tr r) args = some args') :
    Calls P f args'.toArray w fun e w' => ∃ v, e = .returned v ∧ R v ∧ Rel r m' w' ∧ Fr r w w' := by
  refine calls_of_wp hf hb ?_
  have S : Sim gl r w (sinit fn args) m { tmps := args'.toArray ++ Array.replicate (fn.ntmps - args'.toArray.size) undef, defers := [] } w r := by
    have hl := trL_len ha
    obtain ⟨h1, h2⟩ := tmps_of (trL_append ha (trL_rep r (fn.ntmps - args.length))) (sinit fn args) { tmps := args'.toArray ++ Array.replicate (fn.ntmps - args'.toArray.size) undef, defers := [] }
      (by simp [sinit]) (by simp [hl])
    exact ⟨hr, ⟨Le.refl _, fun _ _ h => .inl h⟩, Fr.refl _ _, h1, h2, rfl, hgl⟩
  refine wp_mono (h r w _ w r S) ?_
  rintro e A' w' ⟨s, r', ⟨he, hd, v, x, h1, h2, h3, h4⟩, S'⟩
  obtain ⟨v', e1, e2⟩ := sres_run (a := s.1) (m := s.2) S' h1
  have hv : tr r' v = some v := by
    rcases h2 with h2 | rfl
    · exact tr_flat r' v h2
    · exact tr_undef r'
  rw [hv] at e1
  cases e1
  have hrel : Rel r m' w' := by
    refine ⟨fun b B hB => ?_, fun b c hc => ?_, hr.inj⟩
    · obtain ⟨⟨B0, hB0⟩, hfl⟩ := hsame b B hB
      obtain ⟨c0, cs0, p1, _, _⟩ := hr.cells b B0 hB0
      have hB' : getB s.2 b = some B := by
        rw [h3]; unfold getB at hB ⊢
        rw [List.getElem?_append_left (getB_lt hB)]; exact hB
      obtain ⟨c2, cs2, q1, q2, q3⟩ := S'.rel.cells b B hB'
      rw [S'.ext.1 _ _ p1] at q1; cases q1
      rw [trL_all (tr1_flat r') hfl] at q2
      cases q2
      exact ⟨c0, B.cells, p1, trL_all (tr1_flat r) hfl, q3⟩
    · obtain ⟨B, hB⟩ := hr.full b c hc
      exact hfull b B hB
  have hdef : A'.defers = [] := S'.defers.trans hd
  rcases he with rfl | rfl
  · exact ⟨hdef, v, e2, v, rfl, h4, hrel, S'.fr⟩
  · exact ⟨hdef, v, e2, v, rfl, h4, hrel, S'.fr⟩
/-- The same contracts, with some tests told. -/
def Cx.tell (X : Cx) (dec : List (Nat × Bool)) : Cx := ⟨X.C, X.pf, X.sym, dec, X.wf, X.W, X.gl, X.deci⟩
theorem Cx.tell_ok (hX : X.Ok P) (dec : List (Nat × Bool)) : (X.tell dec).Ok P := ⟨hX.wcall, hX.call, hX.pure, hX.more⟩
def Cx.terms (X : Cx) : Cx := ⟨X.C, X.pf, true, X.dec, X.wf, X.W, X.gl, X.deci⟩
def Cx.tellI (X : Cx) (deci : List (Nat × Int)) : Cx := ⟨X.C, X.pf, X.sym, X.dec, X.wf, X.W, X.gl, deci⟩
theorem Cx.tellI_ok (hX : X.Ok P) (deci : List (Nat × Int)) : (X.tellI deci).Ok P := ⟨hX.wcall, hX.call, hX.pure, hX.more⟩
theorem Cx.terms_ok (hX : X.Ok P) : X.terms.Ok P := ⟨hX.wcall, hX.call, hX.pure, hX.more⟩
/-- A function with a Go body, called. -/
theorem call_enter {f : FuncId} {fn : Func} {c : Code} (hf : P.funcs[f]? = some fn) (hname : (fn.name == "runtime.NumGoroutine") = false) (hb : fn.body = some c) {args : Array Value} {w : World} {R : Value → World → Prop}
    (h : Calls P f args w fun e w' => ∃ v, e = .returned v ∧ R v w') : CallOK P f args w R := by
  refine .inr ⟨?_, h⟩
  simp only [callFunc, Sem.run_bind, run_program, Result.andThen_ok, hf, hname, hb, Option.isNone_some, Bool.false_eq_true, if_false]
  rfl
/-- The whole of a function whose tests are all plain, in no memory. -/
def sfun (P : Program) (X : Cx) (n : Nat) (fn : Func) (c : Code) (args : List Value) : Option (List Prop × Value) :=
  match sexec P X n c [] (sinit fn args, []) with
  | some (ps, .normal, s) => if s.1.defers.isEmpty then (sres P fn s).map fun v => (ps, v) else none
  | some (ps, .ret, s) => if s.1.defers.isEmpty then (sres P fn s).map fun v => (ps, v) else none
  | _ => none
theorem sfun_calls (hX : X.Ok P) (hm : P.follows .mixedOrders = true) {n : Nat} {f : FuncId} {fn : Func} {c : Code} (hf : P.funcs[f]? = some fn) (hb : fn.body = some c) {args : List Value} {ps : List Prop} {v : Value} (h : sfun P X n fn c args = some (ps, v)) (hp : ∀ p ∈ ps, p) (ha : args.all flat = true) (hv : flat v = true ∨ v = undef) (w : World) (hg : X.gl = [] := by rfl) :
    Calls P f args.toArray w fun e w' => e = .returned v ∧ Below w.heap.size w w' := by
  unfold sfun at h
  have key : ∀ e s, (e = .normal ∨ e = .ret) → sexec P X n c [] (sinit fn args, []) = some (ps, e, s) → s.1.defers.isEmpty = true → sres P fn s = some v → Calls P f args.toArray w fun e w' => e = .returned v ∧ Below w.heap.size w w' := by
    intro e s he hs hd hr
    refine (calls_of_SW (R := fun u => u = v) (args := args) (args' := args) (m := []) (r := fun _ => none) hf hb (SW.run hX hm n hs hp ?_) (Rel.nil w) (by rw [hg]; simp) (trL_flat ha)).mono ?_
    · exact ⟨he, by simpa using hd, v, s.2, hr, hv, rfl, rfl⟩
    · rintro e' w' ⟨u, rfl, rfl, hb⟩
      exact ⟨rfl, hb⟩
  split at h
  · rename_i s hs
    split at h
    · rename_i hd
      cases hr : sres P fn s with
      | none => simp [hr] at h
      | some u =>
        simp only [hr, Option.map_some, Option.some.injEq, Prod.mk.injEq] at h
        obtain ⟨rfl, rfl⟩ := h
        exact key _ s (.inl rfl) hs hd hr
    · simp at h
  · rename_i s hs
    split at h
    · rename_i hd
      cases hr : sres P fn s with
      | none => simp [hr] at h
      | some u =>
        simp only [hr, Option.map_some, Option.some.injEq, Prod.mk.injEq] at h
        obtain ⟨rfl, rfl⟩ := h
        exact key _ s (.inr rfl) hs hd hr
    · simp at h
  · simp at h
/-- The parts of a code. -/
def cL : Code → Code
  | .seq a _ => a
  | .cond _ a _ => a
  | .block _ a => a
  | .loop a => a
  | c => c
def cR : Code → Code
  | .seq _ b => b
  | .cond _ _ b => b
  | c => c
def cO : Code → Operand
  | .cond o _ _ => o
  | _ => .tmp 0
def cI : Code → Nat
  | .block i _ => i
  | _ => 0
theorem SW.seqC {c : Code} {s : Act × Mem} {Q : Exit → Act × Mem → Prop} (hc : c = .seq (cL c) (cR c)) (h : SW P gl (cL c) s (thenS (fun s' => SW P gl (cR c) s' Q) Q)) : SW P gl c s Q := by
  rw [hc]; exact SW.seq h
theorem SW.blockC {c : Code} {s : Act × Mem} {Q : Exit → Act × Mem → Prop} (hc : c = .block (cI c) (cL c)) (h : SW P gl (cL c) s (blockS (cI c) Q)) : SW P gl c s Q := by
  rw [hc]; exact SW.block h
theorem SW.loopC {c : Code} {s : Act × Mem} {Q : Exit → Act × Mem → Prop} (hc : c = .loop (cL c)) (I : Nat → Act × Mem → Prop) (n : Nat) (h0 : I n s)
    (round : ∀ n s, I n s → SW P gl (cL c) s (thenS (fun s' => ∃ k, k < n ∧ I k s') Q)) : SW P gl c s Q := by
  rw [hc]; exact SW.loop I n h0 round
theorem SW.condC {c : Code} {s : Act × Mem} {Q : Exit → Act × Mem → Prop} {t : Bool} (hc : c = .cond (cO c) (cL c) (cR c)) (hok : okX gl s.1.eval (cO c) = true) (hv : s.1.eval (cO c) = .bool t) (h : SW P gl (if t then cL c else cR c) s Q) : SW P gl c s Q := by
  rw [hc]; exact SW.cond hok hv h
end Go.Proofs.YtnmgpkpdjpjbgaaDoor
/- The program's own: a body, and the contract of a function with a Go body. -/
namespace Go.Proofs.YtnmgpkpdjpjbgaaDoor
open Go Go.RowKit
set_option linter.unusedSimpArgs false
set_option linter.unusedVariables false
def bodyOf (fn : Func) : Code := fn.body.getD .skip
theorem mixed : Tryd.prog.follows .mixedOrders = true := by kernel_rfl
/-- The contract of a function with a Go body that looks at no memory. -/
theorem gBody_ok {X : Cx} (hX : X.Ok Tryd.prog) {f : FuncId} {fn : Func} {g : List Value → Option (List Prop × Value)} (hf : Tryd.prog.funcs[f]? = some fn) (hname : (fn.name == "runtime.NumGoroutine") = false) (hb : fn.body = some (bodyOf fn))
    (h : ∀ args ps v, args.all flat = true → g args = some (ps, v) → (∀ p ∈ ps, p) → (flat v = true ∨ v = undef) ∧ ∀ w, Calls Tryd.prog f args.toArray w fun e w' => e = .returned v ∧ Below w.heap.size w w') : (X.pure f g).Ok Tryd.prog :=
  Cx.pure_ok hX fun args ps v ha hg hp => ⟨(h args ps v ha hg hp).1, fun w => call_enter hf hname hb (((h args ps v ha hg hp).2 w).mono (by rintro e w' ⟨rfl, hb⟩; exact ⟨_, rfl, rfl, hb⟩))⟩
end Go.Proofs.YtnmgpkpdjpjbgaaDoor
/- Package-level variables that stay as they are: contracts of functions that read them, and runs beside them. -/
namespace Go.Proofs.YtnmgpkpdjpjbgaaDoor
open Go Go.RowKit
set_option linter.unusedSimpArgs false
set_option linter.unusedVariables false
variable {r : Ren} {w : World} {m : Mem} {P : Program} {X : Cx}
def eqCs : List Value → List Value → Bool
  | [], [] => true
  | .int k a :: l, .int k' b :: l' => decide (k = k') && (decide (a = b) && eqCs l l')
  | _, _ => false
theorem eqCs_eq : ∀ {l l' : List Value}, eqCs l l' = true → l = l'
  | [], [], _ => rfl
  | .int k a :: l, .int k' b :: l', h => by
    simp only [eqCs, Bool.and_eq_true, decide_eq_true_eq] at h
    obtain ⟨rfl, rfl, h⟩ := h
    rw [eqCs_eq h]
/-- The variables' blocks M0, at their own numbers, are in the small memory. -/
def gHas1 (M0 m : Mem) (b : Nat) : Bool :=
  match getB M0 b with
  | none => true
  | some B => match getB m b with
    | some B' => decide (B'.ty = B.ty) && eqCs B'.cells B.cells
    | none => false
def gHas (M0 m : Mem) : Bool := (List.range M0.length).all (gHas1 M0 m)
theorem gHas_get {M0 : Mem} (h : gHas M0 m = true) {b : Nat} {B : Blk} (hB : getB M0 b = some B) : getB m b = some B := by
  have := List.all_eq_true.1 h b (List.mem_range.2 (getB_lt hB))
  unfold gHas1 at this
  rw [hB] at this
  simp only at this
  split at this
  · rename_i B' h'
    simp only [Bool.and_eq_true, decide_eq_true_eq] at this
    obtain ⟨e1, e2⟩ := this
    rw [h']
    cases B'; cases B
    simp only at e1 e2
    rw [e1, eqCs_eq e2]
  · simp at this
theorem gHas_more {M0 : Mem} {i : Nat} {B : Blk} (hi : m[i]? = some none) (h : gHas M0 m = true) : gHas M0 (m.set i (some B)) = true := by
  refine List.all_eq_true.2 fun b hb => ?_
  have h1 := List.all_eq_true.1 h b hb
  unfold gHas1 at h1 ⊢
  split at h1
  · rfl
  · rename_i B0 h0
    have hg := gHas_get h h0
    have hne : b ≠ i := fun e => by subst e; rw [getB_hole hi] at hg; cases hg
    rw [getB_fill hne]; exact h1
/-- The world holds the variables. -/
def Glo (M0 : Mem) (w : World) : Prop := ∀ b B, getB M0 b = some B → w.heap[b]? = some (.cells B.cells.toArray B.ty (0, 0))
theorem Glo.below {M0 : Mem} {w w' : World} (h : Glo M0 w) (hb : Below w.heap.size w w') : Glo M0 w' := fun b B hB => by
  have h1 := h b B hB
  have hl : b < w.heap.size := by
    rcases Nat.lt_or_ge b w.heap.size with h | h
    · exact h
    · rw [Array.getElem?_eq_none h] at h1; cases h1
  rw [hb.block b hl]; exact h1
def flatM (M0 : Mem) : Bool := M0.all fun o => match o with
  | some B => B.cells.all flat1
  | none => true
theorem flatM_get {M0 : Mem} (h : flatM M0 = true) {b : Nat} {B : Blk} (hB : getB M0 b = some B) : B.cells.all flat1 = true := by
  have hl := getB_lt hB
  have hm : some B ∈ M0 := by
    unfold getB at hB
    rw [List.getElem?_eq_getElem hl] at hB
    simp only [Option.getD_some] at hB
    rw [← hB]; exact List.getElem_mem hl
  exact List.all_eq_true.1 h _ hm
def glR (M0 : Mem) : Ren := fun b => (getB M0 b).map fun _ => b
theorem glR_some {M0 : Mem} {b c : Nat} (h : glR M0 b = some c) : c = b ∧ ∃ B, getB M0 b = some B := by
  unfold glR at h
  cases hb : getB M0 b with
  | none => simp [hb] at h
  | some B => simp only [hb, Option.map_some, Option.some.injEq] at h; exact ⟨h.symm, B, rfl⟩
theorem Glo.rel {M0 : Mem} {w : World} (h : Glo M0 w) (hf : flatM M0 = true) : Rel (glR M0) M0 w := by
  refine ⟨fun b B hB => ⟨b, B.cells, by simp [glR, hB], trL_all (tr1_flat _) (flatM_get hf hB), h b B hB⟩, fun b c hc => (glR_some hc).2, fun b b' c h1 h2 => ?_⟩
  rw [← (glR_some h1).1, ← (glR_some h2).1]
theorem Rel.glo {M0 : Mem} (hr : Rel r m w) (hg : gHas M0 m = true) (hf : flatM M0 = true) (hgl : ∀ g, (getB M0 g).isSome = true → r g = some g) : Glo M0 w := fun b B hB => by
  obtain ⟨c, cs, h1, h2, h3⟩ := hr.cells b B (gHas_get hg hB)
  rw [hgl b (by rw [hB]; rfl)] at h1
  cases h1
  rw [trL_all (tr1_flat r) (flatM_get hf hB)] at h2
  cases h2; exact h3
/-- More variables may be met. -/
def Cx.glo (X : Cx) (gl : List Nat) : Cx := ⟨X.C, X.pf, X.sym, X.dec, X.wf, X.W, gl, X.deci⟩
theorem Cx.glo_ok (hX : X.Ok P) {gl : List Nat} (h : ∀ g ∈ X.gl, g ∈ gl) : (X.glo gl).Ok P :=
  ⟨fun f args m ps v m' hc hp r w args' hr hgl ha => hX.wcall f args m ps v m' hc hp r w args' hr (fun g hg => hgl g (h g hg)) ha,
   fun f args m ps v hc hp r w args' hr hgl ha => hX.call f args m ps v hc hp r w args' hr (fun g hg => hgl g (h g hg)) ha, hX.pure, hX.more⟩
/-- The state behind a run. -/
def runS (P : Program) (X : Cx) (n : Nat) (c : Code) (s : Act × Mem) : Act × Mem :=
  match sexec P X n c [] s with
  | some (_, _, s') => s'
  | Option.none => s
def proj (K : Act × Mem → Act × Mem) (r : Option (List Prop × Exit × Act × Mem)) : Option (List Prop × Act × Mem) :=
  match r with
  | some (ps, .normal, s) => some (ps, K s)
  | _ => Option.none
theorem proj_some {K : Act × Mem → Act × Mem} {r : Option (List Prop × Exit × Act × Mem)} {ps : List Prop} {t : Act × Mem} (h : proj K r = some (ps, t)) : ∃ s, r = some (ps, .normal, s) ∧ K s = t := by
  unfold proj at h
  split at h
  · rename_i qs s
    simp only [Option.some.injEq, Prod.mk.injEq] at h
    obtain ⟨rfl, h2⟩ := h
    exact ⟨s, rfl, h2⟩
  · simp at h
/-- A contract for calls that read the variables alone. -/
def Cx.var (X : Cx) (M0 : Mem) (f : FuncId) (g : List Value → Option (List Prop × Value)) : Cx :=
  X.read f fun args m => if args.all flat && gHas M0 m then g args else Option.none
def coversG (M0 : Mem) (gl : List Nat) : Bool := (List.range M0.length).all fun b => (getB M0 b).isNone || gl.contains b
theorem coversG_get {M0 : Mem} {gl : List Nat} (h : coversG M0 gl = true) {g : Nat} (hg : (getB M0 g).isSome = true) : g ∈ gl := by
  obtain ⟨B, hB⟩ := Option.isSome_iff_exists.1 hg
  have := List.all_eq_true.1 h g (List.mem_range.2 (getB_lt hB))
  rw [hB] at this
  simpa using this
theorem Cx.var_ok (hX : X.Ok P) {M0 : Mem} (hf : flatM M0 = true) (hc : coversG M0 X.gl = true) {f : FuncId} {g : List Value → Option (List Prop × Value)}
    (h : ∀ args ps v, args.all flat = true → g args = some (ps, v) → (∀ p ∈ ps, p) → (flat v = true ∨ v = undef) ∧ ∀ w, Glo M0 w → CallOK P f args.toArray w fun v' w' => v' = v ∧ Below w.heap.size w w') : (X.var M0 f g).Ok P := by
  refine Cx.read_ok hX (fun args m ps v hg hp r w args' hr hgl ha => ?_) (fun args m q i B hi hg => ?_)
  · split at hg
    · rename_i hall
      simp only [Bool.and_eq_true] at hall
      obtain ⟨h1, h2⟩ := h args ps v hall.1 hg hp
      have h1 : tr r v = some v := by
        rcases h1 with h1 | rfl
        · exact tr_flat r v h1
        · exact tr_undef r
      rw [trL_flat hall.1] at ha
      cases ha
      rcases h2 w (hr.glo hall.2 hf fun g hg => hgl g (coversG_get hc hg)) with ⟨v', w', p1, p2, p3⟩ | ⟨p1, p2⟩
      · exact .inl ⟨v', w', p1, by rw [p2]; exact h1, p3⟩
      · refine .inr ⟨p1, p2.mono ?_⟩
        rintro e w' ⟨v', rfl, q1, q2⟩
        exact ⟨v', rfl, by rw [q1]; exact h1, q2⟩
    · simp at hg
  · split at hg
    · rename_i hall
      simp only [Bool.and_eq_true] at hall
      rw [if_pos (by simp only [Bool.and_eq_true]; exact ⟨hall.1, gHas_more hi hall.2⟩)]; exact hg
    · simp at hg
/-- The whole of a function whose tests are all plain, beside the variables. -/
def sfunG (P : Program) (X : Cx) (M0 : Mem) (n : Nat) (fn : Func) (c : Code) (args : List Value) : Option (List Prop × Value) :=
  match sexec P X n c [] (sinit fn args, M0) with
  | some (ps, .normal, s) => if s.1.defers.isEmpty && gHas M0 s.2 then (sres P fn s).map fun v => (ps, v) else none
  | some (ps, .ret, s) => if s.1.defers.isEmpty && gHas M0 s.2 then (sres P fn s).map fun v => (ps, v) else none
  | _ => none
/-- A function's contract from its body's run beside the variables. -/
theorem callsG_of_SW {M0 : Mem} (hfl : flatM M0 = true) {gl : List Nat} (hgl : ∀ g ∈ gl, (getB M0 g).isSome = true) {f : FuncId} {fn : Func} {c : Code} {args : List Value} {R : Value → Prop} (hf : P.funcs[f]? = some fn) (hb : fn.body = some c)
    (h : SW P gl c (sinit fn args, M0) fun e s => (e = .normal ∨ e = .ret) ∧ s.1.defers = [] ∧ ∃ v, sres P fn s = some v ∧ (flat v = true ∨ v = undef) ∧ gHas M0 s.2 = true ∧ R v)
    (ha : args.all flat = true) (w : World) (hw : Glo M0 w) :
    Calls P f args.toArray w fun e w' => ∃ v, e = .returned v ∧ R v ∧ Below w.heap.size w w' := by
  refine calls_of_wp hf hb ?_
  have hr := hw.rel hfl
  have hgl' : ∀ g ∈ gl, glR M0 g = some g := fun g hg => by
    obtain ⟨B, hB⟩ := Option.isSome_iff_exists.1 (hgl g hg)
    simp [glR, hB]
  have ha' : trL (tr (glR M0)) args = some args := trL_flat ha
  have S : Sim gl (glR M0) w (sinit fn args) M0 { tmps := args.toArray ++ Array.replicate (fn.ntmps - args.toArray.size) undef, defers := [] } w (glR M0) := by
    obtain ⟨h1, h2⟩ := tmps_of (trL_append ha' (trL_rep (glR M0) (fn.ntmps - args.length))) (sinit fn args) { tmps := args.toArray ++ Array.replicate (fn.ntmps - args.toArray.size) undef, defers := [] }
      (by simp [sinit]) (by simp)
    exact ⟨hr, ⟨Le.refl _, fun _ _ h => .inl h⟩, Fr.refl _ _, h1, h2, rfl, hgl'⟩
  refine wp_mono (h (glR M0) w _ w (glR M0) S) ?_
  rintro e A' w' ⟨s, r', ⟨he, hd, v, h1, h2, h3, h4⟩, S'⟩
  obtain ⟨v', e1, e2⟩ := sres_run (a := s.1) (m := s.2) S' h1
  have hv : tr r' v = some v := by
    rcases h2 with h2 | rfl
    · exact tr_flat r' v h2
    · exact tr_undef r'
  rw [hv] at e1
  cases e1
  have hbel : Below w.heap.size w w' := by
    refine ⟨S'.fr.os, S'.fr.tape, S'.fr.output, S'.fr.size, fun k hk => ?_⟩
    by_cases hm : ∃ b, glR M0 b = some k
    · obtain ⟨b, hbk⟩ := hm
      obtain ⟨rfl, B, hB⟩ := glR_some hbk
      obtain ⟨c2, cs2, q1, q2, q3⟩ := S'.rel.cells k B (gHas_get h3 hB)
      rw [S'.ext.1 _ _ hbk] at q1; cases q1
      rw [trL_all (tr1_flat r') (flatM_get hfl hB)] at q2
      cases q2
      rw [q3]; exact (hw k B hB).symm
    · exact S'.fr.block k hk (fun b e => hm ⟨b, e⟩)
  have hdef : A'.defers = [] := S'.defers.trans hd
  rcases he with rfl | rfl
  · exact ⟨hdef, v, e2, v, rfl, h4, hbel⟩
  · exact ⟨hdef, v, e2, v, rfl, h4, hbel⟩
def insideG (M0 : Mem) (gl : List Nat) : Bool := gl.all fun g => (getB M0 g).isSome
theorem sfunG_calls (hX : X.Ok P) (hm : P.follows .mixedOrders = true) {M0 : Mem} (hfl : flatM M0 = true) (hin : insideG M0 X.gl = true) {n : Nat} {f : FuncId} {fn : Func} {c : Code} (hf : P.funcs[f]? = some fn) (hb : fn.body = some c) {args : List Value} {ps : List Prop} {v : Value} (h : sfunG P X M0 n fn c args = some (ps, v)) (hp : ∀ p ∈ ps, p) (ha : args.all flat = true) (hv : flat v = true ∨ v = undef) (w : World) (hw : Glo M0 w) :
    Calls P f args.toArray w fun e w' => e = .returned v ∧ Below w.heap.size w w' := by
  have hin' : ∀ g ∈ X.gl, (getB M0 g).isSome = true := fun g hg => List.all_eq_true.1 hin g hg
  have key : ∀ e s, (e = .normal ∨ e = .ret) → sexec P X n c [] (sinit fn args, M0) = some (ps, e, s) → (s.1.defers.isEmpty && gHas M0 s.2) = true → sres P fn s = some v → Calls P f args.toArray w fun e w' => e = .returned v ∧ Below w.heap.size w w' := by
    intro e s he hs hd hr
    simp only [Bool.and_eq_true] at hd
    refine (callsG_of_SW (R := fun u => u = v) (args := args) hfl hin' hf hb (SW.run hX hm n hs hp ?_) ha w hw).mono ?_
    · exact ⟨he, by simpa using hd.1, v, hr, hv, hd.2, rfl⟩
    · rintro e' w' ⟨u, rfl, rfl, hb⟩
      exact ⟨rfl, hb⟩
  unfold sfunG at h
  split at h
  · rename_i s hs
    split at h
    · rename_i hd
      cases hr : sres P fn s with
      | none => simp [hr] at h
      | some u =>
        simp only [hr, Option.map_some, Option.some.injEq, Prod.mk.injEq] at h
        obtain ⟨rfl, rfl⟩ := h
        exact key _ s (.inl rfl) hs hd hr
    · simp at h
  · rename_i s hs
    split at h
    · rename_i hd
      cases hr : sres P fn s with
      | none => simp [hr] at h
      | some u =>
        simp only [hr, Option.map_some, Option.some.injEq, Prod.mk.injEq] at h
        obtain ⟨rfl, rfl⟩ := h
        exact key _ s (.inr rfl) hs hd hr
    · simp at h
  · simp at h
/-- The contract of a function with a Go body that reads the variables alone. -/
theorem gVar_ok (hX : X.Ok Tryd.prog) {M0 : Mem} (hfl : flatM M0 = true) (hc : coversG M0 X.gl = true) {f : FuncId} {fn : Func} {g : List Value → Option (List Prop × Value)} (hf : Tryd.prog.funcs[f]? = some fn) (hname : (fn.name == "runtime.NumGoroutine") = false) (hb : fn.body = some (bodyOf fn))
    (h : ∀ args ps v, args.all flat = true → g args = some (ps, v) → (∀ p ∈ ps, p) → (flat v = true ∨ v = undef) ∧ ∀ w, Glo M0 w → Calls Tryd.prog f args.toArray w fun e w' => e = .returned v ∧ Below w.heap.size w w') : (X.var M0 f g).Ok Tryd.prog :=
  Cx.var_ok hX hfl hc fun args ps v ha hg hp => ⟨(h args ps v ha hg hp).1, fun w hw => call_enter hf hname hb (((h args ps v ha hg hp).2 w hw).mono (by rintro e w' ⟨rfl, hb⟩; exact ⟨_, rfl, rfl, hb⟩))⟩
end Go.Proofs.YtnmgpkpdjpjbgaaDoor
