/- JSON values in memory; rows of values and of members. -/
import Derived.Test.YtefaohokmhdplaaDoorJsI
namespace Go.Proofs.YtefaohokmhdplaaDoor
open Go Go.RowKit
set_option linter.unusedSimpArgs false
set_option linter.unusedVariables false
set_option maxRecDepth 100000

/-- A slice that reads as these cells, k for each element, in a block of A. -/
def RV (A : Nat → Prop) (w : World) (k : Nat) (v : Value) (cs : List Value) : Prop :=
  ∃ ad n cap, v = .slice ad n cap ∧ cs.length = n * k ∧ n ≤ cap ∧ (n = 0 ∨ ∃ b o, ad = some ⟨b, o, none⟩ ∧ A b ∧ b < w.heap.size ∧ w.rangeAt b o cs)
theorem RV.keep {A A' : Nat → Prop} {w w' : World} {k : Nat} {v : Value} {cs : List Value} (h : RV A w k v cs) (hk : ∀ b, A b → b < w.heap.size → A' b ∧ w'.heap[b]? = w.heap[b]?) (hs : w.heap.size ≤ w'.heap.size) : RV A' w' k v cs := by
  obtain ⟨ad, n, cap, h0, h1, h2, h3⟩ := h
  refine ⟨ad, n, cap, h0, h1, h2, ?_⟩
  rcases h3 with h3 | ⟨b, o, h4, h5, h6, h7⟩
  · exact .inl h3
  · refine .inr ⟨b, o, h4, (hk b h5 h6).1, Nat.lt_of_lt_of_le h6 hs, fun j u hj => ?_⟩
    have := h7 j u hj
    simp only [World.cell?] at this ⊢
    rw [(hk b h5 h6).2]; exact this
def mcs (ms : List (ByteArray × Value)) : List Value := ms.flatMap fun m => [.string m.1, m.2]
theorem mcs_length (ms : List (ByteArray × Value)) : (mcs ms).length = ms.length * 2 := by
  induction ms with
  | nil => rfl
  | cons m t ih => simp [mcs] at ih ⊢; omega
/-- A value as an interface in memory. -/
inductive VJ (A : Nat → Prop) (w : World) : Value → JV → Prop
  | null : VJ A w (.iface 68 (.agg #[])) .null
  | bool (b : Bool) : VJ A w (.iface 70 (.bool b)) (.bool b)
  | num (t : ByteArray) : VJ A w (.iface 71 (.string t)) (.num t)
  | txt (t : ByteArray) : VJ A w (.iface 45 (.string t)) (.txt t)
  | lst (v : Value) (vs : List Value) (l : List JV) (h : RV A w 1 v vs) (hl : vs.length = l.length) (hv : ∀ (i : Nat) (x : Value) (j : JV), vs[i]? = some x → l[i]? = some j → VJ A w x j) : VJ A w (.iface 49 v) (.lst l)
  | obj (v : Value) (ms : List (ByteArray × Value)) (l : List (ByteArray × JV)) (h : RV A w 2 v (mcs ms)) (hl : ms.length = l.length) (hk : ∀ (i : Nat) (m : ByteArray × Value) (j : ByteArray × JV), ms[i]? = some m → l[i]? = some j → m.1 = j.1) (hv : ∀ (i : Nat) (m : ByteArray × Value) (j : ByteArray × JV), ms[i]? = some m → l[i]? = some j → VJ A w m.2 j.2) : VJ A w (.iface 73 v) (.obj l)
theorem VJ.keep {A A' : Nat → Prop} {w w' : World} {v : Value} {j : JV} (h : VJ A w v j) (hk : ∀ b, A b → b < w.heap.size → A' b ∧ w'.heap[b]? = w.heap[b]?) (hs : w.heap.size ≤ w'.heap.size) : VJ A' w' v j := by
  induction h with
  | null => exact .null
  | bool b => exact .bool b
  | num t => exact .num t
  | txt t => exact .txt t
  | lst v vs l h hl hv ih => exact .lst v vs l (h.keep hk hs) hl ih
  | obj v ms l h hl hk' hv ih => exact .obj v ms l (h.keep hk hs) hl hk' ih
theorem VJ.one {A : Nat → Prop} {w : World} {v : Value} {j : JV} (h : VJ A w v j) : v.oneCell' = true := by cases h <;> rfl
theorem oneCell_iface (t : TypeId) (p : Value) : (Value.iface t p).oneCell' = true := rfl
/-- Values in a row. -/
def VS (A : Nat → Prop) (w : World) (vs : List Value) (l : List JV) : Prop := vs.length = l.length ∧ ∀ (i : Nat) (x : Value) (j : JV), vs[i]? = some x → l[i]? = some j → VJ A w x j
def MS (A : Nat → Prop) (w : World) (ms : List (ByteArray × Value)) (l : List (ByteArray × JV)) : Prop :=
  ms.length = l.length ∧ (∀ (i : Nat) (m : ByteArray × Value) (j : ByteArray × JV), ms[i]? = some m → l[i]? = some j → m.1 = j.1) ∧ ∀ (i : Nat) (m : ByteArray × Value) (j : ByteArray × JV), ms[i]? = some m → l[i]? = some j → VJ A w m.2 j.2
theorem VS.keep {A A' : Nat → Prop} {w w' : World} {vs : List Value} {l : List JV} (h : VS A w vs l) (hk : ∀ b, A b → b < w.heap.size → A' b ∧ w'.heap[b]? = w.heap[b]?) (hs : w.heap.size ≤ w'.heap.size) : VS A' w' vs l :=
  ⟨h.1, fun i x j h1 h2 => (h.2 i x j h1 h2).keep hk hs⟩
theorem MS.keep {A A' : Nat → Prop} {w w' : World} {ms : List (ByteArray × Value)} {l : List (ByteArray × JV)} (h : MS A w ms l) (hk : ∀ b, A b → b < w.heap.size → A' b ∧ w'.heap[b]? = w.heap[b]?) (hs : w.heap.size ≤ w'.heap.size) : MS A' w' ms l :=
  ⟨h.1, h.2.1, fun i x j h1 h2 => (h.2.2 i x j h1 h2).keep hk hs⟩
theorem VS.push {A : Nat → Prop} {w : World} {vs : List Value} {l : List JV} {v : Value} {j : JV} (h : VS A w vs l) (hv : VJ A w v j) : VS A w (vs ++ [v]) (l ++ [j]) := by
  refine ⟨by simp [h.1], fun i x y h1 h2 => ?_⟩
  rcases Nat.lt_or_ge i vs.length with q | q
  · rw [List.getElem?_append_left q] at h1
    rw [List.getElem?_append_left (by rw [← h.1]; exact q)] at h2
    exact h.2 i x y h1 h2
  · rw [List.getElem?_append_right q] at h1
    rw [List.getElem?_append_right (by rw [← h.1]; exact q), ← h.1] at h2
    rcases Nat.eq_zero_or_pos (i - vs.length) with e | e
    · rw [e] at h1 h2; simp at h1 h2; subst h1; subst h2; exact hv
    · rw [List.getElem?_eq_none (by simp; omega)] at h1; cases h1
theorem MS.push {A : Nat → Prop} {w : World} {ms : List (ByteArray × Value)} {l : List (ByteArray × JV)} {k : ByteArray} {v : Value} {j : JV} (h : MS A w ms l) (hv : VJ A w v j) : MS A w (ms ++ [(k, v)]) (l ++ [(k, j)]) := by
  have H : ∀ (i : Nat) (x : ByteArray × Value) (y : ByteArray × JV), (ms ++ [(k, v)])[i]? = some x → (l ++ [(k, j)])[i]? = some y → x.1 = y.1 ∧ VJ A w x.2 y.2 := fun i x y h1 h2 => by
    rcases Nat.lt_or_ge i ms.length with q | q
    · rw [List.getElem?_append_left q] at h1
      rw [List.getElem?_append_left (by rw [← h.1]; exact q)] at h2
      exact ⟨h.2.1 i x y h1 h2, h.2.2 i x y h1 h2⟩
    · rw [List.getElem?_append_right q] at h1
      rw [List.getElem?_append_right (by rw [← h.1]; exact q), ← h.1] at h2
      rcases Nat.eq_zero_or_pos (i - ms.length) with e | e
      · rw [e] at h1 h2; simp at h1 h2; subst h1; subst h2; exact ⟨rfl, hv⟩
      · rw [List.getElem?_eq_none (by simp; omega)] at h1; cases h1
  exact ⟨by simp [h.1], fun i x y h1 h2 => (H i x y h1 h2).1, fun i x y h1 h2 => (H i x y h1 h2).2⟩
theorem info_val : ∃ i, Tryd.prog.info? 31 = some i ∧ i.zero = some .nilIface ∧ i.size = 1 ∧ i.bytes = 16 := by
  have h1 : (Tryd.prog.info? 31).map (·.size) = some 1 := by kernel_rfl
  have h2 : (Tryd.prog.info? 31).map (·.bytes) = some 16 := by kernel_rfl
  have h3 : (Tryd.prog.info? 31).map (·.zero) = some (some .nilIface) := by kernel_rfl
  cases hq : Tryd.prog.info? 31 with
  | none => rw [hq] at h1; cases h1
  | some i =>
    rw [hq] at h1 h2 h3
    exact ⟨i, rfl, Option.some.inj h3, Option.some.inj h1, Option.some.inj h2⟩
theorem info_mem : ∃ i, Tryd.prog.info? 75 = some i ∧ i.zero = some (.agg #[.string ⟨#[]⟩, .nilIface]) ∧ i.size = 2 ∧ i.bytes = 32 := by
  have h1 : (Tryd.prog.info? 75).map (·.size) = some 2 := by kernel_rfl
  have h2 : (Tryd.prog.info? 75).map (·.bytes) = some 32 := by kernel_rfl
  have h3 : (Tryd.prog.info? 75).map (·.zero) = some (some (.agg #[.string ⟨#[]⟩, .nilIface])) := by kernel_rfl
  cases hq : Tryd.prog.info? 75 with
  | none => rw [hq] at h1; cases h1
  | some i =>
    rw [hq] at h1 h2 h3
    exact ⟨i, rfl, Option.some.inj h3, Option.some.inj h1, Option.some.inj h2⟩
/-- append of one value onto a row of the call's own. -/
theorem app_val {ops : Array Oper} {rest : List Oper} {o : Oper} {a : Act} {Q : Exit → Act → World → Prop} {B0 : Nat} {wr : World} (hgd : o.guard = none) (s x : Operand) (ho : o.op = .call { callee := .builtin .append, args := #[s, x], argTypes := #[49, 49] })
    (v : Value) (n : Nat) (cs : List Value) (hs : a.eval s = v) (h0 : wr.ownsRow B0 31 1 v n cs) (b : Nat) (y : Value) (hx : a.eval x = .slice (some ⟨b, 0, none⟩) 1 1) (hy : wr.cell? ⟨b, 0, none⟩ = some y) (h1 : y.oneCell' = true) (hn : n ≤ 1000000000) (hB : B0 ≤ wr.heap.size)
    (h : ∀ v' w', w'.ownsRow B0 31 1 v' (n + 1) (cs ++ [y]) → wr.grownBy w' v.ownBlock → (v'.ownBlock = v.ownBlock ∨ v'.ownBlock = some wr.heap.size) → wpList Tryd.prog ops Q rest (a.put o.dst v') w') : wpList Tryd.prog ops Q (o :: rest) a wr := by
  obtain ⟨i, hi, hz, hsz, hby⟩ := info_val
  refine wpList_append_own_at wr hgd s x 49 ho B0 31 i .nilIface 1 16 Tryd.underlying49 hi hz hsz hby rfl (by decide) v n cs hs h0 ⟨b, 0, none⟩ 1 1 [y] hx rfl ?_ (fun u hu => by simp at hu; subst hu; exact h1) (by unfold maxLen; omega) (by omega) hB (fun v' w' h1 h2 _ h4 => h v' w' h1 h2 h4)
  intro j u hj
  match j, hj with
  | 0, hj => simp at hj; subst hj; rw [addr_add0]; exact hy
/-- append of one member. -/
theorem app_mem {ops : Array Oper} {rest : List Oper} {o : Oper} {a : Act} {Q : Exit → Act → World → Prop} {B0 : Nat} {wr : World} (hgd : o.guard = none) (s x : Operand) (ho : o.op = .call { callee := .builtin .append, args := #[s, x], argTypes := #[73, 73] })
    (v : Value) (n : Nat) (cs : List Value) (hs : a.eval s = v) (h0 : wr.ownsRow B0 75 2 v n cs) (b : Nat) (t : ByteArray) (y : Value) (hx : a.eval x = .slice (some ⟨b, 0, none⟩) 1 1) (ht : wr.cell? ⟨b, 0, none⟩ = some (.string t)) (hy : wr.cell? ⟨b, 1, none⟩ = some y) (h1 : y.oneCell' = true) (hn : n ≤ 1000000000) (hB : B0 ≤ wr.heap.size)
    (h : ∀ v' w', w'.ownsRow B0 75 2 v' (n + 1) (cs ++ [.string t, y]) → wr.grownBy w' v.ownBlock → (v'.ownBlock = v.ownBlock ∨ v'.ownBlock = some wr.heap.size) → wpList Tryd.prog ops Q rest (a.put o.dst v') w') : wpList Tryd.prog ops Q (o :: rest) a wr := by
  obtain ⟨i, hi, hz, hsz, hby⟩ := info_mem
  refine wpList_append_own_at wr hgd s x 73 ho B0 75 i (.agg #[.string ⟨#[]⟩, .nilIface]) 2 32 Tryd.underlying73 hi hz hsz hby rfl (by decide) v n cs hs h0 ⟨b, 0, none⟩ 1 1 [.string t, y] hx rfl ?_ (fun u hu => by simp at hu; exact hu.elim (fun e => by rw [e]; rfl) (fun e => by rw [e]; exact h1)) (by unfold maxLen; omega) (by omega) hB (fun v' w' h1 h2 _ h4 => h v' w' h1 h2 h4)
  intro j u hj
  match j, hj with
  | 0, hj => simp at hj; subst hj; rw [addr_add0]; exact ht
  | 1, hj => simp at hj; subst hj; rw [addr_add0]; exact hy
/-- A row of one's own reads. -/
theorem own_rv {A : Nat → Prop} {B0 : Nat} {w : World} {e : TypeId} {k : Nat} {v : Value} {n : Nat} {cs : List Value} (h : w.ownsRow B0 e k v n cs) (hA : ∀ b, v.ownBlock = some b → A b) : RV A w k v cs := by
  rcases h.2 with ⟨rfl, h0⟩ | ⟨g, cap, cur, rfl, hb, hg, hc, _, hs, ht⟩
  · exact ⟨none, 0, 0, rfl, by rw [h.1, h0], Nat.le_refl _, .inl rfl⟩
  · refine ⟨_, n, cap, rfl, h.1, hc, .inr ⟨g, 0, rfl, hA g rfl, (Array.getElem?_eq_some_iff.1 hg).1, fun i u hi => ?_⟩⟩
    have hlt : i < cs.length := (List.getElem?_eq_some_iff.1 hi).1
    rw [h.1] at hlt
    rw [← ht, List.getElem?_take, if_pos (by omega), Array.getElem?_toList] at hi
    simp only [World.cell?, hg, Nat.zero_add, Option.isSome_none, Bool.false_eq_true, if_false, hi]
theorem own_keep {B0 : Nat} {w w' : World} {e : TypeId} {k : Nat} {v : Value} {n : Nat} {cs : List Value} (h : w.ownsRow B0 e k v n cs) (hk : ∀ b, v.ownBlock = some b → w'.heap[b]? = w.heap[b]?) : w'.ownsRow B0 e k v n cs := by
  refine ⟨h.1, ?_⟩
  rcases h.2 with h | ⟨g, cap, cur, rfl, hb, hg, hc⟩
  · exact .inl h
  · exact .inr ⟨g, cap, cur, rfl, hb, by rw [hk g rfl]; exact hg, hc⟩
theorem own_lt {B0 : Nat} {w : World} {e : TypeId} {k : Nat} {v : Value} {n : Nat} {cs : List Value} (h : w.ownsRow B0 e k v n cs) : ∀ b, v.ownBlock = some b → B0 ≤ b ∧ b < w.heap.size := by
  intro b hb
  rcases h.2 with ⟨rfl, _⟩ | ⟨g, cap, cur, rfl, hg, hc, _⟩
  · simp [Value.ownBlock] at hb
  · simp [Value.ownBlock] at hb; subst hb; exact ⟨hg, (Array.getElem?_eq_some_iff.1 hc).1⟩
/-- A row of one's own does not lie in a block of another type. -/
theorem own_ne {B0 : Nat} {w : World} {e : TypeId} {k : Nat} {v : Value} {n : Nat} {cs : List Value} (h : w.ownsRow B0 e k v n cs) {c : Nat} {x : Array Value} {t : TypeId} (hc : w.heap[c]? = some (.cells x t (0, 0))) (ht : t ≠ e) : v.ownBlock ≠ some c := by
  intro hb
  rcases h.2 with ⟨rfl, _⟩ | ⟨g, cap, cur, rfl, hg, hc', _⟩
  · simp [Value.ownBlock] at hb
  · simp [Value.ownBlock] at hb; subst hb; rw [hc] at hc'; simp at hc'; exact ht hc'.2
end Go.Proofs.YtefaohokmhdplaaDoor
