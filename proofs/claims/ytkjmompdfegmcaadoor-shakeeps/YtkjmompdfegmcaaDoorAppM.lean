/- append onto rows of one's own: what else stays; strings of bytes. -/
import Derived.Test.YtkjmompdfegmcaaDoorMacB
import Derived.Test.YtkjmompdfegmcaaDoorQ5S
import Derived.Laws.BytesArg
import Derived.Maps.AppendAt
import Derived.Laws.AppendOwnNone
namespace Go.Proofs.YtkjmompdfegmcaaDoor
open Go Go.RowKit
set_option linter.unusedSimpArgs false
set_option linter.unusedVariables false

/-- append of whatever bytes onto a row of the call's own: what else stays. -/
theorem app_more {ops : Array Oper} {rest : List Oper} {o : Oper} {a : Act} {Q : Exit → Act → World → Prop} {w wr : World} (hgd : o.guard = none) (s x : Operand) (ho : o.op = .call { callee := .builtin .append, args := #[s, x], argTypes := #[22, 22] })
    (v : Value) (k : Nat) (f : Nat → BitVec 8) (hs : a.eval s = v) (h0 : Own w wr v k f) (ad : Option Addr) (m c : Nat) (hx : a.eval x = .slice ad m c) (f' : Nat → BitVec 8) (hf : ∀ i, i < k → f i = f' i)
    (hg : Src wr ad m c (fun i => f' (k + i))) (hk : k + m ≤ 140737488355328)
    (h : ∀ v' w', Own w w' v' (k + m) f' → wr.grownBy w' v.ownBlock → (v'.ownBlock = v.ownBlock ∨ v'.ownBlock = some wr.heap.size) → wpList Tryd.prog ops Q rest (a.put o.dst v') w') : wpList Tryd.prog ops Q (o :: rest) a wr := by
  obtain ⟨i, hi, hz, hsz, hby⟩ := info_u8
  have hb := h0.below.size
  have main : ∀ A : Addr, a.eval x = .slice (some A) m c → (∀ i, i < m → wr.cell? (A.add i) = some (B (f' (k + i)))) → wpList Tryd.prog ops Q (o :: rest) a wr := by
    intro A hx hg
    refine wpList_append_own_at wr hgd s x 22 ho w.heap.size 5 i (.int .u8 0) 1 1 Tryd.underlying22 hi hz hsz hby rfl (by decide) v k (bl f k) hs h0.own A m c (bl (fun j => f' (k + j)) m) hx (by rw [bl_length]; omega) ?_ (bl_one _ _) (by unfold maxLen; omega) (by omega) hb ?_
    · intro j u hu
      obtain ⟨hj, hv⟩ := List.getElem?_eq_some_iff.1 hu
      rw [bl_length] at hj
      rw [hg j hj, ← hv]
      simp [bl]
    · intro v' w' h1 h2 h3 h4
      refine h v' w' ⟨h0.below.grown h2 hb (fun b hb' => h0.blk b hb'), ?_⟩ h2 h4
      have e : bl f k ++ bl (fun j => f' (k + j)) m = bl f' (k + m) := by
        rw [bl_congr f f' k hf]
        apply List.ext_getElem?
        intro j
        by_cases hj : j < k
        · rw [List.getElem?_append_left (by rw [bl_length]; exact hj)]
          simp [bl, hj, show j < k + m by omega]
        · rw [List.getElem?_append_right (by rw [bl_length]; omega), bl_length]
          by_cases hj2 : j < k + m
          · simp [bl, show j - k < m by omega, hj2, show k + (j - k) = j by omega]
          · rw [List.getElem?_eq_none (by rw [bl_length]; omega), List.getElem?_eq_none (by rw [bl_length]; omega)]
      rw [← e]; exact h1
  rcases hg with ⟨rfl, rfl⟩ | ⟨b, off, rfl, _, hm⟩
  · cases ad with
    | some A => exact main A hx (fun i hi => absurd hi (Nat.not_lt_zero i))
    | none => exact wpList_append_own_none hgd s x 22 ho w.heap.size 5 i 1 Tryd.underlying22 hi v k (bl f k) hs h0.own hx (h v wr (h0.congr hf) (World.grownBy.refl _ _) (.inl rfl))
  · exact main ⟨b, off, none⟩ hx (fun i hi => by rw [addr_add0]; exact hm i hi)
theorem Own.keep {w wr w' : World} {v : Value} {k : Nat} {f : Nat → BitVec 8} (h : Own w wr v k f) (hb : Below w.heap.size w w') (hk : ∀ b, v.ownBlock = some b → w'.heap[b]? = wr.heap[b]?) : Own w w' v k f := by
  refine ⟨hb, h.own.1, ?_⟩
  rcases h.own.2 with h1 | ⟨g, cap, cur, rfl, hb1, hg, hc⟩
  · exact .inl h1
  · exact .inr ⟨g, cap, cur, rfl, hb1, by rw [hk g rfl]; exact hg, hc⟩
theorem Own.lt' {w wr : World} {v : Value} {k : Nat} {f : Nat → BitVec 8} (h : Own w wr v k f) : ∀ b, v.ownBlock = some b → b < wr.heap.size := by
  intro b e
  rcases h.own.2 with ⟨rfl, _⟩ | ⟨g, cap, cur, rfl, _, hg, _⟩
  · simp [Value.ownBlock] at e
  · simp [Value.ownBlock] at e; subst e; exact (Array.getElem?_eq_some_iff.1 hg).1
theorem one_new (W : World) (x : Value) (z : BitVec 8) (t : TypeId) (g : Nat → BitVec 8) (hx : x = B z) (hg : g 0 = z) : Src (W.alloc (.cells #[x] t)) (some ⟨W.heap.size, 0, none⟩) 1 1 g := by
  refine .inr ⟨_, 0, rfl, by simp, fun i hi => ?_⟩
  obtain rfl : i = 0 := by omega
  rw [hg, hx]
  have : (W.alloc (.cells #[B z] t)).heap[W.heap.size]? = some (.cells #[B z] t) := by show (W.heap.push _)[W.heap.size]? = _; simp
  unfold World.cell?; rw [this]; rfl
/-- Bytes as a string. -/
def sstr (m : Nat → BitVec 8) (n : Nat) : ByteArray := strOfNums ((List.range n).map fun i => ub (m i))
theorem sstr_congr {m m' : Nat → BitVec 8} {n : Nat} (h : ∀ i, i < n → m i = m' i) : sstr m n = sstr m' n := by
  unfold sstr; congr 1
  exact List.map_congr_left fun i hi => by rw [h i (by simpa using hi)]
theorem src_str {w : World} {ad : Option Addr} {n cap : Nat} {m : Nat → BitVec 8} (h : Src w ad n cap m) : (convert 22 9 (.slice ad n cap)).run Tryd.prog w = .ok (.string (sstr m n)) w := by
  rcases h with ⟨rfl, rfl⟩ | ⟨b, o, rfl, hlt, hm⟩
  · cases ad with
    | none => exact run_convert_bytes_nil w 22 5 Tryd.underlying22 Tryd.underlying5 0 0 9 Tryd.underlying9
    | some A =>
      rw [run_convert_bytes_string w 22 9 5 _ _ _ Tryd.underlying22 Tryd.underlying5 Tryd.underlying9]
      exact run_bytesToString w A 0 0 [] (by simpa using run_loadCells_list (P := Tryd.prog) w A [] (fun j v hj => by simp at hj))
  · refine run_convert_bytes_arg w 22 5 Tryd.underlying22 Tryd.underlying5 b o n cap ((List.range n).map fun i => ub (m i)) (by simp) (fun i hi => ?_) 9 Tryd.underlying9
    have hi' : i < n := by simpa using hi
    rw [hm i hi']
    simp [hi']
theorem Src.drewN {w : World} {ad : Option Addr} {n cap : Nat} {m : Nat → BitVec 8} (h : Src w ad n cap m) (k : Nat) : Src (w.drewN k) ad n cap m := h.below (below_drewN (Below.refl _ _) k) (Nat.le_refl _)
end Go.Proofs.YtkjmompdfegmcaaDoor
