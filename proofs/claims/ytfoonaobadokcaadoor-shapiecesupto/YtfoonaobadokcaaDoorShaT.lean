/- A row that a law gathers beside a Hash which it writes to: append that leaves the blocks below a bound as they are. -/
import Derived.Test.YtfoonaobadokcaaDoorShaCopiesW
namespace Go.Proofs.YtfoonaobadokcaaDoor
open Go Go.RowKit
set_option linter.unusedSimpArgs false
set_option linter.unusedVariables false

/-- A row of the call's own, in a block from B on, or nil. -/
def Gath (B0 : Nat) (wr : World) (v : Value) (k : Nat) (f : Nat → BitVec 8) : Prop := wr.ownsRow B0 5 1 v k (bl f k)
theorem Gath.nil (B0 : Nat) (wr : World) (f : Nat → BitVec 8) : Gath B0 wr (.slice none 0 0) 0 f := ⟨rfl, .inl ⟨rfl, rfl⟩⟩
theorem Gath.src {B0 : Nat} {wr : World} {v : Value} {k : Nat} {f : Nat → BitVec 8} (h : Gath B0 wr v k f) : ∃ ad cap, v = .slice ad k cap ∧ Src wr ad k cap f := by
  rcases h.2 with ⟨rfl, rfl⟩ | ⟨g, cap, cur, hv, hb, hg, hc, _, hs, ht⟩
  · exact ⟨none, 0, rfl, .inl ⟨rfl, rfl⟩⟩
  · refine ⟨_, cap, hv, .inr ⟨g, 0, rfl, (Array.getElem?_eq_some_iff.1 hg).1, fun i hi => ?_⟩⟩
    rw [Nat.zero_add, cell_of_row wr g i cur _ _ hg]
    have e : (cur.toList.take (k * 1))[i]? = some (B (f i)) := by rw [ht]; simp [bl, hi]
    rw [List.getElem?_take, if_pos (by omega), Array.getElem?_toList] at e
    exact e
theorem Gath.blk {B0 : Nat} {wr : World} {v : Value} {k : Nat} {f : Nat → BitVec 8} (h : Gath B0 wr v k f) : ∀ b, v.ownBlock = some b → B0 ≤ b := by
  intro b hb
  rcases h.2 with ⟨rfl, _⟩ | ⟨g, cap, cur, rfl, hg, _⟩
  · simp [Value.ownBlock] at hb
  · simp [Value.ownBlock] at hb; omega
/-- It stays where its block stays. -/
theorem Gath.keep {B0 : Nat} {wr wr' : World} {v : Value} {k : Nat} {f : Nat → BitVec 8} (h : Gath B0 wr v k f) (hk : ∀ b, B0 ≤ b → b < wr.heap.size → wr'.heap[b]? = wr.heap[b]?) : Gath B0 wr' v k f := by
  refine ⟨h.1, ?_⟩
  rcases h.2 with h | ⟨g, cap, cur, hv, hb, hg, hc⟩
  · exact .inl h
  · exact .inr ⟨g, cap, cur, hv, hb, by rw [hk g hb (Array.getElem?_eq_some_iff.1 hg).1]; exact hg, hc⟩
/-- append of whatever bytes onto a gathered row. -/
theorem app_gath {ops : Array Oper} {rest : List Oper} {o : Oper} {a : Act} {Q : Exit → Act → World → Prop} {B0 : Nat} {wr : World} (hgd : o.guard = none) (s x : Operand) (ho : o.op = .call { callee := .builtin .append, args := #[s, x], argTypes := #[22, 22] })
    (hB : B0 ≤ wr.heap.size) (v : Value) (k : Nat) (f : Nat → BitVec 8) (hs : a.eval s = v) (h0 : Gath B0 wr v k f) (ad : Option Addr) (m c : Nat) (hx : a.eval x = .slice ad m c)
    (hg : Src wr ad m c (fun i => f (k + i))) (hk : k + m ≤ 140737488355328)
    (h : ∀ v' w', Gath B0 w' v' (k + m) f → Below B0 wr w' → wpList Tryd.prog ops Q rest (a.put o.dst v') w') : wpList Tryd.prog ops Q (o :: rest) a wr := by
  obtain ⟨i, hi, hz, hsz, hby⟩ := info_u8
  rcases hg with ⟨rfl, rfl⟩ | ⟨b, off, rfl, _, hm⟩
  · cases ad with
    | some A =>
      refine wpList_append_own_at wr hgd s x 22 ho B0 5 i (.int .u8 0) 1 1 Tryd.underlying22 hi hz hsz hby rfl (by decide) v k (bl f k) hs h0 A 0 0 [] hx rfl (fun j u hu => by simp at hu) (fun _ h => by cases h) (by unfold maxLen; omega) (by omega) hB ?_
      intro v' w' h1 h2 h3 h4
      rw [List.append_nil] at h1
      exact h v' w' h1 ((Below.refl B0 wr).grown h2 hB (fun b hb' => h0.blk b hb'))
    | none => exact wpList_append_own_none hgd s x 22 ho B0 5 i 1 Tryd.underlying22 hi v k (bl f k) hs h0 hx (h v wr h0 (Below.refl _ _))
  · refine wpList_append_own_at wr hgd s x 22 ho B0 5 i (.int .u8 0) 1 1 Tryd.underlying22 hi hz hsz hby rfl (by decide) v k (bl f k) hs h0 ⟨b, off, none⟩ m c (bl (fun j => f (k + j)) m) hx (by rw [bl_length]; omega) ?_ (bl_one _ _) (by unfold maxLen; omega) (by omega) hB ?_
    · intro j u hu
      obtain ⟨hj, hv⟩ := List.getElem?_eq_some_iff.1 hu
      rw [bl_length] at hj
      rw [addr_add0, hm j hj, ← hv]
      simp [bl]
    · intro v' w' h1 h2 h3 h4
      refine h v' w' ?_ ((Below.refl B0 wr).grown h2 hB (fun b hb' => h0.blk b hb'))
      have e : bl f k ++ bl (fun j => f (k + j)) m = bl f (k + m) := by
        apply List.ext_getElem?
        intro j
        by_cases hj : j < k
        · rw [List.getElem?_append_left (by rw [bl_length]; exact hj)]
          simp [bl, hj, show j < k + m by omega]
        · rw [List.getElem?_append_right (by rw [bl_length]; omega), bl_length]
          by_cases hj2 : j < k + m
          · simp [bl, show j - k < m by omega, hj2, show k + (j - k) = j by omega]
          · rw [List.getElem?_eq_none (by rw [bl_length]; omega), List.getElem?_eq_none (by rw [bl_length]; omega)]
      unfold Gath
      rw [← e]; exact h1
end Go.Proofs.YtfoonaobadokcaaDoor
