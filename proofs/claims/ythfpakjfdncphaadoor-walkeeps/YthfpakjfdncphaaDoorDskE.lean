/- New, Sectors, Waiting, Down, SetFull, SetFuse. -/
import Derived.Test.YthfpakjfdncphaaDoorDskD
namespace Go.Proofs.YthfpakjfdncphaaDoor
open Go Go.RowKit
set_option linter.unusedSimpArgs false
set_option linter.unusedVariables false
set_option maxRecDepth 100000

def z64 : List Int := List.replicate 64 0
/-- A new disk. -/
def dk0 (n : Nat) : Dk := ⟨n, fun _ => z64, [], false, false, none⟩
theorem info_sec : ∃ i, Tryd.prog.info? 59 = some i ∧ i.zero = some (.agg (bv z64).toArray) ∧ i.size = 64 ∧ i.bytes = 64 := by
  have h1 : (Tryd.prog.info? 59).map (·.size) = some 64 := by kernel_rfl
  have h2 : (Tryd.prog.info? 59).map (·.bytes) = some 64 := by kernel_rfl
  have h3 : (Tryd.prog.info? 59).map (·.zero) = some (some (.agg (bv z64).toArray)) := by kernel_rfl
  cases hq : Tryd.prog.info? 59 with
  | none => rw [hq] at h1; cases h1
  | some i =>
    rw [hq] at h1 h2 h3
    exact ⟨i, rfl, Option.some.inj h3, Option.some.inj h1, Option.some.inj h2⟩
theorem bv_z64 : bv z64 = List.replicate 64 (.int .u8 0) := by simp [bv, z64]
theorem made_get (n k : Nat) (h : k < n) : (madeCells (Value.agg (bv z64).toArray).cells n)[k]? = some (.int .u8 0) := by
  unfold madeCells
  rw [Array.getElem?_map, Array.getElem?_range, if_pos h]
  simp only [Option.map_some, Value.cells]
  congr 1
  have hk : k % (bv z64).toArray.size < (bv z64).toArray.size := Nat.mod_lt _ (by rw [List.size_toArray, bv_length]; simp [z64])
  rw [getElem!_pos (bv z64).toArray _ hk]
  have : (bv z64).toArray[k % (bv z64).toArray.size]? = some (.int .u8 0) := by
    rw [List.getElem?_toArray, bv_z64, List.getElem?_replicate, if_pos (by simpa [bv_length, z64] using hk)]
  rw [Array.getElem?_eq_getElem hk] at this
  exact Option.some.inj this
theorem make_sec (w : World) {ops : Array Oper} {rest : List Oper} {o : Oper} {a : Act} {Q : Exit → Act → World → Prop}
    (hg : o.guard = none) (l c : Operand) (hop : o.op = Op.makeSlice 53 l c) (kl kc : IntKind) (L C : Int) (n : Nat) (hl : a.eval l = .int kl L) (hc : a.eval c = .int kc C) (hL : L = (n : Int)) (hC : C = (n : Int)) (hn : n ≤ 65536)
    (hK : ∀ w', SB w' w.heap.size n (fun _ => z64) → Below w.heap.size w w' → wpList Tryd.prog ops Q rest (a.put o.dst (.slice (some ⟨w.heap.size, 0, none⟩) n n)) w') :
    wpList Tryd.prog ops Q (o :: rest) a w := by
  obtain ⟨i, hi, hz, hsz, hby⟩ := info_sec
  refine wpList_make_full w hg l c 53 hop w.heap.size 59 i (.agg (bv z64).toArray) 64 Tryd.underlying53 hi hz hsz kl kc L C n hl hc hL hC (by rw [hby]; omega) (by unfold maxLen; omega) (Nat.le_refl _) ?_
  intro w' h1 h2
  refine hK w' ?_ ((Below.refl _ w).grown h2 (Nat.le_refl _) (fun b e => by cases e))
  rcases h1.2 with ⟨h, _⟩ | ⟨g, cap, cur, hv, hb, hh, hcap, _, hs, ht⟩
  · cases h
  · cases hv
    refine ⟨⟨cur, hh, hs⟩, fun _ _ => by simp [z64], fun k hk j u hu => ?_⟩
    have hj : j < 64 := by have := (List.getElem?_eq_some_iff.1 hu).1; rw [bv_length] at this; simpa [z64] using this
    rw [cell_of_row w' _ _ cur _ _ hh]
    have e : cur.toList = (madeCells (Value.agg (bv z64).toArray).cells (n * 64)).toList := by
      rw [← ht, List.take_of_length_le (by rw [Array.length_toList, hs]; exact Nat.le_refl _)]
    rw [← Array.getElem?_toList, e, Array.getElem?_toList, made_get _ _ (by omega)]
    rw [bv_z64, List.getElem?_replicate, if_pos hj] at hu
    exact hu
theorem new_bad (w : World) (i : Int) (h : ¬ (1 ≤ i ∧ i ≤ 65536)) : Calls Tryd.prog 10 #[.int .i64 i] w fun e w' => e = .returned (.tuple #[.pointer none, .int .i64 1]) ∧ w' = w := by
  by_cases h1 : i < 1
  · go_enter Tryd.func10, Tryd.ntmps10
    go_wp2
    go_ret2
    exact ⟨rfl, rfl⟩
  · have h2 : i > 65536 := by omega
    go_enter Tryd.func10, Tryd.ntmps10
    go_wp2
    go_ret2
    exact ⟨rfl, rfl⟩
/-- A disk in new memory. -/
def NewP (w w' : World) (g n : Nat) : Prop := ∃ F, PD F w' g (dk0 n) ∧ Below w.heap.size w w' ∧ ∀ b, F b → w.heap.size ≤ b
set_option maxHeartbeats 1000000 in
theorem new_any (w : World) (n : Nat) (h1 : 1 ≤ n) (h2 : n ≤ 65536) : Calls Tryd.prog 10 #[.int .i64 (n : Int)] w fun e w' => ∃ g, e = .returned (.tuple #[.pointer (some ⟨g, 0, none⟩), .int .i64 0]) ∧ NewP w w' g n := by
  have g1 : ¬ ((n : Int) < 1) := by omega
  have g2 : ¬ ((n : Int) > 65536) := by omega
  go_enter Tryd.func10, Tryd.ntmps10
  go_wp2_with (refine make_sec w rfl _ _ rfl _ _ _ _ n rfl rfl rfl rfl h2 ?_; intro w1 k1 k2; have K1 : Hid (SB w1 w.heap.size n (fun _ => z64)) := k1; have K2 : Hid (Below w.heap.size w w1) := k2; clear k1 k2)
  go_ret2
  have hb : Below w1.heap.size w1 (w1.alloc (.cells (six (.slice (some ⟨w.heap.size, 0, none⟩) n n) (.slice none 0 0) false false false 0) 56)) := (Below.refl _ _).alloc (Nat.le_refl _) _
  have hlt := K1.out.lt
  refine ⟨w1.heap.size, rfl, fun b => b = w.heap.size ∨ b = w1.heap.size, ⟨w.heap.size, .slice none 0 0, false, 0, ⟨?_, rfl, K1.out.keep (hb.block _ hlt), ⟨World.ownsRow_nil _ _ _ _, fun p hp => by cases hp⟩, by omega, by simp [Value.ownBlock], by simp [Value.ownBlock], .inr rfl, .inl rfl, fun b hb => by simp [Value.ownBlock] at hb, fun b hb' => ?_, h1, h2⟩⟩, K2.out.trans (hb.mono (Nat.le_of_lt hlt)), fun b hb' => by omega⟩
  · show (w1.heap.push _)[w1.heap.size]? = _
    simp [six, dk0]
  · have := hb.size
    have h3 : (w1.alloc (.cells (six (.slice (some ⟨w.heap.size, 0, none⟩) n n) (.slice none 0 0) false false false 0) 56)).heap.size = w1.heap.size + 1 := by simp
    show b < (w1.alloc (.cells (six (.slice (some ⟨w.heap.size, 0, none⟩) n n) (.slice none 0 0) false false false 0) 56)).heap.size
    rw [h3]
    rcases hb' with rfl | rfl <;> omega
variable {F : Nat → Prop} {w : World} {g : Nat} {s : Dk}
theorem sectors_any (h : PD F w g s) : Calls Tryd.prog 32 #[.pointer (some ⟨g, 0, none⟩)] w fun e w' => e = .returned (.int .i64 (s.n : Int)) ∧ w' = w := by
  obtain ⟨gs, wv, fd, fz, h⟩ := h
  obtain ⟨h0, h1, h2, h3, h4, h5⟩ := h.db.cells
  clear h
  go_enter Tryd.func32, Tryd.ntmps32
  go_wp2
  go_ret
  exact ⟨rfl, rfl⟩
theorem waiting_any (h : PD F w g s) : Calls Tryd.prog 33 #[.pointer (some ⟨g, 0, none⟩)] w fun e w' => e = .returned (.int .i64 (s.wt.length : Int)) ∧ w' = w := by
  obtain ⟨gs, wv, fd, fz, h⟩ := h
  obtain ⟨h0, h1, h2, h3, h4, h5⟩ := h.db.cells
  obtain ⟨ad, cap, rfl, -⟩ := h.wb.shape
  clear h
  go_enter Tryd.func33, Tryd.ntmps33
  go_wp2
  go_ret
  exact ⟨rfl, rfl⟩
theorem down_any (h : PD F w g s) : Calls Tryd.prog 21 #[.pointer (some ⟨g, 0, none⟩)] w fun e w' => e = .returned (.bool s.dn) ∧ w' = w := by
  obtain ⟨gs, wv, fd, fz, h⟩ := h
  obtain ⟨h0, h1, h2, h3, h4, h5⟩ := h.db.cells
  clear h
  go_enter Tryd.func21, Tryd.ntmps21
  go_wp2
  go_ret
  exact ⟨rfl, rfl⟩
theorem setFull_any (h : PD F w g s) (b : Bool) : Calls Tryd.prog 19 #[.pointer (some ⟨g, 0, none⟩), .bool b] w fun e w' => e = .returned (.tuple #[]) ∧ Aft F w w' g { s with fu := b } := by
  obtain ⟨gs, wv, fd, fz, h⟩ := h
  obtain ⟨h0, h1, h2, h3, h4, h5⟩ := h.db.cells
  have f2 := h.db.froz 2
  have H : Hid (PX F w g s gs wv fd fz) := h
  clear h
  go_enter Tryd.func19, Tryd.ntmps19
  go_wp2
  go_end0
  have hne : ∀ c, c ≠ g → (w.setCell ⟨g, 2, none⟩ (.bool b)).heap[c]? = w.heap[c]? := fun c hc => Below.heap_setCell _ _ _ _ hc
  have hs : (w.setCell ⟨g, 2, none⟩ (.bool b)).heap.size = w.heap.size := by simp [World.setCell]
  have h := H.out
  exact ⟨rfl, F, ⟨gs, wv, fd, fz, ⟨h.db.set2 b, h.fz, h.sb.keep (hne gs (Ne.symm h.ggs)), h.wb.keep (fun c hc => hne c (fun e => h.wg (by rw [hc, e]))), h.ggs, h.wg, h.wgs, h.Fg, h.Fgs, h.Fw, fun c hc => by rw [hs]; exact h.Flt c hc, h.n1, h.n2⟩⟩, (Chg.refl _ _).setCell h.Fg, fun c hc => .inl hc⟩
def fuseOf (n : Int) : Option Nat := if 0 ≤ n then some n.toNat else none
theorem setFuse_any (h : PD F w g s) (n : Int) (hn : n ≤ 9223372036854775807) : Calls Tryd.prog 18 #[.pointer (some ⟨g, 0, none⟩), .int .i64 n] w fun e w' => e = .returned (.tuple #[]) ∧ Aft F w w' g { s with fz := fuseOf n } := by
  obtain ⟨gs, wv, fd, fz, h⟩ := h
  obtain ⟨h0, h1, h2, h3, h4, h5⟩ := h.db.cells
  have f4 := h.db.froz 4
  have f5 := h.db.froz 5
  have H : Hid (PX F w g s gs wv fd fz) := h
  clear h
  go_enter Tryd.func18, Tryd.ntmps18
  go_wp2
  go_end0
  have e1 := H.out.db.set4 (decide (0 ≤ n))
  have e2 := e1.set5 n
  have h := H.out
  have hne : ∀ c, c ≠ g → ((w.setCell ⟨g, 4, none⟩ (.bool (decide (0 ≤ n)))).setCell ⟨g, 5, none⟩ (.int .i64 n)).heap[c]? = w.heap[c]? := fun c hc => (Below.heap_setCell _ _ _ _ hc).trans (Below.heap_setCell _ _ _ _ hc)
  have hs : ((w.setCell ⟨g, 4, none⟩ (.bool (decide (0 ≤ n)))).setCell ⟨g, 5, none⟩ (.int .i64 n)).heap.size = w.heap.size := by simp [World.setCell]
  refine ⟨rfl, F, ⟨gs, wv, decide (0 ≤ n), n, ⟨e2, ?_, h.sb.keep (hne gs (Ne.symm h.ggs)), h.wb.keep (fun c hc => hne c (fun e => h.wg (by rw [hc, e]))), h.ggs, h.wg, h.wgs, h.Fg, h.Fgs, h.Fw, fun c hc => by rw [hs]; exact h.Flt c hc, h.n1, h.n2⟩⟩, ((Chg.refl _ _).setCell h.Fg).setCell h.Fg, fun c hc => .inl hc⟩
  show fzP (fuseOf n) (decide (0 ≤ n)) n
  unfold fuseOf
  split
  · rename_i hp
    exact ⟨decide_eq_true hp, by omega, by omega⟩
  · rename_i hp
    exact decide_eq_false hp
end Go.Proofs.YthfpakjfdncphaaDoor
