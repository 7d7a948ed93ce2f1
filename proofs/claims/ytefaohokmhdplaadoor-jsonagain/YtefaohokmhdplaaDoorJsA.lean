/- Package json: the parser, its small calls. -/
import Derived.Test.YtefaohokmhdplaaDoorChgA
import Derived.Test.YtefaohokmhdplaaDoorJsO
import Derived.Deep.QuietTactic
import Derived.BigQuiet
import Derived.Lib.UnsafeStr
import Derived.Lib.BufferWrite
import Derived.Lib.ConvBytes
import Derived.Lib.AppendStr
namespace Go.Proofs.YtefaohokmhdplaaDoor
open Go Go.RowKit
set_option linter.unusedSimpArgs false
set_option linter.unusedVariables false
set_option maxRecDepth 100000

/-- The parser's three cells. -/
def PB (w : World) (g : Nat) (s : ByteArray) (i d : Nat) : Prop := w.heap[g]? = some (.cells #[.string s, .int .i64 (i : Int), .int .i64 (d : Int)] 64 (0, 0))
theorem below_drewN {B0 : Nat} {a w : World} (h : Below B0 a w) (n : Nat) : Below B0 a (w.drewN n) := by
  induction n with
  | zero => exact h
  | succ n ih => exact ih.drew
variable {w : World} {g : Nat} {s : ByteArray} {i d : Nat}
theorem PB.cell (h : PB w g s i d) (j : Nat) : w.cell? ⟨g, j, none⟩ = (#[.string s, .int .i64 (i : Int), .int .i64 (d : Int)] : Array Value)[j]? := by
  have e : w.heap[g]? = _ := h
  simp only [World.cell?, e, Option.isSome_none, Bool.false_eq_true, if_false]
theorem PB.cells (h : PB w g s i d) : w.cell? ⟨g, 0, none⟩ = some (.string s) ∧ w.cell? ⟨g, 1, none⟩ = some (.int .i64 (i : Int)) ∧ w.cell? ⟨g, 2, none⟩ = some (.int .i64 (d : Int)) := ⟨h.cell 0, h.cell 1, h.cell 2⟩
theorem PB.froz (h : PB w g s i d) (j : Nat) : w.frozen? ⟨g, j, none⟩ = false := by
  have e : w.heap[g]? = _ := h
  simp [World.frozen?, e]
theorem PB.lt (h : PB w g s i d) : g < w.heap.size := (Array.getElem?_eq_some_iff.1 h).1
theorem PB.keep {w' : World} (h : PB w g s i d) (k : w'.heap[g]? = w.heap[g]?) : PB w' g s i d := k.trans h
theorem PB.set1 (h : PB w g s i d) (v : Nat) : PB (w.setCell ⟨g, 1, none⟩ (.int .i64 (v : Int))) g s v d := heap_setCell_same h _
theorem PB.set2 (h : PB w g s i d) (v : Nat) : PB (w.setCell ⟨g, 2, none⟩ (.int .i64 (v : Int))) g s i v := heap_setCell_same h _
theorem PB.drew (h : PB w g s i d) (n : Nat) : PB (w.drewN n) g s i d := h
theorem Chg.drew {F : Nat → Prop} {x y : World} (h : Chg F x y) (n : Nat) : Chg F x (y.drewN n) := h.trans (Chg.ofBelow (below_drewN (Below.refl _ _) n))
/-- The byte at a place that is one. -/
theorem idx_gb {s : ByteArray} {i : Nat} (h : i < s.size) : ((s[i]'h).toNat : Int) = gb s i := (gb_in h).symm
/-- Only the parser, and new blocks, have changed. -/
def Cg (g : Nat) (w w' : World) : Prop := Chg (fun b => b = g) w w'
set_option maxHeartbeats 1000000 in
theorem next_any (h : PB w g s i d) (hi : i ≤ s.size) (hs : s.size ≤ 8192) :
    Calls Tryd.prog 67 #[.pointer (some ⟨g, 0, none⟩)] w fun e w' => e = .returned (.int .u8 (gb s i)) ∧ ∃ n, w' = w.drewN n := by
  obtain ⟨h0, h1, h2⟩ := h.cells
  clear h
  by_cases he : i = s.size
  · have hg : gb s i = 0 := gb_out (by omega)
    have HG : Hid (gb s i = 0) := hg
    subst he
    clear hg
    go_enter Tryd.func67, Tryd.ntmps67
    go_wp2
    go_quiet (fail)
    go_wp2
    go_ret
    exact ⟨by rw [HG.out]; rfl, _, rfl⟩
  · have hlt : i < s.size := by omega
    have hne : ¬ (i : Int) = (s.size : Int) := by omega
    have HG : Hid _ := idx_gb hlt
    go_enter Tryd.func67, Tryd.ntmps67
    go_wp2
    go_quiet (fail)
    go_wp2
    go_quiet (fail)
    go_wp2
    go_ret
    exact ⟨by rw [← HG.out]; rfl, _, by rw [World.drewN_drewN]⟩
theorem wrap_in {n : Int} (h0 : 0 ≤ n) (h1 : n ≤ 9223372036854775807) : wrap64 n = n := by unfold wrap64; omega
set_option maxHeartbeats 1000000 in
theorem take_no (h : PB w g s i d) (hi : i ≤ s.size) (hs : s.size ≤ 8192) {c : Int} (hc : gb s i ≠ c) :
    Calls Tryd.prog 66 #[.pointer (some ⟨g, 0, none⟩), .int .u8 c] w fun e w' => e = .returned (.bool false) ∧ ∃ n, w' = w.drewN n := by
  have H : Hid (PB w g s i d) := h
  clear h
  have hn : ¬ ((gb s i == c) = true) := by simpa using hc
  go_enter Tryd.func66, Tryd.ntmps66
  go_wp2_with (go_at_call 67; refine (next_any H.out hi hs).mono ?_; rintro e w1 ⟨rfl, n, rfl⟩)
  go_ret
  exact ⟨rfl, _, rfl⟩
set_option maxHeartbeats 1000000 in
theorem take_yes (h : PB w g s i d) (hi : i ≤ s.size) (hs : s.size ≤ 8192) {c : Int} (hc : gb s i = c) (h0 : c ≠ 0) :
    Calls Tryd.prog 66 #[.pointer (some ⟨g, 0, none⟩), .int .u8 c] w fun e w' => e = .returned (.bool true) ∧ PB w' g s (i + 1) d ∧ Cg g w w' := by
  have H : Hid (PB w g s i d) := h
  have HS : Hid (s.size ≤ 8192) := hs
  obtain ⟨q0, q1, q2⟩ := h.cells
  have f1 := h.froz 1
  have hlt := gb_lt (s := s) (i := i) (by rw [hc]; exact h0)
  clear h h0
  subst hc
  go_enter Tryd.func66, Tryd.ntmps66
  go_wp2_with (go_at_call 67; refine (next_any H.out hi HS.out).mono ?_; rintro e w1 ⟨rfl, n, rfl⟩)
  go_ret
  exact ⟨rfl, (H.out.drew n).set1 _, ((Chg.refl _ _).drew n).setCell rfl⟩
end Go.Proofs.YtefaohokmhdplaaDoor
/- Texts: strings.Clone, texts as bytes. -/
namespace Go.Proofs.YtefaohokmhdplaaDoor
open Go Go.RowKit
set_option linter.unusedSimpArgs false
set_option linter.unusedVariables false
set_option maxRecDepth 100000

theorem cellsOf_u8 : Tryd.prog.cellsOf 5 = 1 := by kernel_rfl
theorem info1_u8 : (Tryd.prog.info? 5).map (·.size) = some 1 := by kernel_rfl
/-- A row that a text is made of. -/
theorem row_str {w : World} {g : Nat} {cur : Array Value} (hg : w.heap[g]? = some (.cells cur 5 (0, 0))) (s : ByteArray) (h0 : s.size ≠ 0) (hl : s.size ≤ 140737488355328) (hs : cur.size = s.size) (ty it pt : TypeId) (hp : Tryd.prog.underlying pt = some (.pointer 5)) :
    ∃ w1, (Builtin.copy_ #[76, 9] 3 #[.slice (some ⟨g, 0, none⟩) s.size s.size, .string s]).run Tryd.prog w = .ok (.int .i64 (s.size : Int)) w1 ∧ (∀ k, k ≠ g → w1.heap[k]? = w.heap[k]?) ∧ w1.heap.size = w.heap.size ∧ (∀ B, B ≤ g → Below B w w1) ∧ (Builtin.unsafeString_ #[pt, it] ty #[.pointer (some ⟨g, 0, none⟩), .int .i64 (s.size : Int)]).run Tryd.prog w1 = .ok (.string s) (w1.freeze ⟨g, 0, none⟩ s.size) := by
  have hcp := Lib.run_copy_row_string (P := Tryd.prog) w 76 9 3 5 g 0 s.size s.size s cur 5 Tryd.underlying76 info1_u8 hg (Nat.le_refl _) (by omega)
  obtain ⟨Y, hY⟩ : ∃ Y, Y = (cur.toList.take 0 ++ Lib.byteCells s.data.toList ++ cur.toList.drop (0 + s.size)).toArray := ⟨_, rfl⟩
  rw [← hY] at hcp
  have hYl : Y.toList = Lib.byteCells s.data.toList := by
    rw [hY, List.toList_toArray, List.take_zero, List.nil_append, List.drop_of_length_le (by rw [Array.length_toList]; omega), List.append_nil]
  have hYs : Y.size = s.size := by rw [← Array.length_toList, hYl, Lib.byteCells_length, ← Lib.size_eq]
  have hgY : (w.setRow g Y).heap[g]? = some (.cells Y 5 (0, 0)) := setRow_heap _ _ cur _ _ (0, 0) hg
  have hne : s.data.toList ≠ [] := fun e => h0 (by rw [Lib.size_eq, e]; rfl)
  have hUS := Lib.run_unsafeString_row (P := Tryd.prog) (w.setRow g Y) pt it ty 5 hp cellsOf_u8 g Y.size (by unfold World.shape?; rw [hgY]) s.data.toList hne (by rw [← Lib.size_eq]; omega) (by rw [← Lib.size_eq]; omega)
    (fun j x hx => Lib.cells_of_row hgY Y.size j _ (by rw [List.take_of_length_le (by rw [Array.length_toList]; exact Nat.le_refl _), hYl]; simp [Lib.byteCells, hx]))
  rw [← Lib.size_eq] at hUS
  exact ⟨_, hcp, fun k hk => setRow_other _ _ _ _ hk, by simp, fun B hB => ⟨rfl, rfl, rfl, by simp, fun k hk => setRow_other _ _ _ _ (by omega)⟩, hUS⟩
set_option maxHeartbeats 1000000 in
theorem lclone_any (s : ByteArray) (hl : s.size ≤ 140737488355328) (w : World) : Calls Tryd.prog 91 #[.string s] w fun e w' => e = .returned (.string s) ∧ Below w.heap.size w w' := by
  by_cases h0 : s.size = 0
  · obtain rfl : s = ⟨#[]⟩ := ByteArray.ext (Array.eq_empty_of_size_eq_zero h0)
    go_enter Tryd.func91, Tryd.ntmps91
    go_wp2
    go_ret
    exact ⟨rfl, Below.refl _ _⟩
  · go_enter Tryd.func91, Tryd.ntmps91
    go_wp2_with (refine make_full _ rfl _ _ rfl .i64 .i64 _ _ s.size rfl rfl rfl rfl hl ?_; intro w1 h1 h2; have H1 : Hid (Ow w.heap.size w1 (.slice (some ⟨w.heap.size, 0, none⟩) s.size s.size) (List.replicate s.size 0)) := h1; have H2 : Hid (Below w.heap.size w w1) := h2; clear h1 h2)
    rcases H1.out.2 with ⟨h', _⟩ | ⟨g', cap', cur, h', hb, hg, hc, hm, hz, ht⟩
    · simp at h'
    · simp only [Value.slice.injEq, Option.some.injEq, Addr.mk.injEq, and_true, true_and] at h'
      obtain ⟨rfl, hx⟩ := h'
      have hcs : cur.size = s.size := by omega
      obtain ⟨w2, hcp, -, hsz2, hB2, hUS⟩ := row_str hg s h0 hl hcs 9 3 120 Tryd.underlying120
      have H3 : Hid (Below w.heap.size w w2) := H2.out.trans (hB2 _ (Nat.le_refl _))
      clear hB2 hg hc hm hz ht hx hcs hsz2 hb
      rw [hcp]
      simp only [Result.andThen]
      rw [Oper.upon_value]
      go_wp2
      go_ret
      exact ⟨rfl, Lib.below_freeze H3.out (p := ⟨w.heap.size, 0, none⟩) (Nat.le_refl _) _⟩
theorem sclone_any (s : ByteArray) (hl : s.size ≤ 140737488355328) (w : World) : Calls Tryd.prog 85 #[.string s] w fun e w' => e = .returned (.string s) ∧ Below w.heap.size w w' := by
  go_enter Tryd.func85, Tryd.ntmps85
  go_wp2_with (go_at_call 91; refine (lclone_any s hl _).mono ?_; rintro e w2 ⟨rfl, h5⟩; have H5 : Hid (Below w.heap.size w w2) := h5; clear h5)
  go_ret
  exact ⟨rfl, H5.out⟩
/-- A text's bytes. -/
def nb (s : ByteArray) : List Int := s.data.toList.map (fun b => (b.toNat : Int))
theorem nb_length (s : ByteArray) : (nb s).length = s.size := by unfold nb; rw [List.length_map, Array.length_toList]; rfl
theorem nb_byt (s : ByteArray) : Byt (nb s) := by
  intro x hx
  unfold nb at hx
  rw [List.mem_map] at hx
  obtain ⟨b, _, rfl⟩ := hx
  have := b.toNat_lt
  omega
theorem nb_cells (s : ByteArray) : Lib.strCells s = bv (nb s) := by unfold Lib.strCells bv nb; rw [List.map_map]; rfl
theorem nb_get {s : ByteArray} {i : Nat} (h : i < s.size) : gi (nb s) i = ((s.data.toList.getD i 0).toNat : Int) := by
  have h' : i < s.data.toList.length := by rw [Array.length_toList]; exact h
  unfold gi nb
  simp [List.getD, h]
/-- []byte(s). -/
theorem conv_any (w : World) (s : ByteArray) : ∃ w1 c, (convert 9 76 (.string s)).run Tryd.prog w = .ok (.slice (some ⟨w.heap.size, 0, none⟩) s.size c) w1 ∧ Sl w1 (.slice (some ⟨w.heap.size, 0, none⟩) s.size c) (nb s) ∧ Below w.heap.size w w1 ∧ w1.heap.size = w.heap.size + 1 := by
  have hr := Lib.run_convert_string_bytes (P := Tryd.prog) w 9 76 5 s Tryd.underlying9 Tryd.underlying76 Tryd.underlying5
  refine ⟨_, _, hr, ?_, ⟨?_, ?_, ?_, by rw [Lib.bytesWorld_size]; omega, fun k hk => Lib.bytesWorld_at_old w _ s k hk⟩, Lib.bytesWorld_size _ _ _⟩
  · refine ⟨_, _, by rw [nb_length], by rw [nb_length]; exact grownCap_ge _ _ _ _, .inr ⟨w.heap.size, 0, rfl, by rw [Lib.bytesWorld_size]; omega, fun i hi => ?_⟩⟩
    rw [nb_length] at hi
    rw [nb_get hi, Nat.zero_add]; exact Lib.bytesWorld_cell w _ s i hi
  · rfl
  · rfl
  · rfl
/-- append of a text. -/
theorem app_str {ops : Array Oper} {rest : List Oper} {o : Oper} {a : Act} {Q : Exit → Act → World → Prop} {B0 : Nat} {wr : World} (hgd : o.guard = none) (s x : Operand) (ho : o.op = .call { callee := .builtin .append, args := #[s, x], argTypes := #[76, 9] })
    (hB : B0 ≤ wr.heap.size) (v : Value) (xs : List Int) (hs : a.eval s = v) (h0 : Ow B0 wr v xs) (t : ByteArray) (hx : a.eval x = .string t) (hk : xs.length + t.size ≤ 140737488355328)
    (h : ∀ v' w', Ow B0 w' v' (xs ++ nb t) → wr.grownBy w' v.ownBlock → Below B0 wr w' → wpList Tryd.prog ops Q rest (a.put o.dst v') w') : wpList Tryd.prog ops Q (o :: rest) a wr := by
  obtain ⟨i, hi, hz, hsz, hby⟩ := info_u8
  refine Lib.wpList_append_own_string wr hgd s x 76 9 ho B0 5 i Tryd.underlying76 Tryd.underlying9 hi hz hsz hby v xs.length (bv xs) hs h0 t hx (by unfold maxLen; omega) hk hB ?_
  intro v' w' h1 h2 _
  refine h v' w' ?_ h2 ((Below.refl B0 wr).grown h2 hB (fun b hb' => h0.blk b hb'))
  unfold Ow
  rw [List.length_append, nb_length, bv_append, ← nb_cells]; exact h1
end Go.Proofs.YtefaohokmhdplaaDoor
