/- Package json: the parser, its small calls. -/
import Derived.Test.YtefaohokmhdplaaDoorChgA
import Derived.Test.YtefaohokmhdplaaDoorJsO
import Derived.Deep.QuietTactic
import Derived.BigQuiet
import Derived.Lib.UnsafeStr
import Derived.Lib.BufferWrite
import Derived.Lib.ConvBytes
import Derived.Lib.AppendStr
namespace Go.Proofs.YtefaohokmhdplaaDoor
open Go Go.RowKit
set_option linter.unusedSimpArgs false
set_option linter.unusedVariables false
set_option maxRecDepth 100000

/-- The parser's three cells. -/
def PB (w : World) (g : Nat) (s : ByteArray) (i d : Nat) : Prop := w.heap[g]? = some (.cells #[.string s, .int .i64 (i : Int), .int .i64 (d : Int)] 64 (0, 0))
theorem below_drewN {B0 : Nat} {a w : World} (h : Below B0 a w) (n : Nat) : Below B0 a (w.drewN n) := by
  induction n with
  | zero => exact h
  | succ n ih => exact ih.drew
variable {w : World} {g : Nat} {s : ByteArray} {i d : Nat}
theorem PB.cell (h : PB w g s i d) (j : Nat) : w.cell? ⟨g, j, none⟩ = (#[.string s, .int .i64 (i : Int), .int .i64 (d : Int)] : Array Value)[j]? := by
  have e : w.heap[g]? = _ := h
  simp only [World.cell?, e, Option.isSome_none, Bool.false_eq_true, if_false]
theorem PB.cells (h : PB w g s i d) : w.cell? ⟨g, 0, none⟩ = some (.string s) ∧ w.cell? ⟨g, 1, none⟩ = some (.int .i64 (i : Int)) ∧ w.cell? ⟨g, 2, none⟩ = some (.int .i64 (d : Int)) := ⟨h.cell 0, h.cell 1, h.cell 2⟩
theorem PB.froz (h : PB w g s i d) (j : Nat) : w.frozen? ⟨g, j, none⟩ = false := by
  have e : w.heap[g]? = _ := h
  simp [World.frozen?, e]
theorem PB.lt (h : PB w g s i d) : g < w.heap.size := (Array.getElem?_eq_some_iff.1 h).1
theorem PB.keep {w' : World} (h : PB w g s i d) (k : w'.heap[g]? = w.heap[g]?) : PB w' g s i d := k.trans h
theorem PB.set1 (h : PB w g s i d) (v : Nat) : PB (w.setCell ⟨g, 1, none⟩ (.int .i64 (v : Int))) g s v d := heap_setCell_same h _
theorem PB.set2 (h : PB w g s i d) (v : Nat) : PB (w.setCell ⟨g, 2, none⟩ (.int .i64 (v : Int))) g s i v := heap_setCell_same h _
theorem PB.drew (h : PB w g s i d) (n : Nat) : PB (w.drewN n) g s i d := h
theorem Chg.drew {F : Nat → Prop} {x y : World} (h : Chg F x y) (n : Nat) : Chg F x (y.drewN n) := h.trans (Chg.ofBelow (below_drewN (Below.refl _ _) n))
/-- The byte at a place that is one. -/
theorem idx_gb {s : ByteArray} {i : Nat} (h : i < s.size) : ((s[i]'h).toNat : Int) = gb s i := (gb_in h).symm
/-- Only the parser, and new blocks, have changed. -/
def Cg (g : Nat) (w w' : World) : Prop := Chg (fun b => b = g) w w'
set_option maxHeartbeats 1000000 in
theorem next_any (h : PB w g s i d) (hi : i ≤ s.size) (hs : s.size ≤ 8192) :
    Calls Tryd.prog 67 #[.pointer (some ⟨g, 0, none⟩)] w fun e w' => e = .returned (.int .u8 (gb s i)) ∧ ∃ n, w' = w.drewN n := by
  obtain ⟨h0, h1, h2⟩ := h.cells
  clear h
  by_cases he : i = s.size
  · have hg : gb s i = 0 := gb_out (by omega)
    have HG : Hid (gb s i = 0) := hg
    subst he
    clear hg
    go_enter Tryd.func67, Tryd.ntmps67
    go_wp2
    go_quiet (fail)
    go_wp2
    go_ret
    exact ⟨by rw [HG.out]; rfl, _, rfl⟩
  · have hlt : i < s.size := by omega
    have hne : ¬ (i : Int) = (s.size : Int) := by omega
    have HG : Hid _ := idx_gb hlt
    go_enter Tryd.func67, Tryd.ntmps67
    go_wp2
    go_quiet (fail)
    go_wp2
    go_quiet (fail)
    go_wp2
    go_ret
    exact ⟨by rw [← HG.out]; rfl, _, by rw [World.drewN_drewN]⟩
theorem wrap_in {n : Int} (h0 : 0 ≤ n) (h1 : n ≤ 9223372036854775807) : wrap64 n = n := by unfold wrap64; omega
set_option maxHeartbeats 1000000 in
theorem take_no (h : PB w g s i d) (hi : i ≤ s.size) (hs : s.size ≤ 8192) {c : Int} (hc : gb s i ≠ c) :
    Calls Tryd.prog 66 #[.pointer (some ⟨g, 0, none⟩), .int .u8 c] w fun e w' => e = .returned (.bool false) ∧ ∃ n, w' = w.drewN n := by
  have H : Hid (PB w g s i d) := h
  clear h
  have hn : ¬ ((gb s i == c) = true) := by simpa using hc
  go_enter Tryd.func66, Tryd.ntmps66
  go_wp2_with (go_at_call 67; refine (next_any H.out hi hs).mono ?_; rintro e w1 ⟨rfl, n, rfl⟩)
  go_ret
  exact ⟨rfl, _, rfl⟩
set_option maxHeartbeats 1000000 in
theorem take_yes (h : PB w g s i d) (hi : i ≤ s.size) (hs : s.size ≤ 8192) {c : Int} (hc : gb s i = c) (h0 : c ≠ 0) :
    Calls Tryd.prog 66 #[.pointer (some ⟨g, 0, none⟩), .int .u8 c] w fun e w' => e = .returned (.bool true) ∧ PB w' g s (i + 1) d ∧ Cg g w w' := by
  have H : Hid (PB w g s i d) := h
  have HS : Hid (s.size ≤ 8192) := hs
  obtain ⟨q0, q1, q2⟩ := h.cells
  have f1 := h.froz 1
  have hlt := gb_lt (s := s) (i := i) (by rw [hc]; exact h0)
  clear h h0
  subst hc
  go_enter Tryd.func66, Tryd.ntmps66
  go_wp2_with (go_at_call 67; refine (next_any H.out hi HS.out).mono ?_; rintro e w1 ⟨rfl, n, rfl⟩)
  go_ret
  exact ⟨rfl, (H.out.drew n).set1 _, ((Chg.refl _ _).drew n).setCell rfl⟩
end Go.Proofs.YtefaohokmhdplaaDoor
/- Texts: strings.Clone, texts as bytes. -/
namespace Go.Proofs.YtefaohokmhdplaaDoor
open Go Go.RowKit
set_option linter.unusedSimpArgs false
set_option linter.unusedVariables false
set_option maxRecDepth 100000

theorem cellsOf_u8 : Tryd.prog.cellsOf 5 = 1 := by kernel_rfl
theorem info1_u8 : (Tryd.prog.info? 5).map (·.size) = some 1 := by kernel_rfl
/-- A row that a text is made of. -/
theorem row_str {w : World} {g : Nat} {cur : Array Value} (hg : w.heap[g]? = some (.cells cur 5 (0, 0))) (s : ByteArray) (h0 : s.size ≠ 0) (hl : s.size ≤ 140737488355328) (hs : cur.size = s.size) (ty it pt : TypeId) (hp : Tryd.prog.underlying pt = some (.pointer 5)) :
    ∃ w1, (Builtin.copy_ #[76, 9] 3 #[.slice (some ⟨g, 0, none⟩) s.size s.size, .string s]).run Tryd.prog w = .ok (.int .i64 (s.size : Int)) w1 ∧ (∀ k, k ≠ g → w1.heap[k]? = w.heap[k]?) ∧ w1.heap.size = w.heap.size ∧ (∀ B, B ≤ g → Below B w w1) ∧ (Builtin.unsafeString_ #[pt, it] ty #[.pointer (some ⟨g, 0, none⟩), .int .i64 (s.size : Int)]).run Tryd.prog w1 = .ok (.string s) (w1.freeze ⟨g, 0, none⟩ s.size) := by
  have hcp := Lib.run_copy_row_string (P := Tryd.prog) w 76 9 3 5 g 0 s.size s.size s cur 5 Tryd.underlying76 info1_u8 hg (Nat.le_refl _) (by omega)
  obtain ⟨Y, hY⟩ : ∃ Y, Y = (cur.toList.take 0 ++ Lib.byteCells s.data.toList ++ cur.toList.drop (0 + s.size)).toArray := ⟨_, rfl⟩
  rw [← hY] at hcp
  have hYl : Y.toList = Lib.byteCells s.data.toList := by
    rw [hY, List.toList_toArray, List.take_zero, List.nil_append, List.drop_of_length_le (by rw [Array.length_toList]; omega), List.append_nil]
  have hYs : Y.size = s.size := by rw [← Array.length_toList, hYl, Lib.byteCells_length, ← Lib.size_eq]
  have hgY : (w.setRow g Y).heap[g]? = some (.cells Y 5 (0, 0)) := setRow_heap _ _ cur _ _ (0, 0) hg
  have hne : s.data.toList ≠ [] := fun e => h0 (by rw [Lib.size_eq, e]; rfl)
  have hUS := Lib.run_unsafeString_row (P := Tryd.prog) (w.setRow g Y) pt it ty 5 hp cellsOf_u8 g Y.size (by unfold World.shape?; rw [hgY]) s.data.toList hne (by rw [← Lib.size_eq]; omega) (by rw [← Lib.size_eq]; omega)
    (fun j x hx => Lib.cells_of_row hgY Y.size j _ (by rw [List.take_of_length_le (by rw [Array.length_toList]; exact Nat.le_refl _), hYl]; simp [Lib.byteCells, hx]))
  rw [← Lib.size_eq] at hUS
  exact ⟨_, hcp, fun k hk => setRow_other _ _ _ _ hk, by simp, fun B hB => ⟨rfl, rfl, rfl, by simp, fun k hk => setRow_other _ _ _ _ (by omega)⟩, hUS⟩
set_option maxHeartbeats 1000000 in
theorem lclone_any (s : ByteArray) (hl : s.size ≤ 140737488355328) (w : World) : Calls Tryd.prog 91 #[.string s] w fun e w' => e = .returned (.string s) ∧ Below w.heap.size w w' := by
  by_cases h0 : s.size = 0
  · obtain rfl : s = ⟨#[]⟩ := ByteArray.ext (Array.eq_empty_of_size_eq_zero h0)
    go_enter Tryd.func91, Tryd.ntmps91
    go_wp2
    go_ret
    exact ⟨rfl, Below.refl _ _⟩
  · go_enter Tryd.func91, Tryd.ntmps91
    go_wp2_with (refine make_full _ rfl _ _ rfl .i64 .i64 _ _ s.size rfl rfl rfl rfl hl ?_; intro w1 h1 h2; have H1 : Hid (Ow w.heap.size w1 (.slice (some ⟨w.heap.size, 0, none⟩) s.size s.size) (List.replicate s.size 0)) := h1; have H2 : Hid (Below w.heap.size w w1) := h2; clear h1 h2)
    rcases H1.out.2 with ⟨h', _⟩ | ⟨g', cap', cur, h', hb, hg, hc, hm, hz, ht⟩
    · simp at h'
    · simp only [Value.slice.injEq, Option.some.injEq, Addr.mk.injEq, and_true, true_and] at h'
      obtain ⟨rfl, hx⟩ := h'
      have hcs : cur.size = s.size := by omega
      obtain ⟨w2, hcp, -, hsz2, hB2, hUS⟩ := row_str hg s h0 hl hcs 9 3 120 Tryd.underlying120
      have H3 : Hid (Below w.heap.size w w2) := H2.out.trans (hB2 _ (Nat.le_refl _))
      clear hB2 hg hc hm hz ht hx hcs hsz2 hb
      rw [hcp]
      simp only [Result.andThen]
      rw [Oper.upon_value]
      go_wp2
      go_ret
      exact ⟨rfl, Lib.below_freeze H3.out (p := ⟨w.heap.size, 0, none⟩) (Nat.le_refl _) _⟩
theorem sclone_any (s : ByteArray) (hl : s.size ≤ 140737488355328) (w : World) : Calls Tryd.prog 85 #[.string s] w fun e w' => e = .returned (.string s) ∧ Below w.heap.size w w' := by
  go_enter Tryd.func85, Tryd.ntmps85
  go_wp2_with (go_at_call 91; refine (lclone_any s hl _).mono ?_; rintro e w2 ⟨rfl, h5⟩; have H5 : Hid (Below w.heap.size w w2) := h5; clear h5)
  go_ret
  exact ⟨rfl, H5.out⟩
/-- A text's bytes. -/
def nb (s : ByteArray) : List Int := s.data.toList.map (fun b => (b.toNat : Int))
theorem nb_length (s : ByteArray) : (nb s).length = s.size := by unfold nb; rw [List.length_map, Array.length_toList]; rfl
theorem nb_byt (s : ByteArray) : Byt (nb s) := by
  intro x hx
  unfold nb at hx
  rw [List.mem_map] at hx
  obtain ⟨b, _, rfl⟩ := hx
  have := b.toNat_lt
  omega
theorem nb_cells (s : ByteArray) : Lib.strCells s = bv (nb s) := by unfold Lib.strCells bv nb; rw [List.map_map]; rfl
theorem nb_get {s : ByteArray} {i : Nat} (h : i < s.size) : gi (nb s) i = ((s.data.toList.getD i 0).toNat : Int) := by
  have h' : i < s.data.toList.length := by rw [Array.length_toList]; exact h
  unfold gi nb
  simp [List.getD, h]
/-- []byte(s). -/
theorem conv_any (w : World) (s : ByteArray) : ∃ w1 c, (convert 9 76 (.string s)).run Tryd.prog w = .ok (.slice (some ⟨w.heap.size, 0, none⟩) s.size c) w1 ∧ Sl w1 (.slice (some ⟨w.heap.size, 0, none⟩) s.size c) (nb s) ∧ Below w.heap.size w w1 ∧ w1.heap.size = w.heap.size + 1 := by
  have hr := Lib.run_convert_string_bytes (P := Tryd.prog) w 9 76 5 s Tryd.underlying9 Tryd.underlying76 Tryd.underlying5
  refine ⟨_, _, hr, ?_, ⟨?_, ?_, ?_, by rw [Lib.bytesWorld_size]; omega, fun k hk => Lib.bytesWorld_at_old w _ s k hk⟩, Lib.bytesWorld_size _ _ _⟩
  · refine ⟨_, _, by rw [nb_length], by rw [nb_length]; exact grownCap_ge _ _ _ _, .inr ⟨w.heap.size, 0, rfl, by rw [Lib.bytesWorld_size]; omega, fun i hi => ?_⟩⟩
    rw [nb_length] at hi
    rw [nb_get hi, Nat.zero_add]; exact Lib.bytesWorld_cell w _ s i hi
  · rfl
  · rfl
  · rfl
/-- append of a text. -/
theorem app_str {ops : Array Oper} {rest : List Oper} {o : Oper} {a : Act} {Q : Exit → Act → World → Prop} {B0 : Nat} {wr : World} (hgd : o.guard = none) (s x : Operand) (ho : o.op = .call { callee := .builtin .append, args := #[s, x], argTypes := #[76, 9] })
    (hB : B0 ≤ wr.heap.size) (v : Value) (xs : List Int) (hs : a.eval s = v) (h0 : Ow B0 wr v xs) (t : ByteArray) (hx : a.eval x = .string t) (hk : xs.length + t.size ≤ 140737488355328)
    (h : ∀ v' w', Ow B0 w' v' (xs ++ nb t) → wr.grownBy w' v.ownBlock → Below B0 wr w' → wpList Tryd.prog ops Q rest (a.put o.dst v') w') : wpList Tryd.prog ops Q (o :: rest) a wr := by
  obtain ⟨i, hi, hz, hsz, hby⟩ := info_u8
  refine Lib.wpList_append_own_string wr hgd s x 76 9 ho B0 5 i Tryd.underlying76 Tryd.underlying9 hi hz hsz hby v xs.length (bv xs) hs h0 t hx (by unfold maxLen; omega) hk hB ?_
  intro v' w' h1 h2 _
  refine h v' w' ?_ h2 ((Below.refl B0 wr).grown h2 hB (fun b hb' => h0.blk b hb'))
  unfold Ow
  rw [List.length_append, nb_length, bv_append, ← nb_cells]; exact h1
end Go.Proofs.YtefaohokmhdplaaDoor
/- Package json: blanks, digits. -/
namespace Go.Proofs.YtefaohokmhdplaaDoor
open Go Go.RowKit
set_option linter.unusedSimpArgs false
set_option linter.unusedVariables false
set_option maxRecDepth 100000

variable {w : World} {g : Nat} {s : ByteArray} {i d : Nat}
/-- Where the parser stands. -/
def posOf (w : World) (g : Nat) : Nat := match w.heap[g]? with
  | some (Obj.cells cs _ _) => (match (cs[1]? : Option Value) with
    | some (Value.int _ n) => n.toNat
    | _ => 0)
  | _ => 0
theorem PB.pos (h : PB w g s i d) : posOf w g = i := by
  have e : w.heap[g]? = _ := h
  simp [posOf, e]
theorem isBl_yes {c : Int} (h : c = 32 ∨ c = 9 ∨ c = 10 ∨ c = 13) : isBl c = true := decide_eq_true h
theorem isBl_no {c : Int} (h : ¬ (c = 32 ∨ c = 9 ∨ c = 10 ∨ c = 13)) : isBl c = false := decide_eq_false h
theorem isDg_yes {c : Int} (h : 48 ≤ c ∧ c ≤ 57) : isDg c = true := decide_eq_true h
theorem isDg_no {c : Int} (h : ¬ (48 ≤ c ∧ c ≤ 57)) : isDg c = false := decide_eq_false h
set_option maxHeartbeats 2000000 in
theorem blanks_any (h : PB w g s i d) (hi : i ≤ s.size) (hs : s.size ≤ 8192) :
    Calls Tryd.prog 52 #[.pointer (some ⟨g, 0, none⟩)] w fun e w' => e = .returned (.tuple #[]) ∧ PB w' g s (sk s i) d ∧ Cg g w w' := by
  have H : Hid (PB w g s i d) := h
  have HS : Hid (s.size ≤ 8192) := hs
  clear h hs
  go_enter Tryd.func52, Tryd.ntmps52
  go_wp2_with fail
  go_loopw [] (fun W => ∃ j, PB W g s j d ∧ Cg g w W ∧ j ≤ s.size ∧ sk s j = sk s i) (fun W => s.size - posOf W g)
  case atStart => exact ⟨i, H.out, Chg.refl _ _, hi, rfl⟩
  case round =>
    obtain ⟨j, hp, hc, hj, he⟩ := hrel
    have HP : Hid (PB wr g s j d) := hp
    have HC : Hid (Cg g w wr) := hc
    have HE : Hid (sk s j = sk s i) := he
    have hps := hp.pos
    clear hp hc he
    by_cases e0 : gb s j = 32
    · have hb := isBl_yes (c := gb s j) (by omega)
      have hlt := isBl_lt hb
      have HR : Hid (sk s j = sk s (j + 1)) := rn_step hb hlt
      clear hb
      go_wp2_with fail
      refine (take_yes HP.out hj HS.out (c := 32) (by omega) (by decide)).mono ?_
      rintro e W ⟨rfl, p1, p2⟩
      have P1 : Hid (PB W g s (j + 1) d) := p1
      have P2 : Hid (Cg g w W) := Chg.trans (HC.out) p2
      have P3 : Hid (posOf W g = j + 1) := p1.pos
      clear p1 p2
      go_wp2
      go_roundw
      case rel => exact ⟨j + 1, P1.out, P2.out, hlt, HR.out.symm.trans HE.out⟩
      case measure => rw [P3.out, hps]; omega
    by_cases e1 : gb s j = 9
    · have hb := isBl_yes (c := gb s j) (by omega)
      have hlt := isBl_lt hb
      have HR : Hid (sk s j = sk s (j + 1)) := rn_step hb hlt
      clear hb
      go_wp2_with fail
      refine (take_no HP.out hj HS.out (c := 32) (by omega)).mono ?_
      rintro e W0 ⟨rfl, n0, rfl⟩
      go_wp2_with fail
      refine (take_yes (HP.out.drew _) hj HS.out (c := 9) (by omega) (by decide)).mono ?_
      rintro e W ⟨rfl, p1, p2⟩
      have P1 : Hid (PB W g s (j + 1) d) := p1
      have P2 : Hid (Cg g w W) := Chg.trans (HC.out.drew _) p2
      have P3 : Hid (posOf W g = j + 1) := p1.pos
      clear p1 p2
      go_wp2
      go_roundw
      case rel => exact ⟨j + 1, P1.out, P2.out, hlt, HR.out.symm.trans HE.out⟩
      case measure => rw [P3.out, hps]; omega
    by_cases e2 : gb s j = 10
    · have hb := isBl_yes (c := gb s j) (by omega)
      have hlt := isBl_lt hb
      have HR : Hid (sk s j = sk s (j + 1)) := rn_step hb hlt
      clear hb
      go_wp2_with fail
      refine (take_no HP.out hj HS.out (c := 32) (by omega)).mono ?_
      rintro e W0 ⟨rfl, n0, rfl⟩
      go_wp2_with fail
      refine (take_no (HP.out.drew _) hj HS.out (c := 9) (by omega)).mono ?_
      rintro e W1 ⟨rfl, n1, rfl⟩
      go_wp2_with fail
      refine (take_yes (HP.out.drew _) hj HS.out (c := 10) (by omega) (by decide)).mono ?_
      rintro e W ⟨rfl, p1, p2⟩
      have P1 : Hid (PB W g s (j + 1) d) := p1
      have P2 : Hid (Cg g w W) := Chg.trans (HC.out.drew _) p2
      have P3 : Hid (posOf W g = j + 1) := p1.pos
      clear p1 p2
      go_wp2
      go_roundw
      case rel => exact ⟨j + 1, P1.out, P2.out, hlt, HR.out.symm.trans HE.out⟩
      case measure => rw [P3.out, hps]; omega
    by_cases e3 : gb s j = 13
    · have hb := isBl_yes (c := gb s j) (by omega)
      have hlt := isBl_lt hb
      have HR : Hid (sk s j = sk s (j + 1)) := rn_step hb hlt
      clear hb
      go_wp2_with fail
      refine (take_no HP.out hj HS.out (c := 32) (by omega)).mono ?_
      rintro e W0 ⟨rfl, n0, rfl⟩
      go_wp2_with fail
      refine (take_no (HP.out.drew _) hj HS.out (c := 9) (by omega)).mono ?_
      rintro e W1 ⟨rfl, n1, rfl⟩
      go_wp2_with fail
      refine (take_no (HP.out.drew _) hj HS.out (c := 10) (by omega)).mono ?_
      rintro e W2 ⟨rfl, n2, rfl⟩
      go_wp2_with fail
      refine (take_yes (HP.out.drew _) hj HS.out (c := 13) (by omega) (by decide)).mono ?_
      rintro e W ⟨rfl, p1, p2⟩
      have P1 : Hid (PB W g s (j + 1) d) := p1
      have P2 : Hid (Cg g w W) := Chg.trans (HC.out.drew _) p2
      have P3 : Hid (posOf W g = j + 1) := p1.pos
      clear p1 p2
      go_wp2
      go_roundw
      case rel => exact ⟨j + 1, P1.out, P2.out, hlt, HR.out.symm.trans HE.out⟩
      case measure => rw [P3.out, hps]; omega
    go_wp2_with fail
    refine (take_no HP.out hj HS.out (c := 32) (by omega)).mono ?_
    rintro e W0 ⟨rfl, n0, rfl⟩
    go_wp2_with fail
    refine (take_no (HP.out.drew _) hj HS.out (c := 9) (by omega)).mono ?_
    rintro e W1 ⟨rfl, n1, rfl⟩
    go_wp2_with fail
    refine (take_no (HP.out.drew _) hj HS.out (c := 10) (by omega)).mono ?_
    rintro e W2 ⟨rfl, n2, rfl⟩
    go_wp2_with fail
    refine (take_no (HP.out.drew _) hj HS.out (c := 13) (by omega)).mono ?_
    rintro e W3 ⟨rfl, n3, rfl⟩
    have hb := isBl_no (c := gb s j) (by omega)
    have HR : Hid (sk s j = j) := rn_stop hb
    clear hb
    go_wp2
    go_end0
    exact ⟨rfl, by rw [← HE.out, HR.out]; exact HP.out.drew _, HC.out.drew _⟩
theorem digit_any (c : Int) (w : World) : Calls Tryd.prog 72 #[.int .u8 c] w fun e w' => e = .returned (.bool (isDg c)) ∧ w' = w := by
  go_enter Tryd.func72, Tryd.ntmps72
  go_wp2
  all_goals go_ret
  all_goals refine ⟨?_, rfl⟩
  all_goals first
    | (rw [isDg_no (by omega)]; rfl)
    | (by_cases h57 : c ≤ 57
       · rw [isDg_yes (by omega)]; simp [h57]
       · rw [isDg_no (by omega)]; simp [h57])
set_option maxHeartbeats 2000000 in
theorem digits_any (h : PB w g s i d) (hi : i ≤ s.size) (hs : s.size ≤ 8192) :
    Calls Tryd.prog 84 #[.pointer (some ⟨g, 0, none⟩)] w fun e w' => e = .returned (.bool (isDg (gb s i))) ∧ PB w' g s (dgs s i) d ∧ Cg g w w' := by
  have H : Hid (PB w g s i d) := h
  have HS : Hid (s.size ≤ 8192) := hs
  obtain ⟨q0, q1, q2⟩ := h.cells
  clear h hs
  have HX : Hid (isDg (gb s i) = decide (i < dgs s i)) := by
    show isDg (gb s i) = decide (i < dgs s i)
    cases hd : isDg (gb s i) with
    | false => rw [show dgs s i = i from rn_stop hd]; simp
    | true =>
      have h1 := isDg_lt hd
      have h2 : dgs s i = dgs s (i + 1) := rn_step hd h1
      have h3 := dgs_ge s (i + 1)
      rw [h2]; exact (decide_eq_true (by omega)).symm
  go_enter Tryd.func84, Tryd.ntmps84
  go_wp2_with fail
  go_loopw [] (fun W => ∃ j, PB W g s j d ∧ Cg g w W ∧ j ≤ s.size ∧ dgs s j = dgs s i) (fun W => s.size - posOf W g)
  case atStart => exact ⟨i, H.out, Chg.refl _ _, hi, rfl⟩
  case round =>
    obtain ⟨j, hp, hc, hj, he⟩ := hrel
    have HP : Hid (PB wr g s j d) := hp
    have HC : Hid (Cg g w wr) := hc
    have HE : Hid (dgs s j = dgs s i) := he
    have hps := hp.pos
    obtain ⟨r0, r1, r2⟩ := hp.cells
    have f1 := hp.froz 1
    clear hp hc he
    go_wp2_with fail
    refine (next_any HP.out hj HS.out).mono ?_
    rintro e W ⟨rfl, n, rfl⟩
    go_wp2_with fail
    refine (digit_any _ _).mono ?_
    rintro e W ⟨rfl, rfl⟩
    have H2 : Hid (PB (wr.drewN n) g s j d) := HP.out.drew n
    have C2 : Hid (Cg g w (wr.drewN n)) := HC.out.drew n
    have hb9 : (j : Int) ≤ 8192 := by have := HS.out; omega
    have hb8 : (0 : Int) ≤ (j : Int) := by omega
    cases hd : isDg (gb s j) with
    | true =>
      have hlt := isDg_lt hd
      have HR : Hid (dgs s j = dgs s (j + 1)) := rn_step hd hlt
      go_wp2
      go_roundw
      case rel => exact ⟨j + 1, H2.out.set1 (j + 1), C2.out.setCell rfl, hlt, HR.out.symm.trans HE.out⟩
      case measure =>
        have hm : posOf ((wr.drewN n).setCell ⟨g, 1, none⟩ (.int .i64 ((j : Int) + 1))) g = j + 1 := (H2.out.set1 (j + 1)).pos
        rw [hm, hps]; omega
    | false =>
      have HR : Hid (dgs s j = j) := rn_stop hd
      have HJ : Hid (j = dgs s i) := HR.out.symm.trans HE.out
      have hge := dgs_ge s i
      have HG : Hid (i ≤ j) := by rw [HJ.out]; exact hge
      clear hge
      go_wp2
      go_ret
      refine ⟨?_, by rw [← HJ.out]; exact H2.out, C2.out⟩
      rw [HX.out, ← HJ.out]
      simp
end Go.Proofs.YtefaohokmhdplaaDoor
