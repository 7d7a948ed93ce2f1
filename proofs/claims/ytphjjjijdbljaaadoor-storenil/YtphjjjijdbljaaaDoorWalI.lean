/- Taking a frame: what stands there; sectors held against one another. -/
import Derived.Test.YtphjjjijdbljaaaDoorWalH
namespace Go.Proofs.YtphjjjijdbljaaaDoor
open Go Go.RowKit
set_option linter.unusedSimpArgs false
set_option linter.unusedVariables false
set_option maxRecDepth 100000

theorem cmp_items (x y : List Int) (hx : x.length = 64) (hy : y.length = 64) (d : Nat) (w : World) : ∀ is : List Nat, (∀ i ∈ is, i < 64) →
    (Op.eqItems (d + 1) 5 (Tryd.prog.cellsOf 5) (bv x).toArray (bv y).toArray is).run Tryd.prog w = .ok (is.all fun i => gi x i == gi y i) w
  | [], _ => by simp [Op.eqItems]
  | i :: is, h => by
    have hi := h i (by simp)
    have hc : Tryd.prog.cellsOf 5 = 1 := by kernel_rfl
    have hp : Tryd.prog.plainKey 5 = true := by kernel_rfl
    have p1 := run_part_plain (P := Tryd.prog) w hp (xs := (bv x).toArray) (off := i) (v := .int .u8 (gi x i)) (by rw [List.getElem?_toArray]; exact bv_get x (by omega))
    have p2 := run_part_plain (P := Tryd.prog) w hp (xs := (bv y).toArray) (off := i) (v := .int .u8 (gi y i)) (by rw [List.getElem?_toArray]; exact bv_get y (by omega))
    have p3 := run_equalIn_int (P := Tryd.prog) w d 5 .u8 .u8 (gi x i) (gi y i) Tryd.underlying5
    have ih := cmp_items x y hx hy d w is (fun j hj => h j (by simp [hj]))
    rw [hc] at ih
    simp only [Op.eqItems, hc, Nat.mul_one, Sem.run_bind, p1, p2, p3, Result.andThen_ok, List.all_cons]
    cases hq : (gi x i == gi y i) with
    | true => simp only [Bool.not_true, Bool.false_eq_true, if_false, Bool.true_and]; exact ih
    | false => simp
theorem all_gi {x y : List Int} (hx : x.length = 64) (hy : y.length = 64) : ((List.range 64).all fun i => gi x i == gi y i) = decide (x = y) := by
  by_cases h : x = y
  · subst h; simp
  · rw [decide_eq_false h, List.all_eq_false]
    refine Classical.byContradiction fun hn => h ?_
    apply List.ext_getElem (by omega)
    intro i h1 h2
    have : gi x i = gi y i := by
      refine Classical.byContradiction fun hne => hn ⟨i, List.mem_range.2 (by omega), ?_⟩
      simpa using hne
    simpa [gi, h1, h2] using this
theorem eq_sct (x y : List Int) (hx : x.length = 64) (hy : y.length = 64) (w : World) : (Op.equalIn 10000 67 (.agg (bv x).toArray) (.agg (bv y).toArray)).run Tryd.prog w = .ok (decide (x = y)) w := by
  obtain ⟨i, hi⟩ : ∃ i, Tryd.prog.info? 5 = some i := by
    cases h : Tryd.prog.info? 5 with
    | none => have := size_u8'; rw [h] at this; cases this
    | some i => exact ⟨i, rfl⟩
  have := run_equalIn_array (P := Tryd.prog) w 9999 (bv x).toArray (bv y).toArray Tryd.underlying67 hi
  rw [cmp_items x y hx hy 9998 w _ (fun i hi => List.mem_range.1 hi), all_gi hx hy] at this
  exact this
theorem neq_sct (x y : List Int) (hx : x.length = 64) (hy : y.length = 64) (w : World) : (binOp .neq 67 (.agg (bv x).toArray) (.agg (bv y).toArray)).run Tryd.prog w = .ok (.bool (!decide (x = y))) w := by
  have h : (Op.equalIn Op.maxDepth 67 (.agg (bv x).toArray) (.agg (bv y).toArray)).run Tryd.prog w = .ok (decide (x = y)) w := eq_sct x y hx hy w
  simp [binOp, h, Op.equal, go_sem]
/-- The sectors behind a, joined. -/
def gat (s : Dk) (a : Nat) : Nat → List Int
  | 0 => []
  | k + 1 => gat s a k ++ rdV s ((a + (k + 1) : Nat) : Int)
/-- Sectors of bytes. -/
def Sby (s : Dk) : Prop := ∀ i : Int, Byt (rdV s i) ∧ (rdV s i).length = 64
theorem gat_length {s : Dk} (h : Sby s) (a : Nat) : ∀ k, (gat s a k).length = 64 * k
  | 0 => rfl
  | k + 1 => by rw [gat, List.length_append, gat_length h a k, (h _).2]; omega
theorem gat_byt {s : Dk} (h : Sby s) (a : Nat) : ∀ k, Byt (gat s a k)
  | 0 => fun z hz => by cases hz
  | k + 1 => fun z hz => by
    rcases List.mem_append.1 hz with h1 | h1
    · exact gat_byt h a k z h1
    · exact (h _).1 z h1
/-- The payload's row behind k sectors. -/
def pk (s : Dk) (a N k : Nat) : List Int := (gat s a k).take N ++ List.replicate (N - 64 * k) 0
theorem pk_length {s : Dk} (h : Sby s) (a N k : Nat) : (pk s a N k).length = N := by
  rw [pk, List.length_append, List.length_take, gat_length h, List.length_replicate]; omega
theorem pk_zero (s : Dk) (a N : Nat) : pk s a N 0 = List.replicate N 0 := by simp [pk, gat]
theorem pk_step {s : Dk} (h : Sby s) {a N k : Nat} (hk : 64 * k < N) {x : List Int} (hx : x = rdV s ((a + (k + 1) : Nat) : Int)) :
    (pk s a N k).take (64 * k) ++ (x.take (N - 64 * k) ++ (pk s a N k).drop (64 * k + (x.take (N - 64 * k)).length)) = pk s a N (k + 1) := by
  have hg := gat_length h a k
  have hxl : x.length = 64 := by rw [hx]; exact (h _).2
  have e1 : (gat s a k).take N = gat s a k := List.take_of_length_le (by omega)
  have e2 : (pk s a N k).take (64 * k) = gat s a k := by rw [pk, e1, ← hg, List.take_left']; rfl
  have e3 : (pk s a N k).drop (64 * k + (x.take (N - 64 * k)).length) = List.replicate (N - 64 * (k + 1)) 0 := by
    rw [pk, e1, List.drop_append, hg, List.drop_eq_nil_of_le (by omega), List.nil_append, List.drop_replicate, List.length_take, hxl]
    congr 1; omega
  rw [e2, e3, pk, gat, ← hx, List.take_append, List.take_of_length_le (show (gat s a k).length ≤ N by omega), hg, List.append_assoc]
/-- A frame's payload, if one stands there. -/
def tkn (s : Dk) (a : Nat) : Nat := (nm (((rdV s (a : Int)).drop 32).take 8)).toNat
def tkp (s : Dk) (a : Nat) : List Int := pk s a (tkn s a) (nsec (tkn s a))
def tk (s : Dk) (a t : Nat) : Option (List Int) :=
  if t ≤ a then none else if (t - a - 1) * 64 < tkn s a then none else if hd (tkp s a) = rdV s (a : Int) then some (tkp s a) else none
theorem tkn_nm {s : Dk} (h : Sby s) (a : Nat) : nm (((rdV s (a : Int)).drop 32).take 8) = (tkn s a : Int) ∧ tkn s a < 18446744073709551616 := by
  have hb : Byt (((rdV s (a : Int)).drop 32).take 8) := ((h _).1.drop 32).take 8
  have hl : (((rdV s (a : Int)).drop 32).take 8).length = 8 := by rw [List.length_take, List.length_drop, (h _).2]; rfl
  have e := nm_plain _ hb (by omega)
  have h1 := pv_nonneg _ hb
  have h2 := pv_lt _ hb
  rw [hl] at h2
  have e4 : (256 : Int) ^ 8 = 18446744073709551616 := by decide
  unfold tkn
  rw [e]
  omega
theorem tkp_length {s : Dk} (h : Sby s) (a : Nat) : (tkp s a).length = tkn s a := pk_length h a _ _
theorem tkp_byt {s : Dk} (h : Sby s) (a : Nat) : Byt (tkp s a) := by
  intro z hz
  unfold tkp pk at hz
  rcases List.mem_append.1 hz with h1 | h1
  · exact (gat_byt h a _).take _ z h1
  · have := List.eq_of_mem_replicate h1; subst this; decide
end Go.Proofs.YtphjjjijdbljaaaDoor
