/- A root held against itself. -/
import Derived.Test.YtfnmdeekenjlgaaWrtK
import Derived.ChangeKeysEq
import Derived.Laws.StructEq
namespace Go.Proofs.Ytfnmdeekenjlgaa
open Go Go.RowKit
set_option linter.unusedSimpArgs false
set_option linter.unusedVariables false
set_option maxRecDepth 100000

theorem same_arr_items (A : Array Value) (d : Nat) (w : World) : ∀ is : List Nat, (∀ i ∈ is, ∃ z, A[i]? = some (.int .u8 z)) →
    (Op.eqItems (d + 1) 5 (Try.prog.cellsOf 5) A A is).run Try.prog w = .ok true w
  | [], _ => by simp [Op.eqItems]
  | i :: is, h => by
    obtain ⟨z, hz⟩ := h i (by simp)
    have hc : Try.prog.cellsOf 5 = 1 := by kernel_rfl
    have hp : Try.prog.plainKey 5 = true := by kernel_rfl
    have p1 := run_part_plain (P := Try.prog) w hp (xs := A) (off := i) (v := .int .u8 z) hz
    have p3 := run_equalIn_int (P := Try.prog) w d 5 .u8 .u8 z z Try.underlying5
    have ih := same_arr_items A d w is (fun j hj => h j (by simp [hj]))
    rw [hc] at ih
    have p4 : (Op.equalIn (d + 1) 5 (.int .u8 z) (.int .u8 z)).run Try.prog w = .ok true w := by
      refine p3.trans ?_; simp
    simp only [Op.eqItems, hc, Nat.mul_one, Sem.run_bind, p1, p4, Result.andThen_ok]
    exact ih
theorem info_u8x : ∃ i, Try.prog.info? 5 = some i := by
  cases h : Try.prog.info? 5 with
  | none => have := size_u8W1; rw [h] at this; cases this
  | some i => exact ⟨i, rfl⟩
theorem same_arr {t : TypeId} {n : Nat} (ht : Try.prog.underlying t = some (.array n 5)) (A : Array Value) (hA : ∀ i, i < n → ∃ z, A[i]? = some (.int .u8 z)) (d : Nat) (w : World) : (Op.equalIn (d + 2 + 1) t (.agg A) (.agg A)).run Try.prog w = .ok true w := by
  obtain ⟨i, hi⟩ := info_u8x
  have := run_equalIn_array (P := Try.prog) w (d + 2) A A ht hi
  rw [same_arr_items A (d + 1) w _ (fun i hi => hA i (List.mem_range.1 hi))] at this
  exact this
theorem isAgg23 (w : World) : (isAgg 23).run Try.prog w = .ok true w := by kernel_rfl
theorem isAgg24 (w : World) : (isAgg 24).run Try.prog w = .ok true w := by kernel_rfl
theorem sizeOf23 (w : World) : (sizeOf 23).run Try.prog w = .ok 32 w := by kernel_rfl
theorem sizeOf24 (w : World) : (sizeOf 24).run Try.prog w = .ok 64 w := by kernel_rfl
theorem part23 (w : World) (cs : Array Value) (off : Nat) : (part 23 cs off).run Try.prog w = .ok (.agg (cs.extract off (off + 32))) w := by
  simp [part, isAgg23, sizeOf23]
theorem part24 (w : World) (cs : Array Value) (off : Nat) : (part 24 cs off).run Try.prog w = .ok (.agg (cs.extract off (off + 64))) w := by
  simp [part, isAgg24, sizeOf24]
theorem cells_byte (R : Rt) (h1 : R.pr.length = 32) (h2 : R.hs.length = 32) (h3 : R.lk.length = 32) (h4 : R.sg.length = 64) : ∀ j, 3 ≤ j → j < 163 → ∃ z, R.cells.toArray[j]? = some (.int .u8 z) := by
  intro j hj hl
  have e : R.cells = [.int .u64 R.ep, .int .u64 R.kd, .int .u64 R.gn] ++ bv (R.pr ++ (R.hs ++ (R.lk ++ R.sg))) := by
    unfold Rt.cells; simp [bv]
  rw [List.getElem?_toArray, e, List.getElem?_append_right (by simpa using hj)]
  have hk : j - 3 < (R.pr ++ (R.hs ++ (R.lk ++ R.sg))).length := by simp [h1, h2, h3, h4]; omega
  exact ⟨_, bv_get _ hk⟩
theorem ext_byte (R : Rt) (h1 : R.pr.length = 32) (h2 : R.hs.length = 32) (h3 : R.lk.length = 32) (h4 : R.sg.length = 64) (off n : Nat) (ho : 3 ≤ off) (hn : off + n ≤ 163) : ∀ i, i < n → ∃ z, (R.cells.toArray.extract off (off + n))[i]? = some (.int .u8 z) := by
  intro i hi
  have hs : R.cells.toArray.size = 163 := by simp [Rt.cells, bv_length, h1, h2, h3, h4]
  obtain ⟨z, hz⟩ := cells_byte R h1 h2 h3 h4 (off + i) (by omega) (by omega)
  refine ⟨z, ?_⟩
  rw [Array.getElem?_extract, if_pos (by rw [hs]; omega)]
  exact hz
set_option maxHeartbeats 1000000 in
theorem eq_root (R : Rt) (h1 : R.pr.length = 32) (h2 : R.hs.length = 32) (h3 : R.lk.length = 32) (h4 : R.sg.length = 64) (w : World) : (Op.equalIn 10000 26 (.agg R.cells.toArray) (.agg R.cells.toArray)).run Try.prog w = .ok true w := by
  have hf := run_equalIn_struct (P := Try.prog) w 9999 26 R.cells.toArray R.cells.toArray (by kernel_rfl) (by kernel_rfl)
  refine hf.trans ?_
  have hp : Try.prog.plainKey 22 = true := by kernel_rfl
  have a0 := run_part_plain (P := Try.prog) w hp (xs := R.cells.toArray) (off := 0) (v := .int .u64 R.ep) rfl
  have a1 := run_part_plain (P := Try.prog) w hp (xs := R.cells.toArray) (off := 1) (v := .int .u64 R.kd) rfl
  have a2 := run_part_plain (P := Try.prog) w hp (xs := R.cells.toArray) (off := 2) (v := .int .u64 R.gn) rfl
  have i64 : ∀ z : Int, (Op.equalIn 9999 22 (.int .u64 z) (.int .u64 z)).run Try.prog w = .ok true w := fun z => by
    refine (run_equalIn_int (P := Try.prog) w 9998 22 .u64 .u64 z z Try.underlying22).trans ?_; simp
  have s3 := same_arr Try.underlying23 _ (ext_byte R h1 h2 h3 h4 3 32 (by omega) (by omega)) 9996 w
  have s35 := same_arr Try.underlying23 _ (ext_byte R h1 h2 h3 h4 35 32 (by omega) (by omega)) 9996 w
  have s67 := same_arr Try.underlying23 _ (ext_byte R h1 h2 h3 h4 67 32 (by omega) (by omega)) 9996 w
  have s99 := same_arr Try.underlying24 _ (ext_byte R h1 h2 h3 h4 99 64 (by omega) (by omega)) 9996 w
  have hfs : (Try.prog.fieldsOf 26).toList.map (fun f => (f.name == "_", f.type, f.offset)) = [(false, 22, 0), (false, 22, 1), (false, 22, 2), (false, 23, 3), (false, 23, 35), (false, 23, 67), (false, 24, 99)] := by kernel_rfl
  have key : ∀ (fs : List Field) (l : List (Bool × TypeId × Nat)), fs.map (fun f => (f.name == "_", f.type, f.offset)) = l → (∀ q ∈ l, q.1 = false ∧ ∃ v, (part q.2.1 R.cells.toArray q.2.2).run Try.prog w = .ok v w ∧ (Op.equalIn 9999 q.2.1 v v).run Try.prog w = .ok true w) → (Op.eqFields 9999 R.cells.toArray R.cells.toArray fs).run Try.prog w = .ok true w := by
    intro fs
    induction fs with
    | nil => intro l _ _; simp [Op.eqFields]
    | cons f fs ih =>
      intro l hl hq
      subst hl
      obtain ⟨hn, v, hv, he⟩ := hq (f.name == "_", f.type, f.offset) (by simp)
      have hn' : f.name ≠ "_" := by simpa using hn
      have := ih _ rfl (fun q hq' => hq q (by simp only [List.map_cons]; exact List.mem_cons_of_mem _ hq'))
      unfold Op.eqFields
      rw [if_pos hn']
      simp only [Sem.run_bind, hv, he, Result.andThen_ok, Bool.not_true, Bool.false_eq_true, if_false]
      exact this
  refine key _ _ hfs (fun q hq => ?_)
  simp only [List.mem_cons, List.not_mem_nil, or_false] at hq
  rcases hq with rfl | rfl | rfl | rfl | rfl | rfl | rfl
  · exact ⟨rfl, _, a0, i64 _⟩
  · exact ⟨rfl, _, a1, i64 _⟩
  · exact ⟨rfl, _, a2, i64 _⟩
  · exact ⟨rfl, _, part23 w _ 3, s3⟩
  · exact ⟨rfl, _, part23 w _ 35, s35⟩
  · exact ⟨rfl, _, part23 w _ 67, s67⟩
  · exact ⟨rfl, _, part24 w _ 99, s99⟩
/-- The root of noughts. -/
def zRt : Rt := ⟨0, 0, 0, List.replicate 32 0, List.replicate 32 0, List.replicate 32 0, List.replicate 64 0⟩
theorem z163_cells : z163 = zRt.cells := by kernel_rfl
/-- What a decoded root is. -/
def aRt (xs : List Int) : Rt := match isR xs with
  | true => dRt xs
  | false => zRt
theorem drA_cells (xs : List Int) : drA xs = (aRt xs).cells := by
  unfold drA aRt
  cases isR xs with
  | true => rfl
  | false => exact z163_cells
theorem aRt_lens {xs : List Int} (hb : Byt xs) : (aRt xs).pr.length = 32 ∧ (aRt xs).hs.length = 32 ∧ (aRt xs).lk.length = 32 ∧ (aRt xs).sg.length = 64 := by
  unfold aRt
  cases h : isR xs with
  | true => have := (r_back hb h).2; exact ⟨this.pr.1, this.hs.1, this.lk.1, this.sg.1⟩
  | false => exact ⟨by simp [zRt], by simp [zRt], by simp [zRt], by simp [zRt]⟩
end Go.Proofs.Ytfnmdeekenjlgaa
