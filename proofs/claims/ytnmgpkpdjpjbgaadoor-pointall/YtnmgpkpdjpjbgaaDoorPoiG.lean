/- Package point: squareOfX, read, write as contracts. -/
import Derived.Test.YtnmgpkpdjpjbgaaDoorFieT
import Derived.Test.YtnmgpkpdjpjbgaaDoorPoiF
namespace Go.Proofs.YtnmgpkpdjpjbgaaDoor
open Go Go.RowKit
set_option linter.unusedSimpArgs false
set_option linter.unusedVariables false
def gSqF : List Value → Option (List Prop × Value)
  | [A] => some ([IsB A], .tuple #[bv (sqv (bnum A)), .int .i64 (sqe (bnum A))])
  | _ => none
theorem flat_tup (n : Nat) (e : Int) : flat (.tuple #[bv n, .int .i64 e]) = true := by
  show ([bv n, .int .i64 e].all flat2) = true
  have : flat2 (bv n) = true := flat_bv n
  rw [List.all_cons, this]; rfl
theorem flat_tupP (p : P4) (e : Int) : flat (.tuple #[pv p, .int .i64 e]) = true := by
  show ([pv p, .int .i64 e].all flat2) = true
  have : flat2 (pv p) = true := flat_pv p
  rw [List.all_cons, this]; rfl
theorem gSqF_ok {X : Cx} (hX : X.Ok Tryd.prog) : (X.pure 46 gSqF).Ok Tryd.prog := by
  refine gBody_ok hX Tryd.func46 (by kernel_rfl) (by kernel_rfl) ?_
  intro args ps v ha hg hp
  unfold gSqF at hg
  split at hg
  · rename_i A
    simp only [Option.some.injEq, Prod.mk.injEq] at hg
    obtain ⟨rfl, rfl⟩ := hg
    have hA := hp _ (List.mem_singleton.2 rfl)
    refine ⟨.inl (flat_tup _ _), fun w => ?_⟩
    have h := Sqrt_any (bnum A) (bnum_lt hA) w
    rw [← (show A = bv (bnum A) from hA)] at h
    exact h
  · simp at hg
def F6 : Cx := F5.pure 46 gSqF
theorem F6_ok : F6.Ok Tryd.prog := gSqF_ok F5_ok
/-- squareOfX -/
def sxN (y : Nat) : Nat := fml (fsb (fml y y) 1) (fiv (fad 1 (fml DN' (fml y y))))
def sqV (y : Nat) : Value := ML (bv y) (bv y)
def dvV (y : Nat) : Value := AD (bv 1) (ML (bv DN') (sqV y))
theorem sx_run (y : Nat) : sfunG Tryd.prog F6 M0 60 Tryd.f47 (bodyOf Tryd.f47) [bv y] = some ([IB (bv y) (bv y), IB (bv DN') (sqV y), IB (bv 1) (ML (bv DN') (sqV y)), IB (sqV y) (bv 1), IsB (dvV y), IB (SB (sqV y) (bv 1)) (IV (dvV y))], ML (SB (sqV y) (bv 1)) (IV (dvV y))) := by kernel_rfl
theorem sx_val {y : Nat} (h : y < RN) : ML (SB (sqV y) (bv 1)) (IV (dvV y)) = bv (sxN y) := by
  have h1 : sqV y = bv (fml y y) := bnum_ML _ _ h h
  have h2 : dvV y = bv (fad 1 (fml DN' (fml y y))) := by unfold dvV; rw [h1, bnum_ML _ _ (by decide) (fmlR _ _), bnum_AD _ _ (by decide) (fmlR _ _)]
  rw [h1, h2, bnum_SB _ _ (fmlR _ _) (by decide), bnum_IV _ (fadR _ _), bnum_ML _ _ (fsbR _ _) (fivR _)]
  rfl
def gSqx : List Value → Option (List Prop × Value)
  | [A] => some ([IsB A], bv (sxN (bnum A)))
  | _ => none
theorem gSqx_ok {X : Cx} (hX : X.Ok Tryd.prog) (hc : coversG M0 X.gl = true) : (X.var M0 47 gSqx).Ok Tryd.prog := by
  refine gVar_ok hX M0_flat hc Tryd.func47 (by kernel_rfl) (by kernel_rfl) ?_
  intro args ps v ha hg hp
  unfold gSqx at hg
  split at hg
  · rename_i A
    simp only [Option.some.injEq, Prod.mk.injEq] at hg
    obtain ⟨rfl, rfl⟩ := hg
    have hA := hp _ (List.mem_singleton.2 rfl)
    refine ⟨.inl (flat_bv _), fun w hw => ?_⟩
    have run := sx_run (bnum A)
    rw [sx_val (bnum_lt hA)] at run
    have h := sfunG_calls F6_ok mixed M0_flat (by kernel_rfl) Tryd.func47 (by kernel_rfl) run (by
      intro p hp
      simp only [List.mem_cons, List.not_mem_nil, or_false] at hp
      rcases hp with rfl | rfl | rfl | rfl | rfl | rfl <;> first | exact ib | exact isB_bv _) (by simp [flat_bv]) (.inl (flat_bv _)) w hw
    rw [← (show A = bv (bnum A) from hA)] at h
    exact h
  · simp at hg
def F7 : Cx := F6.var M0 47 gSqx
theorem F7_ok : F7.Ok Tryd.prog := gSqx_ok F6_ok (by kernel_rfl)
/-- The highest bit of 32 bytes. -/
def TT : Nat := 57896044618658097711785492504343953926634992332820282019728792003956564819968
theorem tt_pow : TT = 256 ^ 31 * 128 := by decide
def lowV (n : Nat) : Value := .agg ((bl n).take 31 ++ [Value.int .u8 (bits .andNot .u8 (by8 n 31) 128)]).toArray
def topV (n : Nat) : Value := .agg ((bl n).take 31 ++ [Value.int .u8 (bits .or .u8 (by8 n 31) 128)]).toArray
theorem byte_ops : ∀ y : Fin 256, bits .andNot .u8 ((y.val : Nat) : Int) 128 = ((y.val % 128 : Nat) : Int) ∧ (!(bits .and .u8 ((y.val : Nat) : Int) 128 == 0)) = decide (128 ≤ y.val) ∧ bits .or .u8 ((y.val : Nat) : Int) 128 = ((y.val % 128 + 128 : Nat) : Int) ∧ (bits .and .u8 ((y.val : Nat) : Int) 1 == 1) = decide (y.val % 2 = 1) := by decide +kernel
theorem bl_split (n : Nat) : bl n = (bl n).take 31 ++ [.int .u8 (by8 n 31)] := by
  unfold bl
  rw [show (32 : Nat) = 31 + 1 from rfl, List.range_succ, List.map_append, List.take_left' (by simp)]
  rfl
theorem take31_congr {m n : Nat} (h : m % 256 ^ 31 = n % 256 ^ 31) : (bl m).take 31 = (bl n).take 31 := by
  unfold bl
  rw [← List.map_take, ← List.map_take, List.take_range]
  refine List.map_congr_left fun i hi => ?_
  have hi : i < 31 := by simpa using hi
  rw [← by8_mod m 31 i hi, ← by8_mod n 31 i hi, h]
theorem lowV_eq (n : Nat) (h : n < RN) : lowV n = bv (n % TT) := by
  unfold lowV bv br
  rw [bl_split (n % TT)]
  have hb : n / 256 ^ 31 % 256 < 256 := Nat.mod_lt _ (by decide)
  have e1 : by8 n 31 = ((n / 256 ^ 31 % 256 : Nat) : Int) := rfl
  have o := (byte_ops ⟨n / 256 ^ 31 % 256, hb⟩).1
  simp only at o
  have e2 : by8 (n % TT) 31 = ((n / 256 ^ 31 % 256 % 128 : Nat) : Int) := by
    unfold by8
    rw [tt_pow, Nat.mod_mul_right_div_self]
    congr 1
    omega
  rw [e1, o, e2, take31_congr (m := n % TT) (n := n) (by rw [tt_pow, Nat.mod_mul_right_mod])]
theorem topV_eq (n : Nat) (h : n < TT) : topV n = bv (n + TT) := by
  unfold topV bv br
  rw [bl_split (n + TT)]
  have hb : n / 256 ^ 31 % 256 < 256 := Nat.mod_lt _ (by decide)
  have e1 : by8 n 31 = ((n / 256 ^ 31 % 256 : Nat) : Int) := rfl
  have o := (byte_ops ⟨n / 256 ^ 31 % 256, hb⟩).2.2.1
  simp only at o
  have hl : n / 256 ^ 31 < 128 := by rw [Nat.div_lt_iff_lt_mul (by decide), Nat.mul_comm, ← tt_pow]; exact h
  have e2 : by8 (n + TT) 31 = ((n / 256 ^ 31 % 256 % 128 + 128 : Nat) : Int) := by
    unfold by8
    rw [tt_pow, Nat.add_mul_div_left _ _ (by decide)]
    congr 1
    omega
  rw [e1, o, e2, take31_congr (m := n + TT) (n := n) (by rw [tt_pow, Nat.add_mul_mod_self_left])]
/-- write -/
def ivV (p : P4) : Value := IV (bv p.z)
def wxV (p : P4) : Value := ML (bv p.x) (ivV p)
def wyV (p : P4) : Value := ML (bv p.y) (ivV p)
def wx (p : P4) : Nat := fml p.x (fiv p.z)
def wy (p : P4) : Nat := fml p.y (fiv p.z)
def wxS (p : P4) : Nat := fml (bnum (bv p.x)) (bnum (ivV p))
def wyS (p : P4) : Nat := fml (bnum (bv p.y)) (bnum (ivV p))
theorem wr_run0 (p : P4) : sfunG Tryd.prog (F7.tell [(20, false)]) M0 60 Tryd.f31 (bodyOf Tryd.f31) [pv p] = some ([IsB (bv p.z), IB (bv p.x) (ivV p), IB (bv p.y) (ivV p), (bits .and .u8 (by8 (wxS p) 0) 1 == 1) = false], bv (wyS p)) := by kernel_rfl
theorem wr_run1 (p : P4) : sfunG Tryd.prog (F7.tell [(20, true)]) M0 60 Tryd.f31 (bodyOf Tryd.f31) [pv p] = some ([IsB (bv p.z), IB (bv p.x) (ivV p), IB (bv p.y) (ivV p), (bits .and .u8 (by8 (wxS p) 0) 1 == 1) = true], topV (wyS p)) := by kernel_rfl
/-- The bytes of a point. -/
def wrN (p : P4) : Nat := wy p + wx p % 2 * TT
theorem pp_lt_TT : pp < TT := by decide
theorem wrN_lt (p : P4) : wrN p < RN := by
  have h1 : wy p < TT := Nat.lt_trans (fml_lt _ _) pp_lt_TT
  have h2 : wx p % 2 < 2 := Nat.mod_lt _ (by decide)
  have h3 : RN = TT + TT := by decide
  unfold wrN
  rcases (by omega : wx p % 2 = 0 ∨ wx p % 2 = 1) with h | h <;> rw [h] <;> omega
theorem write_any {p : P4} (lp : p.ok) (w : World) (hw : Glo M0 w) : Calls Tryd.prog 31 #[pv p] w fun e w' => e = .returned (bv (wrN p)) ∧ Below w.heap.size w w' := by
  have e1 : ivV p = bv (fiv p.z) := bnum_IV _ lp.z
  have e2 : wxS p = wx p := by unfold wxS wx; rw [e1, bnum_bv' lp.x, bnum_bv' (fivR _)]
  have e3 : wyS p = wy p := by unfold wyS wy; rw [e1, bnum_bv' lp.y, bnum_bv' (fivR _)]
  have hb : wx p / 256 ^ 0 % 256 < 256 := Nat.mod_lt _ (by decide)
  have o := (byte_ops ⟨wx p / 256 ^ 0 % 256, hb⟩).2.2.2
  simp only at o
  have o : (bits .and .u8 (by8 (wx p) 0) 1 == 1) = decide (wx p % 2 = 1) := by
    show (bits .and .u8 ((wx p / 256 ^ 0 % 256 : Nat) : Int) 1 == 1) = _
    rw [o, decide_eq_decide, Nat.pow_zero, Nat.div_one, Nat.mod_mod_of_dvd _ (by decide)]
  have hwy : wy p < TT := Nat.lt_trans (fml_lt _ _) pp_lt_TT
  have r0 := wr_run0 p
  have r1 := wr_run1 p
  rw [e2, e3, e1] at r0 r1
  rw [o] at r0 r1
  by_cases h : wx p % 2 = 1
  · have k := sfunG_calls (Cx.tell_ok F7_ok _) mixed M0_flat (by kernel_rfl) Tryd.func31 (by kernel_rfl) r1 (by
      intro p hp
      simp only [List.mem_cons, List.not_mem_nil, or_false] at hp
      rcases hp with rfl | rfl | rfl | rfl
      · exact isB_bv _
      · exact ib
      · exact ib
      · exact decide_eq_true h) (by simp [flat_pv]) (.inl (by rw [topV_eq _ hwy]; exact flat_bv _)) w hw
    rw [topV_eq _ hwy] at k
    unfold wrN
    rw [h, Nat.one_mul]
    exact k
  · have k := sfunG_calls (Cx.tell_ok F7_ok _) mixed M0_flat (by kernel_rfl) Tryd.func31 (by kernel_rfl) r0 (by
      intro p hp
      simp only [List.mem_cons, List.not_mem_nil, or_false] at hp
      rcases hp with rfl | rfl | rfl | rfl
      · exact isB_bv _
      · exact ib
      · exact ib
      · exact decide_eq_false h) (by simp [flat_pv]) (.inl (flat_bv _)) w hw
    have h0 : wx p % 2 = 0 := by omega
    unfold wrN
    rw [h0, Nat.zero_mul, Nat.add_zero]
    exact k
def gWr : List Value → Option (List Prop × Value)
  | [A] => some ([IsP A], bv (wrN (p4 A)))
  | _ => none
theorem gWr_ok {X : Cx} (hX : X.Ok Tryd.prog) (hc : coversG M0 X.gl = true) : (X.var M0 31 gWr).Ok Tryd.prog := by
  refine gVar_ok hX M0_flat hc Tryd.func31 (by kernel_rfl) (by kernel_rfl) ?_
  intro args ps v ha hg hp
  unfold gWr at hg
  split at hg
  · rename_i A
    simp only [Option.some.injEq, Prod.mk.injEq] at hg
    obtain ⟨rfl, rfl⟩ := hg
    obtain ⟨hA, lA⟩ := hp _ (List.mem_singleton.2 rfl)
    refine ⟨.inl (flat_bv _), fun w hw => ?_⟩
    have h := write_any lA w hw
    rw [← hA] at h
    exact h
  · simp at hg
end Go.Proofs.YtnmgpkpdjpjbgaaDoor
