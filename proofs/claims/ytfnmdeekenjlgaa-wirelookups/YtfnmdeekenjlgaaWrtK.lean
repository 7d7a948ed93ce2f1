/- Roots as bytes and back: mathematics. -/
import Derived.Test.YtfnmdeekenjlgaaWrtI
import Derived.Test.YtfnmdeekenjlgaaWirN
import Derived.Lib.Strings
import Derived.ChangeKeysEq
import Derived.Laws.StructEq
namespace Go.Proofs.Ytfnmdeekenjlgaa
open Go Go.RowKit
set_option linter.unusedSimpArgs false
set_option linter.unusedVariables false
set_option maxRecDepth 100000

theorem be_nm8 {xs : List Int} (hb : Byt xs) (h : xs.length = 8) : be 8 (nm xs) = xs := by
  have e := be_pv xs hb
  rw [h] at e
  rw [nm_plain xs hb (by omega), e]
theorem nm8_range {xs : List Int} (hb : Byt xs) (h : xs.length = 8) : 0 ≤ nm xs ∧ nm xs < 18446744073709551616 := by
  rw [nm_plain xs hb (by omega)]
  have h1 := pv_nonneg xs hb
  have h2 := pv_lt xs hb
  rw [h] at h2
  exact ⟨h1, by have : (256 : Int) ^ 8 = 18446744073709551616 := by decide
                omega⟩
theorem rootS_eq : strOfNums [114, 111, 111, 116] = rootS := by rfl
theorem signS_eq : strOfNums [115, 105, 103, 110, 101, 100] = signS := by rfl
/-- The bytes of a word. -/
theorem nums_of_str {xs : List Int} (hb : Byt xs) {ys : List Int} (hy : Byt ys) (h : (strOfNums xs).toList = (strOfNums ys).toList) : xs = ys := by
  have e1 : ∀ zs : List Int, (strOfNums zs).toList = zs.map fun n => UInt8.ofNat n.toNat := fun zs => by
    rw [ByteArray.toList_eq]; rfl
  rw [e1, e1] at h
  have key : ∀ (a b : List Int), Byt a → Byt b → (a.map fun n => UInt8.ofNat n.toNat) = (b.map fun n => UInt8.ofNat n.toNat) → a = b := by
    intro a
    induction a with
    | nil => intro b _ _ h; cases b with | nil => rfl | cons y b => simp at h
    | cons x a ih =>
      intro b ha hb h
      cases b with
      | nil => simp at h
      | cons y b =>
        simp only [List.map_cons, List.cons.injEq] at h
        have hx := ha x (by simp)
        have hy := hb y (by simp)
        have e : x = y := by
          have := congrArg UInt8.toNat h.1
          simp only [UInt8.toNat_ofNat'] at this
          omega
        rw [e, ih b (fun z hz => ha z (by simp [hz])) (fun z hz => hb z (by simp [hz])) h.2]
  exact key xs ys hb hy h
theorem sz_list {R : Rt} (h : R.Ok) : sz R.list R.list.length = 156 := by
  simp [Rt.list, sz, mi, be_length, h.pr.1, h.hs.1, h.lk.1]
theorem big_list {R : Rt} (h : R.Ok) : big R.list = false := by
  unfold big
  rw [sz_list h]; simp [Rt.list]
theorem len_list {R : Rt} (h : R.Ok) : (encB R.list).length = 156 := by
  rw [(encE_ok (big_list h)).2, encK_length, sz_list h]
theorem big_all {R : Rt} (h : R.Ok) : big R.all = false := by
  have : sz R.all R.all.length = 242 := by simp [Rt.all, sz, mi, len_list h, h.sg.1]
  unfold big
  rw [this]; simp [Rt.all]
theorem u_of {R : Rt} (h : R.Ok) : isU (encB R.list) = true ∧ uRt (encB R.list) = { R with sg := List.replicate 64 0 } := by
  obtain ⟨e1, e2⟩ := decode_enc R.list (big_list h)
  have hF : hasF (encB R.list) rootS 6 = true := by
    unfold hasF; rw [e1, e2, show mi R.list 0 = [114, 111, 111, 116] from rfl, rootS_eq, show R.list.length = 1 + 6 from rfl]; simp
  have n1 : ∀ z : Int, 0 ≤ z ∧ z < 18446744073709551616 → rnErr (be 8 z) = 0 ∧ rnVal (be 8 z) = z := fun z hz => by
    unfold rnErr rnVal
    rw [if_pos (be_length 8 z), if_pos (be_length 8 z), nm_be8 z hz.1 hz.2]; exact ⟨rfl, rfl⟩
  have m1 : mi R.list 1 = be 8 R.ep := rfl
  have m2 : mi R.list 2 = be 8 R.kd := rfl
  have m3 : mi R.list 3 = be 8 R.gn := rfl
  have m4 : mi R.list 4 = R.pr := rfl
  have m5 : mi R.list 5 = R.hs := rfl
  have m6 : mi R.list 6 = R.lk := rfl
  have h32 : not32 (R.list.drop 4) = false := not32_no (fun i hi => by
    have hi' : i < 3 := hi
    rcases (show i = 0 ∨ i = 1 ∨ i = 2 by omega) with rfl | rfl | rfl
    · exact h.pr.1
    · exact h.hs.1
    · exact h.lk.1)
  constructor
  · unfold isU
    rw [hF, e2, m1, m2, m3, (n1 _ h.ep).1, (n1 _ h.kd).1, (n1 _ h.gn).1, h32]; rfl
  · unfold uRt
    rw [e2, m1, m2, m3, m4, m5, m6, (n1 _ h.ep).2, (n1 _ h.kd).2, (n1 _ h.gn).2]
/-- A root that was encoded is decoded. -/
theorem r_of {R : Rt} (h : R.Ok) : isR (encB R.all) = true ∧ dRt (encB R.all) = R := by
  obtain ⟨e1, e2⟩ := decode_enc R.all (big_all h)
  obtain ⟨u1, u2⟩ := u_of h
  have hF : hasF (encB R.all) signS 2 = true := by
    unfold hasF
    rw [e1, e2, show mi R.all 0 = [115, 105, 103, 110, 101, 100] from rfl, signS_eq, show R.all.length = 1 + 2 from rfl]; simp
  have m1 : mi R.all 1 = encB R.list := rfl
  have m2 : mi R.all 2 = R.sg := rfl
  constructor
  · unfold isR
    rw [hF, e2, m1, m2, u1, h.sg.1]; rfl
  · unfold dRt
    rw [e2, m1, m2, u2]
theorem mi_get' {l : List (List Int)} {n : Nat} (h : l.length = n) : l = (List.range n).map (mi l) := by
  subst h
  apply List.ext_getElem?
  intro j
  by_cases hj : j < l.length
  · simp [hj, mi]
  · rw [List.getElem?_eq_none (by omega), List.getElem?_eq_none (by simp; omega)]
theorem rn8 {xs : List Int} (h : rnErr xs = 0) : xs.length = 8 ∧ rnVal xs = nm xs := by
  unfold rnErr at h
  unfold rnVal
  split at h
  · rename_i e; exact ⟨e, by rw [if_pos e]⟩
  · cases h
theorem byt_root : Byt [114, 111, 111, 116] := fun z hz => by simp at hz; omega
theorem byt_sign : Byt [115, 105, 103, 110, 101, 100] := fun z hz => by simp at hz; omega
theorem u_back {ys : List Int} (hb : Byt ys) (h : isU ys = true) : encB (uRt ys).list = ys ∧ (∀ sg : List Int, sg.length = 64 → Byt sg → Rt.Ok { uRt ys with sg := sg }) := by
  obtain ⟨l4, l5, l6⟩ := isU_lens h
  unfold isU at h
  simp only [Bool.and_eq_true, decide_eq_true_eq, Bool.not_eq_true'] at h
  obtain ⟨hF, r1, r2, r3, -⟩ := h
  unfold hasF at hF
  simp only [Bool.and_eq_true, decide_eq_true_eq] at hF
  obtain ⟨hE, hL, hw⟩ := hF
  have hbm := decL_mi hb
  obtain ⟨a1, b1⟩ := rn8 r1
  obtain ⟨a2, b2⟩ := rn8 r2
  obtain ⟨a3, b3⟩ := rn8 r3
  have hm0 : mi (decL ys) 0 = [114, 111, 111, 116] := nums_of_str (hbm 0).1 byt_root (by
    rw [eq_of_beq hw, rootS_eq])
  have hlist : (uRt ys).list = decL ys := by
    rw [mi_get' hL]
    show (uRt ys).list = [mi (decL ys) 0, mi (decL ys) 1, mi (decL ys) 2, mi (decL ys) 3, mi (decL ys) 4, mi (decL ys) 5, mi (decL ys) 6]
    unfold uRt Rt.list
    simp only
    rw [b1, b2, b3, be_nm8 (hbm 1).1 a1, be_nm8 (hbm 2).1 a2, be_nm8 (hbm 3).1 a3, hm0]
  rcases dec_cases hb with ⟨h0, _⟩ | ⟨_, _, hback⟩
  · rw [hE] at h0; omega
  · refine ⟨by rw [hlist]; exact hback, fun sg hsg hsb => ⟨?_, ?_, ?_, ⟨l4, (hbm 4).1⟩, ⟨l5, (hbm 5).1⟩, ⟨l6, (hbm 6).1⟩, ⟨hsg, hsb⟩⟩⟩
    · show 0 ≤ rnVal _ ∧ rnVal _ < _; rw [b1]; exact nm8_range (hbm 1).1 a1
    · show 0 ≤ rnVal _ ∧ rnVal _ < _; rw [b2]; exact nm8_range (hbm 2).1 a2
    · show 0 ≤ rnVal _ ∧ rnVal _ < _; rw [b3]; exact nm8_range (hbm 3).1 a3
/-- What is decoded encodes to what came in. -/
theorem r_back {xs : List Int} (hb : Byt xs) (h : isR xs = true) : encB (dRt xs).all = xs ∧ (dRt xs).Ok := by
  unfold isR at h
  simp only [Bool.and_eq_true, decide_eq_true_eq] at h
  obtain ⟨hF, h64, hU⟩ := h
  unfold hasF at hF
  simp only [Bool.and_eq_true, decide_eq_true_eq] at hF
  obtain ⟨hE, hL, hw⟩ := hF
  have hbm := decL_mi hb
  obtain ⟨hub, huk⟩ := u_back (hbm 1).1 hU
  have hm0 : mi (decL xs) 0 = [115, 105, 103, 110, 101, 100] := nums_of_str (hbm 0).1 byt_sign (by
    rw [eq_of_beq hw, signS_eq])
  have hall : (dRt xs).all = decL xs := by
    rw [mi_get' hL]
    show (dRt xs).all = [mi (decL xs) 0, mi (decL xs) 1, mi (decL xs) 2]
    have e1 : (dRt xs).list = (uRt (mi (decL xs) 1)).list := rfl
    unfold Rt.all
    rw [e1, hub, hm0]; rfl
  rcases dec_cases hb with ⟨h0, _⟩ | ⟨_, _, hback⟩
  · rw [hE] at h0; omega
  · exact ⟨by rw [hall]; exact hback, huk _ h64 (hbm 2).1⟩
end Go.Proofs.Ytfnmdeekenjlgaa
/- A root held against itself. -/
namespace Go.Proofs.Ytfnmdeekenjlgaa
open Go Go.RowKit
set_option linter.unusedSimpArgs false
set_option linter.unusedVariables false
set_option maxRecDepth 100000

theorem same_arr_items (A : Array Value) (d : Nat) (w : World) : ∀ is : List Nat, (∀ i ∈ is, ∃ z, A[i]? = some (.int .u8 z)) →
    (Op.eqItems (d + 1) 5 (Try.prog.cellsOf 5) A A is).run Try.prog w = .ok true w
  | [], _ => by simp [Op.eqItems]
  | i :: is, h => by
    obtain ⟨z, hz⟩ := h i (by simp)
    have hc : Try.prog.cellsOf 5 = 1 := by kernel_rfl
    have hp : Try.prog.plainKey 5 = true := by kernel_rfl
    have p1 := run_part_plain (P := Try.prog) w hp (xs := A) (off := i) (v := .int .u8 z) hz
    have p3 := run_equalIn_int (P := Try.prog) w d 5 .u8 .u8 z z Try.underlying5
    have ih := same_arr_items A d w is (fun j hj => h j (by simp [hj]))
    rw [hc] at ih
    have p4 : (Op.equalIn (d + 1) 5 (.int .u8 z) (.int .u8 z)).run Try.prog w = .ok true w := by
      refine p3.trans ?_; simp
    simp only [Op.eqItems, hc, Nat.mul_one, Sem.run_bind, p1, p4, Result.andThen_ok]
    exact ih
theorem info_u8x : ∃ i, Try.prog.info? 5 = some i := by
  cases h : Try.prog.info? 5 with
  | none => have := size_u8W1; rw [h] at this; cases this
  | some i => exact ⟨i, rfl⟩
theorem same_arr {t : TypeId} {n : Nat} (ht : Try.prog.underlying t = some (.array n 5)) (A : Array Value) (hA : ∀ i, i < n → ∃ z, A[i]? = some (.int .u8 z)) (d : Nat) (w : World) : (Op.equalIn (d + 2 + 1) t (.agg A) (.agg A)).run Try.prog w = .ok true w := by
  obtain ⟨i, hi⟩ := info_u8x
  have := run_equalIn_array (P := Try.prog) w (d + 2) A A ht hi
  rw [same_arr_items A (d + 1) w _ (fun i hi => hA i (List.mem_range.1 hi))] at this
  exact this
theorem isAgg23 (w : World) : (isAgg 23).run Try.prog w = .ok true w := by kernel_rfl
theorem isAgg24 (w : World) : (isAgg 24).run Try.prog w = .ok true w := by kernel_rfl
theorem sizeOf23 (w : World) : (sizeOf 23).run Try.prog w = .ok 32 w := by kernel_rfl
theorem sizeOf24 (w : World) : (sizeOf 24).run Try.prog w = .ok 64 w := by kernel_rfl
theorem part23 (w : World) (cs : Array Value) (off : Nat) : (part 23 cs off).run Try.prog w = .ok (.agg (cs.extract off (off + 32))) w := by
  simp [part, isAgg23, sizeOf23]
theorem part24 (w : World) (cs : Array Value) (off : Nat) : (part 24 cs off).run Try.prog w = .ok (.agg (cs.extract off (off + 64))) w := by
  simp [part, isAgg24, sizeOf24]
theorem cells_byte (R : Rt) (h1 : R.pr.length = 32) (h2 : R.hs.length = 32) (h3 : R.lk.length = 32) (h4 : R.sg.length = 64) : ∀ j, 3 ≤ j → j < 163 → ∃ z, R.cells.toArray[j]? = some (.int .u8 z) := by
  intro j hj hl
  have e : R.cells = [.int .u64 R.ep, .int .u64 R.kd, .int .u64 R.gn] ++ bv (R.pr ++ (R.hs ++ (R.lk ++ R.sg))) := by
    unfold Rt.cells; simp [bv]
  rw [List.getElem?_toArray, e, List.getElem?_append_right (by simpa using hj)]
  have hk : j - 3 < (R.pr ++ (R.hs ++ (R.lk ++ R.sg))).length := by simp [h1, h2, h3, h4]; omega
  exact ⟨_, bv_get _ hk⟩
theorem ext_byte (R : Rt) (h1 : R.pr.length = 32) (h2 : R.hs.length = 32) (h3 : R.lk.length = 32) (h4 : R.sg.length = 64) (off n : Nat) (ho : 3 ≤ off) (hn : off + n ≤ 163) : ∀ i, i < n → ∃ z, (R.cells.toArray.extract off (off + n))[i]? = some (.int .u8 z) := by
  intro i hi
  have hs : R.cells.toArray.size = 163 := by simp [Rt.cells, bv_length, h1, h2, h3, h4]
  obtain ⟨z, hz⟩ := cells_byte R h1 h2 h3 h4 (off + i) (by omega) (by omega)
  refine ⟨z, ?_⟩
  rw [Array.getElem?_extract, if_pos (by rw [hs]; omega)]
  exact hz
set_option maxHeartbeats 1000000 in
theorem eq_root (R : Rt) (h1 : R.pr.length = 32) (h2 : R.hs.length = 32) (h3 : R.lk.length = 32) (h4 : R.sg.length = 64) (w : World) : (Op.equalIn 10000 26 (.agg R.cells.toArray) (.agg R.cells.toArray)).run Try.prog w = .ok true w := by
  have hf := run_equalIn_struct (P := Try.prog) w 9999 26 R.cells.toArray R.cells.toArray (by kernel_rfl) (by kernel_rfl)
  refine hf.trans ?_
  have hp : Try.prog.plainKey 22 = true := by kernel_rfl
  have a0 := run_part_plain (P := Try.prog) w hp (xs := R.cells.toArray) (off := 0) (v := .int .u64 R.ep) rfl
  have a1 := run_part_plain (P := Try.prog) w hp (xs := R.cells.toArray) (off := 1) (v := .int .u64 R.kd) rfl
  have a2 := run_part_plain (P := Try.prog) w hp (xs := R.cells.toArray) (off := 2) (v := .int .u64 R.gn) rfl
  have i64 : ∀ z : Int, (Op.equalIn 9999 22 (.int .u64 z) (.int .u64 z)).run Try.prog w = .ok true w := fun z => by
    refine (run_equalIn_int (P := Try.prog) w 9998 22 .u64 .u64 z z Try.underlying22).trans ?_; simp
  have s3 := same_arr Try.underlying23 _ (ext_byte R h1 h2 h3 h4 3 32 (by omega) (by omega)) 9996 w
  have s35 := same_arr Try.underlying23 _ (ext_byte R h1 h2 h3 h4 35 32 (by omega) (by omega)) 9996 w
  have s67 := same_arr Try.underlying23 _ (ext_byte R h1 h2 h3 h4 67 32 (by omega) (by omega)) 9996 w
  have s99 := same_arr Try.underlying24 _ (ext_byte R h1 h2 h3 h4 99 64 (by omega) (by omega)) 9996 w
  have hfs : (Try.prog.fieldsOf 26).toList.map (fun f => (f.name == "_", f.type, f.offset)) = [(false, 22, 0), (false, 22, 1), (false, 22, 2), (false, 23, 3), (false, 23, 35), (false, 23, 67), (false, 24, 99)] := by kernel_rfl
  have key : ∀ (fs : List Field) (l : List (Bool × TypeId × Nat)), fs.map (fun f => (f.name == "_", f.type, f.offset)) = l → (∀ q ∈ l, q.1 = false ∧ ∃ v, (part q.2.1 R.cells.toArray q.2.2).run Try.prog w = .ok v w ∧ (Op.equalIn 9999 q.2.1 v v).run Try.prog w = .ok true w) → (Op.eqFields 9999 R.cells.toArray R.cells.toArray fs).run Try.prog w = .ok true w := by
    intro fs
    induction fs with
    | nil => intro l _ _; simp [Op.eqFields]
    | cons f fs ih =>
      intro l hl hq
      subst hl
      obtain ⟨hn, v, hv, he⟩ := hq (f.name == "_", f.type, f.offset) (by simp)
      have hn' : f.name ≠ "_" := by simpa using hn
      have := ih _ rfl (fun q hq' => hq q (by simp only [List.map_cons]; exact List.mem_cons_of_mem _ hq'))
      unfold Op.eqFields
      rw [if_pos hn']
      simp only [Sem.run_bind, hv, he, Result.andThen_ok, Bool.not_true, Bool.false_eq_true, if_false]
      exact this
  refine key _ _ hfs (fun q hq => ?_)
  simp only [List.mem_cons, List.not_mem_nil, or_false] at hq
  rcases hq with rfl | rfl | rfl | rfl | rfl | rfl | rfl
  · exact ⟨rfl, _, a0, i64 _⟩
  · exact ⟨rfl, _, a1, i64 _⟩
  · exact ⟨rfl, _, a2, i64 _⟩
  · exact ⟨rfl, _, part23 w _ 3, s3⟩
  · exact ⟨rfl, _, part23 w _ 35, s35⟩
  · exact ⟨rfl, _, part23 w _ 67, s67⟩
  · exact ⟨rfl, _, part24 w _ 99, s99⟩
/-- The root of noughts. -/
def zRt : Rt := ⟨0, 0, 0, List.replicate 32 0, List.replicate 32 0, List.replicate 32 0, List.replicate 64 0⟩
theorem z163_cells : z163 = zRt.cells := by kernel_rfl
/-- What a decoded root is. -/
def aRt (xs : List Int) : Rt := match isR xs with
  | true => dRt xs
  | false => zRt
theorem drA_cells (xs : List Int) : drA xs = (aRt xs).cells := by
  unfold drA aRt
  cases isR xs with
  | true => rfl
  | false => exact z163_cells
theorem aRt_lens {xs : List Int} (hb : Byt xs) : (aRt xs).pr.length = 32 ∧ (aRt xs).hs.length = 32 ∧ (aRt xs).lk.length = 32 ∧ (aRt xs).sg.length = 64 := by
  unfold aRt
  cases h : isR xs with
  | true => have := (r_back hb h).2; exact ⟨this.pr.1, this.hs.1, this.lk.1, this.sg.1⟩
  | false => exact ⟨by simp [zRt], by simp [zRt], by simp [zRt], by simp [zRt]⟩
end Go.Proofs.Ytfnmdeekenjlgaa
