/- Frames: sizes, halves, hashes of lists, reads. -/
import Derived.Test.YtphjjjijdbljaaaDoorDskK
import Derived.Test.YtphjjjijdbljaaaDoorWirL
import Derived.Test.YtphjjjijdbljaaaDoorShaO
import Derived.Test.YtphjjjijdbljaaaDoorRgnT
namespace Go.Proofs.YtphjjjijdbljaaaDoor
open Go Go.RowKit
set_option linter.unusedSimpArgs false
set_option linter.unusedVariables false
set_option maxRecDepth 100000

/-- How many sectors a frame of n bytes has. -/
def fl (n : Nat) : Nat := 1 + (n + 63) / 64
theorem fl_int (n : Nat) : 1 + ((n : Int) + 64 - 1) / 64 = (fl n : Int) := by
  unfold fl; omega
set_option maxHeartbeats 1000000 in
theorem frameLength_any (n : Nat) (w : World) (hn : n ≤ 140737488355328) :
    Calls Tryd.prog 43 #[.int .i64 (n : Int)] w fun e w' => e = .returned (.int .i64 (fl n : Int)) ∧ w' = w := by
  have hf := fl_int n
  go_enter Tryd.func43, Tryd.ntmps43
  go_wp2
  go_ret
  refine ⟨?_, rfl⟩
  rw [← hf]; rfl
set_option maxHeartbeats 1000000 in
theorem fits_any (a n t : Nat) (w : World) (hn : n ≤ 140737488355328) (ha : a ≤ 140737488355328) :
    Calls Tryd.prog 53 #[.int .i64 (a : Int), .int .i64 (n : Int), .int .i64 (t : Int)] w fun e w' => e = .returned (.bool (decide (a + fl n < t))) ∧ w' = w := by
  have hfl : fl n ≤ 140737488355330 := by unfold fl; omega
  go_enter Tryd.func53, Tryd.ntmps53
  go_wp2_with fail
  refine (frameLength_any n w hn).mono ?_
  rintro e w1 ⟨rfl, rfl⟩
  go_wp2
  go_ret
  refine ⟨?_, rfl⟩
  have e : decide ((a : Int) + (fl n : Int) < (t : Int)) = decide (a + fl n < t) := by
    simp only [decide_eq_decide]; omega
  rw [← e]; rfl
/-- What SHA-256 answers of a list of bytes, as 32 integers. -/
def hm (xs : List Int) : Nat → BitVec 8 := fun i => BitVec.ofInt 8 (gi xs i)
def row32 (S : Sh.St) : List Int := (List.range 32).map fun i => Sh.ub (Sh.sbyte S i)
def hs (xs : List Int) : List Int := row32 (Sh.sumSt Sh.K256 Sh.H256 (hm xs) xs.length)
theorem row32_length (S : Sh.St) : (row32 S).length = 32 := by simp [row32]
theorem hs_length (xs : List Int) : (hs xs).length = 32 := row32_length _
theorem srow_bv (S : Sh.St) : Sh.srow S = (bv (row32 S)).toArray := by
  unfold Sh.srow bv row32
  rw [List.map_map]; rfl
theorem row32_byt (S : Sh.St) : Byt (row32 S) := by
  intro z hz
  obtain ⟨i, _, rfl⟩ := List.mem_map.1 hz
  have := (Sh.sbyte S i).isLt
  unfold Sh.ub; omega
theorem hs_byt (xs : List Int) : Byt (hs xs) := row32_byt _
/-- The block of a slice that has room for something. -/
def slB : Value → Option Nat
  | .slice (some a) _ c => if c = 0 then none else some a.block
  | _ => none
theorem slB_own {v : Value} {b : Nat} (h : slB v = some b) : v.ownBlock = some b := by
  unfold slB at h
  split at h
  · split at h
    · cases h
    · exact h
  · cases h
/-- A slice whose block is there, also where it holds nothing (if it has room). -/
structure Sq (w : World) (v : Value) (xs : List Int) : Prop where
  sl : Sl w v xs
  some' : ∀ A l c, v = .slice (some A) l c → c ≠ 0 → A.spot = none ∧ A.block < w.heap.size
  none' : ∀ l c, v = .slice none l c → c = 0
theorem Sq.below {w w' : World} {v : Value} {xs : List Int} (h : Sq w v xs) (hb : Below w.heap.size w w') : Sq w' v xs :=
  ⟨h.sl.below hb (Nat.le_refl _), fun A l c e h0 => ⟨(h.some' A l c e h0).1, Nat.lt_of_lt_of_le (h.some' A l c e h0).2 hb.size⟩, h.none'⟩
theorem Ow.sq {B0 : Nat} {w : World} {v : Value} {xs : List Int} (h : Ow B0 w v xs) : Sq w v xs := by
  refine ⟨h.sl, fun A l c e _ => ?_, fun l c e => ?_⟩
  · rcases h.2 with ⟨rfl, h0⟩ | ⟨g, cap, cur, hv, hb, hg, hc, _, hs, ht⟩
    · cases e
    · rw [hv] at e; cases e; exact ⟨rfl, (Array.getElem?_eq_some_iff.1 hg).1⟩
  · rcases h.2 with ⟨rfl, h0⟩ | ⟨g, cap, cur, hv, hb, hg, hc, _, hs, ht⟩
    · cases e; rfl
    · rw [hv] at e; cases e
theorem byte_of (z : Int) (h0 : 0 ≤ z) (h1 : z ≤ 255) : Value.int .u8 z = Sh.B (BitVec.ofInt 8 z) := by
  show Value.int .u8 z = Value.int .u8 (Sh.ub (BitVec.ofInt 8 z))
  congr 1
  rw [Sh.ub, BitVec.toNat_ofInt]
  omega
theorem Sq.bytes {w : World} {v : Value} {xs : List Int} (h : Sq w v xs) (hb : Byt xs) : Sh.Bytes w v xs.length (hm xs) w.heap.size := by
  obtain ⟨ad, cap, rfl, hc, hcell⟩ := h.sl
  cases ad with
  | none =>
    obtain rfl := h.none' _ _ rfl
    have : xs.length = 0 := by omega
    rw [this]
    exact .inl ⟨⟨none, rfl⟩, rfl⟩
  | some A =>
    by_cases hc0 : cap = 0
    · subst hc0
      have : xs.length = 0 := by omega
      rw [this]
      exact .inl ⟨⟨some A, rfl⟩, rfl⟩
    obtain ⟨h1, h2⟩ := h.some' A _ _ rfl hc0
    obtain ⟨b, o, sp⟩ := A
    simp only at h1 h2; subst h1
    refine .inr ⟨b, o, cap, rfl, hc, h2, Nat.ne_of_lt h2, fun i hi => ?_⟩
    rcases hcell with ⟨rfl, _⟩ | ⟨b', o', he, _, hm'⟩
    · simp at hi
    · cases he
      rw [hm' i hi]
      have := hb.get hi
      exact congrArg some (byte_of _ this.1 this.2)
/-- The program's tables, in memory. -/
abbrev Tb (w : World) : Prop := Sh.Tabs w Sh.K256 Sh.H256
theorem Tb.low {w w' : World} {B : Nat} (h : Tb w) (hb : Below B w w') (hB : 1 < B ∧ 2 < B) : Tb w' := Sh.Tabs.below h hb hB.1 hB.2
theorem Tb.below {w w' : World} (h : Tb w) (hb : Below w.heap.size w w') : Tb w' := Sh.Tabs.below h hb h.lt.1 h.lt.2
theorem sum256_sl (xs h : List Int) (v : Value) (hh : hs xs = h) (hl : xs.length ≤ 140737488355328) (w : World) (hT : Tb w) (hb : Byt xs) (hv : Sq w v xs) :
    Calls Tryd.prog 72 #[v] w fun e w' => e = .returned (.agg (bv h).toArray) ∧ Below w.heap.size w w' := by
  subst hh
  refine (Sh.sum256_any Sh.K256 Sh.H256 (hm xs) xs.length v (by omega) w hT (hv.bytes hb)).mono fun e w' ⟨h1, h2⟩ => ⟨?_, h2⟩
  rw [h1, srow_bv]; rfl
/-- A half of the disk. -/
def hfF (n : Nat) (t : Nat) : Nat := t % 2 * (n / 2)
def hfT (n : Nat) (t : Nat) : Nat := t % 2 * (n / 2) + n / 2
end Go.Proofs.YtphjjjijdbljaaaDoor
/- read, half, headOf. -/
namespace Go.Proofs.YtphjjjijdbljaaaDoor
open Go Go.RowKit
set_option linter.unusedSimpArgs false
set_option linter.unusedVariables false
set_option maxRecDepth 100000

theorem zero_sct (w : World) : (zeroValue 67).run Tryd.prog w = .ok (.agg (bv z64).toArray) w := by kernel_rfl
theorem size_sct : (Tryd.prog.info? 67).map (·.size) = some 64 := by kernel_rfl
theorem und_sct : ∃ d, Tryd.prog.underlying 67 = some d ∧ d.isRow = true := ⟨_, Tryd.underlying67, rfl⟩
theorem rdV_len {F : Nat → Prop} {w : World} {g : Nat} {s : Dk} (h : PD F w g s) (i : Int) : (rdV s i).length = 64 := by
  obtain ⟨gs, wv, fd, fz, h⟩ := h
  unfold rdV
  cases hb : hasB s.n i with
  | false => rfl
  | true =>
    cases hd : s.dn with
    | true => rfl
    | false =>
      unfold hasB at hb
      simp only [Bool.and_eq_true, decide_eq_true_eq] at hb
      exact look_len h.sb.len h.wb.ok _ (by omega)
/-- A block of 64 cells, made and filled. -/
theorem sec_new {w W : World} {x y : List Int} {t : TypeId} (hx : x.length = 64) (hy : y.length = 64) (h : W = (w.alloc (.cells (bv y).toArray t)).setCells w.heap.size 0 (bv x)) : Below w.heap.size w W ∧ W.rangeAt w.heap.size 0 (bv x) ∧ w.heap.size < W.heap.size := by
  have ht : (w.alloc (.cells (bv y).toArray t)).there w.heap.size 0 64 := there_of_row' (cs := (bv y).toArray) (t := t) (by rw [World.alloc]; simp only [Array.getElem?_push, if_true]) 0 64 (by rw [List.size_toArray, bv_length, hy]; omega)
  subst h
  refine ⟨below_setCells _ (Nat.le_refl _) _ _ _ ((Below.refl _ _).alloc (Nat.le_refl _) _), World.rangeAt_setCells_same _ _ _ _ (by rw [bv_length, hx]; exact ht), ?_⟩
  rw [size_setCells]; simp
theorem sec_there (w : World) {x y : List Int} (t : TypeId) (hx : x.length = 64) (hy : y.length = 64) : (w.alloc (.cells (bv y).toArray t)).there w.heap.size 0 (bv x).toArray.size := by
  have e : (bv x).toArray.size = 64 := by rw [List.size_toArray, bv_length, hx]
  rw [e]
  exact there_of_row' (cs := (bv y).toArray) (t := t) (by rw [World.alloc]; simp only [Array.getElem?_push, if_true]) 0 64 (by rw [List.size_toArray, bv_length, hy]; omega)
theorem sct_size {x : List Int} (h : x.length = 64) : (Tryd.prog.info? 67).map (·.size) = some (bv x).toArray.size := by rw [List.size_toArray, bv_length, h]; exact size_sct
set_option maxHeartbeats 1000000 in
theorem wread_any {F : Nat → Prop} {w : World} {g : Nat} {s : Dk} (h : PD F w g s) (i : Int) :
    Calls Tryd.prog 40 #[.pointer (some ⟨g, 0, none⟩), .int .i64 i] w fun e w' => e = .returned (.agg (bv (rdV s i)).toArray) ∧ Below w.heap.size w w' := by
  have H : Hid (PD F w g s) := h
  have HL : Hid ((rdV s i).length = 64) := rdV_len h i
  clear h
  have hz := zero_sct
  have hz2 := zero_sec
  have HB0 : Hid (Below w.heap.size w (w.alloc (.cells (bv z64).toArray 67))) := (Below.refl _ _).alloc (Nat.le_refl _) _
  have HR0 : Hid ((w.alloc (.cells (bv z64).toArray 67)).heap[w.heap.size]? = some (.cells (bv z64).toArray 67 (0, 0))) := by show (w.heap.push _)[w.heap.size]? = _; simp
  go_enter Tryd.func40, Tryd.ntmps40
  go_wp2_with fail
  refine (read_any (H.out.below HB0.out) i).mono ?_
  rintro e w1 ⟨rfl, hb1⟩
  obtain ⟨x, hx⟩ : ∃ x, x = rdV s i := ⟨_, rfl⟩
  rw [← hx] at HL
  rw [← hx]
  have hs1 : w.heap.size + 1 ≤ w1.heap.size := by have := hb1.size; simpa using this
  have HB1 : Hid (Below w.heap.size w w1) := HB0.out.trans (hb1.mono (by simp))
  have HR1 : Hid (w1.heap[w.heap.size]? = some (.cells (bv z64).toArray 67 (0, 0))) := (hb1.block _ (by simp)).trans HR0.out
  have HX : Hid (x = rdV s i) := hx
  clear hb1 HB0 HR0 hx
  have HTH : Hid ((w1.alloc (.cells (bv z64).toArray 66)).there w1.heap.size 0 (bv x).toArray.size) := sec_there w1 _ HL.out z64_length
  go_wp2_with (first
    | (refine Sh.wpList_store_midL rfl 66 _ _ rfl w1.heap.size 0 (bv x).toArray rfl rfl HTH.out (size_sec HL.out) (bv_one' _) ?_; intro w2 hw2; have N2 : Hid (Below w1.heap.size w1 w2 ∧ w2.rangeAt w1.heap.size 0 (bv x) ∧ w1.heap.size < w2.heap.size) := sec_new HL.out z64_length hw2; clear hw2; have HT2 : Hid (w2.there w.heap.size 0 (bv x).toArray.size) := there_sec HL.out (there_of_row' ((N2.out.1.block _ (by omega)).trans HR1.out) 0 64 (by rw [List.size_toArray, bv_length, z64_length]; omega)))
    | (refine wpList_load_mid rfl 66 _ rfl w1.heap.size 0 rfl (bv x) _ N2.out.2.1 Tryd.underlying66 rfl (by rw [bv_length, HL.out]; exact size64) ?_)
    | (refine wpList_store_mid rfl 67 _ _ rfl w.heap.size 0 (bv x).toArray rfl rfl HT2.out (sct_size HL.out) (bv_one' _) ?_))
  refine bodyPost_ret (v := .agg (bv x).toArray) ?_ rfl ⟨by rw [HX.out], ?_⟩
  · exact Sh.results_mid Tryd.results40 _ _ w.heap.size 0 (bv x) _ rfl (World.rangeAt_setCells_same _ _ _ _ (by have := HT2.out; rwa [List.size_toArray] at this)) Tryd.underlying67 rfl (by rw [bv_length, HL.out]; exact size_sct)
  · exact below_setCells _ (Nat.le_refl _) _ _ _ (HB1.out.trans (N2.out.1.mono HB1.out.size))
end Go.Proofs.YtphjjjijdbljaaaDoor
