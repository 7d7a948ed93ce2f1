/- Package tree: firstBits. -/
import Derived.Test.YtpojalbpekbfdabDoorTreR
namespace Go.Proofs.YtpojalbpekbfdabDoor
open Go Go.RowKit
set_option linter.unusedSimpArgs false
set_option linter.unusedVariables false
set_option maxRecDepth 100000

theorem andnot_all : (List.range 8).all (fun r => (List.range 256).all fun g => decide (bits .andNot .u8 (g : Int) (255 / 2 ^ r) = ((g / 2 ^ (8 - r) * 2 ^ (8 - r) : Nat) : Int))) = true := by kernel_rfl
theorem andnot_at (g r : Nat) (hg : g < 256) (hr : r < 8) : bits .andNot .u8 (g : Int) (255 / 2 ^ r) = ((g / 2 ^ (8 - r) * 2 ^ (8 - r) : Nat) : Int) :=
  of_decide_eq_true (List.all_eq_true.1 (List.all_eq_true.1 andnot_all r (List.mem_range.2 hr)) g (List.mem_range.2 hg))
theorem bv_take (xs : List Int) (n : Nat) : bv (xs.take n) = (bv xs).take n := by simp [bv, List.map_take]
theorem bv_drop (xs : List Int) (n : Nat) : bv (xs.drop n) = (bv xs).drop n := by simp [bv, List.map_drop]
theorem size_u8' : (Tryd.prog.info? 5).map (·.size) = some 1 := by kernel_rfl
theorem wp_copy_bv {o : Oper} {a : Act} {w : World} {K : Act → World → Prop} {Q : Exit → Act → World → Prop} (d s : Operand)
    (ho : o.op = .call { callee := .builtin .copy, args := #[d, s], argTypes := #[51, 51] }) (g off dl dc : Nat) (b so sl sc : Nat) (hd : a.eval d = .slice (some ⟨g, off, none⟩) dl dc) (hs : a.eval s = .slice (some ⟨b, so, none⟩) sl sc)
    (ys : List Int) (t : TypeId) (hg : w.heap[g]? = some (.cells (bv ys).toArray t (0, 0))) (xs : List Int) (hn : xs.length = Nat.min sl dl) (hx : ∀ i, i < xs.length → w.cell? ⟨b, so + i, none⟩ = some (.int .u8 (gi xs i))) (hfit : off + xs.length ≤ ys.length)
    (h : ∀ w', w.grownBy w' (some g) → w'.heap.size = w.heap.size → w'.heap[g]? = some (.cells (bv (ys.take off ++ (xs ++ ys.drop (off + xs.length)))).toArray t (0, 0)) → K (a.put o.dst (.int .i64 (xs.length : Int))) w') : Oper.wp Tryd.prog o a w K Q := by
  have hrun := run_copy_row (P := Tryd.prog) w 51 51 o.type 5 g off dl dc ⟨b, so, none⟩ sl sc (bv ys).toArray t (bv xs) Tryd.underlying51 size_u8' hg (by rw [bv_length]; exact hn) (fun j v hv => by
    obtain ⟨hj, _⟩ := List.getElem?_eq_some_iff.1 hv
    rw [bv_length] at hj
    rw [addr_add0, hx j hj, ← bv_get xs hj, ← hv]) (by rw [bv_length, List.size_toArray, bv_length]; exact hfit) (bv_one _)
  unfold Oper.wp
  simp [execOp, ho, resolve, invoke, builtin, hd, hs, hrun, Result.andThen]
  have e : (bv (ys.take off ++ (xs ++ ys.drop (off + xs.length)))) = (bv ys).take off ++ (bv xs ++ (bv ys).drop (off + (bv xs).length)) := by
    rw [bv_append, bv_append, bv_take, bv_drop, bv_length]
  have hh := h (w.setRow g ((bv ys).take off ++ (bv xs ++ (bv ys).drop (off + (bv xs).length))).toArray) ⟨rfl, rfl, rfl, by simp [World.setRow], fun k _ hk => setRow_other w g k _ (fun e => hk (by rw [e]))⟩ (by simp) (by rw [e]; exact setRow_heap w g _ _ t _ hg)
  have e2 : goInt (bv xs).length = .int .i64 (xs.length : Int) := by rw [bv_length]; rfl
  rw [← e2] at hh
  exact hh
theorem zero_32 (w : World) : (zeroValue 25).run Tryd.prog w = .ok (.agg (bv (List.replicate 32 0)).toArray) w := by kernel_rfl
def z32 : List Int := List.replicate 32 0
theorem z32_l32 : L32 z32 := ⟨by simp [z32], fun z hz => by have := List.eq_of_mem_replicate hz; omega⟩
/-- A label, the answer and what is made, in three blocks. -/
structure FQ (w W : World) (x y r : List Int) : Prop where
  below : Below w.heap.size w W
  a : W.heap[w.heap.size]? = some (.cells (bv x).toArray 25 (0, 0))
  res : W.heap[w.heap.size + 1]? = some (.cells (bv r).toArray 25 (0, 0))
  out : W.heap[w.heap.size + 2]? = some (.cells (bv y).toArray 25 (0, 0))
theorem FQ.drew {w W : World} {x y r : List Int} (h : FQ w W x y r) : FQ w { W with drawn := W.drawn + 1 } x y r := ⟨h.below.drew, h.a, h.res, h.out⟩
theorem FQ.put {w W W' : World} {x y r y' : List Int} (h : FQ w W x y r) (hg : W.grownBy W' (some (w.heap.size + 2))) (ho : W'.heap[w.heap.size + 2]? = some (.cells (bv y').toArray 25 (0, 0))) : FQ w W' x y' r := by
  refine ⟨h.below.grown hg h.below.size (fun j hj => by cases hj; omega), ?_, ?_, ho⟩
  · rw [hg.block _ (Array.getElem?_eq_some_iff.1 h.a).1 (fun e => by have := Option.some.inj e; omega)]; exact h.a
  · rw [hg.block _ (Array.getElem?_eq_some_iff.1 h.res).1 (fun e => by have := Option.some.inj e; omega)]; exact h.res
theorem FQ.start (w : World) (x : List Int) : FQ w (((w.alloc (.cells (bv x).toArray 25)).alloc (.cells (bv z32).toArray 25)).alloc (.cells (bv z32).toArray 25)) x z32 z32 := by
  refine ⟨(((Below.refl _ w).alloc (Nat.le_refl _) _).alloc (by simp) _).alloc (by simp; omega) _, ?_, ?_, ?_⟩
  · show (((w.heap.push _).push _).push _)[w.heap.size]? = _
    rw [Array.getElem?_push, if_neg (by simp; omega), Array.getElem?_push, if_neg (by simp), Array.getElem?_push, if_pos rfl]
  · show (((w.heap.push _).push _).push _)[w.heap.size + 1]? = _
    rw [Array.getElem?_push, if_neg (by simp), Array.getElem?_push, if_pos (by simp)]
  · show (((w.heap.push _).push _).push _)[w.heap.size + 2]? = _
    rw [Array.getElem?_push, if_pos (by simp)]
theorem below_setCells {B b : Nat} (hb : B ≤ b) : ∀ (vs : List Value) (o : Nat) {w W : World}, Below B w W → Below B w (W.setCells b o vs)
  | [], _, _, _, h => h
  | v :: r, o, w, W, h => by
    rw [World.setCells]
    exact below_setCells hb r (o + 1) (h.trans ⟨rfl, rfl, rfl, by simp [World.setCell], fun k hk => Below.heap_setCell _ _ _ k (by show k ≠ b; omega)⟩)
theorem there_of_row' {w : World} {g : Nat} {cs : Array Value} {t : TypeId} (hg : w.heap[g]? = some (.cells cs t (0, 0))) (o n : Nat) (hn : o + n ≤ cs.size) : w.there g o n := fun j hj =>
  ⟨by rw [cell_of_row w g (o + j) cs t _ hg, Array.getElem?_eq_getElem (by omega)]; rfl, frozen_of_row _ _ _ _ _ hg⟩
theorem bv_one' (x : List Int) : (bv x).toArray.all (·.oneCell') = true := all_oneCell_toArray (bv_one x)
theorem blk_range {W : World} {b : Nat} {x : List Int} {t : TypeId} (h : W.heap[b]? = some (.cells (bv x).toArray t (0, 0))) : W.rangeAt b 0 (bv x) := fun j v hj => by
  unfold World.cell?; rw [h]; simp only [Nat.zero_add, List.getElem?_toArray]; simpa using hj
theorem blk_cell {W : World} {b : Nat} {x : List Int} {t : TypeId} (h : W.heap[b]? = some (.cells (bv x).toArray t (0, 0))) {i : Nat} (hi : i < x.length) : W.cell? ⟨b, i, none⟩ = some (.int .u8 (gi x i)) := by
  have := blk_range h i _ (bv_get x hi)
  rwa [Nat.zero_add] at this
theorem ext_gi {a b : List Int} (hl : a.length = b.length) (h : ∀ i, i < a.length → gi a i = gi b i) : a = b := List.ext_getElem hl (fun i h1 h2 => by rw [← gi_get h1, ← gi_get h2]; exact h i h1)
theorem cat_len {x : List Int} (h : L32 x) {k : Nat} (h32 : k ≤ 32) : (x.take k ++ z32.drop k).length = 32 := by
  rw [List.length_append, List.length_take, List.length_drop, h.len, z32_l32.len]; omega
theorem cat_gi {x : List Int} (h : L32 x) {k : Nat} (h32 : k ≤ 32) (i : Nat) : gi (x.take k ++ z32.drop k) i = if i < k then gi x i else 0 := by
  unfold gi
  rw [List.getD_eq_getElem?_getD, List.getD_eq_getElem?_getD]
  have hl : (x.take k).length = k := by rw [List.length_take, h.len]; omega
  split
  · rename_i hi
    rw [List.getElem?_append_left (by omega), List.getElem?_take, if_pos hi]
  · rename_i hi
    rw [List.getElem?_append_right (by omega), List.getElem?_drop]
    unfold z32
    rw [List.getElem?_replicate]
    split <;> rfl
theorem fb_even {x : List Int} (h : L32 x) {n k : Nat} (hk : n = 8 * k) (h32 : k ≤ 32) : x.take k ++ (z32.drop k) = fb x n := by
  refine ext_gi (by rw [cat_len h h32, fb_length]) (fun i hi => ?_)
  rw [cat_len h h32] at hi
  rw [cat_gi h h32, fb_get x n hi]
  unfold fc
  have hl := h.lt i
  by_cases hik : i < k
  · rw [if_pos hik, if_pos (by omega)]
  · rw [if_neg hik, if_neg (by omega)]
    split
    · have : gn x i / 2 ^ (8 - n % 8) = 0 := Nat.div_eq_of_lt (by rw [show 8 - n % 8 = 8 by omega]; exact hl)
      rw [this]; simp
    · rfl
theorem gi_set {l : List Int} {k i : Nat} {v : Int} (hk : k < l.length) : gi (l.set k v) i = if k = i then v else gi l i := by
  unfold gi
  rw [List.getD_eq_getElem?_getD, List.getD_eq_getElem?_getD, List.getElem?_set]
  split
  · rename_i e; subst e; simp [hk]
  · rfl
theorem fb_odd {x : List Int} (h : L32 x) {n k r : Nat} (hk : n = 8 * k + r) (hr : r < 8) (h32 : k < 32) : (x.take k ++ (z32.drop k)).set k ((gn x k / 2 ^ (8 - r) * 2 ^ (8 - r) : Nat) : Int) = fb x n := by
  have hlen := cat_len h (show k ≤ 32 by omega)
  refine ext_gi (by rw [List.length_set, hlen, fb_length]) (fun i hi => ?_)
  rw [List.length_set, hlen] at hi
  rw [gi_set (by omega), cat_gi h (by omega), fb_get x n hi]
  unfold fc
  by_cases hik : k = i
  · subst hik
    rw [if_pos rfl, if_neg (by omega), if_pos (by omega), show n % 8 = r by omega]
  · rw [if_neg hik]
    by_cases hi2 : i < k
    · rw [if_pos hi2, if_pos (by omega)]
    · rw [if_neg hi2, if_neg (by omega), if_neg (by omega)]
def fb2f (n k D : Nat) : Nat → Value
  | 0 => .int .i64 (n : Int)
  | 1 => .int .i64 (k : Int)
  | 2 => .slice (some ⟨D + 2, 0, none⟩) k 32
  | 3 => .slice (some ⟨D, 0, none⟩) 32 32
  | 4 => undef
  | _ => undef
def fb4f (n k r D : Nat) (z v : Int) : Nat → Value
  | 0 => .int .i64 (n : Int)
  | 1 => .int .i64 (k : Int)
  | 2 => .int .i64 (n : Int)
  | 3 => .int .i64 (k : Int)
  | 4 => .pointer (some ⟨D, k, none⟩)
  | 5 => .int .u8 z
  | 6 => .int .i64 (n : Int)
  | 7 => .int .i64 (r : Int)
  | 8 => .int .u8 (255 / 2 ^ r)
  | 9 => .int .u8 v
  | 10 => .pointer (some ⟨D + 2, k, none⟩)
  | 11 => undef
  | _ => undef
def f2Ω (w : World) (x : List Int) (k : Nat) : Nat → (Nat → Value) → World → Prop
  | 0, _, W => FQ w W x z32 z32
  | _ + 1, _, W => FQ w W x (x.take k ++ z32.drop k) z32
def f4Ω (w : World) (x y y' : List Int) : Nat → (Nat → Value) → World → Prop
  | 0, _, W => FQ w W x y z32
  | _ + 1, _, W => FQ w W x y' z32
set_option maxHeartbeats 4000000 in
theorem firstBits_any (x : List Int) (hx : L32 x) (n : Nat) (hn : n ≤ 256) (w : World) :
    Calls Tryd.prog 38 #[.agg (bv x).toArray, .int .i64 (n : Int)] w fun e w' => e = .returned (.agg (bv (fb x n)).toArray) ∧ Below w.heap.size w w' := by
  have s1 : (bv x).toArray.size = 32 := by simp [bv, hx.len]
  obtain ⟨k, hk⟩ : ∃ k : Nat, (n : Int) / 8 = (k : Int) := ⟨n / 8, by omega⟩
  obtain ⟨r, hr⟩ : ∃ r : Nat, (n : Int) % 8 = (r : Int) := ⟨n % 8, by omega⟩
  have HNK : Hid (n = 8 * k + r) := by show n = 8 * k + r; omega
  have hwk : IntKind.i64.wrap (k : Int) = (k : Int) := by rw [IntKind.wrap_i64]; omega
  have hwr : IntKind.i64.wrap (r : Int) = (r : Int) := by rw [IntKind.wrap_i64]; omega
  have htd : Int.tdiv (n : Int) 8 = (k : Int) := by rw [Int.tdiv_eq_ediv_of_nonneg (by omega)]; exact hk
  have htm : Int.tmod (n : Int) 8 = (r : Int) := by rw [Int.tmod_eq_emod_of_nonneg (by omega)]; exact hr
  have hk1 : k ≤ 32 := by omega
  have hr1 : r < 8 := by omega
  have HX : Hid (L32 x) := hx
  have HQ0 := FQ.start w x
  obtain ⟨A, hA⟩ : ∃ A, (bv x).toArray = A := ⟨_, rfl⟩
  rw [hA] at HQ0 s1 ⊢
  have hz := zero_32
  rw [show List.replicate 32 (0 : Int) = z32 from rfl] at hz
  obtain ⟨Z, hZ⟩ : ∃ Z, (bv z32).toArray = Z := ⟨_, rfl⟩
  rw [hZ] at hz HQ0
  have hZs : Z.size = 32 := by rw [← hZ]; simp [bv, z32]
  clear hx
  go_enter Tryd.func38, Tryd.ntmps38
  go_wp2_with fail
  obtain ⟨W, hW⟩ : ∃ W, (((w.alloc (.cells A 25)).alloc (.cells Z 25)).alloc (.cells Z 25)) = W := ⟨_, rfl⟩
  rw [hW] at HQ0 ⊢
  have Q0 : Hid (FQ w W x z32 z32) := HQ0
  obtain ⟨D, hD⟩ : ∃ D, w.heap.size = D := ⟨_, rfl⟩
  have HD : Hid (w.heap.size = D) := hD
  rw [hD]
  clear hW HQ0 hz hD
  refine RU.wp_rgn' [4] (fb2f n k D) (fun _ => 0) (f2Ω w x k) (by kernel_rfl) (by kernel_rfl) Q0.out.drew ?_ ?_
  · refine ⟨?_, ?_, ?_, ?_, ?_, trivial⟩
    · refine RU.ObT.pure rfl rfl rfl (fun a V hf hp ev he hc W => ?_)
      have q1 : ev (.tmp 1) = .int .i64 (n : Int) := (he (.tmp 1)).trans (hf 1 rfl)
      simp only [List.getElem_toArray, List.getElem_cons_succ, List.getElem_cons_zero, execOp, Option.map_some, Option.map_none]; rw [q1]
      first | (go_simp; done) | (go_simp; rfl) | rfl
    · refine RU.ObT.pure rfl rfl rfl (fun a V hf hp ev he hc W => ?_)
      have q6 : ev (.tmp 6) = .int .i64 (n : Int) := (he (.tmp 6)).trans (hp 0 6 rfl)
      simp only [List.getElem_toArray, List.getElem_cons_succ, List.getElem_cons_zero, execOp, Option.map_some, Option.map_none]; rw [q6]
      try simp only [hc]
      first | (go_simp; done) | (go_simp; rfl) | rfl
    · refine RU.ObT.pure rfl rfl rfl (fun a V hf hp ev he hc W => ?_)
      have q5 : ev (.tmp 5) = .pointer (some ⟨D + 2, 0, none⟩) := (he (.tmp 5)).trans (hf 5 rfl)
      have q7 : ev (.tmp 7) = .int .i64 (k : Int) := (he (.tmp 7)).trans (hp 1 7 rfl)
      simp only [List.getElem_toArray, List.getElem_cons_succ, List.getElem_cons_zero, execOp, Option.map_some, Option.map_none]; rw [q5, q7]
      have hk3 : (k : Int) ≤ 32 := by omega
      have hk4 : (0 : Int) ≤ (k : Int) := by omega
      first | (go_simp; done) | (go_simp; rfl) | rfl
    · refine RU.ObT.pure rfl rfl rfl (fun a V hf hp ev he hc W => ?_)
      have q2 : ev (.tmp 2) = .pointer (some ⟨D, 0, none⟩) := (he (.tmp 2)).trans (hf 2 rfl)
      simp only [List.getElem_toArray, List.getElem_cons_succ, List.getElem_cons_zero, execOp, Option.map_some, Option.map_none]; rw [q2]
      first | (go_simp; done) | (go_simp; rfl) | rfl
    · refine RU.ObT.loud (j := 0) rfl (fun a W' V hO hf hp => ?_)
      have e1 : a.eval (.tmp 8) = .slice (some ⟨D + 2, 0, none⟩) k 32 := hp 2 8 rfl
      have e2 : a.eval (.tmp 9) = .slice (some ⟨D, 0, none⟩) 32 32 := hp 3 9 rfl
      have hO' : FQ w W' x z32 z32 := hO
      have ho := hO'.out
      have ha := hO'.a
      rw [HD.out] at ho ha
      have hl : (x.take k).length = k := by rw [List.length_take, HX.out.len]; omega
      refine RU.ob_op rfl (RU.wanted_none rfl) (wp_copy_bv (.tmp 8) (.tmp 9) rfl (D + 2) 0 k 32 D 0 32 32 e1 e2 z32 _ ho (x.take k) (by rw [hl]; exact (Nat.min_eq_right hk1).symm) (fun i hi => ?_) (by rw [hl, z32_l32.len]; omega) (fun W2 g1 g2 g3 => ⟨_, rfl, ?_⟩))
      · rw [hl] at hi
        rw [Nat.zero_add, blk_cell ha (by rw [HX.out.len]; omega)]
        unfold gi; rw [List.getD_eq_getElem?_getD, List.getD_eq_getElem?_getD, List.getElem?_take, if_pos hi]
      · rw [← HD.out] at g1 g3
        rw [hl, List.take_zero, List.nil_append, Nat.zero_add] at g3
        exact hO'.put g1 g3
  intro W1 VW1 hOW1
  have Q1 : Hid (FQ w W1 x (x.take k ++ z32.drop k) z32) := hOW1
  clear hOW1
  simp only [RU.lay, RU.val, RU.at', fb2f, Act.put]
  simp only [List.setIfInBounds_toArray, List.set_cons_succ, List.set_cons_zero]
  by_cases hr0 : r = 0
  · subst hr0
    have HE : Hid (x.take k ++ z32.drop k = fb x n) := fb_even HX.out (by have := HNK.out; omega) hk1
    have Q2 : Hid (FQ w W1 x (fb x n) z32) := by have := Q1.out; rw [HE.out] at this; exact this
    clear hA hZ
    have R2 : Hid (W1.rangeAt (D + 2) 0 (bv (fb x n))) := by have := Q2.out.out; rw [HD.out] at this; exact blk_range this
    have T1 : Hid (W1.there (D + 1) 0 32) := by have := Q2.out.res; rw [HD.out] at this; exact there_of_row' this 0 32 (by rw [List.size_toArray, bv_length, z32_l32.len]; omega)
    go_wp2_with (first
      | (refine wpList_load_mid rfl 25 (.tmp 5) rfl (D + 2) 0 rfl (bv (fb x n)) _ R2.out Tryd.underlying25 rfl (size_l32 (fb_l32 HX.out n)) ?_)
      | (refine wpList_store_mid rfl 25 (.tmp 4) (.tmp 25) rfl (D + 1) 0 (bv (fb x n)).toArray rfl rfl (by rw [List.size_toArray, bv_length, fb_length]; exact T1.out) (by rw [List.size_toArray]; exact size_l32 (fb_l32 HX.out n)) (bv_one' _) ?_; simp only [List.toList_toArray]))
    have q : (W1.setCells (D + 1) 0 (bv (fb x n))).rangeAt (D + 1) 0 (bv (fb x n)) := World.rangeAt_setCells_same _ _ _ _ (by rw [bv_length, fb_length]; exact T1.out)
    have hbl : Below w.heap.size w (W1.setCells (D + 1) 0 (bv (fb x n))) := below_setCells (by rw [HD.out]; omega) _ _ Q2.out.below
    refine bodyPost_ret (v := .agg (bv (fb x n)).toArray) ?_ rfl ⟨rfl, hbl⟩
    simp only [results, Tryd.results38]
    simp [Act.put, asAddr, run_loadVar_mid _ (D + 1) 0 25 (bv (fb x n)) _ q Tryd.underlying25 rfl (size_l32 (fb_l32 HX.out n))]
  · have HE0 := fb_odd HX.out HNK.out hr1 (by have := HNK.out; omega)
    obtain ⟨v, hvv⟩ : ∃ v : Int, ((gn x k / 2 ^ (8 - r) * 2 ^ (8 - r) : Nat) : Int) = v := ⟨_, rfl⟩
    obtain ⟨z, hzz⟩ : ∃ z : Int, (gn x k : Int) = z := ⟨_, rfl⟩
    have hav := andnot_at (gn x k) r (HX.out.lt k) hr1
    rw [hvv, hzz] at hav
    rw [hvv] at HE0
    have HE : Hid ((x.take k ++ z32.drop k).set k v = fb x n) := HE0
    have HZZ : Hid ((gn x k : Int) = z) := hzz
    have hk32 : k < 32 := by have := HNK.out; omega
    have hk2 : (k : Int) < 32 := by omega
    clear HE0 hvv hzz
    have hr2 : (0 : Int) < (r : Int) := by omega
    go_wp2_with fail
    refine RU.wp_rgn' [11] (fb4f n k r D z v) (fun _ => 0) (f4Ω w x (x.take k ++ z32.drop k) ((x.take k ++ z32.drop k).set k v)) (by kernel_rfl) (by kernel_rfl) Q1.out.drew ?_ ?_
    · refine ⟨?_, ?_, ?_, ?_, ?_, ?_, ?_, ?_, ?_, ?_, ?_, ?_, trivial⟩
      · refine RU.ObT.pure rfl rfl rfl (fun a V hf hp ev he hc W => ?_)
        have q1 : ev (.tmp 1) = .int .i64 (n : Int) := (he (.tmp 1)).trans (hf 1 rfl)
        simp only [List.getElem_toArray, List.getElem_cons_succ, List.getElem_cons_zero, execOp, Option.map_some, Option.map_none]; rw [q1]
        first | (go_simp; done) | (go_simp; rfl) | rfl
      · refine RU.ObT.pure rfl rfl rfl (fun a V hf hp ev he hc W => ?_)
        have q14 : ev (.tmp 14) = .int .i64 (n : Int) := (he (.tmp 14)).trans (hp 0 14 rfl)
        simp only [List.getElem_toArray, List.getElem_cons_succ, List.getElem_cons_zero, execOp, Option.map_some, Option.map_none]; rw [q14]
        try simp only [hc]
        first | (go_simp; done) | (go_simp; rfl) | rfl
      · refine RU.ObT.pure rfl rfl rfl (fun a V hf hp ev he hc W => ?_)
        have q1 : ev (.tmp 1) = .int .i64 (n : Int) := (he (.tmp 1)).trans (hf 1 rfl)
        simp only [List.getElem_toArray, List.getElem_cons_succ, List.getElem_cons_zero, execOp, Option.map_some, Option.map_none]; rw [q1]
        first | (go_simp; done) | (go_simp; rfl) | rfl
      · refine RU.ObT.pure rfl rfl rfl (fun a V hf hp ev he hc W => ?_)
        have q16 : ev (.tmp 16) = .int .i64 (n : Int) := (he (.tmp 16)).trans (hp 2 16 rfl)
        simp only [List.getElem_toArray, List.getElem_cons_succ, List.getElem_cons_zero, execOp, Option.map_some, Option.map_none]; rw [q16]
        try simp only [hc]
        first | (go_simp; done) | (go_simp; rfl) | rfl
      · refine RU.ObT.pure rfl rfl rfl (fun a V hf hp ev he hc W => ?_)
        have q2 : ev (.tmp 2) = .pointer (some ⟨D, 0, none⟩) := (he (.tmp 2)).trans (hf 2 rfl)
        have q17 : ev (.tmp 17) = .int .i64 (k : Int) := (he (.tmp 17)).trans (hp 3 17 rfl)
        simp only [List.getElem_toArray, List.getElem_cons_succ, List.getElem_cons_zero, execOp, Option.map_some, Option.map_none]; rw [q2, q17]
        first | (go_simp; done) | (go_simp; rfl) | rfl
      · refine RU.ObT.silent rfl (fun a W k0 V hO hf hp hk => ?_)
        have hO1 : FQ w W x (x.take k ++ z32.drop k) z32 := by cases k0 with | zero => exact hO | succ q => exact absurd hk (by simp)
        have ha := hO1.a
        rw [HD.out] at ha
        have hcell := blk_cell ha (i := k) (by rw [HX.out.len]; omega)
        rw [HX.out.cast, HZZ.out] at hcell
        refine RU.ob_val rfl (RU.wanted_none rfl) (fun ev he hc => ?_) ⟨rfl, hO⟩
        have q18 : ev (.tmp 18) = .pointer (some ⟨D, k, none⟩) := (he (.tmp 18)).trans (hp 4 18 rfl)
        simp only [List.getElem_toArray, List.getElem_cons_succ, List.getElem_cons_zero, execOp, Option.map_some, Option.map_none]; rw [q18]
        first | (go_simp; done) | (go_simp; rfl) | rfl
      · refine RU.ObT.pure rfl rfl rfl (fun a V hf hp ev he hc W => ?_)
        have q1 : ev (.tmp 1) = .int .i64 (n : Int) := (he (.tmp 1)).trans (hf 1 rfl)
        simp only [List.getElem_toArray, List.getElem_cons_succ, List.getElem_cons_zero, execOp, Option.map_some, Option.map_none]; rw [q1]
        first | (go_simp; done) | (go_simp; rfl) | rfl
      · refine RU.ObT.pure rfl rfl rfl (fun a V hf hp ev he hc W => ?_)
        have q20 : ev (.tmp 20) = .int .i64 (n : Int) := (he (.tmp 20)).trans (hp 6 20 rfl)
        simp only [List.getElem_toArray, List.getElem_cons_succ, List.getElem_cons_zero, execOp, Option.map_some, Option.map_none]; rw [q20]
        try simp only [hc]
        first | (go_simp; done) | (go_simp; rfl) | rfl
      · refine RU.ObT.pure rfl rfl rfl (fun a V hf hp ev he hc W => ?_)
        have q21 : ev (.tmp 21) = .int .i64 (r : Int) := (he (.tmp 21)).trans (hp 7 21 rfl)
        simp only [List.getElem_toArray, List.getElem_cons_succ, List.getElem_cons_zero, execOp, Option.map_some, Option.map_none]; rw [q21]
        try simp only [hc]
        have hr3 : (r : Int) < 8 := by omega
        first | (go_simp; done) | (go_simp; rfl) | rfl
      · refine RU.ObT.pure rfl rfl rfl (fun a V hf hp ev he hc W => ?_)
        have q19 : ev (.tmp 19) = .int .u8 z := (he (.tmp 19)).trans (hp 5 19 rfl)
        have q22 : ev (.tmp 22) = .int .u8 (255 / 2 ^ r) := (he (.tmp 22)).trans (hp 8 22 rfl)
        simp only [List.getElem_toArray, List.getElem_cons_succ, List.getElem_cons_zero, execOp, Option.map_some, Option.map_none]; rw [q19, q22]
        first | (go_simp; done) | (go_simp; rfl) | rfl
      · refine RU.ObT.pure rfl rfl rfl (fun a V hf hp ev he hc W => ?_)
        have q5 : ev (.tmp 5) = .pointer (some ⟨D + 2, 0, none⟩) := (he (.tmp 5)).trans (hf 5 rfl)
        have q15 : ev (.tmp 15) = .int .i64 (k : Int) := (he (.tmp 15)).trans (hp 1 15 rfl)
        simp only [List.getElem_toArray, List.getElem_cons_succ, List.getElem_cons_zero, execOp, Option.map_some, Option.map_none]; rw [q5, q15]
        first | (go_simp; done) | (go_simp; rfl) | rfl
      · refine RU.ObT.loud (j := 0) rfl (fun a W' V hO hf hp => ?_)
        have q24 : a.eval (.tmp 24) = .pointer (some ⟨D + 2, k, none⟩) := hp 10 24 rfl
        have q23 : a.eval (.tmp 23) = .int .u8 v := hp 9 23 rfl
        have hO1 : FQ w W' x (x.take k ++ z32.drop k) z32 := hO
        have ho := hO1.out
        rw [HD.out] at ho
        have hyl : (x.take k ++ z32.drop k).length = 32 := by rw [List.length_append, List.length_take, List.length_drop, HX.out.len]; simp [z32]; omega
        have hcell := blk_cell ho (i := k) (by rw [hyl]; omega)
        have hfr : W'.frozen? ⟨D + 2, k, none⟩ = false := by unfold World.frozen?; rw [ho]; simp
        refine RU.ob_skip (w' := W'.setCell ⟨D + 2, k, none⟩ (.int .u8 v)) rfl (RU.wanted_none rfl) (fun ev he hc => ?_) ⟨_, rfl, ?_⟩
        · have e1 := (he (.tmp 24)).trans q24
          have e2 := (he (.tmp 23)).trans q23
          simp only [List.getElem_toArray, List.getElem_cons_succ, List.getElem_cons_zero, execOp]
          rw [e1, e2]
          go_simp
        · refine hO1.put (y' := (x.take k ++ z32.drop k).set k v) ?_ ?_
          · rw [HD.out]
            exact ⟨rfl, rfl, rfl, by simp [World.setCell], fun j _ hj => Below.heap_setCell _ _ _ j (fun e => hj (by rw [e]))⟩
          · rw [HD.out, heap_setCell_same _ _ _ _ _ _ ho, List.setIfInBounds_toArray]
            unfold bv; rw [List.map_set]
    intro W2 VW2 hOW2
    have Q2 : Hid (FQ w W2 x (fb x n) z32) := by have := hOW2; rw [show f4Ω w x (x.take k ++ z32.drop k) ((x.take k ++ z32.drop k).set k v) [11].length VW2 W2 = FQ w W2 x ((x.take k ++ z32.drop k).set k v) z32 from rfl, HE.out] at this; exact this
    clear hOW2
    simp only [RU.lay, RU.val, RU.at', fb4f, Act.put]
    simp only [List.setIfInBounds_toArray, List.set_cons_succ, List.set_cons_zero]
    have R2 : Hid (W2.rangeAt (D + 2) 0 (bv (fb x n))) := by have := Q2.out.out; rw [HD.out] at this; exact blk_range this
    have T1 : Hid (W2.there (D + 1) 0 32) := by have := Q2.out.res; rw [HD.out] at this; exact there_of_row' this 0 32 (by rw [List.size_toArray, bv_length, z32_l32.len]; omega)
    go_wp2_with (first
      | (refine wpList_load_mid rfl 25 (.tmp 5) rfl (D + 2) 0 rfl (bv (fb x n)) _ R2.out Tryd.underlying25 rfl (size_l32 (fb_l32 HX.out n)) ?_)
      | (refine wpList_store_mid rfl 25 (.tmp 4) (.tmp 25) rfl (D + 1) 0 (bv (fb x n)).toArray rfl rfl (by rw [List.size_toArray, bv_length, fb_length]; exact T1.out) (by rw [List.size_toArray]; exact size_l32 (fb_l32 HX.out n)) (bv_one' _) ?_; simp only [List.toList_toArray]))
    have q : (W2.setCells (D + 1) 0 (bv (fb x n))).rangeAt (D + 1) 0 (bv (fb x n)) := World.rangeAt_setCells_same _ _ _ _ (by rw [bv_length, fb_length]; exact T1.out)
    have hbl : Below w.heap.size w (W2.setCells (D + 1) 0 (bv (fb x n))) := below_setCells (by rw [HD.out]; omega) _ _ Q2.out.below
    refine bodyPost_ret (v := .agg (bv (fb x n)).toArray) ?_ rfl ⟨rfl, hbl⟩
    simp only [results, Tryd.results38]
    simp [Act.put, asAddr, run_loadVar_mid _ (D + 1) 0 25 (bv (fb x n)) _ q Tryd.underlying25 rfl (size_l32 (fb_l32 HX.out n))]
end Go.Proofs.YtpojalbpekbfdabDoor
