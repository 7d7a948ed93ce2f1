/- The reference's DecodeRoot. -/
import Derived.Test.YtfnmdeekenjlgaaWrtI
import Derived.Test.YtfnmdeekenjlgaaRgnT
import Derived.Laws.CopyOwn
import Derived.Great.BuildSlice
namespace Go.Proofs.Ytfnmdeekenjlgaa
open Go Go.RowKit
set_option linter.unusedSimpArgs false
set_option linter.unusedVariables false
set_option maxRecDepth 100000

theorem rhash_into (xs : List Int) (v : Value) (w : World) (hs : Sl w v xs) (hl : xs.length ≤ 140737488355328) :
    Calls Try.prog 65 #[v] w fun e w' => e = .returned (.tuple #[.agg (into32 xs).toArray, .bool ((xs.length : Int) == 32)]) ∧ Below w.heap.size w w' := by
  by_cases h0 : xs.length = 0
  · obtain ⟨ad, cap, rfl, hc, h⟩ := hs
    obtain rfl := List.length_eq_zero_iff.1 h0
    refine (rhash_none ad cap w).mono ?_
    rintro e w' ⟨rfl, hb⟩
    exact ⟨rfl, hb⟩
  · obtain ⟨ad, cap, hv, hc, h⟩ := id hs
    rcases h with ⟨rfl, _⟩ | ⟨b, o, rfl, hlt, hm⟩
    · simp at h0
    · subst hv
      exact rhash_some xs b o cap w hs (by omega) hl
theorem size32W : (Try.prog.info? 23).map (·.size) = some 32 := by kernel_rfl
theorem zero_h32 (w : World) : (zeroValue 23).run Try.prog w = .ok (.agg z32W.toArray) w := by kernel_rfl
theorem row32_there (w : World) (xs : List Int) : (w.alloc (.cells z32W.toArray 23)).there w.heap.size 0 (into32 xs).toArray.size := by
  have e : (into32 xs).toArray.size = 32 := into32_length xs
  rw [e]
  exact there_of_rowW1 (cs := z32W.toArray) (t := 23) (by rw [World.alloc]; simp only [Array.getElem?_push, if_true]) 0 32 (by rw [List.size_toArray]; simp [z32W])
theorem row32_size (xs : List Int) : (Try.prog.info? 23).map (·.size) = some (into32 xs).toArray.size := by
  have e : (into32 xs).toArray.size = 32 := into32_length xs
  rw [e]; exact size32W
theorem row32_laid {w W : World} {xs : List Int} (eW : (w.alloc (.cells z32W.toArray 23)).setCells w.heap.size 0 (into32 xs) = W) : Hid (Below w.heap.size w W ∧ W.rangeAt w.heap.size 0 (into32 xs) ∧ w.heap.size < W.heap.size) := by
  have ht := row32_there w xs
  subst eW
  exact ⟨below_setCellsW _ (Nat.le_refl _) _ _ _ ((Below.refl _ _).alloc (Nat.le_refl _) _), World.rangeAt_setCells_same _ _ _ _ (by rw [List.size_toArray] at ht; exact ht), by rw [size_setCells]; simp⟩
theorem isR_of_no {xs : List Int} (h : hasF xs signS 2 = true → (mi (decL xs) 2).length = 64 → isU (mi (decL xs) 1) = true → False) : isR xs = false := by
  unfold isR
  cases h1 : hasF xs signS 2 with
  | false => rfl
  | true =>
    by_cases h2 : (mi (decL xs) 2).length = 64
    · cases h3 : isU (mi (decL xs) 1) with
      | false => simp
      | true => exact (h h1 h2 h3).elim
    · simp [h2]
theorem isU_parts {ys : List Int} (h : isU ys = true) : hasF ys rootS 6 = true ∧ rnErr (mi (decL ys) 1) = 0 ∧ rnErr (mi (decL ys) 2) = 0 ∧ rnErr (mi (decL ys) 3) = 0 := by
  unfold isU at h
  simp only [Bool.and_eq_true, decide_eq_true_eq, Bool.not_eq_true'] at h
  exact ⟨h.1, h.2.1, h.2.2.1, h.2.2.2.1⟩
theorem eq32 {n : Nat} : (((n : Nat) : Int) == 32) = true ↔ n = 32 := by
  rw [beq_iff_eq]; omega
theorem isU_all {ys : List Int} (h : hasF ys rootS 6 = true) (h1 : rnErr (mi (decL ys) 1) = 0) (h2 : rnErr (mi (decL ys) 2) = 0) (h3 : rnErr (mi (decL ys) 3) = 0) (h4 : (mi (decL ys) 4).length = 32) (h5 : (mi (decL ys) 5).length = 32) (h6 : (mi (decL ys) 6).length = 32) : isU ys = true := by
  have hl : (decL ys).length = 7 := by
    unfold hasF at h
    simp only [Bool.and_eq_true, decide_eq_true_eq] at h
    exact h.2.1
  have : not32 ((decL ys).drop 4) = false := not32_no (fun i hi => by
    rw [List.length_drop, hl] at hi
    rw [mi_drop]
    rcases (show i = 0 ∨ i = 1 ∨ i = 2 by omega) with rfl | rfl | rfl
    · exact h4
    · exact h5
    · exact h6)
  unfold isU
  rw [h, h1, h2, h3, this]; rfl
/-- The block that holds just these cells. -/
theorem row_is {w : World} {b : Nat} {cs : List Value} {cur : Array Value} {t : TypeId} (h : w.rangeAt b 0 cs) (hb : w.heap[b]? = some (.cells cur t (0, 0))) (hl : cur.size = cs.length) : cur.toList = cs := by
  apply List.ext_getElem?
  intro j
  by_cases hj : j < cs.length
  · have := h j cs[j] (List.getElem?_eq_getElem hj)
    rw [Nat.zero_add, cell_of_row w b j cur t _ hb] at this
    rw [Array.getElem?_toList, this, List.getElem?_eq_getElem hj]
  · rw [List.getElem?_eq_none (by rw [Array.length_toList, hl]; omega), List.getElem?_eq_none (by omega)]
theorem heap_setCells_same {g : Nat} {t : TypeId} : ∀ (vs : List Value) (o : Nat) (w : World) (cs : Array Value), w.heap[g]? = some (.cells cs t (0, 0)) → ∃ cs', (w.setCells g o vs).heap[g]? = some (.cells cs' t (0, 0)) ∧ cs'.size = cs.size
  | [], _, _, cs, h => ⟨cs, h, rfl⟩
  | v :: r, o, w, cs, h => by
    rw [World.setCells]
    have h1 : (w.setCell ⟨g, o, none⟩ v).heap[g]? = some (.cells (cs.setIfInBounds o v) t (0, 0)) := by
      have hlt : g < w.heap.size := (Array.getElem?_eq_some_iff.1 h).1
      simp [World.setCell, Array.getElem?_modify, h]
    obtain ⟨cs', h2, h3⟩ := heap_setCells_same r (o + 1) _ _ h1
    exact ⟨cs', h2, by rw [h3]; simp⟩
/-- The root's own row. -/
def RowR (w : World) (b : Nat) (cs : List Value) : Prop := ∃ cur, w.heap[b]? = some (.cells cur 26 (0, 0)) ∧ cur.size = 163 ∧ cur.toList = cs
theorem RowR.range {w : World} {b : Nat} {cs : List Value} (h : RowR w b cs) : w.rangeAt b 0 cs := by
  obtain ⟨cur, h1, h2, h3⟩ := h
  intro j u hu
  rw [Nat.zero_add, cell_of_row w b j cur _ _ h1, ← Array.getElem?_toList, h3]; exact hu
theorem RowR.there {w : World} {b : Nat} {cs : List Value} (h : RowR w b cs) : w.there b 0 163 := by
  obtain ⟨cur, h1, h2, h3⟩ := h
  exact there_of_rowW1 h1 0 163 (by omega)
theorem RowR.keep {w w' : World} {b : Nat} {cs : List Value} (h : RowR w b cs) (k : w'.heap[b]? = w.heap[b]?) : RowR w' b cs := by
  obtain ⟨cur, h1, h2, h3⟩ := h
  exact ⟨cur, k.trans h1, h2, h3⟩
theorem RowR.lt {w : World} {b : Nat} {cs : List Value} (h : RowR w b cs) : b < w.heap.size := by
  obtain ⟨cur, h1, h2, h3⟩ := h
  exact (Array.getElem?_eq_some_iff.1 h1).1
theorem RowR.put {w : World} {b : Nat} {cs ds : List Value} (h : RowR w b cs) (hd : ds.length = 163) : RowR (w.setCells b 0 ds) b ds := by
  have ht := h.there
  obtain ⟨cur, h1, h2, h3⟩ := h
  obtain ⟨cs', g1, g2⟩ := heap_setCells_same ds 0 w cur h1
  exact ⟨cs', g1, by rw [g2, h2], row_is (World.rangeAt_setCells_same w b 0 ds (by rw [hd]; exact ht)) g1 (by rw [g2, h2, hd])⟩
theorem RowR.new (w : World) : RowR (w.alloc (.cells z163.toArray 26)) w.heap.size z163 :=
  ⟨z163.toArray, by rw [World.alloc]; simp only [Array.getElem?_push, if_true], by rw [List.size_toArray, z163_length], by simp⟩
def cΩ (w : World) (b7 fb fo sb so sc : Nat) (A B sg : List Value) : Nat → (Nat → Value) → World → Prop
  | 0, _, W => RowR W b7 A ∧ W.cell? ⟨fb, fo + 2, none⟩ = some (.slice (some ⟨sb, so, none⟩) 64 sc) ∧ W.rangeAt sb so sg ∧ Below w.heap.size w W ∧ W.there w.heap.size 0 163
  | _, _, W => RowR W b7 B ∧ Below w.heap.size w W ∧ W.there w.heap.size 0 163
theorem ev_set {a : Act} {i j : Nat} {u v : Value} {df : List Deferred} (hne : (j == i) = false) (h : a.eval (.tmp i) = u) : Act.eval ⟨a.tmps.setIfInBounds j v, df⟩ (.tmp i) = u := by
  have hne' : j ≠ i := by simpa using hne
  simp only [Act.eval, Array.getD_eq_getD_getElem?] at h ⊢
  rw [Array.getElem?_setIfInBounds_ne hne']; exact h
theorem ev_same {a : Act} {j n : Nat} {v : Value} {df : List Deferred} (hs : a.tmps.size = n) (hj : j < n) : Act.eval ⟨a.tmps.setIfInBounds j v, df⟩ (.tmp j) = v := by
  have : j < a.tmps.size := by omega
  simp [Act.eval, this]
def cf (b7 fb fo cap sb so sc : Nat) : Nat → Value
  | 0 => .pointer (some ⟨b7, 99, none⟩)
  | 1 => .slice (some ⟨b7, 99, none⟩) 64 64
  | 2 => .slice (some ⟨fb, fo, none⟩) 3 cap
  | 3 => .pointer (some ⟨fb, fo + 2, none⟩)
  | 4 => .slice (some ⟨sb, so, none⟩) 64 sc
  | _ => undef
set_option maxHeartbeats 8000000 in
theorem rdecodeRoot_any (xs : List Int) (v : Value) (w : World) (hb : Byt xs) (hs : Sl w v xs) (hl : xs.length ≤ 140737488355328) :
    Calls Try.prog 34 #[v] w fun e w' => e = .returned (.tuple #[.agg (drA xs).toArray, .int .i64 (drE xs)]) ∧ Below w.heap.size w w' := by
  have HS : Hid (Sl w v xs) := hs
  have HB : Hid (Byt xs) := hb
  clear hb hs
  have hz := zero_root
  have hz32 := zero_h32
  go_enter Try.func34, Try.ntmps34
  go_wp2_with fail
  generalize hW : w.alloc _ = w0
  have H0 := root_start hW
  clear hW
  refine (parts_any xs signS 2 3 (by decide) v w0 HB.out (HS.out.below H0.out.2.1 (Nat.le_refl _)) hl (by omega) (by omega)).mono ?_
  rintro e w1 ⟨⟨v1, rfl, h1⟩, h3⟩
  have HS0 : Hid (w0.heap.size = w.heap.size + 1) := H0.out.2.2
  have H3 : Hid (Below w.heap.size w w1 ∧ w1.there w.heap.size 0 163) := ⟨H0.out.2.1.trans (h3.mono (by have := H0.out.2.2; omega)), there_below H0.out.1 (by have := H0.out.2.2; rw [this] at h3; exact h3)⟩
  have HS1 : Hid (w.heap.size + 1 ≤ w1.heap.size) := by have := h3.size; rw [HS0.out] at this; exact this
  have HL1 : Hid (LL w1 v1 (decL xs)) := h1
  clear h3 H0 h1
  cases hF : hasF xs signS 2 with
  | false =>
    have HU : Hid (isR xs = false) := isR_of_no (fun h _ _ => by rw [hF] at h; cases h)
    go_wp2_with (refine wpList_store_mid rfl 26 _ _ rfl w.heap.size 0 z163.toArray rfl rfl (HT1 _ H3.out.2) root_size' z163_one ?_)
    refine bodyPost_ret (v := .tuple #[.agg z163.toArray, .int .i64 2]) ?_ rfl ⟨by unfold drA drE; rw [HU.out], below_setCellsW _ (Nat.le_refl _) _ _ _ H3.out.1⟩
    have q := World.rangeAt_setCells_same _ w.heap.size 0 z163 (HT1 _ H3.out.2)
    simp only [results, Try.results34]
    simp [asAddr, run_loadVar_mid _ w.heap.size 0 26 z163 _ q Try.underlying26 rfl (by rw [z163_length]; exact root_size)]
  | true =>
    have hlen : (decL xs).length = 3 := by
      unfold hasF at hF
      simp only [Bool.and_eq_true, decide_eq_true_eq] at hF
      exact hF.2.1
    obtain ⟨fb, fo, cap, hv, hcap, hlt, hm⟩ := HL1.out.at' (by omega)
    rw [hlen] at hv hcap hm
    subst hv
    obtain ⟨u1, k1, s1⟩ := hm 1 (by omega)
    obtain ⟨u2, k2, s2⟩ := hm 2 (by omega)
    have S1 : Hid (Sl w1 u1 (mi (decL xs) 1)) := s1
    have HF : Hid (hasF xs signS 2 = true) := hF
    clear hm s1 hF hlen
    obtain ⟨ad, c2, hu2, hc2, hx2⟩ := s2
    subst hu2
    have HX2 : Hid _ := hx2
    clear hx2
    by_cases h64 : (mi (decL xs) 2).length = 64
    · rw [h64] at k2 hc2
      have H64 : Hid ((mi (decL xs) 2).length = 64) := h64
      clear h64
      obtain ⟨sb, so, rfl, hslt, hsm⟩ : ∃ sb so, ad = some ⟨sb, so, none⟩ ∧ sb < w1.heap.size ∧ w1.rangeAt sb so (bv (mi (decL xs) 2)) := by
        rcases HX2.out with ⟨he, _⟩ | ⟨sb, so, he, hs2, hm2⟩
        · have := H64.out; rw [he] at this; simp at this
        · refine ⟨sb, so, he, hs2, fun j q hq => ?_⟩
          have hj : j < (mi (decL xs) 2).length := by have := (List.getElem?_eq_some_iff.1 hq).1; rwa [bv_length] at this
          rw [bv_get _ hj] at hq
          rw [hm2 j hj]; exact hq
      have HSM : Hid (w1.rangeAt sb so (bv (mi (decL xs) 2)) ∧ sb < w1.heap.size) := ⟨hsm, hslt⟩
      have HK2 : Hid (w1.cell? ⟨fb, fo + 2, none⟩ = some (.slice (some ⟨sb, so, none⟩) 64 c2) ∧ fb < w1.heap.size) := ⟨k2, hlt⟩
      clear hsm hslt
      have HBy : Hid (Byt (mi (decL xs) 1)) := (decL_mi HB.out 1).1
      go_wp2_with fail
      refine (parts_any (mi (decL xs) 1) rootS 6 7 (by decide) u1 w1 HBy.out S1.out (decL_le HB.out 1) (by omega) (by omega)).mono ?_
      rintro e w2 ⟨⟨v2, rfl, h4⟩, h6⟩
      have H6 : Hid (Below w1.heap.size w1 w2) := h6
      have H7 : Hid (Below w.heap.size w w2 ∧ w2.there w.heap.size 0 163) := ⟨H3.out.1.trans (H6.out.mono (by have := HS1.out; omega)), there_below H3.out.2 (H6.out.mono HS1.out)⟩
      have HL2 : Hid (LL w2 v2 (decL (mi (decL xs) 1))) := h4
      have HYD : Hid (∃ q, mi (decL xs) 1 = q) := ⟨_, rfl⟩
      clear h4 h6 k1 k2
      generalize hy : mi (decL xs) 1 = y at HBy HL2 S1
      have HY : Hid (mi (decL xs) 1 = y) := hy
      clear hy HYD
      cases hG : hasF y rootS 6 with
      | false =>
        have HU : Hid (isR xs = false) := isR_of_no (fun _ _ h => by rw [HY.out] at h; rw [(isU_parts h).1] at hG; cases hG)
        go_wp2_with (refine wpList_store_mid rfl 26 _ _ rfl w.heap.size 0 z163.toArray rfl rfl (HT1 _ H7.out.2) root_size' z163_one ?_)
        refine bodyPost_ret (v := .tuple #[.agg z163.toArray, .int .i64 2]) ?_ rfl ⟨by unfold drA drE; rw [HU.out], below_setCellsW _ (Nat.le_refl _) _ _ _ H7.out.1⟩
        have q := World.rangeAt_setCells_same _ w.heap.size 0 z163 (HT1 _ H7.out.2)
        simp only [results, Try.results34]
        simp [asAddr, run_loadVar_mid _ w.heap.size 0 26 z163 _ q Try.underlying26 rfl (by rw [z163_length]; exact root_size)]
      | true =>
        have hlen : (decL y).length = 7 := by
          unfold hasF at hG
          simp only [Bool.and_eq_true, decide_eq_true_eq] at hG
          exact hG.2.1
        obtain ⟨gb, go, gcap, hv, hgcap, glt, hm⟩ := HL2.out.at' (by omega)
        rw [hlen] at hv hgcap hm
        subst hv
        have HG : Hid (hasF y rootS 6 = true) := hG
        obtain ⟨m1, c1', x1⟩ := hm 1 (by omega)
        obtain ⟨m2, c2', x2⟩ := hm 2 (by omega)
        obtain ⟨m3, c3', x3⟩ := hm 3 (by omega)
        obtain ⟨m4, c4', x4⟩ := hm 4 (by omega)
        obtain ⟨m5, c5', x5⟩ := hm 5 (by omega)
        obtain ⟨m6, c6', x6⟩ := hm 6 (by omega)
        have M4 : Hid (Sl w2 m4 (mi (decL y) 4)) := x4
        have M5 : Hid (Sl w2 m5 (mi (decL y) 5)) := x5
        have M6 : Hid (Sl w2 m6 (mi (decL y) 6)) := x6
        have B7 : Below w2.heap.size w2 (w2.alloc (.cells z163.toArray 26)) := (Below.refl _ _).alloc (Nat.le_refl _) _
        have HB3 : Hid (Below w2.heap.size w2 (w2.alloc (.cells z163.toArray 26))) := B7
        have M1 : Hid (Sl (w2.alloc (.cells z163.toArray 26)) m1 (mi (decL y) 1)) := x1.below B7 (Nat.le_refl _)
        have M2 : Hid (Sl (w2.alloc (.cells z163.toArray 26)) m2 (mi (decL y) 2)) := x2.below B7 (Nat.le_refl _)
        have M3 : Hid (Sl (w2.alloc (.cells z163.toArray 26)) m3 (mi (decL y) 3)) := x3.below B7 (Nat.le_refl _)
        have HR7 : Hid (RowR (w2.alloc (.cells z163.toArray 26)) w2.heap.size z163) := RowR.new w2
        have k1 := (B7.cell (p := ⟨gb, go + 1, none⟩) glt).trans c1'
        have k2 := (B7.cell (p := ⟨gb, go + 2, none⟩) glt).trans c2'
        have k3 := (B7.cell (p := ⟨gb, go + 3, none⟩) glt).trans c3'
        have k4 := (B7.cell (p := ⟨gb, go + 4, none⟩) glt).trans c4'
        have T3 : Hid (RowR (w2.alloc (.cells z163.toArray 26)) w2.heap.size z163) := HR7.out
        have c5 : Hid (w2.cell? ⟨gb, go + 5, none⟩ = some m5) := c5'
        have c6 : Hid (w2.cell? ⟨gb, go + 6, none⟩ = some m6) := c6'
        clear hm x1 x2 x3 x4 x5 x6 c1' c2' c3' c4' c5' c6' B7 hG hlen
        go_wp2_with fail
        generalize hW3 : w2.alloc _ = W3 at HB3 M1 M2 M3 T3 HR7 k1 k2 k3 k4 ⊢
        clear hW3
        refine (rreadNum_any (mi (decL y) 1) m1 W3 (decL_mi HBy.out 1).1 M1.out (decL_le HBy.out 1)).mono ?_
        rintro e w' ⟨rfl, rfl⟩
        obtain ⟨n1, hn⟩ : ∃ n, rnVal (mi (decL y) 1) = n := ⟨_, rfl⟩
        obtain ⟨e1, he⟩ : ∃ n, rnErr (mi (decL y) 1) = n := ⟨_, rfl⟩
        rw [hn, he]
        have N1 : Hid (rnVal (mi (decL y) 1) = n1 ∧ rnErr (mi (decL y) 1) = e1) := ⟨hn, he⟩
        clear hn he
        go_wp2_with fail
        refine (rreadNum_any (mi (decL y) 2) m2 _ (decL_mi HBy.out 2).1 M2.out (decL_le HBy.out 2)).mono ?_
        rintro e w' ⟨rfl, rfl⟩
        obtain ⟨n2, hn⟩ : ∃ n, rnVal (mi (decL y) 2) = n := ⟨_, rfl⟩
        obtain ⟨e2, he⟩ : ∃ n, rnErr (mi (decL y) 2) = n := ⟨_, rfl⟩
        rw [hn, he]
        have N2 : Hid (rnVal (mi (decL y) 2) = n2 ∧ rnErr (mi (decL y) 2) = e2) := ⟨hn, he⟩
        clear hn he
        go_wp2_with fail
        refine (rreadNum_any (mi (decL y) 3) m3 _ (decL_mi HBy.out 3).1 M3.out (decL_le HBy.out 3)).mono ?_
        rintro e w' ⟨rfl, rfl⟩
        obtain ⟨n3, hn⟩ : ∃ n, rnVal (mi (decL y) 3) = n := ⟨_, rfl⟩
        obtain ⟨e3, he⟩ : ∃ n, rnErr (mi (decL y) 3) = n := ⟨_, rfl⟩
        rw [hn, he]
        have N3 : Hid (rnVal (mi (decL y) 3) = n3 ∧ rnErr (mi (decL y) 3) = e3) := ⟨hn, he⟩
        clear hn he
        go_wp2_with fail
        refine (rhash_into (mi (decL y) 4) m4 _ (M4.out.below HB3.out (Nat.le_refl _)) (decL_le HBy.out 4)).mono ?_
        rintro e v4 ⟨rfl, hv⟩
        have B4' : Hid (Below w2.heap.size w2 v4) := HB3.out.trans (hv.mono HB3.out.size)
        obtain ⟨q4, hq⟩ : ∃ q : Bool, ((((mi (decL y) 4).length : Nat) : Int) == 32) = q := ⟨_, rfl⟩
        rw [hq]
        have Q4 : Hid (((((mi (decL y) 4).length : Nat) : Int) == 32) = q4) := hq
        clear hq
        go_wp2_with (refine wpList_store_mid rfl 23 _ _ rfl v4.heap.size 0 (into32 (mi (decL y) 4)).toArray rfl rfl (row32_there v4 _) (row32_size _) (into32_one _) ?_; generalize hW : World.setCells _ _ _ _ = W4; have L4 := row32_laid hW; clear hW; have HB4 : Hid (Below w2.heap.size w2 W4) := B4'.out.trans (L4.out.1.mono B4'.out.size); have T4 : Hid (RowR W4 w2.heap.size z163) := (T3.out.keep (hv.block _ T3.out.lt)).keep (L4.out.1.block _ (Nat.lt_of_lt_of_le T3.out.lt hv.size)); generalize hb : v4.heap.size = b4 at L4 ⊢; have R4_4 : Hid (W4.rangeAt b4 0 (into32 (mi (decL y) 4)) ∧ b4 < W4.heap.size) := L4.out.2; have X4 : Hid (w2.heap.size ≤ b4) := (by rw [← hb]; exact B4'.out.size : w2.heap.size ≤ b4); clear hb; have k5 := (HB4.out.cell (p := ⟨gb, go + 5, none⟩) glt).trans c5.out)
        clear hv
        refine (rhash_into (mi (decL y) 5) m5 _ (M5.out.below HB4.out (Nat.le_refl _)) (decL_le HBy.out 5)).mono ?_
        rintro e v5 ⟨rfl, hv⟩
        have B5' : Hid (Below w2.heap.size w2 v5) := HB4.out.trans (hv.mono HB4.out.size)
        obtain ⟨q5, hq⟩ : ∃ q : Bool, ((((mi (decL y) 5).length : Nat) : Int) == 32) = q := ⟨_, rfl⟩
        rw [hq]
        have Q5 : Hid (((((mi (decL y) 5).length : Nat) : Int) == 32) = q5) := hq
        clear hq
        go_wp2_with (refine wpList_store_mid rfl 23 _ _ rfl v5.heap.size 0 (into32 (mi (decL y) 5)).toArray rfl rfl (row32_there v5 _) (row32_size _) (into32_one _) ?_; generalize hW : World.setCells _ _ _ _ = W5; have L5 := row32_laid hW; clear hW; have HB5 : Hid (Below w2.heap.size w2 W5) := B5'.out.trans (L5.out.1.mono B5'.out.size); have R4_5 : Hid (W5.rangeAt b4 0 (into32 (mi (decL y) 4)) ∧ b4 < W5.heap.size) := ⟨range_belowW (range_belowW R4_4.out.1 R4_4.out.2 hv) (Nat.lt_of_lt_of_le R4_4.out.2 hv.size) L5.out.1, Nat.lt_of_lt_of_le (Nat.lt_of_lt_of_le R4_4.out.2 hv.size) L5.out.1.size⟩; have T5 : Hid (RowR W5 w2.heap.size z163) := (T4.out.keep (hv.block _ T4.out.lt)).keep (L5.out.1.block _ (Nat.lt_of_lt_of_le T4.out.lt hv.size)); generalize hb : v5.heap.size = b5 at L5 ⊢; have R5_5 : Hid (W5.rangeAt b5 0 (into32 (mi (decL y) 5)) ∧ b5 < W5.heap.size) := L5.out.2; have X5 : Hid (w2.heap.size ≤ b5) := (by rw [← hb]; exact B5'.out.size : w2.heap.size ≤ b5); clear hb; have k6 := (HB5.out.cell (p := ⟨gb, go + 6, none⟩) glt).trans c6.out)
        clear hv
        refine (rhash_into (mi (decL y) 6) m6 _ (M6.out.below HB5.out (Nat.le_refl _)) (decL_le HBy.out 6)).mono ?_
        rintro e v6 ⟨rfl, hv⟩
        have B6' : Hid (Below w2.heap.size w2 v6) := HB5.out.trans (hv.mono HB5.out.size)
        obtain ⟨q6, hq⟩ : ∃ q : Bool, ((((mi (decL y) 6).length : Nat) : Int) == 32) = q := ⟨_, rfl⟩
        rw [hq]
        have Q6 : Hid (((((mi (decL y) 6).length : Nat) : Int) == 32) = q6) := hq
        clear hq
        by_cases z1 : e1 = 0
        · subst z1
          by_cases z2 : e2 = 0
          · subst z2
            by_cases z3 : e3 = 0
            · subst z3
              cases q4 with
              | false =>
                have HU : Hid (isR xs = false) := isR_of_no (fun _ _ h => by rw [HY.out] at h; have := Q4.out; rw [eq32.2 (isU_lens h).1] at this; cases this)
                go_wp2_with (first
                  | (refine wpList_store_mid rfl 23 _ _ rfl v6.heap.size 0 (into32 (mi (decL y) 6)).toArray rfl rfl (row32_there v6 _) (row32_size _) (into32_one _) ?_; generalize hW : World.setCells _ _ _ _ = W6; have L6 := row32_laid hW; clear hW; have HB6 : Hid (Below w2.heap.size w2 W6) := B6'.out.trans (L6.out.1.mono B6'.out.size); have R4_6 : Hid (W6.rangeAt b4 0 (into32 (mi (decL y) 4)) ∧ b4 < W6.heap.size) := ⟨range_belowW (range_belowW R4_5.out.1 R4_5.out.2 hv) (Nat.lt_of_lt_of_le R4_5.out.2 hv.size) L6.out.1, Nat.lt_of_lt_of_le (Nat.lt_of_lt_of_le R4_5.out.2 hv.size) L6.out.1.size⟩; have R5_6 : Hid (W6.rangeAt b5 0 (into32 (mi (decL y) 5)) ∧ b5 < W6.heap.size) := ⟨range_belowW (range_belowW R5_5.out.1 R5_5.out.2 hv) (Nat.lt_of_lt_of_le R5_5.out.2 hv.size) L6.out.1, Nat.lt_of_lt_of_le (Nat.lt_of_lt_of_le R5_5.out.2 hv.size) L6.out.1.size⟩; have T6 : Hid (RowR W6 w2.heap.size z163) := (T5.out.keep (hv.block _ T5.out.lt)).keep (L6.out.1.block _ (Nat.lt_of_lt_of_le T5.out.lt hv.size)); generalize hb : v6.heap.size = b6 at L6 ⊢; have R6_6 : Hid (W6.rangeAt b6 0 (into32 (mi (decL y) 6)) ∧ b6 < W6.heap.size) := L6.out.2; have X6 : Hid (w2.heap.size ≤ b6) := (by rw [← hb]; exact B6'.out.size : w2.heap.size ≤ b6); clear hb; have HW6 : Hid (Below w.heap.size w W6 ∧ W6.there w.heap.size 0 163) := ⟨H7.out.1.trans (HB6.out.mono H7.out.1.size), there_below H7.out.2 (HB6.out.mono (Nat.le_trans HS1.out H6.out.size))⟩; have H12 : Hid (Below w1.heap.size w1 W6) := H6.out.trans (HB6.out.mono H6.out.size); have S6 : Hid (W6.rangeAt sb so (bv (mi (decL xs) 2)) ∧ sb < w2.heap.size) := ⟨range_belowW HSM.out.1 HSM.out.2 H12.out, Nat.lt_of_lt_of_le HSM.out.2 H6.out.size⟩; have K6 : Hid (W6.cell? ⟨fb, fo + 2, none⟩ = some (.slice (some ⟨sb, so, none⟩) 64 c2) ∧ fb < w2.heap.size) := ⟨(H12.out.cell (p := ⟨fb, fo + 2, none⟩) HK2.out.2).trans HK2.out.1, Nat.lt_of_lt_of_le HK2.out.2 H6.out.size⟩)
                  | (refine wpList_store_mid rfl 26 _ _ rfl w.heap.size 0 z163.toArray rfl rfl (HT1 _ HW6.out.2) root_size' z163_one ?_))
                refine bodyPost_ret (v := .tuple #[.agg z163.toArray, .int .i64 2]) ?_ rfl ⟨by unfold drA drE; rw [HU.out], below_setCellsW _ (Nat.le_refl _) _ _ _ HW6.out.1⟩
                have q := World.rangeAt_setCells_same _ w.heap.size 0 z163 (HT1 _ HW6.out.2)
                simp only [results, Try.results34]
                simp [asAddr, run_loadVar_mid _ w.heap.size 0 26 z163 _ q Try.underlying26 rfl (by rw [z163_length]; exact root_size)]
              | true =>
                cases q5 with
                | false =>
                  have HU : Hid (isR xs = false) := isR_of_no (fun _ _ h => by rw [HY.out] at h; have := Q5.out; rw [eq32.2 (isU_lens h).2.1] at this; cases this)
                  go_wp2_with (first
                    | (refine wpList_store_mid rfl 23 _ _ rfl v6.heap.size 0 (into32 (mi (decL y) 6)).toArray rfl rfl (row32_there v6 _) (row32_size _) (into32_one _) ?_; generalize hW : World.setCells _ _ _ _ = W6; have L6 := row32_laid hW; clear hW; have HB6 : Hid (Below w2.heap.size w2 W6) := B6'.out.trans (L6.out.1.mono B6'.out.size); have R4_6 : Hid (W6.rangeAt b4 0 (into32 (mi (decL y) 4)) ∧ b4 < W6.heap.size) := ⟨range_belowW (range_belowW R4_5.out.1 R4_5.out.2 hv) (Nat.lt_of_lt_of_le R4_5.out.2 hv.size) L6.out.1, Nat.lt_of_lt_of_le (Nat.lt_of_lt_of_le R4_5.out.2 hv.size) L6.out.1.size⟩; have R5_6 : Hid (W6.rangeAt b5 0 (into32 (mi (decL y) 5)) ∧ b5 < W6.heap.size) := ⟨range_belowW (range_belowW R5_5.out.1 R5_5.out.2 hv) (Nat.lt_of_lt_of_le R5_5.out.2 hv.size) L6.out.1, Nat.lt_of_lt_of_le (Nat.lt_of_lt_of_le R5_5.out.2 hv.size) L6.out.1.size⟩; have T6 : Hid (RowR W6 w2.heap.size z163) := (T5.out.keep (hv.block _ T5.out.lt)).keep (L6.out.1.block _ (Nat.lt_of_lt_of_le T5.out.lt hv.size)); generalize hb : v6.heap.size = b6 at L6 ⊢; have R6_6 : Hid (W6.rangeAt b6 0 (into32 (mi (decL y) 6)) ∧ b6 < W6.heap.size) := L6.out.2; have X6 : Hid (w2.heap.size ≤ b6) := (by rw [← hb]; exact B6'.out.size : w2.heap.size ≤ b6); clear hb; have HW6 : Hid (Below w.heap.size w W6 ∧ W6.there w.heap.size 0 163) := ⟨H7.out.1.trans (HB6.out.mono H7.out.1.size), there_below H7.out.2 (HB6.out.mono (Nat.le_trans HS1.out H6.out.size))⟩; have H12 : Hid (Below w1.heap.size w1 W6) := H6.out.trans (HB6.out.mono H6.out.size); have S6 : Hid (W6.rangeAt sb so (bv (mi (decL xs) 2)) ∧ sb < w2.heap.size) := ⟨range_belowW HSM.out.1 HSM.out.2 H12.out, Nat.lt_of_lt_of_le HSM.out.2 H6.out.size⟩; have K6 : Hid (W6.cell? ⟨fb, fo + 2, none⟩ = some (.slice (some ⟨sb, so, none⟩) 64 c2) ∧ fb < w2.heap.size) := ⟨(H12.out.cell (p := ⟨fb, fo + 2, none⟩) HK2.out.2).trans HK2.out.1, Nat.lt_of_lt_of_le HK2.out.2 H6.out.size⟩)
                    | (refine wpList_store_mid rfl 26 _ _ rfl w.heap.size 0 z163.toArray rfl rfl (HT1 _ HW6.out.2) root_size' z163_one ?_))
                  refine bodyPost_ret (v := .tuple #[.agg z163.toArray, .int .i64 2]) ?_ rfl ⟨by unfold drA drE; rw [HU.out], below_setCellsW _ (Nat.le_refl _) _ _ _ HW6.out.1⟩
                  have q := World.rangeAt_setCells_same _ w.heap.size 0 z163 (HT1 _ HW6.out.2)
                  simp only [results, Try.results34]
                  simp [asAddr, run_loadVar_mid _ w.heap.size 0 26 z163 _ q Try.underlying26 rfl (by rw [z163_length]; exact root_size)]
                | true =>
                  cases q6 with
                  | false =>
                    have HU : Hid (isR xs = false) := isR_of_no (fun _ _ h => by rw [HY.out] at h; have := Q6.out; rw [eq32.2 (isU_lens h).2.2] at this; cases this)
                    go_wp2_with (first
                      | (refine wpList_store_mid rfl 23 _ _ rfl v6.heap.size 0 (into32 (mi (decL y) 6)).toArray rfl rfl (row32_there v6 _) (row32_size _) (into32_one _) ?_; generalize hW : World.setCells _ _ _ _ = W6; have L6 := row32_laid hW; clear hW; have HB6 : Hid (Below w2.heap.size w2 W6) := B6'.out.trans (L6.out.1.mono B6'.out.size); have R4_6 : Hid (W6.rangeAt b4 0 (into32 (mi (decL y) 4)) ∧ b4 < W6.heap.size) := ⟨range_belowW (range_belowW R4_5.out.1 R4_5.out.2 hv) (Nat.lt_of_lt_of_le R4_5.out.2 hv.size) L6.out.1, Nat.lt_of_lt_of_le (Nat.lt_of_lt_of_le R4_5.out.2 hv.size) L6.out.1.size⟩; have R5_6 : Hid (W6.rangeAt b5 0 (into32 (mi (decL y) 5)) ∧ b5 < W6.heap.size) := ⟨range_belowW (range_belowW R5_5.out.1 R5_5.out.2 hv) (Nat.lt_of_lt_of_le R5_5.out.2 hv.size) L6.out.1, Nat.lt_of_lt_of_le (Nat.lt_of_lt_of_le R5_5.out.2 hv.size) L6.out.1.size⟩; have T6 : Hid (RowR W6 w2.heap.size z163) := (T5.out.keep (hv.block _ T5.out.lt)).keep (L6.out.1.block _ (Nat.lt_of_lt_of_le T5.out.lt hv.size)); generalize hb : v6.heap.size = b6 at L6 ⊢; have R6_6 : Hid (W6.rangeAt b6 0 (into32 (mi (decL y) 6)) ∧ b6 < W6.heap.size) := L6.out.2; have X6 : Hid (w2.heap.size ≤ b6) := (by rw [← hb]; exact B6'.out.size : w2.heap.size ≤ b6); clear hb; have HW6 : Hid (Below w.heap.size w W6 ∧ W6.there w.heap.size 0 163) := ⟨H7.out.1.trans (HB6.out.mono H7.out.1.size), there_below H7.out.2 (HB6.out.mono (Nat.le_trans HS1.out H6.out.size))⟩; have H12 : Hid (Below w1.heap.size w1 W6) := H6.out.trans (HB6.out.mono H6.out.size); have S6 : Hid (W6.rangeAt sb so (bv (mi (decL xs) 2)) ∧ sb < w2.heap.size) := ⟨range_belowW HSM.out.1 HSM.out.2 H12.out, Nat.lt_of_lt_of_le HSM.out.2 H6.out.size⟩; have K6 : Hid (W6.cell? ⟨fb, fo + 2, none⟩ = some (.slice (some ⟨sb, so, none⟩) 64 c2) ∧ fb < w2.heap.size) := ⟨(H12.out.cell (p := ⟨fb, fo + 2, none⟩) HK2.out.2).trans HK2.out.1, Nat.lt_of_lt_of_le HK2.out.2 H6.out.size⟩)
                      | (refine wpList_store_mid rfl 26 _ _ rfl w.heap.size 0 z163.toArray rfl rfl (HT1 _ HW6.out.2) root_size' z163_one ?_))
                    refine bodyPost_ret (v := .tuple #[.agg z163.toArray, .int .i64 2]) ?_ rfl ⟨by unfold drA drE; rw [HU.out], below_setCellsW _ (Nat.le_refl _) _ _ _ HW6.out.1⟩
                    have q := World.rangeAt_setCells_same _ w.heap.size 0 z163 (HT1 _ HW6.out.2)
                    simp only [results, Try.results34]
                    simp [asAddr, run_loadVar_mid _ w.heap.size 0 26 z163 _ q Try.underlying26 rfl (by rw [z163_length]; exact root_size)]
                  | true =>
                    have L4' : (mi (decL y) 4).length = 32 := eq32.1 Q4.out
                    have L5' : (mi (decL y) 5).length = 32 := eq32.1 Q5.out
                    have L6' : (mi (decL y) 6).length = 32 := eq32.1 Q6.out
                    have HUU : Hid (isU y = true) := isU_all HG.out N1.out.2 N2.out.2 N3.out.2 L4' L5' L6'
                    have HUX : Hid (isU (mi (decL xs) 1) = true) := by rw [HY.out]; exact HUU
                    have HU : Hid (isR xs = true) := by show isR xs = true; unfold isR; rw [HF.out, H64.out, HUX.out]; rfl
                    have HUL : Hid ((uRt y).cells.length = 163) := uRt_cells HUU.out
                    have HDL : Hid ((dRt xs).cells.length = 163) := dRt_cells HUX.out H64.out
                    have HBU : Hid (Try.prog.built 26 [(0, .int .u64 n1), (1, .int .u64 n2), (2, .int .u64 n3), (3, .agg (bv (mi (decL y) 4)).toArray), (4, .agg (bv (mi (decL y) 5)).toArray), (5, .agg (bv (mi (decL y) 6)).toArray)] = some (uRt y).cells.toArray) := by
                      rw [built_root n1 n2 n3 _ _ _ L4' L5' L6', ← N1.out.1, ← N2.out.1, ← N3.out.1]; rfl
                    have G4 : Hid ((bv (mi (decL y) 4)).length = 32) := (by rw [bv_length]; exact L4' : (bv (mi (decL y) 4)).length = 32)
                    have G5 : Hid ((bv (mi (decL y) 5)).length = 32) := (by rw [bv_length]; exact L5' : (bv (mi (decL y) 5)).length = 32)
                    have G6 : Hid ((bv (mi (decL y) 6)).length = 32) := (by rw [bv_length]; exact L6' : (bv (mi (decL y) 6)).length = 32)
                    clear L4' L5' L6'
                    go_wp2_with (first
                      | (refine wpList_store_mid rfl 23 _ _ rfl v6.heap.size 0 (into32 (mi (decL y) 6)).toArray rfl rfl (row32_there v6 _) (row32_size _) (into32_one _) ?_; generalize hW : World.setCells _ _ _ _ = W6; have L6 := row32_laid hW; clear hW; have HB6 : Hid (Below w2.heap.size w2 W6) := B6'.out.trans (L6.out.1.mono B6'.out.size); have R4_6 : Hid (W6.rangeAt b4 0 (into32 (mi (decL y) 4)) ∧ b4 < W6.heap.size) := ⟨range_belowW (range_belowW R4_5.out.1 R4_5.out.2 hv) (Nat.lt_of_lt_of_le R4_5.out.2 hv.size) L6.out.1, Nat.lt_of_lt_of_le (Nat.lt_of_lt_of_le R4_5.out.2 hv.size) L6.out.1.size⟩; have R5_6 : Hid (W6.rangeAt b5 0 (into32 (mi (decL y) 5)) ∧ b5 < W6.heap.size) := ⟨range_belowW (range_belowW R5_5.out.1 R5_5.out.2 hv) (Nat.lt_of_lt_of_le R5_5.out.2 hv.size) L6.out.1, Nat.lt_of_lt_of_le (Nat.lt_of_lt_of_le R5_5.out.2 hv.size) L6.out.1.size⟩; have T6 : Hid (RowR W6 w2.heap.size z163) := (T5.out.keep (hv.block _ T5.out.lt)).keep (L6.out.1.block _ (Nat.lt_of_lt_of_le T5.out.lt hv.size)); generalize hb : v6.heap.size = b6 at L6 ⊢; have R6_6 : Hid (W6.rangeAt b6 0 (into32 (mi (decL y) 6)) ∧ b6 < W6.heap.size) := L6.out.2; have X6 : Hid (w2.heap.size ≤ b6) := (by rw [← hb]; exact B6'.out.size : w2.heap.size ≤ b6); clear hb; have HW6 : Hid (Below w.heap.size w W6 ∧ W6.there w.heap.size 0 163) := ⟨H7.out.1.trans (HB6.out.mono H7.out.1.size), there_below H7.out.2 (HB6.out.mono (Nat.le_trans HS1.out H6.out.size))⟩; have H12 : Hid (Below w1.heap.size w1 W6) := H6.out.trans (HB6.out.mono H6.out.size); have S6 : Hid (W6.rangeAt sb so (bv (mi (decL xs) 2)) ∧ sb < w2.heap.size) := ⟨range_belowW HSM.out.1 HSM.out.2 H12.out, Nat.lt_of_lt_of_le HSM.out.2 H6.out.size⟩; have K6 : Hid (W6.cell? ⟨fb, fo + 2, none⟩ = some (.slice (some ⟨sb, so, none⟩) 64 c2) ∧ fb < w2.heap.size) := ⟨(H12.out.cell (p := ⟨fb, fo + 2, none⟩) HK2.out.2).trans HK2.out.1, Nat.lt_of_lt_of_le HK2.out.2 H6.out.size⟩; have A4 : Hid (W6.rangeAt b4 0 (bv (mi (decL y) 4))) := (by have := R4_6.out.1; rw [into32_same (eq32.1 Q4.out)] at this; exact this); have A5 : Hid (W6.rangeAt b5 0 (bv (mi (decL y) 5))) := (by have := R5_6.out.1; rw [into32_same (eq32.1 Q5.out)] at this; exact this); have A6 : Hid (W6.rangeAt b6 0 (bv (mi (decL y) 6))) := (by have := R6_6.out.1; rw [into32_same (eq32.1 Q6.out)] at this; exact this))
                      | (refine wpList_load_mid rfl 23 _ rfl b4 0 rfl (bv (mi (decL y) 4)) _ A4.out Try.underlying23 rfl (by rw [G4.out]; exact size32W) ?_)
                      | (refine wpList_load_mid rfl 23 _ rfl b5 0 rfl (bv (mi (decL y) 5)) _ A5.out Try.underlying23 rfl (by rw [G5.out]; exact size32W) ?_)
                      | (refine wpList_load_mid rfl 23 _ rfl b6 0 rfl (bv (mi (decL y) 6)) _ A6.out Try.underlying23 rfl (by rw [G6.out]; exact size32W) ?_)
                      | (refine wpList_buildTo rfl 26 _ rfl (some 116) rfl (uRt y).cells.toArray (by simp only [List.map_toArray, List.map_cons, List.map_nil]; exact HBU.out) ?_)
                      | (refine wpList_store_mid rfl 26 _ _ rfl w2.heap.size 0 (uRt y).cells.toArray rfl rfl (root_there HUL.out T6.out.there) (size_of HUL.out) (cells_one _) ?_; have T8 : Hid (RowR (W6.setCells w2.heap.size 0 (uRt y).cells) w2.heap.size (uRt y).cells) := T6.out.put HUL.out; have S8 : Hid ((W6.setCells w2.heap.size 0 (uRt y).cells).rangeAt sb so (bv (mi (decL xs) 2))) := World.rangeAt_setCells_apart S6.out.1 _ _ _ (.inl (Nat.ne_of_lt S6.out.2)); have K8 : Hid ((W6.setCells w2.heap.size 0 (uRt y).cells).cell? ⟨fb, fo + 2, none⟩ = some (.slice (some ⟨sb, so, none⟩) 64 c2)) := (World.cell?_of_block (w := W6) (a := ⟨fb, fo + 2, none⟩) (heap_past w2.heap.size fb (Nat.ne_of_lt K6.out.2) _ _ _)).trans K6.out.1; have HW8 : Hid (Below w.heap.size w (W6.setCells w2.heap.size 0 (uRt y).cells) ∧ (W6.setCells w2.heap.size 0 (uRt y).cells).there w.heap.size 0 163) := ⟨below_setCellsW _ H7.out.1.size _ _ _ HW6.out.1, World.there_setCells HW6.out.2 _ _ _⟩; generalize hW8 : World.setCells _ _ _ _ = W8 at T8 S8 K8 HW8 ⊢; clear hW8))
                    have HB7 : Hid (w.heap.size < w2.heap.size) := Nat.lt_of_lt_of_le (Nat.lt_of_succ_le HS1.out) H6.out.size
                    generalize hb7 : w2.heap.size = b7 at T8 HB7 ⊢
                    clear hb7
                    refine RT.wp_rgn [5] (cf b7 fb fo cap sb so c2) (fun _ => 0) (cΩ w b7 fb fo sb so c2 (uRt y).cells (dRt xs).cells (bv (mi (decL xs) 2))) (by kernel_rfl) (by kernel_rfl) ?_ ?_ ?_
                    · exact ⟨T8.out.keep rfl, K8.out, fun j u hu => S8.out j u hu, HW8.out.1.trans ⟨rfl, rfl, rfl, Nat.le_refl _, fun _ _ => rfl⟩, fun j hj => HW8.out.2 j hj⟩
                    · refine ⟨?_, ?_, ?_, ?_, ?_, ?_, trivial⟩
                      · refine RT.ObT.pure rfl rfl rfl (fun a U hf hp ev he hc V => ?_)
                        have q7 : ev (.tmp 7) = .pointer (some ⟨b7, 0, none⟩) := (he (.tmp 7)).trans (hf 7 rfl)
                        simp only [List.getElem_toArray, List.getElem_cons_succ, List.getElem_cons_zero, execOp]; rw [q7]; rfl
                      · refine RT.ObT.pure rfl rfl rfl (fun a U hf hp ev he hc V => ?_)
                        have q117 : ev (.tmp 117) = .pointer (some ⟨b7, 99, none⟩) := (he (.tmp 117)).trans (hp 0 117 rfl)
                        simp only [List.getElem_toArray, List.getElem_cons_succ, List.getElem_cons_zero, execOp]; rw [q117]; go_simp; rfl
                      · refine RT.ObT.pure rfl rfl rfl (fun a U hf hp ev he hc V => ?_)
                        have q4 : ev (.tmp 4) = .slice (some ⟨fb, fo, none⟩) 3 cap := (he (.tmp 4)).trans (hf 4 rfl)
                        simp only [List.getElem_toArray, List.getElem_cons_succ, List.getElem_cons_zero, execOp]; rw [q4]; rfl
                      · refine RT.ObT.pure rfl rfl rfl (fun a U hf hp ev he hc V => ?_)
                        have q119 : ev (.tmp 119) = .slice (some ⟨fb, fo, none⟩) 3 cap := (he (.tmp 119)).trans (hp 2 119 rfl)
                        simp only [List.getElem_toArray, List.getElem_cons_succ, List.getElem_cons_zero, execOp]; rw [q119]; simp only [hc]; go_simp; rfl
                      · refine RT.ObT.silent rfl (fun a V k0 U hO hf hp hk => ?_)
                        have hk0 : k0 ≤ 0 := hk
                        obtain rfl : k0 = 0 := by omega
                        have hc1 := hO.2.1
                        refine RT.ob_val rfl (RT.wanted_none rfl) (fun ev he hc => ?_) ⟨rfl, hO⟩
                        have q120 : ev (.tmp 120) = .pointer (some ⟨fb, fo + 2, none⟩) := (he (.tmp 120)).trans (hp 3 120 rfl)
                        simp only [List.getElem_toArray, List.getElem_cons_succ, List.getElem_cons_zero, execOp]; rw [q120]; go_simp; rfl
                      · refine RT.ObT.loud (j := 0) rfl (fun a V U hO hf hp => ?_)
                        obtain ⟨⟨cur, o1, o2, o3⟩, o4, o5, o6, o7⟩ := hO
                        have q1 : a.eval (.tmp 118) = .slice (some ⟨b7, 99, none⟩) 64 64 := hp 1 118 rfl
                        have q2 : a.eval (.tmp 121) = .slice (some ⟨sb, so, none⟩) 64 c2 := hp 4 121 rfl
                        have hsg : (bv (mi (decL xs) 2)).length = 64 := by rw [bv_length]; exact H64.out
                        have hrun := run_copy_row (P := Try.prog) V 34 34 3 5 b7 99 64 64 ⟨sb, so, none⟩ 64 c2 cur 26 (bv (mi (decL xs) 2)) Try.underlying34 size_u8W1 o1 (by rw [hsg]; rfl) (fun j u hu => by rw [Addr.add_mid]; exact o5 j u hu) (by rw [hsg, o2]; decide) (bv_one _)
                        refine RT.ob_run (v := goInt (bv (mi (decL xs) 2)).length) (w' := V.setRow b7 (cur.toList.take 99 ++ bv (mi (decL xs) 2) ++ cur.toList.drop (99 + (bv (mi (decL xs) 2)).length)).toArray) rfl (RT.wanted_none rfl) (fun ev he hc => ?_) ⟨_, rfl, ?_⟩
                        · have e1 := (he (.tmp 118)).trans q1
                          have e2 := (he (.tmp 121)).trans q2
                          simp only [List.getElem_toArray, List.getElem_cons_succ, List.getElem_cons_zero, execOp]
                          simp only [resolve, invoke, builtin, Sem.run_bind, Sem.run_pure, Result.andThen_ok, List.map_toArray, List.map_cons, List.map_nil, e1, e2, hrun]
                        · have hcell : cur.toList.take 99 ++ bv (mi (decL xs) 2) ++ cur.toList.drop (99 + (bv (mi (decL xs) 2)).length) = (dRt xs).cells := by
                            have hh : (uRt y).head.length = 99 := by
                              obtain ⟨g3, g4, g5⟩ := isU_lens HUU.out
                              simp [Rt.head, bv_length, uRt, g3, g4, g5]
                            rw [o3, hsg, List.drop_of_length_le (by rw [HUL.out]; decide), List.append_nil, Rt.cells_head, Rt.cells_head, head_same, HY.out, List.take_append_of_le_length (by omega), List.take_of_length_le (by omega)]
                            rfl
                          rw [hcell]
                          have hne : ∀ k, k ≠ b7 → (V.setRow b7 (dRt xs).cells.toArray).heap[k]? = V.heap[k]? := fun k hk => setRow_other V b7 k _ hk
                          refine ⟨⟨_, setRow_heap V b7 cur (dRt xs).cells.toArray 26 _ o1, by rw [List.size_toArray]; exact HDL.out, by simp⟩, o6.trans ⟨rfl, rfl, rfl, by simp [World.setRow], fun k hk => hne k (by have := HB7.out; omega)⟩, fun j hj => ?_⟩
                          obtain ⟨t1, t2⟩ := o7 j hj
                          have hk := hne w.heap.size (by have := HB7.out; omega)
                          constructor
                          · unfold World.cell? at t1 ⊢; rw [hk]; exact t1
                          · unfold World.frozen? at t2 ⊢; rw [hk]; exact t2
                    · intro a V U hs hd hfx hO hv
                      have HO : Hid (RowR V b7 (dRt xs).cells ∧ Below w.heap.size w V ∧ V.there w.heap.size 0 163) := hO
                      have HQ7 : Hid (a.eval (.tmp 7) = .pointer (some ⟨b7, 0, none⟩)) := hfx 7 rfl
                      have HQ2 : Hid (a.eval (.tmp 2) = .pointer (some ⟨w.heap.size, 0, none⟩)) := hfx 2 rfl
                      have HSZ : Hid (a.tmps.size = 124) := hs
                      have HDF : Hid (a.defers = []) := hd
                      clear hO hv hfx hs hd
                      go_wp2_with (first
                        | (refine wpList_load_mid rfl 26 _ rfl b7 0 HQ7.out (dRt xs).cells _ HO.out.1.range Try.underlying26 rfl (by rw [HDL.out]; exact root_size) ?_)
                        | (refine wpList_store_mid rfl 26 _ _ rfl w.heap.size 0 (dRt xs).cells.toArray (ev_set (by decide) HQ2.out) (ev_same HSZ.out (by decide)) (root_there HDL.out HO.out.2.2) (size_of HDL.out) (cells_one _) ?_))
                      have p2' : a.tmps[2]?.getD undef = .pointer (some ⟨w.heap.size, 0, none⟩) := by simpa [Act.eval] using HQ2.out
                      have hs3 : 3 < a.tmps.size := by rw [HSZ.out]; decide
                      refine bodyPost_ret (v := .tuple #[.agg (dRt xs).cells.toArray, .int .i64 0]) ?_ (by first | exact HDF.out | rfl) ⟨by unfold drA drE; rw [HU.out], below_setCellsW _ (Nat.le_refl _) _ _ _ HO.out.2.1⟩
                      have q := World.rangeAt_setCells_same V w.heap.size 0 (dRt xs).cells (root_there HDL.out HO.out.2.2)
                      simp only [results, Try.results34]
                      simp [asAddr, Act.put, p2', hs3, run_loadVar_mid _ w.heap.size 0 26 (dRt xs).cells _ q Try.underlying26 rfl (by rw [HDL.out]; exact root_size)]
            · have HU : Hid (isR xs = false) := isR_of_no (fun _ _ h => by rw [HY.out] at h; exact z3 (N3.out.2.symm.trans (isU_parts h).2.2.2))
              go_wp2_with (first
                | (refine wpList_store_mid rfl 23 _ _ rfl v6.heap.size 0 (into32 (mi (decL y) 6)).toArray rfl rfl (row32_there v6 _) (row32_size _) (into32_one _) ?_; generalize hW : World.setCells _ _ _ _ = W6; have L6 := row32_laid hW; clear hW; have HB6 : Hid (Below w2.heap.size w2 W6) := B6'.out.trans (L6.out.1.mono B6'.out.size); have R4_6 : Hid (W6.rangeAt b4 0 (into32 (mi (decL y) 4)) ∧ b4 < W6.heap.size) := ⟨range_belowW (range_belowW R4_5.out.1 R4_5.out.2 hv) (Nat.lt_of_lt_of_le R4_5.out.2 hv.size) L6.out.1, Nat.lt_of_lt_of_le (Nat.lt_of_lt_of_le R4_5.out.2 hv.size) L6.out.1.size⟩; have R5_6 : Hid (W6.rangeAt b5 0 (into32 (mi (decL y) 5)) ∧ b5 < W6.heap.size) := ⟨range_belowW (range_belowW R5_5.out.1 R5_5.out.2 hv) (Nat.lt_of_lt_of_le R5_5.out.2 hv.size) L6.out.1, Nat.lt_of_lt_of_le (Nat.lt_of_lt_of_le R5_5.out.2 hv.size) L6.out.1.size⟩; have T6 : Hid (RowR W6 w2.heap.size z163) := (T5.out.keep (hv.block _ T5.out.lt)).keep (L6.out.1.block _ (Nat.lt_of_lt_of_le T5.out.lt hv.size)); generalize hb : v6.heap.size = b6 at L6 ⊢; have R6_6 : Hid (W6.rangeAt b6 0 (into32 (mi (decL y) 6)) ∧ b6 < W6.heap.size) := L6.out.2; have X6 : Hid (w2.heap.size ≤ b6) := (by rw [← hb]; exact B6'.out.size : w2.heap.size ≤ b6); clear hb; have HW6 : Hid (Below w.heap.size w W6 ∧ W6.there w.heap.size 0 163) := ⟨H7.out.1.trans (HB6.out.mono H7.out.1.size), there_below H7.out.2 (HB6.out.mono (Nat.le_trans HS1.out H6.out.size))⟩; have H12 : Hid (Below w1.heap.size w1 W6) := H6.out.trans (HB6.out.mono H6.out.size); have S6 : Hid (W6.rangeAt sb so (bv (mi (decL xs) 2)) ∧ sb < w2.heap.size) := ⟨range_belowW HSM.out.1 HSM.out.2 H12.out, Nat.lt_of_lt_of_le HSM.out.2 H6.out.size⟩; have K6 : Hid (W6.cell? ⟨fb, fo + 2, none⟩ = some (.slice (some ⟨sb, so, none⟩) 64 c2) ∧ fb < w2.heap.size) := ⟨(H12.out.cell (p := ⟨fb, fo + 2, none⟩) HK2.out.2).trans HK2.out.1, Nat.lt_of_lt_of_le HK2.out.2 H6.out.size⟩)
                | (refine wpList_store_mid rfl 26 _ _ rfl w.heap.size 0 z163.toArray rfl rfl (HT1 _ HW6.out.2) root_size' z163_one ?_))
              refine bodyPost_ret (v := .tuple #[.agg z163.toArray, .int .i64 2]) ?_ rfl ⟨by unfold drA drE; rw [HU.out], below_setCellsW _ (Nat.le_refl _) _ _ _ HW6.out.1⟩
              have q := World.rangeAt_setCells_same _ w.heap.size 0 z163 (HT1 _ HW6.out.2)
              simp only [results, Try.results34]
              simp [asAddr, run_loadVar_mid _ w.heap.size 0 26 z163 _ q Try.underlying26 rfl (by rw [z163_length]; exact root_size)]
          · have HU : Hid (isR xs = false) := isR_of_no (fun _ _ h => by rw [HY.out] at h; exact z2 (N2.out.2.symm.trans (isU_parts h).2.2.1))
            go_wp2_with (first
              | (refine wpList_store_mid rfl 23 _ _ rfl v6.heap.size 0 (into32 (mi (decL y) 6)).toArray rfl rfl (row32_there v6 _) (row32_size _) (into32_one _) ?_; generalize hW : World.setCells _ _ _ _ = W6; have L6 := row32_laid hW; clear hW; have HB6 : Hid (Below w2.heap.size w2 W6) := B6'.out.trans (L6.out.1.mono B6'.out.size); have R4_6 : Hid (W6.rangeAt b4 0 (into32 (mi (decL y) 4)) ∧ b4 < W6.heap.size) := ⟨range_belowW (range_belowW R4_5.out.1 R4_5.out.2 hv) (Nat.lt_of_lt_of_le R4_5.out.2 hv.size) L6.out.1, Nat.lt_of_lt_of_le (Nat.lt_of_lt_of_le R4_5.out.2 hv.size) L6.out.1.size⟩; have R5_6 : Hid (W6.rangeAt b5 0 (into32 (mi (decL y) 5)) ∧ b5 < W6.heap.size) := ⟨range_belowW (range_belowW R5_5.out.1 R5_5.out.2 hv) (Nat.lt_of_lt_of_le R5_5.out.2 hv.size) L6.out.1, Nat.lt_of_lt_of_le (Nat.lt_of_lt_of_le R5_5.out.2 hv.size) L6.out.1.size⟩; have T6 : Hid (RowR W6 w2.heap.size z163) := (T5.out.keep (hv.block _ T5.out.lt)).keep (L6.out.1.block _ (Nat.lt_of_lt_of_le T5.out.lt hv.size)); generalize hb : v6.heap.size = b6 at L6 ⊢; have R6_6 : Hid (W6.rangeAt b6 0 (into32 (mi (decL y) 6)) ∧ b6 < W6.heap.size) := L6.out.2; have X6 : Hid (w2.heap.size ≤ b6) := (by rw [← hb]; exact B6'.out.size : w2.heap.size ≤ b6); clear hb; have HW6 : Hid (Below w.heap.size w W6 ∧ W6.there w.heap.size 0 163) := ⟨H7.out.1.trans (HB6.out.mono H7.out.1.size), there_below H7.out.2 (HB6.out.mono (Nat.le_trans HS1.out H6.out.size))⟩; have H12 : Hid (Below w1.heap.size w1 W6) := H6.out.trans (HB6.out.mono H6.out.size); have S6 : Hid (W6.rangeAt sb so (bv (mi (decL xs) 2)) ∧ sb < w2.heap.size) := ⟨range_belowW HSM.out.1 HSM.out.2 H12.out, Nat.lt_of_lt_of_le HSM.out.2 H6.out.size⟩; have K6 : Hid (W6.cell? ⟨fb, fo + 2, none⟩ = some (.slice (some ⟨sb, so, none⟩) 64 c2) ∧ fb < w2.heap.size) := ⟨(H12.out.cell (p := ⟨fb, fo + 2, none⟩) HK2.out.2).trans HK2.out.1, Nat.lt_of_lt_of_le HK2.out.2 H6.out.size⟩)
              | (refine wpList_store_mid rfl 26 _ _ rfl w.heap.size 0 z163.toArray rfl rfl (HT1 _ HW6.out.2) root_size' z163_one ?_))
            refine bodyPost_ret (v := .tuple #[.agg z163.toArray, .int .i64 2]) ?_ rfl ⟨by unfold drA drE; rw [HU.out], below_setCellsW _ (Nat.le_refl _) _ _ _ HW6.out.1⟩
            have q := World.rangeAt_setCells_same _ w.heap.size 0 z163 (HT1 _ HW6.out.2)
            simp only [results, Try.results34]
            simp [asAddr, run_loadVar_mid _ w.heap.size 0 26 z163 _ q Try.underlying26 rfl (by rw [z163_length]; exact root_size)]
        · have HU : Hid (isR xs = false) := isR_of_no (fun _ _ h => by rw [HY.out] at h; exact z1 (N1.out.2.symm.trans (isU_parts h).2.1))
          go_wp2_with (first
            | (refine wpList_store_mid rfl 23 _ _ rfl v6.heap.size 0 (into32 (mi (decL y) 6)).toArray rfl rfl (row32_there v6 _) (row32_size _) (into32_one _) ?_; generalize hW : World.setCells _ _ _ _ = W6; have L6 := row32_laid hW; clear hW; have HB6 : Hid (Below w2.heap.size w2 W6) := B6'.out.trans (L6.out.1.mono B6'.out.size); have R4_6 : Hid (W6.rangeAt b4 0 (into32 (mi (decL y) 4)) ∧ b4 < W6.heap.size) := ⟨range_belowW (range_belowW R4_5.out.1 R4_5.out.2 hv) (Nat.lt_of_lt_of_le R4_5.out.2 hv.size) L6.out.1, Nat.lt_of_lt_of_le (Nat.lt_of_lt_of_le R4_5.out.2 hv.size) L6.out.1.size⟩; have R5_6 : Hid (W6.rangeAt b5 0 (into32 (mi (decL y) 5)) ∧ b5 < W6.heap.size) := ⟨range_belowW (range_belowW R5_5.out.1 R5_5.out.2 hv) (Nat.lt_of_lt_of_le R5_5.out.2 hv.size) L6.out.1, Nat.lt_of_lt_of_le (Nat.lt_of_lt_of_le R5_5.out.2 hv.size) L6.out.1.size⟩; have T6 : Hid (RowR W6 w2.heap.size z163) := (T5.out.keep (hv.block _ T5.out.lt)).keep (L6.out.1.block _ (Nat.lt_of_lt_of_le T5.out.lt hv.size)); generalize hb : v6.heap.size = b6 at L6 ⊢; have R6_6 : Hid (W6.rangeAt b6 0 (into32 (mi (decL y) 6)) ∧ b6 < W6.heap.size) := L6.out.2; have X6 : Hid (w2.heap.size ≤ b6) := (by rw [← hb]; exact B6'.out.size : w2.heap.size ≤ b6); clear hb; have HW6 : Hid (Below w.heap.size w W6 ∧ W6.there w.heap.size 0 163) := ⟨H7.out.1.trans (HB6.out.mono H7.out.1.size), there_below H7.out.2 (HB6.out.mono (Nat.le_trans HS1.out H6.out.size))⟩; have H12 : Hid (Below w1.heap.size w1 W6) := H6.out.trans (HB6.out.mono H6.out.size); have S6 : Hid (W6.rangeAt sb so (bv (mi (decL xs) 2)) ∧ sb < w2.heap.size) := ⟨range_belowW HSM.out.1 HSM.out.2 H12.out, Nat.lt_of_lt_of_le HSM.out.2 H6.out.size⟩; have K6 : Hid (W6.cell? ⟨fb, fo + 2, none⟩ = some (.slice (some ⟨sb, so, none⟩) 64 c2) ∧ fb < w2.heap.size) := ⟨(H12.out.cell (p := ⟨fb, fo + 2, none⟩) HK2.out.2).trans HK2.out.1, Nat.lt_of_lt_of_le HK2.out.2 H6.out.size⟩)
            | (refine wpList_store_mid rfl 26 _ _ rfl w.heap.size 0 z163.toArray rfl rfl (HT1 _ HW6.out.2) root_size' z163_one ?_))
          refine bodyPost_ret (v := .tuple #[.agg z163.toArray, .int .i64 2]) ?_ rfl ⟨by unfold drA drE; rw [HU.out], below_setCellsW _ (Nat.le_refl _) _ _ _ HW6.out.1⟩
          have q := World.rangeAt_setCells_same _ w.heap.size 0 z163 (HT1 _ HW6.out.2)
          simp only [results, Try.results34]
          simp [asAddr, run_loadVar_mid _ w.heap.size 0 26 z163 _ q Try.underlying26 rfl (by rw [z163_length]; exact root_size)]
    · have gn : ¬ ((mi (decL xs) 2).length : Int) = 64 := by omega
      have HU : Hid (isR xs = false) := isR_of_no (fun _ h _ => h64 h)
      go_wp2_with (refine wpList_store_mid rfl 26 _ _ rfl w.heap.size 0 z163.toArray rfl rfl (HT1 _ H3.out.2) root_size' z163_one ?_)
      refine bodyPost_ret (v := .tuple #[.agg z163.toArray, .int .i64 2]) ?_ rfl ⟨by unfold drA drE; rw [HU.out], below_setCellsW _ (Nat.le_refl _) _ _ _ H3.out.1⟩
      have q := World.rangeAt_setCells_same _ w.heap.size 0 z163 (HT1 _ H3.out.2)
      simp only [results, Try.results34]
      simp [asAddr, run_loadVar_mid _ w.heap.size 0 26 z163 _ q Try.underlying26 rfl (by rw [z163_length]; exact root_size)]
end Go.Proofs.Ytfnmdeekenjlgaa
