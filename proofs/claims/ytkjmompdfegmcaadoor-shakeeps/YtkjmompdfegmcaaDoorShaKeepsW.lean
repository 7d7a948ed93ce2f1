/- The walk of ShaKeeps. -/
import Derived.Test.YtkjmompdfegmcaaDoorAppM
namespace Go.Proofs.YtkjmompdfegmcaaDoor
open Go Go.RowKit
set_option linter.unusedSimpArgs false
set_option linter.unusedVariables false

/-- What is known of the two rows and of what came in, wherever the walk is. -/
structure KP (w W : World) (g h : Nat) (F G : Nat → BitVec 8) (n k : Nat) : Prop where
  below : Below w.heap.size w W
  gp : w.heap.size ≤ g
  row : ∃ cur : Array Value, W.heap[g]? = some (.cells cur 5 (0, 0)) ∧ n + 1 ≤ cur.size ∧ ∀ i, i < n + 1 → cur[i]? = some (B (F i))
  key : ∀ i, i < k + 1 → W.cell? ⟨h, i, none⟩ = some (B (G i))
  hlt : h < W.heap.size
theorem KP.glt {w W : World} {g h n k : Nat} {F G : Nat → BitVec 8} (x : KP w W g h F G n k) : g < W.heap.size := by
  obtain ⟨cur, h1, _⟩ := x.row; exact (Array.getElem?_eq_some_iff.1 h1).1
theorem KP.more {w W W' : World} {g h n k : Nat} {F G : Nat → BitVec 8} (x : KP w W g h F G n k) (hb : Below W.heap.size W W') : KP w W' g h F G n k := by
  have hg := x.glt
  obtain ⟨cur, h1, h2⟩ := x.row
  exact ⟨x.below.trans (hb.mono x.below.size), x.gp, ⟨cur, (hb.block _ hg).trans h1, h2⟩, fun i hi => (hb.cell (p := ⟨h, i, none⟩) x.hlt).trans (x.key i hi), Nat.lt_of_lt_of_le x.hlt hb.size⟩
theorem KP.grown {w W W' : World} {g h n k hb : Nat} {F G : Nat → BitVec 8} (x : KP w W g h F G n k) (hg : W.grownBy W' (some hb)) (h0 : w.heap.size ≤ hb) (h1 : g ≠ hb) (h2 : h ≠ hb) : KP w W' g h F G n k := by
  have hgl := x.glt
  obtain ⟨cur, e1, e2⟩ := x.row
  refine ⟨x.below.grown hg x.below.size (fun b e => by cases e; exact h0), x.gp, ⟨cur, (hg.block _ hgl (by intro e; cases e; exact h1 rfl)).trans e1, e2⟩, fun i hi => ?_, Nat.lt_of_lt_of_le x.hlt hg.size⟩
  rw [World.cell?_of_block (w := W) (a := ⟨h, i, none⟩) (hg.block _ x.hlt (by intro e; cases e; exact h2 rfl))]; exact x.key i hi
theorem KP.cell {w W : World} {g h n k : Nat} {F G : Nat → BitVec 8} (x : KP w W g h F G n k) (i : Nat) (hi : i < n + 1) : W.cell? ⟨g, i, none⟩ = some (B (F i)) := by
  obtain ⟨cur, h1, h2, h3⟩ := x.row
  rw [cell_of_row W _ i _ _ _ h1]; exact h3 i hi
theorem KP.bytes {w W : World} {g h n k c hb : Nat} {F G : Nat → BitVec 8} (x : KP w W g h F G n k) (hc : n ≤ c) (hne : g ≠ hb) : Bytes W (.slice (some ⟨g, 0, none⟩) n c) n F hb :=
  .inr ⟨g, 0, c, rfl, hc, x.glt, hne, fun i hi => by rw [Nat.zero_add]; exact x.cell i (by omega)⟩
theorem KP.kbytes {w W : World} {g h n k c : Nat} {F G : Nat → BitVec 8} (x : KP w W g h F G n k) (hc : k ≤ c) : Bytes W (.slice (some ⟨h, 0, none⟩) k c) k G W.heap.size :=
  .inr ⟨h, 0, c, rfl, hc, x.hlt, Nat.ne_of_lt x.hlt, fun i hi => by rw [Nat.zero_add]; exact x.key i (by omega)⟩
theorem KP.src {w W : World} {g h n k c : Nat} {F G : Nat → BitVec 8} (x : KP w W g h F G n k) : Src W (some ⟨g, 0, none⟩) n c F := .inr ⟨g, 0, rfl, x.glt, fun i hi => by rw [Nat.zero_add]; exact x.cell i (by omega)⟩
theorem KP.ksrc {w W : World} {g h n k c : Nat} {F G : Nat → BitVec 8} (x : KP w W g h F G n k) : Src W (some ⟨h, 0, none⟩) k c G := .inr ⟨h, 0, rfl, x.hlt, fun i hi => by rw [Nat.zero_add]; exact x.key i (by omega)⟩
theorem KP.start {w w1 w3 w5 : World} {n k : Nat} {F G : Nat → BitVec 8} {g c h : Nat} (b1 : Below w.heap.size w w1) (o : Own w1 w3 (.slice (some ⟨g, 0, none⟩) (n + 1) c) (n + 1) F) (b5 : Below w3.heap.size w3 w5)
    (hk : ∀ i, i < k + 1 → w5.cell? ⟨h, i, none⟩ = some (B (G i))) (hh : h < w5.heap.size) : KP w w5 g h F G n k := by
  rcases o.own.2 with ⟨h', _⟩ | ⟨g', cap, cur, hv, hb, hg, hc, _, hs, ht⟩
  · cases h'
  · cases hv
    have hlt := (Array.getElem?_eq_some_iff.1 hg).1
    have b3 := b1.trans (o.below.mono b1.size)
    refine ⟨b3.trans (b5.mono b3.size), Nat.le_trans b1.size hb, ⟨cur, (b5.block _ hlt).trans hg, by omega, fun i hi => ?_⟩, hk, hh⟩
    have e : (cur.toList.take ((n + 1) * 1))[i]? = some (B (F i)) := by rw [ht]; simp [bl, hi]
    rw [List.getElem?_take, if_pos (by omega), Array.getElem?_toList] at e
    exact e
/-- Only the row's block has turned since. -/
structure KZ (W wr : World) (g n : Nat) : Prop where
  grown : W.grownBy wr (some g)
  size : wr.heap.size = W.heap.size
  row : ∃ cur : Array Value, wr.heap[g]? = some (.cells cur 5 (0, 0)) ∧ n + 1 ≤ cur.size
theorem KZ.start {w W : World} {g h n k : Nat} {F G : Nat → BitVec 8} (x : KP w W g h F G n k) : KZ W W g n := by
  obtain ⟨cur, h1, h2, _⟩ := x.row
  exact ⟨World.grownBy.refl _ _, rfl, cur, h1, h2⟩
theorem KZ.cell {W wr : World} {g n : Nat} (x : KZ W wr g n) {i : Nat} (hi : i < n) : ∃ v, wr.cell? ⟨g, i, none⟩ = some v := by
  obtain ⟨cur, h1, h2⟩ := x.row
  rw [cell_of_row wr _ i _ _ _ h1]
  exact ⟨cur[i], Array.getElem?_eq_getElem (by omega)⟩
theorem KZ.froz {W wr : World} {g n : Nat} (x : KZ W wr g n) (i : Nat) : wr.frozen? ⟨g, i, none⟩ = false := by
  obtain ⟨cur, h1, h2⟩ := x.row
  exact frozen_of_row _ _ _ _ _ h1
theorem KZ.put {W wr : World} {g n : Nat} (x : KZ W wr g n) (i : Nat) (v : Value) : KZ W (wr.setCell ⟨g, i, none⟩ v) g n := by
  obtain ⟨cur, h1, h2⟩ := x.row
  refine ⟨⟨x.grown.os, x.grown.tape, x.grown.output, by rw [size_setCell]; exact x.grown.size, fun b hb hne => ?_⟩, by rw [size_setCell]; exact x.size, _, heap_setCell_same _ _ _ _ _ _ h1, by simp; omega⟩
  rw [heap_setCell_other _ _ _ _ (fun e => hne (by rw [e]))]; exact x.grown.block b hb hne
set_option maxRecDepth 100000 in
set_option maxHeartbeats 2000000 in
theorem shaKeeps_walk (a0 : Option Addr) (n0 c0 : Nat) (m0 : Nat → BitVec 8) (a1 : Option Addr) (n1 c1 : Nat) (m1 : Nat → BitVec 8) (w : World) (hT : Tabs w K256 H256) (hT5 : Q5.Tabs w) (l0 : n0 ≤ 140737488351232) (l1 : n1 ≤ 140737488351232)
    (h0 : Bytes w (.slice a0 n0 c0) n0 m0 w.heap.size) (h1 : Bytes w (.slice a1 n1 c1) n1 m1 w.heap.size) :
    Calls Tryd.prog 5 #[.slice a0 n0 c0, .slice a1 n1 c1] w fun e w' => e = .returned (.bool true) ∧ Below w.heap.size w w' := by
  have HT : Hid (Tabs w K256 H256) := hT
  have HT5 : Hid (Q5.Tabs w) := hT5
  have hl : Hid (1 < w.heap.size ∧ 3 < w.heap.size) := hT.lt
  have hl5 : Hid (0 < w.heap.size ∧ 2 < w.heap.size) := hT5.lt
  have HS0 : Hid (Src w a0 n0 c0 m0) := by obtain ⟨ad, cap, hv, hs⟩ := h0.src; cases hv; exact hs
  have HS1 : Hid (Src w a1 n1 c1 m1) := by obtain ⟨ad, cap, hv, hs⟩ := h1.src; cases hv; exact hs
  clear hT hT5 h0 h1
  obtain ⟨F, hF⟩ : ∃ F, F = cat n0 m0 (fun _ => 77) := ⟨_, rfl⟩
  obtain ⟨G, hG⟩ : ∃ G, G = cat n1 m1 (fun _ => 77) := ⟨_, rfl⟩
  have pF : Hid (∀ i, i < n0 → m0 i = F i) := fun i hi => by rw [hF, cat_lo _ _ _ _ hi]
  have pG : Hid (∀ i, i < n1 → m1 i = G i) := fun i hi => by rw [hG, cat_lo _ _ _ _ hi]
  have qF : Hid (F n0 = 77) := by show F n0 = 77; rw [hF]; exact cat_hi n0 m0 (fun _ => 77) 0
  have qG : Hid (G n1 = 77) := by show G n1 = 77; rw [hG]; exact cat_hi n1 m1 (fun _ => 77) 0
  clear hF hG
  have e0 : Hid (n0 + 1 ≤ 140737488355328) := by show n0 + 1 ≤ 140737488355328; omega
  have e1 : Hid (n1 + 1 ≤ 140737488355328) := by show n1 + 1 ≤ 140737488355328; omega
  have he := eq_same
  go_enter Tryd.func5, Tryd.ntmps5
  go_wp2_with fail
  refine (awake_any w HT.out).mono ?_
  rintro e w1 ⟨rfl, hb1⟩
  have B1 : Hid (Below w.heap.size w w1) := hb1
  clear hb1
  have HO0 : Hid (Own w1 (w1.alloc (.cells #[] 5)) (.slice (some ⟨w1.heap.size, 0, none⟩) 0 0) 0 F) := Own.start w1 _
  have HG0 : Hid (Src (w1.alloc (.cells #[] 5)) a0 n0 c0 (fun i => F (0 + i))) :=
    ((HS0.out.below B1.out (Nat.le_refl _)).below ((Below.refl w1.heap.size w1).alloc (Nat.le_refl _) _) (Nat.le_refl _)).congr (fun i hi => by rw [Nat.zero_add]; exact pF.out i hi)
  go_wp2_with (first
    | (at_builtin; refine app_more rfl (.tmp 13) (.tmp 14) rfl _ 0 F rfl HO0.out a0 n0 c0 rfl F (fun _ _ => rfl) HG0.out (by have := e0.out; omega) ?_; intro v2 w2 o2 g2 x2; rw [Nat.zero_add] at o2; have O2 : Hid (Own w1 w2 v2 n0 F) := o2; clear o2 g2 x2)
    | (at_builtin; refine app_more rfl (.tmp 15) (.tmp 16) rfl _ n0 F rfl (O2.out.alloc _) (some ⟨w2.heap.size, 0, none⟩) 1 1 rfl F (fun _ _ => rfl) (one_new w2 _ 77 _ _ rfl qF.out) e0.out ?_; intro v3 w3 o3 g3 x3; obtain ⟨gr, cr, hv3, hgr, -, hcr, -⟩ := o3.form (by omega); rw [hv3] at o3; have O3 : Hid (Own w1 w3 (.slice (some ⟨gr, 0, none⟩) (n0 + 1) cr) (n0 + 1) F) := o3; have B3 : Hid (Below w.heap.size w w3) := B1.out.trans (o3.below.mono B1.out.size); clear o3 g3 x3; rw [hv3]; clear hv3; have HO3 : Hid (Own w3 (w3.alloc (.cells #[] 5)) (.slice (some ⟨w3.heap.size, 0, none⟩) 0 0) 0 G) := Own.start w3 _; have HG3 : Hid (Src (w3.alloc (.cells #[] 5)) a1 n1 c1 (fun i => G (0 + i))) := ((HS1.out.below B3.out (Nat.le_refl _)).below ((Below.refl w3.heap.size w3).alloc (Nat.le_refl _) _) (Nat.le_refl _)).congr (fun i hi => by rw [Nat.zero_add]; exact pG.out i hi))
    | (at_builtin; refine app_more rfl (.tmp 18) (.tmp 19) rfl _ 0 G rfl HO3.out a1 n1 c1 rfl G (fun _ _ => rfl) HG3.out (by have := e1.out; omega) ?_; intro v4 w4 o4 g4 x4; rw [Nat.zero_add] at o4; have O4 : Hid (Own w3 w4 v4 n1 G) := o4; clear o4 g4 x4)
    | (at_builtin; refine app_more rfl (.tmp 20) (.tmp 21) rfl _ n1 G rfl (O4.out.alloc _) (some ⟨w4.heap.size, 0, none⟩) 1 1 rfl G (fun _ _ => rfl) (one_new w4 _ 77 _ _ rfl qG.out) e1.out ?_; intro v5 w5 o5 g5 x5; obtain ⟨gk, ck, hv5, hgk, hgk2, hck, hcell5⟩ := o5.form (by omega); have KP5 : Hid (KP w w5 gr gk F G n0 n1) := KP.start B1.out O3.out o5.below hcell5 hgk2; clear o5 g5 x5 hcell5; rw [hv5]; clear hv5; have hci : (n0 : Int) ≤ (cr : Int) := (by omega); have hki : (n1 : Int) ≤ (ck : Int) := (by omega)))
  have hgne : Hid (gr < gk) := by
    show gr < gk
    have h1 : gr < w3.heap.size := by
      rcases O3.out.own.2 with ⟨h', _⟩ | ⟨g', cap, cur, hv, _, hg, _⟩
      · cases h'
      · cases hv; exact (Array.getElem?_eq_some_iff.1 hg).1
    omega
  clear HO0 HG0 O2 HO3 HG3 O4 O3 B3
  obtain ⟨S1, hS1⟩ : ∃ S, sumSt K256 H256 m0 n0 = S := ⟨_, rfl⟩
  obtain ⟨S5, hS5⟩ : ∃ S, Q5.sumSt Q5.K512 Q5.H512 m0 n0 = S := ⟨_, rfl⟩
  obtain ⟨f, hf⟩ : ∃ f, kb n1 m1 = f := ⟨_, rfl⟩
  obtain ⟨T1, hT1⟩ : ∃ S, sumSt K256 H256 (cat 64 (fun i => f i ^^^ 54) m0) (64 + n0) = S := ⟨_, rfl⟩
  obtain ⟨T2, hT2⟩ : ∃ S, sumSt K256 H256 (cat 64 (fun i => f i ^^^ 92) (sbyte T1)) (64 + 32) = S := ⟨_, rfl⟩
  have HX1 : Hid (sumSt K256 H256 m0 n0 = S1) := hS1
  have HX5 : Hid (Q5.sumSt Q5.K512 Q5.H512 m0 n0 = S5) := hS5
  have HXf : Hid (kb n1 m1 = f) := hf
  have HXT1 : Hid (sumSt K256 H256 (cat 64 (fun i => f i ^^^ 54) m0) (64 + n0) = T1) := hT1
  have HXT2 : Hid (sumSt K256 H256 (cat 64 (fun i => f i ^^^ 92) (sbyte T1)) (64 + 32) = T2) := hT2
  clear hS1 hS5 hf hT1 hT2
  have hcr' : Hid (n0 ≤ cr) := by show n0 ≤ cr; omega
  have hck' : Hid (n1 ≤ ck) := by show n1 ≤ ck; omega
  refine (new_any K256 H256 w5 (HT.out.below KP5.out.below hl.out.1 hl.out.2)).mono ?_
  rintro e w6 ⟨hb, rfl, hb6, hle6, hrow6⟩
  have KP6 : Hid (KP w w6 gr gk F G n0 n1) := KP5.out.more hb6
  have hne : Hid (gr < hb ∧ gk < hb ∧ w.heap.size ≤ hb) := ⟨Nat.lt_of_lt_of_le KP5.out.glt hle6, Nat.lt_of_lt_of_le KP5.out.hlt hle6, Nat.le_trans KP5.out.below.size hle6⟩
  have I6 : Hid (HInv K256 H256 m0 w6 hb 0) := HInv.new _ _ _ _ _ hrow6
  clear hb6 hle6 hrow6 KP5
  go_wp2_with fail
  refine (write_any K256 H256 m0 hb 0 n0 _ (by omega) (by have h := hl.out.2; have h' := hne.out.2.2; omega) w6 I6.out ((KP6.out.bytes hcr'.out (by have := hne.out.1; omega)).congr fun i hi => by rw [Nat.zero_add]; exact (pF.out i hi).symm) (HT.out.below KP6.out.below hl.out.1 hl.out.2).cu).mono ?_
  rintro e w7 ⟨rfl, hg7, hi7⟩
  rw [Nat.zero_add] at hi7
  have KP7 : Hid (KP w w7 gr gk F G n0 n1) := KP6.out.grown hg7 hne.out.2.2 (by have := hne.out.1; omega) (by have := hne.out.2.1; omega)
  have I7 : Hid (HInv K256 H256 m0 w7 hb n0) := hi7
  clear hg7 hi7 KP6 I6
  go_wp2_with fail
  refine (sum256_at S1 m0 n0 _ HX1.out (by omega) w7 (HT.out.below KP7.out.below hl.out.1 hl.out.2) ((KP7.out.bytes hcr'.out (Nat.ne_of_lt KP7.out.glt)).congr fun i hi => (pF.out i hi).symm)).mono ?_
  rintro e w8 ⟨rfl, hb8⟩
  have KP8 : Hid (KP w w8 gr gk F G n0 n1) := KP7.out.more hb8
  have I8 : Hid (HInv K256 H256 m0 w8 hb n0) := I7.out.grown (hb8.block _ (by obtain ⟨_, h, _⟩ := I7.out; exact h.lt))
  clear hb8 KP7 I7
  go_wp2_with fail
  refine (Q5.sum512_at S5 m0 n0 _ HX5.out (by omega) w8 (HT5.out.below KP8.out.below hl5.out) ((KP8.out.bytes hcr'.out (Nat.ne_of_lt KP8.out.glt)).congr fun i hi => (pF.out i hi).symm)).mono ?_
  rintro e w9 ⟨rfl, hb9⟩
  have KP9 : Hid (KP w w9 gr gk F G n0 n1) := KP8.out.more hb9
  have I9 : Hid (HInv K256 H256 m0 w9 hb n0) := I8.out.grown (hb9.block _ (by obtain ⟨_, h, _⟩ := I8.out; exact h.lt))
  clear hb9 KP8 I8
  go_wp2_with fail
  refine (mac_any T1 T2 f m1 m0 _ _ n1 ck n0 cr HXf.out HXT1.out HXT2.out (by omega) (by omega) w9 (HT.out.below KP9.out.below hl.out.1 hl.out.2) ((KP9.out.kbytes hck'.out).congr fun i hi => (pG.out i hi).symm) ((KP9.out.bytes hcr'.out (Nat.ne_of_lt KP9.out.glt)).congr fun i hi => (pF.out i hi).symm)).mono ?_
  rintro e wA ⟨rfl, hbA⟩
  have KPA : Hid (KP w wA gr gk F G n0 n1) := KP9.out.more hbA
  have IA : Hid (HInv K256 H256 m0 wA hb n0) := I9.out.grown (hbA.block _ (by obtain ⟨_, h, _⟩ := I9.out; exact h.lt))
  clear hbA KP9 I9
  obtain ⟨X0, hX0⟩ : ∃ X, sstr m0 n0 = X := ⟨_, rfl⟩
  obtain ⟨X1, hX1⟩ : ∃ X, sstr m1 n1 = X := ⟨_, rfl⟩
  have s1 : ∀ n, (convert 22 9 (.slice (some ⟨gr, 0, none⟩) n0 cr)).run Tryd.prog (wA.drewN n) = .ok (.string X0) (wA.drewN n) := fun n => by
    rw [← hX0, sstr_congr pF.out]; exact src_str (KPA.out.src.drewN n)
  have s2 : ∀ n, (convert 22 9 (.slice a0 n0 c0)).run Tryd.prog (wA.drewN n) = .ok (.string X0) (wA.drewN n) := fun n => by
    rw [← hX0]; exact src_str ((HS0.out.below KPA.out.below (Nat.le_refl _)).drewN n)
  have s3 : ∀ n, (convert 22 9 (.slice (some ⟨gk, 0, none⟩) n1 ck)).run Tryd.prog (wA.drewN n) = .ok (.string X1) (wA.drewN n) := fun n => by
    rw [← hX1, sstr_congr pG.out]; exact src_str (KPA.out.ksrc.drewN n)
  have s4 : ∀ n, (convert 22 9 (.slice a1 n1 c1)).run Tryd.prog (wA.drewN n) = .ok (.string X1) (wA.drewN n) := fun n => by
    rw [← hX1]; exact src_str ((HS1.out.below KPA.out.below (Nat.le_refl _)).drewN n)
  have c1' : wA.cell? ⟨gr, n0, none⟩ = some (.int .u8 77) := by rw [KPA.out.cell n0 (by omega), qF.out]; rfl
  have c2' : wA.cell? ⟨gk, n1, none⟩ = some (.int .u8 77) := by rw [KPA.out.key n1 (by omega), qG.out]; rfl
  have x0 : (n0 : Int) < (n0 : Int) + 1 := by omega
  have x1 : (n1 : Int) < (n1 : Int) + 1 := by omega
  clear hX0 hX1
  go_wp2_with fail
  go_quiet (fail)
  clear s1 s2 s3 s4 c1' c2'
  obtain ⟨wB, hwB⟩ : ∃ wB, wB = wA.drewN nq := ⟨_, rfl⟩
  rw [← hwB]
  have KPB : Hid (KP w wB gr gk F G n0 n1) := by rw [hwB]; exact KPA.out.more (below_drewN (Below.refl _ _) nq)
  have IB : Hid (HInv K256 H256 m0 wB hb n0) := by rw [hwB]; exact IA.out.grown rfl
  clear hwB KPA IA
  have HZ : Hid (KZ wB wB gr n0) := KZ.start KPB.out
  go_wp2_with fail
  go_loopw [10, 77] (fun _ i wr => ∃ k : Nat, k ≤ n0 ∧ i = .int .i64 (k : Int) ∧ KZ wB wr gr n0) (fun _ i _ => n0 - (intOf i).toNat)
  case atStart => exact ⟨0, by omega, rfl, HZ.out⟩
  case round =>
    obtain ⟨k, hk, rfl, hr⟩ := hrel
    have HR : Hid (KZ wB _ gr n0) := hr
    clear hr HZ
    by_cases hlt : k < n0
    · have y1 : (k : Int) < (n0 : Int) := by omega
      obtain ⟨v, hv⟩ := HR.out.cell hlt
      have f1 := HR.out.froz k
      go_wp2
      go_roundw
      case rel => exact ⟨k + 1, by omega, by go_num, HR.out.put k _⟩
      case measure => simp [intOf]; omega
    · obtain rfl : k = n0 := by omega
      have BR : Hid (Below w.heap.size w wr) := KPB.out.below.grown HR.out.grown KPB.out.below.size (fun b e => by cases e; exact KPB.out.gp)
      have IR : Hid (HInv K256 H256 m0 wr hb k) := IB.out.grown (HR.out.grown.block _ (by obtain ⟨_, h, _⟩ := IB.out; exact h.lt) (by have := hne.out.1; intro e; cases e; omega))
      go_wp2_with fail
      refine (sum_at S1 K256 H256 m0 hb k HX1.out (by omega) wr IR.out (HT.out.below BR.out hl.out.1 hl.out.2).cu).mono ?_
      rintro e wC ⟨rfl, hbC⟩
      have BC : Hid (Below w.heap.size w wC) := BR.out.trans (hbC.mono BR.out.size)
      clear hbC
      go_wp2_with fail
      refine (rsum_at S1 m0 a0 k c0 HX1.out (by omega) wC (HS0.out.below BC.out (Nat.le_refl _))).mono ?_
      rintro e wD ⟨rfl, hbD⟩
      have BD : Hid (Below w.heap.size w wD) := BC.out.trans (hbD.mono BC.out.size)
      clear hbD
      go_wp2
      go_ret
      exact ⟨rfl, BD.out⟩
end Go.Proofs.YtkjmompdfegmcaaDoor
