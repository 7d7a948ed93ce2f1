/- readUnsigned. -/
import Derived.Test.YtfnmdeekenjlgaaWrtE
import Derived.Test.YtfnmdeekenjlgaaRgnS
import Derived.Laws.Tables
namespace Go.Proofs.Ytfnmdeekenjlgaa
open Go Go.RowKit
set_option linter.unusedSimpArgs false
set_option linter.unusedVariables false
set_option maxRecDepth 100000

def rootS : ByteArray := ⟨#[114, 111, 111, 116]⟩
def z163 : List Value := .int .u64 0 :: .int .u64 0 :: .int .u64 0 :: List.replicate 160 (.int .u8 0)
theorem z163_length : z163.length = 163 := by kernel_rfl
theorem z163_one : z163.toArray.all (·.oneCell') = true := by kernel_rfl
theorem zero_root (w : World) : (zeroValue 26).run Try.prog w = .ok (.agg z163.toArray) w := by kernel_rfl
theorem root_size' : (Try.prog.info? 26).map (·.size) = some z163.toArray.size := by kernel_rfl
theorem root_size : (Try.prog.info? 26).map (·.size) = some 163 := by kernel_rfl
theorem HT1 {b : Nat} (w : World) (h : w.there b 0 163) : w.there b 0 z163.toArray.size := by rw [List.size_toArray, z163_length]; exact h
theorem decL_len' {xs : List Int} (hb : Byt xs) : (decL xs).length ≤ 65536 ∧ ∀ m ∈ decL xs, Byt m ∧ m.length ≤ 1048576 := by
  by_cases h1 : 1048576 < xs.length
  · rw [(dec_large h1).2]; exact ⟨by simp, fun m hm => by cases hm⟩
  by_cases h2 : xs.length < 4 ∨ 65536 < cnt xs
  · rw [(dec_form h1 h2).2]; exact ⟨by simp, fun m hm => by cases hm⟩
  cases hd : dk xs (cnt xs) with
  | none => rw [(dec_none h1 h2 hd).2]; exact ⟨by simp, fun m hm => by cases hm⟩
  | some p =>
    obtain ⟨l, r⟩ := p
    obtain ⟨e1, e2, e3, e4⟩ := dk_inv hb hd
    by_cases hr : r.length = 0
    · rw [(dec_ok h1 h2 hd hr).2]
      exact ⟨by omega, fun m hm => ⟨(e4 m hm).1, by have := (e4 m hm).2; omega⟩⟩
    · rw [(dec_rest h1 h2 hd hr).2]; exact ⟨by simp, fun m hm => by cases hm⟩
theorem decL_mi {xs : List Int} (hb : Byt xs) (i : Nat) : Byt (mi (decL xs) i) ∧ (mi (decL xs) i).length ≤ 1048576 := by
  by_cases h : i < (decL xs).length
  · have : mi (decL xs) i = (decL xs)[i] := by simp [mi, List.getD_eq_getElem?_getD, List.getElem?_eq_getElem h]
    rw [this]
    exact (decL_len' hb).2 _ (List.getElem_mem _)
  · have : mi (decL xs) i = [] := by simp [mi, List.getD_eq_getElem?_getD, List.getElem?_eq_none (Nat.le_of_not_lt h)]
    rw [this]
    exact ⟨Byt.nil, by simp⟩
theorem decL_le {xs : List Int} (hb : Byt xs) (i : Nat) : (mi (decL xs) i).length ≤ 140737488355328 := Nat.le_trans (decL_mi hb i).2 (by omega)
/-- The list is a root's, without its signature. -/
def isU (xs : List Int) : Bool := hasF xs rootS 6 && (decide (rnErr (mi (decL xs) 1) = 0) && (decide (rnErr (mi (decL xs) 2) = 0) && (decide (rnErr (mi (decL xs) 3) = 0) && !not32 ((decL xs).drop 4))))
def uRt (xs : List Int) : Rt := ⟨rnVal (mi (decL xs) 1), rnVal (mi (decL xs) 2), rnVal (mi (decL xs) 3), mi (decL xs) 4, mi (decL xs) 5, mi (decL xs) 6, List.replicate 64 0⟩
theorem root_start {w W : World} (eW : w.alloc (.cells z163.toArray 26) = W) : Hid (W.there w.heap.size 0 163 ∧ Below w.heap.size w W ∧ W.heap.size = w.heap.size + 1) := by
  refine ⟨there_of_rowW1 (cs := z163.toArray) (t := 26) (by rw [← eW, World.alloc]; simp only [Array.getElem?_push, if_true]) 0 163 (by rw [List.size_toArray, z163_length]; omega), by rw [← eW]; exact (Below.refl _ _).alloc (Nat.le_refl _) _, by rw [← eW]; simp⟩
theorem there_below {w w' : World} {b o n : Nat} (h : w.there b o n) (hb : Below (b + 1) w w') : w'.there b o n := by
  intro j hj
  obtain ⟨h1, h2⟩ := h j hj
  have hk := hb.block b (Nat.lt_succ_self b)
  constructor
  · unfold World.cell? at h1 ⊢
    rw [hk]; exact h1
  · unfold World.frozen? at h2 ⊢
    rw [hk]; exact h2
theorem mi_drop (l : List (List Int)) (n i : Nat) : mi (l.drop n) i = mi l (n + i) := by unfold mi; simp only [List.getD_eq_getElem?_getD, List.getElem?_drop]
theorem LL.drop3 {w : World} {l : List (List Int)} {b o cap : Nat} (h : LL w (.slice (some ⟨b, o, none⟩) (7 - 1) cap) (l.drop 1)) (hl : l.length = 7) : LL w (.slice (some ⟨b, o + 3, none⟩) 3 (cap - 3)) (l.drop 4) := by
  obtain ⟨ad, cap', hv, hc, h⟩ := h
  rw [List.length_drop, hl] at hc
  simp only [Value.slice.injEq] at hv
  obtain ⟨rfl, -, rfl⟩ := hv
  refine ⟨_, cap - 3, by rw [List.length_drop, hl], by rw [List.length_drop, hl]; omega, ?_⟩
  rcases h with ⟨he, _⟩ | ⟨b', o', he, hlt, hm⟩
  · have := congrArg List.length he; rw [List.length_drop, hl] at this; simp at this
  · simp only [Option.some.injEq, Addr.mk.injEq, and_true] at he
    obtain ⟨rfl, rfl⟩ := he
    refine .inr ⟨b, o + 3, rfl, hlt, fun i hi => ?_⟩
    rw [List.length_drop, hl] at hi
    obtain ⟨u, h1, h2⟩ := hm (3 + i) (by rw [List.length_drop, hl]; omega)
    refine ⟨u, by rw [Nat.add_assoc]; exact h1, ?_⟩
    rw [mi_drop] at h2 ⊢
    rw [show 4 + i = 1 + (3 + i) by omega]; exact h2
/-- Worlds between which only the block b may have been written, with these cells. -/
structure St (b : Nat) (cs : List Value) (w w' : World) : Prop where
  os : w'.os = w.os
  tape : w'.tape = w.tape
  output : w'.output = w.output
  size : w'.heap.size = w.heap.size
  other : ∀ k, k ≠ b → w'.heap[k]? = w.heap[k]?
  there : w.there b 0 163 → w'.there b 0 163
  held : w.rangeAt b 0 cs → w'.rangeAt b 0 cs
theorem St.refl (b : Nat) (cs : List Value) (w : World) : St b cs w w := ⟨rfl, rfl, rfl, rfl, fun _ _ => rfl, fun h => h, fun h => h⟩
theorem St.trans {b : Nat} {cs : List Value} {x y z : World} (h : St b cs x y) (k : St b cs y z) : St b cs x z :=
  ⟨k.os.trans h.os, k.tape.trans h.tape, k.output.trans h.output, k.size.trans h.size, fun i hi => (k.other i hi).trans (h.other i hi), fun q => k.there (h.there q), fun q => k.held (h.held q)⟩
theorem St.draw (b : Nat) (cs : List Value) (w : World) : St b cs w { w with drawn := w.drawn + 1 } := ⟨rfl, rfl, rfl, rfl, fun _ _ => rfl, fun h => h, fun h => h⟩
theorem St.below {b B : Nat} {cs : List Value} {x w w' : World} (h : St b cs w w') (hB : B ≤ b) (hb : Below B x w) : Below B x w' :=
  hb.trans ⟨h.os, h.tape, h.output, Nat.le_of_eq h.size.symm, fun k hk => h.other k (by omega)⟩
theorem St.cell {b : Nat} {cs : List Value} {w w' : World} (h : St b cs w w') {k o : Nat} (hk : k ≠ b) : w'.cell? ⟨k, o, none⟩ = w.cell? ⟨k, o, none⟩ := World.cell?_of_block (w := w) (w' := w') (a := ⟨k, o, none⟩) (h.other k hk)
theorem heap_past (b c : Nat) (hc : c ≠ b) : ∀ (vs : List Value) (o : Nat) (w : World), (w.setCells b o vs).heap[c]? = w.heap[c]?
  | [], _, _ => rfl
  | v :: r, o, w => by
    rw [World.setCells, heap_past b c hc r (o + 1)]
    exact Below.heap_setCell _ _ _ _ hc
theorem size_setCells (b : Nat) : ∀ (vs : List Value) (o : Nat) (w : World), (w.setCells b o vs).heap.size = w.heap.size
  | [], _, _ => rfl
  | v :: r, o, w => by
    rw [World.setCells, size_setCells b r (o + 1)]
    simp [World.setCell]
theorem St.store {b : Nat} {cs : List Value} {w : World} (ht : w.there b 0 163) (hl : cs.length = 163) : St b cs w (w.setCells b 0 cs) := by
  have B : Below 0 w (w.setCells b 0 cs) := below_setCellsW b (Nat.zero_le _) cs 0 w (Below.refl _ _)
  refine ⟨B.os, B.tape, B.output, size_setCells _ _ _ _, fun k hk => heap_past b k hk cs 0 w, fun q => World.there_setCells q b 0 cs, fun _ => World.rangeAt_setCells_same w b 0 cs (by rw [hl]; exact ht)⟩
/-- What the region's operations yield. -/
def ruval (xs : List Int) (fb fo cap b3 o3 c3 b4 o4 c4 b5 o5 c5 : Nat) : Nat → Value
  | 0 => .int .u64 (uRt xs).ep
  | 1 => .int .u64 (uRt xs).kd
  | 2 => .int .u64 (uRt xs).gn
  | 3 => .slice (some ⟨fb, fo, none⟩) 6 cap
  | 4 => .pointer (some ⟨fb, fo + 3, none⟩)
  | 5 => .slice (some ⟨b3, o3, none⟩) 32 c3
  | 6 => .pointer (some ⟨b3, o3, none⟩)
  | 7 => .agg (bv (uRt xs).pr).toArray
  | 8 => .slice (some ⟨fb, fo, none⟩) 6 cap
  | 9 => .pointer (some ⟨fb, fo + 4, none⟩)
  | 10 => .slice (some ⟨b4, o4, none⟩) 32 c4
  | 11 => .pointer (some ⟨b4, o4, none⟩)
  | 12 => .agg (bv (uRt xs).hs).toArray
  | 13 => .slice (some ⟨fb, fo, none⟩) 6 cap
  | 14 => .pointer (some ⟨fb, fo + 5, none⟩)
  | 15 => .slice (some ⟨b5, o5, none⟩) 32 c5
  | 16 => .pointer (some ⟨b5, o5, none⟩)
  | 17 => .agg (bv (uRt xs).lk).toArray
  | 18 => .agg (uRt xs).cells.toArray
  | 19 => undef
  | _ => .bool true
def RUW (f : Nat → Value) (b : Nat) (cs : List Value) (i : Nat) (v : Value) (w : World) : Prop := (i ≠ 19 → v = f i) ∧ (i = 19 → w.rangeAt b 0 cs)
theorem RUW.of {f : Nat → Value} {b : Nat} {cs : List Value} {i : Nat} {w : World} (hi : i ≠ 19) : RUW f b cs i (f i) w := ⟨fun _ => rfl, fun e => absurd e hi⟩
theorem RUW.val {f : Nat → Value} {b : Nat} {cs : List Value} {i : Nat} {v : Value} {w : World} (h : RUW f b cs i v w) (hi : i ≠ 19) : v = f i := h.1 hi
theorem RUW.stays {f : Nat → Value} {b : Nat} {cs : List Value} (i : Nat) (v : Value) (w w' : World) (k : RUW f b cs i v w) (m : St b cs w w') : RUW f b cs i v w' := ⟨k.1, fun e => m.held (k.2 e)⟩
theorem hpU {ops : Array Oper} {φ : Nat → Value → World → Prop} {i : Nat} {a : Act} {w : World} (hp : ∀ p ∈ RS.preds ops i, φ p.1 (RS.ev a p.2) w) (k d : Nat) (hm : (RS.preds ops i).contains (k, some d) = true) : φ k (a.eval (.tmp d)) w := hp (k, some d) (by simpa using hm)
/-- A member of the list: 32 bytes in a block of its own. -/
theorem LF.mem32 {B : Nat} {w : World} {xss : List (List Int)} {b o l cap i : Nat} (h : LF B w (.slice (some ⟨b, o, none⟩) l cap) xss) (hi : i < xss.length) (h32 : (mi xss i).length = 32) :
    ∃ b' o' c', w.cell? ⟨b, o + i, none⟩ = some (.slice (some ⟨b', o', none⟩) 32 c') ∧ B ≤ b' ∧ B ≤ b ∧ w.rangeAt b' o' (bv (mi xss i)) := by
  obtain ⟨b1, o1, cap1, hv, _, _, hm⟩ := h.ll.at' (by omega)
  cases hv
  obtain ⟨u, hc, hu⟩ := hm i hi
  obtain ⟨ad, c', rfl, hcc, hx⟩ := hu
  rcases hx with ⟨he, _⟩ | ⟨b', o', rfl, hlt, hk⟩
  · rw [he] at h32; simp at h32
  · refine ⟨b', o', c', by rw [hc, h32], h.mem b o _ cap i _ b' rfl hi hc rfl, h.blk b rfl, fun j q hq => ?_⟩
    have hj : j < (mi xss i).length := by have := (List.getElem?_eq_some_iff.1 hq).1; rwa [bv_length] at this
    rw [bv_get _ hj] at hq
    rw [hk j hj]; exact hq
theorem St.range {b : Nat} {cs ds : List Value} {w w' : World} (h : St b cs w w') {k o : Nat} (hk : k ≠ b) (hr : w.rangeAt k o ds) : w'.rangeAt k o ds := fun j u hu => (h.cell hk).trans (hr j u hu)
theorem z64_byt : (List.replicate 64 (0 : Int)).length = 64 ∧ Byt (List.replicate 64 0) := ⟨by simp, fun z hz => by rw [(List.mem_replicate.1 hz).2]; omega⟩
theorem cells_one (R : Rt) : R.cells.toArray.all (·.oneCell') = true := all_oneCell_toArray (fun u hu => by
  unfold Rt.cells at hu
  simp only [List.mem_append, List.mem_cons, List.not_mem_nil, or_false] at hu
  rcases hu with (rfl | rfl | rfl) | h | h | h | h
  · rfl
  · rfl
  · rfl
  · exact bv_one _ _ h
  · exact bv_one _ _ h
  · exact bv_one _ _ h
  · exact bv_one _ _ h)
/-- A list of 32 letters. -/
theorem list32 {l : List Int} (h : l.length = 32) : ∃ a0 a1 a2 a3 a4 a5 a6 a7 a8 a9 a10 a11 a12 a13 a14 a15 a16 a17 a18 a19 a20 a21 a22 a23 a24 a25 a26 a27 a28 a29 a30 a31, l = [a0, a1, a2, a3, a4, a5, a6, a7, a8, a9, a10, a11, a12, a13, a14, a15, a16, a17, a18, a19, a20, a21, a22, a23, a24, a25, a26, a27, a28, a29, a30, a31] := by
  match l, h with
  | [a0, a1, a2, a3, a4, a5, a6, a7, a8, a9, a10, a11, a12, a13, a14, a15, a16, a17, a18, a19, a20, a21, a22, a23, a24, a25, a26, a27, a28, a29, a30, a31], _ => exact ⟨a0, a1, a2, a3, a4, a5, a6, a7, a8, a9, a10, a11, a12, a13, a14, a15, a16, a17, a18, a19, a20, a21, a22, a23, a24, a25, a26, a27, a28, a29, a30, a31, rfl⟩
theorem built_root (e k g : Int) (p h l : List Int) (hp : p.length = 32) (hh : h.length = 32) (hl : l.length = 32) :
    Try.prog.built 26 [(0, .int .u64 e), (1, .int .u64 k), (2, .int .u64 g), (3, .agg (bv p).toArray), (4, .agg (bv h).toArray), (5, .agg (bv l).toArray)] = some (Rt.cells ⟨e, k, g, p, h, l, List.replicate 64 0⟩).toArray := by
  obtain ⟨p0, p1, p2, p3, p4, p5, p6, p7, p8, p9, p10, p11, p12, p13, p14, p15, p16, p17, p18, p19, p20, p21, p22, p23, p24, p25, p26, p27, p28, p29, p30, p31, rfl⟩ := list32 hp
  obtain ⟨h0, h1, h2, h3, h4, h5, h6, h7, h8, h9, h10, h11, h12, h13, h14, h15, h16, h17, h18, h19, h20, h21, h22, h23, h24, h25, h26, h27, h28, h29, h30, h31, rfl⟩ := list32 hh
  obtain ⟨l0, l1, l2, l3, l4, l5, l6, l7, l8, l9, l10, l11, l12, l13, l14, l15, l16, l17, l18, l19, l20, l21, l22, l23, l24, l25, l26, l27, l28, l29, l30, l31, rfl⟩ := list32 hl
  kernel_rfl
theorem not32_all {xss : List (List Int)} (h : not32 xss = false) : ∀ i, i < xss.length → (mi xss i).length = 32 := fun i hi => by
  by_cases e : (mi xss i).length = 32
  · exact e
  · rw [not32_yes hi e] at h; cases h
set_option maxHeartbeats 2000000 in
theorem readUnsigned_any (xs : List Int) (v : Value) (w : World) (hb : Byt xs) (hs : Sl w v xs) (hl : xs.length ≤ 140737488355328) :
    Calls Try.prog 61 #[v] w fun e w' => (∃ A : List Value, e = .returned (.tuple #[.agg A.toArray, .bool (isU xs)]) ∧ (isU xs = true → A = (uRt xs).cells) ∧ (isU xs = false → A = z163)) ∧ Below w.heap.size w w' := by
  have HS : Hid (Sl w v xs) := hs
  have HB : Hid (Byt xs) := hb
  clear hb hs
  have hz := zero_root
  go_enter Try.func61, Try.ntmps61
  go_wp2_with fail
  generalize hW : w.alloc _ = w0
  have H0 := root_start hW
  clear hW
  refine (fields_any xs rootS 6 v w0 HB.out (HS.out.below H0.out.2.1 (Nat.le_refl _)) hl (by omega) (by omega)).mono ?_
  rintro e w1 ⟨⟨v1, rfl, h1, h2⟩, h3⟩
  have H3 : Hid (Below w.heap.size w w1 ∧ w1.there w.heap.size 0 163) := ⟨H0.out.2.1.trans (h3.mono (by have := H0.out.2.2; omega)), there_below H0.out.1 (by have := H0.out.2.2; rw [this] at h3; exact h3)⟩
  have HS0 : Hid (w0.heap.size = w.heap.size + 1) := H0.out.2.2
  clear h3 H0
  cases hF : hasF xs rootS 6 with
  | false =>
    rw [h2 hF]
    have HU : Hid (isU xs = false) := by show isU xs = false; unfold isU; rw [hF]; rfl
    clear h1 h2
    go_wp2_with (refine wpList_store_mid rfl 26 _ _ rfl w.heap.size 0 z163.toArray rfl rfl (HT1 _ H3.out.2) root_size' z163_one ?_)
    refine bodyPost_ret (v := .tuple #[.agg z163.toArray, .bool false]) ?_ rfl ⟨⟨z163, by rw [HU.out], fun e => (by rw [HU.out] at e; cases e), fun _ => rfl⟩, below_setCellsW _ (Nat.le_refl _) _ _ _ H3.out.1⟩
    have q := World.rangeAt_setCells_same _ w.heap.size 0 z163 (HT1 _ H3.out.2)
    simp only [results, Try.results61]
    simp [asAddr, run_loadVar_mid _ w.heap.size 0 26 z163 _ q Try.underlying26 rfl (by rw [z163_length]; exact root_size)]
  | true =>
    have HQ : Hid (LF (w.heap.size + 1) w1 v1 ((decL xs).drop 1)) := by
      have := h1 hF
      rw [HS0.out] at this; exact this
    have H1 : Hid (LL w1 v1 ((decL xs).drop 1)) := HQ.out.ll
    clear h1 h2
    have hlen : (decL xs).length = 7 := by
      unfold hasF at hF
      simp only [Bool.and_eq_true, decide_eq_true_eq] at hF
      exact hF.2.1
    obtain ⟨fb, fo, cap, hv, hcap, hlt, hm⟩ := H1.out.at' (by rw [List.length_drop]; omega)
    subst hv
    rw [List.length_drop, hlen] at hcap hm H1 ⊢
    have gm : ∀ i, mi ((decL xs).drop 1) i = mi (decL xs) (1 + i) := fun i => by unfold mi; simp only [List.getD_eq_getElem?_getD, List.getElem?_drop]
    simp only [gm] at hm
    obtain ⟨u0, k0, s0⟩ := hm 0 (by omega)
    obtain ⟨u1, k1, s1⟩ := hm 1 (by omega)
    obtain ⟨u2, k2, s2⟩ := hm 2 (by omega)
    have HM : Hid (∀ i, i < 7 - 1 → ∃ u, w1.cell? ⟨fb, fo + i, none⟩ = some u ∧ Sl w1 u (mi (decL xs) (1 + i))) := hm
    have S0 : Hid (Sl w1 u0 (mi (decL xs) 1)) := s0
    have S1 : Hid (Sl w1 u1 (mi (decL xs) 2)) := s1
    have S2 : Hid (Sl w1 u2 (mi (decL xs) 3)) := s2
    clear hm gm s0 s1 s2
    rw [Nat.add_zero] at k0
    have HF : Hid (hasF xs rootS 6 = true) := hF
    have HL : Hid ((decL xs).length = 7) := hlen
    clear hF hlen
    go_wp2_with fail
    refine (readNum_any (mi (decL xs) 1) u0 w1 (decL_mi HB.out 1).1 S0.out (decL_le HB.out 1)).mono ?_
    rintro e w' ⟨rfl, rfl⟩
    obtain ⟨n0, hn0⟩ : ∃ n, rnVal (mi (decL xs) 1) = n := ⟨_, rfl⟩
    obtain ⟨e0, he0⟩ : ∃ n, rnErr (mi (decL xs) 1) = n := ⟨_, rfl⟩
    rw [hn0, he0]
    have N0 : Hid (rnVal (mi (decL xs) 1) = n0 ∧ rnErr (mi (decL xs) 1) = e0) := ⟨hn0, he0⟩
    clear hn0 he0
    go_wp2_with fail
    refine (readNum_any (mi (decL xs) 2) u1 _ (decL_mi HB.out 2).1 S1.out (decL_le HB.out 2)).mono ?_
    rintro e w' ⟨rfl, rfl⟩
    obtain ⟨n1, hn1⟩ : ∃ n, rnVal (mi (decL xs) 2) = n := ⟨_, rfl⟩
    obtain ⟨e1, he1⟩ : ∃ n, rnErr (mi (decL xs) 2) = n := ⟨_, rfl⟩
    rw [hn1, he1]
    have N1 : Hid (rnVal (mi (decL xs) 2) = n1 ∧ rnErr (mi (decL xs) 2) = e1) := ⟨hn1, he1⟩
    clear hn1 he1
    go_wp2_with fail
    refine (readNum_any (mi (decL xs) 3) u2 _ (decL_mi HB.out 3).1 S2.out (decL_le HB.out 3)).mono ?_
    rintro e w' ⟨rfl, rfl⟩
    obtain ⟨n2, hn2⟩ : ∃ n, rnVal (mi (decL xs) 3) = n := ⟨_, rfl⟩
    obtain ⟨e2, he2⟩ : ∃ n, rnErr (mi (decL xs) 3) = n := ⟨_, rfl⟩
    rw [hn2, he2]
    have N2 : Hid (rnVal (mi (decL xs) 3) = n2 ∧ rnErr (mi (decL xs) 3) = e2) := ⟨hn2, he2⟩
    clear hn2 he2
    by_cases hE : e0 = 0 ∧ e1 = 0 ∧ e2 = 0
    · obtain ⟨rfl, rfl, rfl⟩ := hE
      have LD : Hid (LL _ (.slice (some ⟨fb, fo + 3, none⟩) 3 (cap - 3)) ((decL xs).drop 4)) := LL.drop3 H1.out HL.out
      go_wp2_with fail
      refine (contains_any ((decL xs).drop 4) _ _ LD.out (by rw [List.length_drop, HL.out]; omega) (fun i => by rw [mi_drop]; exact decL_le HB.out _)).mono ?_
      rintro e w' ⟨rfl, rfl⟩
      cases hC : not32 ((decL xs).drop 4) with
      | true =>
        have HU : Hid (isU xs = false) := by
          show isU xs = false
          unfold isU; rw [hC]; simp
        go_wp2_with (refine wpList_store_mid rfl 26 _ _ rfl w.heap.size 0 z163.toArray rfl rfl (HT1 _ H3.out.2) root_size' z163_one ?_)
        refine bodyPost_ret (v := .tuple #[.agg z163.toArray, .bool false]) ?_ rfl ⟨⟨z163, by rw [HU.out], fun e => (by rw [HU.out] at e; cases e), fun _ => rfl⟩, below_setCellsW _ (Nat.le_refl _) _ _ _ H3.out.1⟩
        have q := World.rangeAt_setCells_same _ w.heap.size 0 z163 (HT1 _ H3.out.2)
        simp only [results, Try.results61]
        simp [asAddr, run_loadVar_mid _ w.heap.size 0 26 z163 _ q Try.underlying26 rfl (by rw [z163_length]; exact root_size)]
      | false =>
        have HU : Hid (isU xs = true) := by
          show isU xs = true
          unfold isU; rw [HF.out, N0.out.2, N1.out.2, N2.out.2, hC]; rfl
        go_wp2_with fail
        have q32 := not32_all hC
        have l4 : ((decL xs).drop 4).length = 3 := by rw [List.length_drop, HL.out]
        have l1 : ((decL xs).drop 1).length = 6 := by rw [List.length_drop, HL.out]
        have g3 : (mi (decL xs) 4).length = 32 := by have := q32 0 (by omega); rwa [mi_drop] at this
        have g4 : (mi (decL xs) 5).length = 32 := by have := q32 1 (by omega); rwa [mi_drop] at this
        have g5 : (mi (decL xs) 6).length = 32 := by have := q32 2 (by omega); rwa [mi_drop] at this
        obtain ⟨b3, o3, c3, m3, f3, f0, r3⟩ := LF.mem32 (i := 3) HQ.out (by omega) (by rw [mi_drop]; exact g3)
        obtain ⟨b4, o4, c4, m4, f4, -, r4⟩ := LF.mem32 (i := 4) HQ.out (by omega) (by rw [mi_drop]; exact g4)
        obtain ⟨b5, o5, c5, m5, f5, -, r5⟩ := LF.mem32 (i := 5) HQ.out (by omega) (by rw [mi_drop]; exact g5)
        rw [mi_drop] at r3 r4 r5
        have lc : (uRt xs).cells.length = 163 := by simp [Rt.cells, bv_length, uRt, g3, g4, g5]
        have lcA : (uRt xs).cells.toArray.size = 163 := by rw [List.size_toArray]; exact lc
        have n0' : (uRt xs).ep = n0 := N0.out.1
        have n1' : (uRt xs).kd = n1 := N1.out.1
        have n2' : (uRt xs).gn = n2 := N2.out.1
        refine RS.wp_rgn (RUW (ruval xs fb fo cap b3 o3 c3 b4 o4 c4 b5 o5 c5) w.heap.size (uRt xs).cells) (St w.heap.size (uRt xs).cells) (St.draw _ _ _) (fun _ _ _ => St.trans) (by kernel_rfl) (by decide) (by kernel_rfl) (by kernel_rfl) ?_ RUW.stays ?_ ?_
        · intro i o v' W ho hd hv
          refine ⟨fun e => ?_, hv.2⟩
          exfalso
          revert ho hd
          match i with
          | 0 => intro ho hd; cases ho; cases hd
          | 1 => intro ho hd; cases ho; cases hd
          | 2 => intro ho hd; cases ho; cases hd
          | 3 => intro ho hd; cases ho; cases hd
          | 4 => intro ho hd; cases ho; cases hd
          | 5 => intro ho hd; cases ho; cases hd
          | 6 => intro ho hd; cases ho; cases hd
          | 7 => intro ho hd; cases ho; cases hd
          | 8 => intro ho hd; cases ho; cases hd
          | 9 => intro ho hd; cases ho; cases hd
          | 10 => intro ho hd; cases ho; cases hd
          | 11 => intro ho hd; cases ho; cases hd
          | 12 => intro ho hd; cases ho; cases hd
          | 13 => intro ho hd; cases ho; cases hd
          | 14 => intro ho hd; cases ho; cases hd
          | 15 => intro ho hd; cases ho; cases hd
          | 16 => intro ho hd; cases ho; cases hd
          | 17 => intro ho hd; cases ho; cases hd
          | 18 => intro ho hd; cases ho; cases hd
          | 19 => exact fun _ _ => e rfl
          | 20 => intro ho hd; cases ho; cases hd
          | n + 21 => intro ho hd; simp at ho
        · refine ⟨?_, ?_, ?_, ?_, ?_, ?_, ?_, ?_, ?_, ?_, ?_, ?_, ?_, ?_, ?_, ?_, ?_, ?_, ?_, ?_, ?_, trivial⟩
          · intro a W hb hf hp
            have f1 : a.eval (.tmp 6) = .int .u64 n0 := hf 6 (by kernel_rfl)
            exact RS.ob_val (St.refl _ _) rfl (RS.wanted_none rfl) (fun ev h hc => by have q := (h (.tmp 6)).trans f1; simp only [List.getElem_toArray, List.getElem_cons_succ, List.getElem_cons_zero, execOp]; rw [q]; simp [ruval, n0']) (RUW.of (by decide))
          · intro a W hb hf hp
            have f1 : a.eval (.tmp 8) = .int .u64 n1 := hf 8 (by kernel_rfl)
            exact RS.ob_val (St.refl _ _) rfl (RS.wanted_none rfl) (fun ev h hc => by have q := (h (.tmp 8)).trans f1; simp only [List.getElem_toArray, List.getElem_cons_succ, List.getElem_cons_zero, execOp]; rw [q]; simp [ruval, n1']) (RUW.of (by decide))
          · intro a W hb hf hp
            have f1 : a.eval (.tmp 10) = .int .u64 n2 := hf 10 (by kernel_rfl)
            exact RS.ob_val (St.refl _ _) rfl (RS.wanted_none rfl) (fun ev h hc => by have q := (h (.tmp 10)).trans f1; simp only [List.getElem_toArray, List.getElem_cons_succ, List.getElem_cons_zero, execOp]; rw [q]; simp [ruval, n2']) (RUW.of (by decide))
          · intro a W hb hf hp
            have f1 : a.eval (.tmp 4) = .slice (some ⟨fb, fo, none⟩) 6 cap := hf 4 (by kernel_rfl)
            exact RS.ob_val (St.refl _ _) rfl (RS.wanted_none rfl) (fun ev h hc => by have q := (h (.tmp 4)).trans f1; simp only [List.getElem_toArray, List.getElem_cons_succ, List.getElem_cons_zero, execOp]; rw [q]; simp [ruval]) (RUW.of (by decide))
          · intro a W hb hf hp
            have e0 := (hpU hp 3 59 (by kernel_rfl)).val (by decide)
            exact RS.ob_val (St.refl _ _) rfl (RS.wanted_none rfl) (fun ev h hc => by have q := (h (.tmp 59)).trans e0; simp only [List.getElem_toArray, List.getElem_cons_succ, List.getElem_cons_zero, execOp]; rw [q]; simp only [ruval]; go_simp <;> (first | rfl | simp [ruval])) (RUW.of (by decide))
          · intro a W hb hf hp
            have e0 := (hpU hp 4 60 (by kernel_rfl)).val (by decide)
            have cc := (hb.cell (k := fb) (o := fo + 3) (by omega)).trans m3
            exact RS.ob_val (St.refl _ _) rfl (RS.wanted_none rfl) (fun ev h hc => by have q := (h (.tmp 60)).trans e0; simp only [List.getElem_toArray, List.getElem_cons_succ, List.getElem_cons_zero, execOp]; rw [q]; simp only [ruval]; go_simp <;> (first | rfl | simp [ruval])) (RUW.of (by decide))
          · intro a W hb hf hp
            have e0 := (hpU hp 5 61 (by kernel_rfl)).val (by decide)
            exact RS.ob_val (St.refl _ _) rfl (RS.wanted_none rfl) (fun ev h hc => by have q := (h (.tmp 61)).trans e0; simp only [List.getElem_toArray, List.getElem_cons_succ, List.getElem_cons_zero, execOp]; rw [q]; simp only [ruval]; go_simp <;> (first | rfl | simp [ruval])) (RUW.of (by decide))
          · intro a W hb hf hp
            have e0 := (hpU hp 6 62 (by kernel_rfl)).val (by decide)
            have hld := run_loadAt_mid (P := Try.prog) W b3 o3 23 (bv (mi (decL xs) 4)) _ (hb.range (by omega) r3) Try.underlying23 rfl (by rw [bv_length, g3]; kernel_rfl)
            exact RS.ob_val (St.refl _ _) rfl (RS.wanted_none rfl) (fun ev h hc => by have q := (h (.tmp 62)).trans e0; simp only [List.getElem_toArray, List.getElem_cons_succ, List.getElem_cons_zero, execOp]; rw [q]; simp only [ruval]; simp [hld]; first | rfl | simp [uRt]) (RUW.of (by decide))
          · intro a W hb hf hp
            have f1 : a.eval (.tmp 4) = .slice (some ⟨fb, fo, none⟩) 6 cap := hf 4 (by kernel_rfl)
            exact RS.ob_val (St.refl _ _) rfl (RS.wanted_none rfl) (fun ev h hc => by have q := (h (.tmp 4)).trans f1; simp only [List.getElem_toArray, List.getElem_cons_succ, List.getElem_cons_zero, execOp]; rw [q]; simp [ruval]) (RUW.of (by decide))
          · intro a W hb hf hp
            have e0 := (hpU hp 8 64 (by kernel_rfl)).val (by decide)
            exact RS.ob_val (St.refl _ _) rfl (RS.wanted_none rfl) (fun ev h hc => by have q := (h (.tmp 64)).trans e0; simp only [List.getElem_toArray, List.getElem_cons_succ, List.getElem_cons_zero, execOp]; rw [q]; simp only [ruval]; go_simp <;> (first | rfl | simp [ruval])) (RUW.of (by decide))
          · intro a W hb hf hp
            have e0 := (hpU hp 9 65 (by kernel_rfl)).val (by decide)
            have cc := (hb.cell (k := fb) (o := fo + 4) (by omega)).trans m4
            exact RS.ob_val (St.refl _ _) rfl (RS.wanted_none rfl) (fun ev h hc => by have q := (h (.tmp 65)).trans e0; simp only [List.getElem_toArray, List.getElem_cons_succ, List.getElem_cons_zero, execOp]; rw [q]; simp only [ruval]; go_simp <;> (first | rfl | simp [ruval])) (RUW.of (by decide))
          · intro a W hb hf hp
            have e0 := (hpU hp 10 66 (by kernel_rfl)).val (by decide)
            exact RS.ob_val (St.refl _ _) rfl (RS.wanted_none rfl) (fun ev h hc => by have q := (h (.tmp 66)).trans e0; simp only [List.getElem_toArray, List.getElem_cons_succ, List.getElem_cons_zero, execOp]; rw [q]; simp only [ruval]; go_simp <;> (first | rfl | simp [ruval])) (RUW.of (by decide))
          · intro a W hb hf hp
            have e0 := (hpU hp 11 67 (by kernel_rfl)).val (by decide)
            have hld := run_loadAt_mid (P := Try.prog) W b4 o4 23 (bv (mi (decL xs) 5)) _ (hb.range (by omega) r4) Try.underlying23 rfl (by rw [bv_length, g4]; kernel_rfl)
            exact RS.ob_val (St.refl _ _) rfl (RS.wanted_none rfl) (fun ev h hc => by have q := (h (.tmp 67)).trans e0; simp only [List.getElem_toArray, List.getElem_cons_succ, List.getElem_cons_zero, execOp]; rw [q]; simp only [ruval]; simp [hld]; first | rfl | simp [uRt]) (RUW.of (by decide))
          · intro a W hb hf hp
            have f1 : a.eval (.tmp 4) = .slice (some ⟨fb, fo, none⟩) 6 cap := hf 4 (by kernel_rfl)
            exact RS.ob_val (St.refl _ _) rfl (RS.wanted_none rfl) (fun ev h hc => by have q := (h (.tmp 4)).trans f1; simp only [List.getElem_toArray, List.getElem_cons_succ, List.getElem_cons_zero, execOp]; rw [q]; simp [ruval]) (RUW.of (by decide))
          · intro a W hb hf hp
            have e0 := (hpU hp 13 69 (by kernel_rfl)).val (by decide)
            exact RS.ob_val (St.refl _ _) rfl (RS.wanted_none rfl) (fun ev h hc => by have q := (h (.tmp 69)).trans e0; simp only [List.getElem_toArray, List.getElem_cons_succ, List.getElem_cons_zero, execOp]; rw [q]; simp only [ruval]; go_simp <;> (first | rfl | simp [ruval])) (RUW.of (by decide))
          · intro a W hb hf hp
            have e0 := (hpU hp 14 70 (by kernel_rfl)).val (by decide)
            have cc := (hb.cell (k := fb) (o := fo + 5) (by omega)).trans m5
            exact RS.ob_val (St.refl _ _) rfl (RS.wanted_none rfl) (fun ev h hc => by have q := (h (.tmp 70)).trans e0; simp only [List.getElem_toArray, List.getElem_cons_succ, List.getElem_cons_zero, execOp]; rw [q]; simp only [ruval]; go_simp <;> (first | rfl | simp [ruval])) (RUW.of (by decide))
          · intro a W hb hf hp
            have e0 := (hpU hp 15 71 (by kernel_rfl)).val (by decide)
            exact RS.ob_val (St.refl _ _) rfl (RS.wanted_none rfl) (fun ev h hc => by have q := (h (.tmp 71)).trans e0; simp only [List.getElem_toArray, List.getElem_cons_succ, List.getElem_cons_zero, execOp]; rw [q]; simp only [ruval]; go_simp <;> (first | rfl | simp [ruval])) (RUW.of (by decide))
          · intro a W hb hf hp
            have e0 := (hpU hp 16 72 (by kernel_rfl)).val (by decide)
            have hld := run_loadAt_mid (P := Try.prog) W b5 o5 23 (bv (mi (decL xs) 6)) _ (hb.range (by omega) r5) Try.underlying23 rfl (by rw [bv_length, g5]; kernel_rfl)
            exact RS.ob_val (St.refl _ _) rfl (RS.wanted_none rfl) (fun ev h hc => by have q := (h (.tmp 72)).trans e0; simp only [List.getElem_toArray, List.getElem_cons_succ, List.getElem_cons_zero, execOp]; rw [q]; simp only [ruval]; simp [hld]; first | rfl | simp [uRt]) (RUW.of (by decide))
          · intro a W hb hf hp
            have e0 := (hpU hp 0 56 (by kernel_rfl)).val (by decide)
            have e1 := (hpU hp 1 57 (by kernel_rfl)).val (by decide)
            have e2 := (hpU hp 2 58 (by kernel_rfl)).val (by decide)
            have e7 := (hpU hp 7 63 (by kernel_rfl)).val (by decide)
            have e12 := (hpU hp 12 68 (by kernel_rfl)).val (by decide)
            have e17 := (hpU hp 17 73 (by kernel_rfl)).val (by decide)
            refine RS.ob_val (St.refl _ _) rfl (RS.wanted_none rfl) (fun ev h hc => ?_) (RUW.of (by decide))
            have q0 := (h (.tmp 56)).trans e0
            have q1 := (h (.tmp 57)).trans e1
            have q2 := (h (.tmp 58)).trans e2
            have q7 := (h (.tmp 63)).trans e7
            have q12 := (h (.tmp 68)).trans e12
            have q17 := (h (.tmp 73)).trans e17
            simp only [List.getElem_toArray, List.getElem_cons_succ, List.getElem_cons_zero, execOp]
            have hbd := run_build (P := Try.prog) W 26 _ _ (built_root (uRt xs).ep (uRt xs).kd (uRt xs).gn (uRt xs).pr (uRt xs).hs (uRt xs).lk g3 g4 g5)
            simp only [ruval] at q0 q1 q2 q7 q12 q17
            simp only [List.map_toArray, List.map_cons, List.map_nil, q0, q1, q2, q7, q12, q17]
            simp [hbd]
            rfl
          · intro a W hb hf hp
            have e0 : a.eval (.tmp 74) = .agg (uRt xs).cells.toArray := (hpU hp 18 74 (by kernel_rfl)).val (by decide)
            have f2 : a.eval (.tmp 2) = .pointer (some ⟨w.heap.size, 0, none⟩) := hf 2 (by kernel_rfl)
            have ht := hb.there H3.out.2
            unfold wpOp
            simp only [List.getElem?_toArray, List.getElem?_cons_succ, List.getElem?_cons_zero, RS.wanted_none, if_true]
            refine .inl (wp_store_mid 26 _ _ rfl w.heap.size 0 (uRt xs).cells.toArray f2 e0 (by rw [lcA]; exact ht) (by rw [lcA]; exact root_size) (cells_one _) ⟨undef, rfl, ⟨fun e => absurd rfl e, fun _ => World.rangeAt_setCells_same W _ 0 _ (by rw [lc]; exact ht)⟩, St.store ht lc⟩)
          · intro a W hb hf hp
            exact RS.ob_val (St.refl _ _) rfl (RS.wanted_none rfl) (fun ev h hc => by simp only [List.getElem_toArray, List.getElem_cons_succ, List.getElem_cons_zero, execOp]; simp [hc, ruval]) (RUW.of (by decide))
        · intro a W z1 z2 z3 z4 z5
          have p2 : a.eval (.tmp 2) = .pointer (some ⟨w.heap.size, 0, none⟩) := z4 2 (by kernel_rfl)
          have p3 : a.eval (.tmp 3) = .bool true := (z5 20 _ rfl).val (by decide)
          have pr := (z5 19 _ rfl).2 rfl
          have HE : Hid (Below w.heap.size w W) := z3.below (Nat.le_refl _) H3.out.1
          rename_i K hK
          refine hK _ _ ?_
          refine wp_ret ?_
          refine bodyPost_ret (P := Try.prog) (fn := Try.f61) (R := fun e w' => (∃ A : List Value, e = .returned (.tuple #[.agg A.toArray, .bool (isU xs)]) ∧ (isU xs = true → A = (uRt xs).cells) ∧ (isU xs = false → A = z163)) ∧ Below w.heap.size w w') (a := a) (w := W) (v := .tuple #[.agg (uRt xs).cells.toArray, .bool true]) ?_ z2 ⟨⟨(uRt xs).cells, by rw [HU.out], fun _ => rfl, fun e => by rw [HU.out] at e; cases e⟩, HE.out⟩
          have p2' : a.tmps[2]?.getD undef = .pointer (some ⟨w.heap.size, 0, none⟩) := by simpa [Act.eval] using p2
          have p3' : a.tmps[3]?.getD undef = .bool true := by simpa [Act.eval] using p3
          simp only [results, Try.results61]
          simp [asAddr, p2', p3', run_loadVar_mid _ w.heap.size 0 26 (uRt xs).cells _ pr Try.underlying26 rfl (by rw [lc]; exact root_size)]
    · have HU : Hid (isU xs = false) := by
        show isU xs = false
        unfold isU
        rw [N0.out.2, N1.out.2, N2.out.2]
        by_cases a0 : e0 = 0
        · by_cases a1 : e1 = 0
          · have a2 : ¬ e2 = 0 := fun h => hE ⟨a0, a1, h⟩
            simp [a2]
          · simp [a1]
        · simp [a0]
      by_cases a0 : e0 = 0
      · by_cases a1 : e1 = 0
        · have a2 : ¬ e2 = 0 := fun h => hE ⟨a0, a1, h⟩
          subst a0 a1
          clear hE
          go_wp2_with (refine wpList_store_mid rfl 26 _ _ rfl w.heap.size 0 z163.toArray rfl rfl (HT1 _ H3.out.2) root_size' z163_one ?_)
          refine bodyPost_ret (v := .tuple #[.agg z163.toArray, .bool false]) ?_ rfl ⟨⟨z163, by rw [HU.out], fun e => (by rw [HU.out] at e; cases e), fun _ => rfl⟩, below_setCellsW _ (Nat.le_refl _) _ _ _ H3.out.1⟩
          have q := World.rangeAt_setCells_same _ w.heap.size 0 z163 (HT1 _ H3.out.2)
          simp only [results, Try.results61]
          simp [asAddr, run_loadVar_mid _ w.heap.size 0 26 z163 _ q Try.underlying26 rfl (by rw [z163_length]; exact root_size)]
        · subst a0
          clear hE
          go_wp2_with (refine wpList_store_mid rfl 26 _ _ rfl w.heap.size 0 z163.toArray rfl rfl (HT1 _ H3.out.2) root_size' z163_one ?_)
          refine bodyPost_ret (v := .tuple #[.agg z163.toArray, .bool false]) ?_ rfl ⟨⟨z163, by rw [HU.out], fun e => (by rw [HU.out] at e; cases e), fun _ => rfl⟩, below_setCellsW _ (Nat.le_refl _) _ _ _ H3.out.1⟩
          have q := World.rangeAt_setCells_same _ w.heap.size 0 z163 (HT1 _ H3.out.2)
          simp only [results, Try.results61]
          simp [asAddr, run_loadVar_mid _ w.heap.size 0 26 z163 _ q Try.underlying26 rfl (by rw [z163_length]; exact root_size)]
      · clear hE
        go_wp2_with (refine wpList_store_mid rfl 26 _ _ rfl w.heap.size 0 z163.toArray rfl rfl (HT1 _ H3.out.2) root_size' z163_one ?_)
        refine bodyPost_ret (v := .tuple #[.agg z163.toArray, .bool false]) ?_ rfl ⟨⟨z163, by rw [HU.out], fun e => (by rw [HU.out] at e; cases e), fun _ => rfl⟩, below_setCellsW _ (Nat.le_refl _) _ _ _ H3.out.1⟩
        have q := World.rangeAt_setCells_same _ w.heap.size 0 z163 (HT1 _ H3.out.2)
        simp only [results, Try.results61]
        simp [asAddr, run_loadVar_mid _ w.heap.size 0 26 z163 _ q Try.underlying26 rfl (by rw [z163_length]; exact root_size)]
end Go.Proofs.Ytfnmdeekenjlgaa
