/- Package wire: DecodeStep. -/
import Derived.Test.YtfnmdeekenjlgaaWsQ
import Derived.Test.YtfnmdeekenjlgaaWrtI
namespace Go.Proofs.Ytfnmdeekenjlgaa
open Go Go.RowKit
set_option linter.unusedSimpArgs false
set_option linter.unusedVariables false
set_option maxRecDepth 100000

def stepS : ByteArray := ⟨#[115, 116, 101, 112]⟩
def isS (xs : List Int) : Bool := hasF xs stepS 4 && (isR (mi (decL xs) 1) && (rnb (mi (decL xs) 2) && (decide ((mi (decL xs) 3).length % 64 = 0) && decide ((mi (decL xs) 4).length % 96 = 0))))
def dSp (xs : List Int) : Sp := match isS xs with | true => ⟨dRt (mi (decL xs) 1), rdn (mi (decL xs) 2), rdl (mi (decL xs) 3), rdk (mi (decL xs) 4)⟩ | false => ⟨zRt, [], [], []⟩
def dsE (xs : List Int) : Int := match isS xs with | true => 0 | false => 2
theorem ds_no {xs : List Int} (h : isS xs = false) : dSp xs = ⟨zRt, [], [], []⟩ ∧ dsE xs = 2 := by unfold dSp dsE; rw [h]; exact ⟨rfl, rfl⟩
theorem ds_yes {xs : List Int} (h : isS xs = true) : dSp xs = ⟨dRt (mi (decL xs) 1), rdn (mi (decL xs) 2), rdl (mi (decL xs) 3), rdk (mi (decL xs) 4)⟩ ∧ dsE xs = 0 := by unfold dSp dsE; rw [h]; exact ⟨rfl, rfl⟩
def z166 : List Value := sc zRt (.slice none 0 0) (.slice none 0 0) (.slice none 0 0)
theorem z166_length : z166.length = 166 := by kernel_rfl
theorem z166_one : z166.toArray.all (·.oneCell') = true := by kernel_rfl
theorem zero_step (w : World) : (zeroValue 46).run Try.prog w = .ok (.agg z166.toArray) w := by kernel_rfl
theorem step_size : (Try.prog.info? 46).map (·.size) = some 166 := by kernel_rfl
theorem size_step {A : List Value} (hA : A.length = 166) : (Try.prog.info? 46).map (·.size) = some A.toArray.size := by rw [List.size_toArray, hA]; exact step_size
theorem z_sv (w : World) : SV w z166 ⟨zRt, [], [], []⟩ := ⟨_, _, _, rfl, ⟨none, 0, rfl, Nat.le_refl _, .inl ⟨rfl, fun _ => rfl⟩⟩, ⟨none, 0, rfl, Nat.le_refl _, .inl ⟨rfl, fun _ => rfl⟩⟩, ⟨none, 0, rfl, Nat.le_refl _, .inl ⟨rfl, fun _ => rfl⟩⟩⟩
theorem list64 {l : List Int} (h : l.length = 64) : ∃ a b : List Int, a.length = 32 ∧ b.length = 32 ∧ l = a ++ b := ⟨l.take 32, l.drop 32, by simp [h], by simp [h], (List.take_append_drop 32 l).symm⟩
structure Rt.L (R : Rt) : Prop where
  pr : R.pr.length = 32
  hs : R.hs.length = 32
  lk : R.lk.length = 32
  sg : R.sg.length = 64
theorem Rt.L.size {R : Rt} (h : R.L) : R.cells.length = 163 := by simp [Rt.cells, bv_length, h.pr, h.hs, h.lk, h.sg]
theorem aRt_L {xs : List Int} (hb : Byt xs) : (aRt xs).L := ⟨(aRt_lens hb).1, (aRt_lens hb).2.1, (aRt_lens hb).2.2.1, (aRt_lens hb).2.2.2⟩
theorem built_step {R : Rt} (hR : R.L) (a1 a2 a3 : Option Addr) (l1 l2 l3 c1 c2 c3 : Nat) : Try.prog.built 46 [(0, .agg R.cells.toArray), (1, .slice a1 l1 c1), (2, .slice a2 l2 c2), (3, .slice a3 l3 c3)] = some (sc R (.slice a1 l1 c1) (.slice a2 l2 c2) (.slice a3 l3 c3)).toArray := by
  obtain ⟨ep, kd, gn, pr, hs, lk, sg⟩ := R
  obtain ⟨h1, h2, h3, h4⟩ := hR
  obtain ⟨ga, gb, h5, h6, rfl⟩ := list64 h4
  obtain ⟨pr_0, pr_1, pr_2, pr_3, pr_4, pr_5, pr_6, pr_7, pr_8, pr_9, pr_10, pr_11, pr_12, pr_13, pr_14, pr_15, pr_16, pr_17, pr_18, pr_19, pr_20, pr_21, pr_22, pr_23, pr_24, pr_25, pr_26, pr_27, pr_28, pr_29, pr_30, pr_31, rfl⟩ := list32 h1
  obtain ⟨hs_0, hs_1, hs_2, hs_3, hs_4, hs_5, hs_6, hs_7, hs_8, hs_9, hs_10, hs_11, hs_12, hs_13, hs_14, hs_15, hs_16, hs_17, hs_18, hs_19, hs_20, hs_21, hs_22, hs_23, hs_24, hs_25, hs_26, hs_27, hs_28, hs_29, hs_30, hs_31, rfl⟩ := list32 h2
  obtain ⟨lk_0, lk_1, lk_2, lk_3, lk_4, lk_5, lk_6, lk_7, lk_8, lk_9, lk_10, lk_11, lk_12, lk_13, lk_14, lk_15, lk_16, lk_17, lk_18, lk_19, lk_20, lk_21, lk_22, lk_23, lk_24, lk_25, lk_26, lk_27, lk_28, lk_29, lk_30, lk_31, rfl⟩ := list32 h3
  obtain ⟨ga_0, ga_1, ga_2, ga_3, ga_4, ga_5, ga_6, ga_7, ga_8, ga_9, ga_10, ga_11, ga_12, ga_13, ga_14, ga_15, ga_16, ga_17, ga_18, ga_19, ga_20, ga_21, ga_22, ga_23, ga_24, ga_25, ga_26, ga_27, ga_28, ga_29, ga_30, ga_31, rfl⟩ := list32 h5
  obtain ⟨gb_0, gb_1, gb_2, gb_3, gb_4, gb_5, gb_6, gb_7, gb_8, gb_9, gb_10, gb_11, gb_12, gb_13, gb_14, gb_15, gb_16, gb_17, gb_18, gb_19, gb_20, gb_21, gb_22, gb_23, gb_24, gb_25, gb_26, gb_27, gb_28, gb_29, gb_30, gb_31, rfl⟩ := list32 h6
  kernel_rfl
theorem build_step {R : Rt} (hR : R.L) (a1 a2 a3 : Option Addr) (l1 l2 l3 c1 c2 c3 : Nat) (w : World) : (Instr.build 46 #[(0, .agg R.cells.toArray), (1, .slice a1 l1 c1), (2, .slice a2 l2 c2), (3, .slice a3 l3 c3)]).run Try.prog w = .ok (.agg (sc R (.slice a1 l1 c1) (.slice a2 l2 c2) (.slice a3 l3 c3)).toArray) w := run_build w _ _ _ (built_step hR a1 a2 a3 l1 l2 l3 c1 c2 c3)
theorem wp_build4 {P : Program} {ops : Array Oper} {rest : List Oper} {o : Oper} {a : Act} {w : World} {Q : Exit → Act → World → Prop} (t : TypeId) (x0 x1 x2 x3 : Operand) (ho : o.op = .build t #[(0, x0), (1, x1), (2, x2), (3, x3)]) (hgd : o.guard = none) (v0 v1 v2 v3 : Value) (h0 : a.eval x0 = v0) (h1 : a.eval x1 = v1) (h2 : a.eval x2 = v2) (h3 : a.eval x3 = v3) (cells : Array Value)
    (hr : (Instr.build t #[(0, v0), (1, v1), (2, v2), (3, v3)]).run P w = .ok (.agg cells) w) (h : wpList P ops Q rest (a.put o.dst (.agg cells)) w) : wpList P ops Q (o :: rest) a w := by
  refine wpList_plain hgd fun K hK => ?_
  unfold Oper.wp execOp
  simp only [ho, Sem.run_bind, List.map_toArray, List.map_cons, List.map_nil, h0, h1, h2, h3, hr, Result.andThen_ok, Sem.run_pure]
  exact hK _ _ h
theorem wp_build0s {P : Program} {ops : Array Oper} {rest : List Oper} {o : Oper} {a : Act} {w : World} {Q : Exit → Act → World → Prop} (t : TypeId) (ho : o.op = .build t #[]) (hgd : o.guard = none) (cells : Array Value)
    (hr : (Instr.build t #[]).run P w = .ok (.agg cells) w) (h : wpList P ops Q rest (a.put o.dst (.agg cells)) w) : wpList P ops Q (o :: rest) a w := by
  refine wpList_plain hgd fun K hK => ?_
  unfold Oper.wp execOp
  simp only [ho, Sem.run_bind, List.map_toArray, List.map_nil, hr, Result.andThen_ok, Sem.run_pure]
  exact hK _ _ h
theorem build_z (w : World) : (Instr.build 46 #[]).run Try.prog w = .ok (.agg z166.toArray) w := run_build w _ _ _ (by kernel_rfl)
theorem sc_L {R : Rt} (h : R.L) (nv av kv : Value) : (sc R nv av kv).length = 166 := by simp [sc, h.size]
theorem sc_one (R : Rt) (a1 a2 a3 : Option Addr) (l1 l2 l3 c1 c2 c3 : Nat) : (sc R (.slice a1 l1 c1) (.slice a2 l2 c2) (.slice a3 l3 c3)).toArray.all (·.oneCell') = true := all_oneCell_toArray (fun u hu => by
  unfold sc at hu
  rcases List.mem_append.1 hu with hu | hu
  · unfold Rt.cells at hu
    simp only [List.mem_append, List.mem_cons, List.mem_nil_iff, or_false] at hu
    rcases hu with (rfl | rfl | rfl) | hu | hu | hu | hu
    · rfl
    · rfl
    · rfl
    · exact bv_one _ u hu
    · exact bv_one _ u hu
    · exact bv_one _ u hu
    · exact bv_one _ u hu
  · simp only [List.mem_cons, List.mem_nil_iff, or_false] at hu
    rcases hu with rfl | rfl | rfl <;> rfl)
/-- Behind the making of the result's block. -/
structure Hd (w U : World) (n : Nat) : Prop where
  bel : Below w.heap.size w U
  there : U.there w.heap.size 0 n
  size : w.heap.size + 1 ≤ U.heap.size
theorem Hd.new (w : World) {Z : List Value} {n : Nat} {t : TypeId} (hz : Z.length = n) : Hd w (w.alloc (.cells Z.toArray t)) n := ⟨(Below.refl _ w).alloc (Nat.le_refl _) _, there_new w (by rw [List.size_toArray, hz]), by simp⟩
theorem Hd.step {w U U' : World} {n : Nat} (h : Hd w U n) (hb : Below U.heap.size U U') : Hd w U' n := ⟨h.bel.trans (hb.mono h.bel.size), there_below h.there (hb.mono h.size), Nat.le_trans h.size hb.size⟩
theorem Hd.put {w U : World} {n : Nat} {A : List Value} (h : Hd w U n) (hA : A.length = n) : Below w.heap.size w (U.setCells w.heap.size 0 A) ∧ (U.setCells w.heap.size 0 A).rangeAt w.heap.size 0 A := ⟨below_setCells (Nat.le_refl _) _ _ h.bel, World.rangeAt_setCells_same _ _ _ _ (by rw [hA]; exact h.there)⟩
theorem there_of {w : World} {b n : Nat} {A : List Value} (h : w.there b 0 n) (hA : A.length = n) : w.there b 0 A.toArray.size := by rw [List.size_toArray, hA]; exact h
theorem NS.sl {w : World} {v : Value} {l : List Nd} (h : NS w v l) : ∃ a n c, v = .slice a n c := by obtain ⟨a, c, e, _⟩ := h; exact ⟨a, _, c, e⟩
theorem LS.sl {w : World} {v : Value} {l : List Lf} (h : LS w v l) : ∃ a n c, v = .slice a n c := by obtain ⟨a, c, e, _⟩ := h; exact ⟨a, _, c, e⟩
theorem KS.sl {w : World} {v : Value} {l : List Lk} (h : KS w v l) : ∃ a n c, v = .slice a n c := by obtain ⟨a, c, e, _⟩ := h; exact ⟨a, _, c, e⟩
/-- A thing that was laid in the result's block: what is told of other blocks stays. -/
theorem setc_other {w : World} {b : Nat} {A : List Value} {k : Nat} (hk : k ≠ b) : (w.setCells b 0 A).heap[k]? = w.heap[k]? := heap_past b k hk A 0 w
theorem NO.setc {B b : Nat} {w : World} {v : Value} {l : List Nd} {A : List Value} (h : NO B w v l) (hb : b < B) : NS (w.setCells b 0 A) v l := by
  refine ns_row h.2.1 (h.1.kept (w' := w.setCells b 0 A) (row := some b) ⟨(below_setCells (B := 0) (Nat.zero_le _) A 0 (Below.refl 0 w)).os, (below_setCells (B := 0) (Nat.zero_le _) A 0 (Below.refl 0 w)).tape, (below_setCells (B := 0) (Nat.zero_le _) A 0 (Below.refl 0 w)).output, Nat.le_of_eq (size_setCells b A 0 w).symm, fun j _ hj => setc_other (fun e => hj (by rw [e]))⟩ ?_)
  rcases h.1.2 with ⟨rfl, _⟩ | ⟨g, c, cur, rfl, hg, _⟩
  · exact .inl rfl
  · exact .inr (fun e => Nat.lt_irrefl _ (Nat.lt_of_lt_of_le hb (by have e9 : g = b := (by simpa [Value.ownBlock] using e); rw [← e9]; exact hg)))
theorem LO.setc {B b : Nat} {w : World} {v : Value} {l : List Lf} {A : List Value} (h : LO B w v l) (hb : b < B) : LS (w.setCells b 0 A) v l := by
  refine ls_row h.2.1 (h.1.kept (w' := w.setCells b 0 A) (row := some b) ⟨(below_setCells (B := 0) (Nat.zero_le _) A 0 (Below.refl 0 w)).os, (below_setCells (B := 0) (Nat.zero_le _) A 0 (Below.refl 0 w)).tape, (below_setCells (B := 0) (Nat.zero_le _) A 0 (Below.refl 0 w)).output, Nat.le_of_eq (size_setCells b A 0 w).symm, fun j _ hj => setc_other (fun e => hj (by rw [e]))⟩ ?_)
  rcases h.1.2 with ⟨rfl, _⟩ | ⟨g, c, cur, rfl, hg, _⟩
  · exact .inl rfl
  · exact .inr (fun e => Nat.lt_irrefl _ (Nat.lt_of_lt_of_le hb (by have e9 : g = b := (by simpa [Value.ownBlock] using e); rw [← e9]; exact hg)))
theorem KO.setc {B b : Nat} {w : World} {v : Value} {l : List Lk} {A : List Value} (h : KO B w v l) (hb : b < B) : KS (w.setCells b 0 A) v l := by
  refine ks_row h.2.1 (h.1.kept (w' := w.setCells b 0 A) (row := some b) ⟨(below_setCells (B := 0) (Nat.zero_le _) A 0 (Below.refl 0 w)).os, (below_setCells (B := 0) (Nat.zero_le _) A 0 (Below.refl 0 w)).tape, (below_setCells (B := 0) (Nat.zero_le _) A 0 (Below.refl 0 w)).output, Nat.le_of_eq (size_setCells b A 0 w).symm, fun j _ hj => setc_other (fun e => hj (by rw [e]))⟩ ?_)
  rcases h.1.2 with ⟨rfl, _⟩ | ⟨g, c, cur, rfl, hg, _⟩
  · exact .inl rfl
  · exact .inr (fun e => Nat.lt_irrefl _ (Nat.lt_of_lt_of_le hb (by have e9 : g = b := (by simpa [Value.ownBlock] using e); rw [← e9]; exact hg)))
theorem isS_of {xs : List Int} (h0 : hasF xs stepS 4 = true) (h1 : isR (mi (decL xs) 1) = true) (h2 : rnb (mi (decL xs) 2) = true) (h3 : (mi (decL xs) 3).length % 64 = 0) (h4 : (mi (decL xs) 4).length % 96 = 0) : isS xs = true := by unfold isS; rw [h0, h1, h2, decide_eq_true h3, decide_eq_true h4]; rfl
theorem addr_lt {w : World} {b o : Nat} {u : Value} (h : w.cell? ⟨b, o, none⟩ = some u) : b < w.heap.size := by
  unfold World.cell? at h
  cases hh : w.heap[b]? with
  | none => rw [show ((⟨b, o, none⟩ : Addr).block) = b from rfl, hh] at h; cases h
  | some X => exact (Array.getElem?_eq_some_iff.1 hh).1
set_option maxHeartbeats 8000000 in
theorem decodeStep_any (xs : List Int) (v : Value) (w : World) (hb : Byt xs) (hs : Sl w v xs) (hl : xs.length ≤ 140737488355328) :
    Calls Try.prog 13 #[v] w fun e w' => ∃ A, e = .returned (.tuple #[.agg A.toArray, .int .i64 (dsE xs)]) ∧ SV w' A (dSp xs) ∧ Below w.heap.size w w' := by
  have HS : Hid (Sl w v xs) := hs
  have HB : Hid (Byt xs) := hb
  clear hb hs
  have hz := zero_step
  have hz2 := zero_root
  go_enter Try.func13, Try.ntmps13
  go_wp2_with fail
  generalize hW : w.alloc _ = w0
  have H0 : Hid (Hd w w0 166) := by rw [← hW]; exact Hd.new w z166_length
  clear hW
  refine (fields_any xs stepS 4 v w0 HB.out (HS.out.below H0.out.bel (Nat.le_refl _)) hl (by omega) (by omega)).mono ?_
  rintro e w1 ⟨⟨v1, rfl, h1, h2⟩, h3⟩
  have H1 : Hid (Hd w w1 166) := H0.out.step h3
  clear h3
  cases hF : hasF xs stepS 4 with
  | false =>
    rw [h2 hF]
    have HU : Hid (isS xs = false) := by show isS xs = false; unfold isS; rw [hF]; rfl
    clear h1 h2
    have E0 : Hid (dSp xs = ⟨zRt, [], [], []⟩ ∧ dsE xs = 2) := ds_no HU.out
    go_wp2_with (first
     | (refine wp_build0s 46 rfl rfl z166.toArray (build_z w1) ?_)
     | (refine wpList_store_mid rfl 46 _ _ rfl w.heap.size 0 z166.toArray rfl rfl (there_of H1.out.there z166_length) (size_step z166_length) z166_one ?_))
    refine bodyPost_ret (v := .tuple #[.agg z166.toArray, .int .i64 2]) ?_ rfl ⟨z166, by rw [E0.out.2], by rw [E0.out.1]; exact z_sv _, (H1.out.put z166_length).1⟩
    have q := (H1.out.put z166_length).2
    simp only [results, Try.results13]
    simp [asAddr, run_loadVar_mid _ w.heap.size 0 46 z166 _ q Try.underlying46 rfl (by rw [z166_length]; exact step_size)]
  | true =>
    have HQ : Hid (LF w0.heap.size w1 v1 ((decL xs).drop 1)) := h1 hF
    clear h1 h2
    have hlen : (decL xs).length = 5 := by
      unfold hasF at hF
      simp only [Bool.and_eq_true, decide_eq_true_eq] at hF
      exact hF.2.1
    obtain ⟨fb, fo, cap, hv, hcap, hlt, hm⟩ := HQ.out.ll.at' (by rw [List.length_drop]; omega)
    subst hv
    rw [List.length_drop, hlen] at hcap hm ⊢
    simp only [mi_drop] at hm
    obtain ⟨u0, k0, s0⟩ := hm 0 (by omega)
    obtain ⟨u1, k1, s1⟩ := hm 1 (by omega)
    obtain ⟨u2, k2, s2⟩ := hm 2 (by omega)
    obtain ⟨u3, k3, s3⟩ := hm 3 (by omega)
    have HSS : Hid (Sl w1 u0 (mi (decL xs) 1) ∧ Sl w1 u1 (mi (decL xs) 2) ∧ Sl w1 u2 (mi (decL xs) 3) ∧ Sl w1 u3 (mi (decL xs) 4)) := ⟨s0, s1, s2, s3⟩
    have HKK : Hid (w1.cell? ⟨fb, fo + 1, none⟩ = some u1 ∧ w1.cell? ⟨fb, fo + 2, none⟩ = some u2 ∧ w1.cell? ⟨fb, fo + 3, none⟩ = some u3 ∧ fb < w1.heap.size) := ⟨k1, k2, k3, hlt⟩
    have HF : Hid (hasF xs stepS 4 = true) := hF
    have HLB : Hid (∀ i, Byt (mi (decL xs) i) ∧ (mi (decL xs) i).length ≤ 1048576) := fun i => decL_mi HB.out i
    rw [Nat.add_zero] at k0
    clear hm s0 s1 s2 s3 k1 k2 k3 hF hlen
    obtain ⟨X1, hX1⟩ : ∃ X, mi (decL xs) 1 = X := ⟨_, rfl⟩
    obtain ⟨X2, hX2⟩ : ∃ X, mi (decL xs) 2 = X := ⟨_, rfl⟩
    obtain ⟨X3, hX3⟩ : ∃ X, mi (decL xs) 3 = X := ⟨_, rfl⟩
    obtain ⟨X4, hX4⟩ : ∃ X, mi (decL xs) 4 = X := ⟨_, rfl⟩
    have HLX : Hid ((Byt X1 ∧ X1.length ≤ 1048576) ∧ (Byt X2 ∧ X2.length ≤ 1048576) ∧ (Byt X3 ∧ X3.length ≤ 1048576) ∧ (Byt X4 ∧ X4.length ≤ 1048576)) := ⟨hX1 ▸ HLB.out 1, hX2 ▸ HLB.out 2, hX3 ▸ HLB.out 3, hX4 ▸ HLB.out 4⟩
    have HXE : Hid (mi (decL xs) 1 = X1 ∧ mi (decL xs) 2 = X2 ∧ mi (decL xs) 3 = X3 ∧ mi (decL xs) 4 = X4) := ⟨hX1, hX2, hX3, hX4⟩
    rw [hX1, hX2, hX3, hX4] at HSS
    clear hX1 hX2 hX3 hX4
    go_wp2_with fail
    refine (decodeRoot_any X1 u0 w1 HLX.out.1.1 HSS.out.1 (by have := HLX.out.1.2; omega)).mono ?_
    rintro e w2 ⟨rfl, h6⟩
    rw [drA_cells]
    have HRL : Hid (aRt X1).L := aRt_L HLX.out.1.1
    have HCL : Hid ((aRt X1).cells.length = 163) := HRL.out.size
    have B2 : Hid (Below w1.heap.size w1 w2) := h6
    clear h6
    obtain ⟨er, her⟩ : ∃ e, drE X1 = e := ⟨_, rfl⟩
    rw [her]
    have HER : Hid (drE X1 = er) := her
    clear her
    go_upto_region 5 with (refine wpList_store_mid rfl 26 _ _ rfl w2.heap.size 0 (aRt X1).cells.toArray rfl rfl (start_there w2 HCL.out) (size_of HCL.out) (cells_one _) ?_)
    generalize hW3 : World.setCells _ _ _ _ = W3
    have H4 := after_store HCL.out hW3
    clear hW3
    have B3 : Hid (Below w1.heap.size w1 W3) := B2.out.trans (H4.out.1.mono B2.out.size)
    have RD : Hid (W3.rangeAt w2.heap.size 0 (aRt X1).cells ∧ w2.heap.size < W3.heap.size) := ⟨H4.out.2.1, (by
      have := H4.out.2.1 0 _ (List.getElem?_eq_getElem (by rw [HCL.out]; decide))
      exact (addr_lt this))⟩
    obtain ⟨D, hD⟩ : ∃ D, w2.heap.size = D := ⟨_, rfl⟩
    rw [hD] at RD ⊢
    clear hD H4 B2 k0
    have k1 : W3.cell? ⟨fb, fo + 1, none⟩ = some u1 := (B3.out.cell (p := ⟨fb, fo + 1, none⟩) HKK.out.2.2.2).trans HKK.out.1
    go_wp2_with fail
    refine (readNodes_any X2 u1 W3 HLX.out.2.1.1 (HSS.out.2.1.below B3.out (Nat.le_refl _)) HLX.out.2.1.2).mono ?_
    rintro e w4 ⟨nv, rfl, g1, g2⟩
    have N4 : Hid (NO W3.heap.size w4 nv (rdn X2)) := g1
    have B4 : Hid (Below w1.heap.size w1 w4) := B3.out.trans (g2.mono B3.out.size)
    have R4 : Hid (w4.rangeAt D 0 (aRt X1).cells ∧ D < w4.heap.size) := ⟨range_below RD.out.1 g2 RD.out.2, Nat.lt_of_lt_of_le RD.out.2 g2.size⟩
    obtain ⟨a1, n1, c1, rfl⟩ := NS.sl g1.ns
    clear g1 g2 k1
    have k2 : w4.cell? ⟨fb, fo + 2, none⟩ = some u2 := (B4.out.cell (p := ⟨fb, fo + 2, none⟩) HKK.out.2.2.2).trans HKK.out.2.1
    go_wp2_with fail
    refine (readLeaves_any X3 u2 w4 HLX.out.2.2.1.1 (HSS.out.2.2.1.below B4.out (Nat.le_refl _)) HLX.out.2.2.1.2).mono ?_
    rintro e w5 ⟨av, rfl, g1, g2⟩
    have L5 : Hid (LO w4.heap.size w5 av (rdl X3)) := g1
    have N5 : Hid (NO W3.heap.size w5 (.slice a1 n1 c1) (rdn X2)) := N4.out.below g2
    have B5 : Hid (Below w1.heap.size w1 w5) := B4.out.trans (g2.mono B4.out.size)
    have R5 : Hid (w5.rangeAt D 0 (aRt X1).cells ∧ D < w5.heap.size) := ⟨range_below R4.out.1 g2 R4.out.2, Nat.lt_of_lt_of_le R4.out.2 g2.size⟩
    obtain ⟨a2, n2, c2, rfl⟩ := LS.sl g1.ls
    clear g1 g2 k2 N4
    have k3 : w5.cell? ⟨fb, fo + 3, none⟩ = some u3 := (B5.out.cell (p := ⟨fb, fo + 3, none⟩) HKK.out.2.2.2).trans HKK.out.2.2.1
    go_wp2_with fail
    refine (readLinks_any X4 u3 w5 HLX.out.2.2.2.1 (HSS.out.2.2.2.below B5.out (Nat.le_refl _)) HLX.out.2.2.2.2).mono ?_
    rintro e w6 ⟨kv, rfl, g1, g2⟩
    have K6 : Hid (KO w5.heap.size w6 kv (rdk X4)) := g1
    have L6 : Hid (LO w4.heap.size w6 (.slice a2 n2 c2) (rdl X3)) := L5.out.below g2
    have N6 : Hid (NO W3.heap.size w6 (.slice a1 n1 c1) (rdn X2)) := N5.out.below g2
    have B6 : Hid (Below w1.heap.size w1 w6) := B5.out.trans (g2.mono B5.out.size)
    have R6 : Hid (w6.rangeAt D 0 (aRt X1).cells ∧ D < w6.heap.size) := ⟨range_below R5.out.1 g2 R5.out.2, Nat.lt_of_lt_of_le R5.out.2 g2.size⟩
    have H6 : Hid (Hd w w6 166) := H1.out.step B6.out
    have HLT : Hid (w.heap.size < W3.heap.size ∧ w.heap.size < w4.heap.size ∧ w.heap.size < w5.heap.size) := by
      have e1 := H1.out.size
      have e2 := B3.out.size
      have e3 := B4.out.size
      have e4 := B5.out.size
      exact ⟨by omega, by omega, by omega⟩
    obtain ⟨a3, n3, c3, rfl⟩ := KS.sl g1.ks
    clear g1 g2 k3 L5 N5
    obtain ⟨b2, hb2⟩ : ∃ b, rnb X2 = b := ⟨_, rfl⟩
    obtain ⟨b3, hb3⟩ : ∃ b, decide (X3.length % 64 = 0) = b := ⟨_, rfl⟩
    obtain ⟨b4, hb4⟩ : ∃ b, decide (X4.length % 96 = 0) = b := ⟨_, rfl⟩
    have HBB : Hid (rnb X2 = b2 ∧ decide (X3.length % 64 = 0) = b3 ∧ decide (X4.length % 96 = 0) = b4) := ⟨hb2, hb3, hb4⟩
    rw [hb2, hb3, hb4]
    clear hb2 hb3 hb4 hcap
    have HIS : Hid (isS xs = (isR X1 && (b2 && (b3 && b4)))) := by
      show isS xs = _
      unfold isS
      rw [HF.out, HXE.out.1, HXE.out.2.1, HXE.out.2.2.1, HXE.out.2.2.2, HBB.out.1, HBB.out.2.1, HBB.out.2.2]; rfl
    cases hq1 : isR X1 with
    | false =>
      have her : er = 2 := by rw [← HER.out]; unfold drE; rw [hq1]
      subst her
      have HU : Hid (isS xs = false) := by rw [HIS.out, hq1]; rfl
      have E0 : Hid (dSp xs = ⟨zRt, [], [], []⟩ ∧ dsE xs = 2) := ds_no HU.out
      go_wp2_with (first
       | (refine wp_build0s 46 rfl rfl z166.toArray (build_z w6) ?_)
       | (refine wpList_store_mid rfl 46 _ _ rfl w.heap.size 0 z166.toArray rfl rfl (there_of H6.out.there z166_length) (size_step z166_length) z166_one ?_))
      refine bodyPost_ret (v := .tuple #[.agg z166.toArray, .int .i64 2]) ?_ rfl ⟨z166, by rw [E0.out.2], by rw [E0.out.1]; exact z_sv _, (H6.out.put z166_length).1⟩
      have q := (H6.out.put z166_length).2
      simp only [results, Try.results13]
      simp [asAddr, run_loadVar_mid _ w.heap.size 0 46 z166 _ q Try.underlying46 rfl (by rw [z166_length]; exact step_size)]
    | true =>
      have her : er = 0 := by rw [← HER.out]; unfold drE; rw [hq1]
      subst her
      cases b2 with
      | false =>
        have HU : Hid (isS xs = false) := by rw [HIS.out, hq1]; rfl
        have E0 : Hid (dSp xs = ⟨zRt, [], [], []⟩ ∧ dsE xs = 2) := ds_no HU.out
        go_wp2_with (first
         | (refine wp_build0s 46 rfl rfl z166.toArray (build_z w6) ?_)
         | (refine wpList_store_mid rfl 46 _ _ rfl w.heap.size 0 z166.toArray rfl rfl (there_of H6.out.there z166_length) (size_step z166_length) z166_one ?_))
        refine bodyPost_ret (v := .tuple #[.agg z166.toArray, .int .i64 2]) ?_ rfl ⟨z166, by rw [E0.out.2], by rw [E0.out.1]; exact z_sv _, (H6.out.put z166_length).1⟩
        have q := (H6.out.put z166_length).2
        simp only [results, Try.results13]
        simp [asAddr, run_loadVar_mid _ w.heap.size 0 46 z166 _ q Try.underlying46 rfl (by rw [z166_length]; exact step_size)]
      | true =>
        cases b3 with
        | false =>
          have HU : Hid (isS xs = false) := by rw [HIS.out, hq1]; rfl
          have E0 : Hid (dSp xs = ⟨zRt, [], [], []⟩ ∧ dsE xs = 2) := ds_no HU.out
          go_wp2_with (first
           | (refine wp_build0s 46 rfl rfl z166.toArray (build_z w6) ?_)
           | (refine wpList_store_mid rfl 46 _ _ rfl w.heap.size 0 z166.toArray rfl rfl (there_of H6.out.there z166_length) (size_step z166_length) z166_one ?_))
          refine bodyPost_ret (v := .tuple #[.agg z166.toArray, .int .i64 2]) ?_ rfl ⟨z166, by rw [E0.out.2], by rw [E0.out.1]; exact z_sv _, (H6.out.put z166_length).1⟩
          have q := (H6.out.put z166_length).2
          simp only [results, Try.results13]
          simp [asAddr, run_loadVar_mid _ w.heap.size 0 46 z166 _ q Try.underlying46 rfl (by rw [z166_length]; exact step_size)]
        | true =>
          cases b4 with
          | false =>
            have HU : Hid (isS xs = false) := by rw [HIS.out, hq1]; rfl
            have E0 : Hid (dSp xs = ⟨zRt, [], [], []⟩ ∧ dsE xs = 2) := ds_no HU.out
            go_wp2_with (first
             | (refine wp_build0s 46 rfl rfl z166.toArray (build_z w6) ?_)
             | (refine wpList_store_mid rfl 46 _ _ rfl w.heap.size 0 z166.toArray rfl rfl (there_of H6.out.there z166_length) (size_step z166_length) z166_one ?_))
            refine bodyPost_ret (v := .tuple #[.agg z166.toArray, .int .i64 2]) ?_ rfl ⟨z166, by rw [E0.out.2], by rw [E0.out.1]; exact z_sv _, (H6.out.put z166_length).1⟩
            have q := (H6.out.put z166_length).2
            simp only [results, Try.results13]
            simp [asAddr, run_loadVar_mid _ w.heap.size 0 46 z166 _ q Try.underlying46 rfl (by rw [z166_length]; exact step_size)]
          | true =>
            have HU : Hid (isS xs = true) := by rw [HIS.out, hq1]; rfl
            have E0 := ds_yes HU.out
            rw [HXE.out.1, HXE.out.2.1, HXE.out.2.2.1, HXE.out.2.2.2] at E0
            have hart : aRt X1 = dRt X1 := by unfold aRt; rw [hq1]
            have E1 : Hid (dSp xs = ⟨aRt X1, rdn X2, rdl X3, rdk X4⟩ ∧ dsE xs = 0) := by rw [hart]; exact E0
            have HSL : Hid ((sc (aRt X1) (.slice a1 n1 c1) (.slice a2 n2 c2) (.slice a3 n3 c3)).length = 166) := sc_L HRL.out _ _ _
            clear E0 hart hq1
            go_wp2_with (first
              | (refine wpList_load_mid rfl 26 _ rfl D 0 rfl (aRt X1).cells _ R6.out.1 Try.underlying26 rfl (by rw [HCL.out]; exact root_size) ?_)
              | (refine wp_build4 46 _ _ _ _ rfl rfl (.agg (aRt X1).cells.toArray) (.slice a1 n1 c1) (.slice a2 n2 c2) (.slice a3 n3 c3) rfl rfl rfl rfl _ (build_step HRL.out a1 a2 a3 n1 n2 n3 c1 c2 c3 w6) ?_)
              | (refine wpList_store_mid rfl 46 _ _ rfl w.heap.size 0 (sc (aRt X1) (.slice a1 n1 c1) (.slice a2 n2 c2) (.slice a3 n3 c3)).toArray rfl rfl (there_of H6.out.there HSL.out) (size_step HSL.out) (sc_one _ _ _ _ _ _ _ _ _ _) ?_))
            refine bodyPost_ret (v := .tuple #[.agg (sc (aRt X1) (.slice a1 n1 c1) (.slice a2 n2 c2) (.slice a3 n3 c3)).toArray, .int .i64 0]) ?_ rfl ⟨_, by rw [E1.out.2], by rw [E1.out.1]; exact ⟨_, _, _, rfl, N6.out.setc HLT.out.1, L6.out.setc HLT.out.2.1, K6.out.setc HLT.out.2.2⟩, (H6.out.put HSL.out).1⟩
            have q := (H6.out.put HSL.out).2
            simp only [results, Try.results13]
            simp [asAddr, run_loadVar_mid _ w.heap.size 0 46 (sc (aRt X1) (.slice a1 n1 c1) (.slice a2 n2 c2) (.slice a3 n3 c3)) _ q Try.underlying46 rfl (by rw [HSL.out]; exact step_size)]
end Go.Proofs.Ytfnmdeekenjlgaa
