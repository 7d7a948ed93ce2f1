/- WireRoots, walked. -/
import Derived.Test.YthmeoobnddbgbaaWrtJ
import Derived.Test.YthmeoobnddbgbaaWrtL
import Derived.Deep.QuietTactic
import Derived.BigQuiet
namespace Go.Proofs.Ythmeoobnddbgbaa
open Go Go.RowKit
set_option linter.unusedSimpArgs false
set_option linter.unusedVariables false
set_option maxRecDepth 100000

theorem RowR.below {w w' : World} {b : Nat} {cs : List Value} (h : RowR w b cs) (hb : Below w.heap.size w w') : RowR w' b cs := h.keep (hb.block _ h.lt)
/-- A row more. -/
theorem RowR.lay {w W : World} {cs : List Value} (hl : cs.length = 163) (eW : (w.alloc (.cells z163.toArray 26)).setCells w.heap.size 0 cs = W) : Hid (RowR W w.heap.size cs ∧ Below w.heap.size w W) := by
  subst eW
  exact ⟨(RowR.new w).put hl, below_setCells _ (Nat.le_refl _) _ _ _ ((Below.refl _ _).alloc (Nat.le_refl _) _)⟩
theorem load_gR {P : Program} {ops : Array Oper} {rest : List Oper} {op : Oper} {a : Act} {w : World} {Q : Exit → Act → World → Prop} (hw : Region.wanted op (yielded ops a.tmps) = true) (ty : TypeId) (x : Operand) (ho : op.op = .load ty x)
    (b o : Nat) (hx : a.eval x = .pointer (some ⟨b, o, none⟩)) (cs : List Value) (d : TypeDesc) (hc : w.rangeAt b o cs)
    (hu : P.underlying ty = some d) (hd : d.isRow = true) (hi : (P.info? ty).map (·.size) = some cs.length)
    (h : wpList P ops Q rest (a.put op.dst (.agg cs.toArray)) w) : wpList P ops Q (op :: rest) a w := by
  unfold wpList
  rw [if_pos hw]
  exact .inl (wp_load_mid ty x ho b o hx cs d hc hu hd hi h)
def e8Ω (w : World) (b5 b2 : Nat) (A C : List Value) (v : Value) (xs : List Int) (k : Nat) (U : Nat → Value) (W : World) : Prop :=
  RowR W b5 A ∧ RowR W b2 C ∧ Below w.heap.size w W ∧ Sl W v xs ∧ (0 < k → Sl W (U 0) xs)
theorem e8Ω.step {w W W' : World} {b5 b2 : Nat} {A C : List Value} {v v' : Value} {xs : List Int} {U : Nat → Value} (h : e8Ω w b5 b2 A C v xs 0 U W) (h1 : Sl W' v' xs) (h2 : Below W.heap.size W W') : e8Ω w b5 b2 A C v xs 1 (RT.updU U 0 v') W' :=
  ⟨h.1.below h2, h.2.1.below h2, h.2.2.1.trans (h2.mono h.2.2.1.size), h.2.2.2.1.below h2 (Nat.le_refl _), fun _ => h1⟩
def e8f (v : Value) (xs : List Int) : Nat → Value
  | 0 => .int .i64 0
  | 1 => .bool true
  | 2 => .bool true
  | 3 => .agg (drA xs).toArray
  | 5 => .string (strOfNums xs)
  | 6 => v
  | 7 => .string (strOfNums xs)
  | 8 => .bool false
  | 9 => .bool false
  | _ => undef
structure e10Ω (w : World) (b2 : Nat) (R : Rt) (k : Nat) (U : Nat → Value) (W : World) : Prop where
  row : RowR W b2 R.cells
  bel : Below w.heap.size w W
  u0 : 0 < k → Sl W (U 0) (encB R.list)
  u1 : 1 < k → Sl W (U 1) (encB R.list)
  u2 : 2 < k → Sl W (U 2) (encB R.all)
  u3 : 3 < k → Sl W (U 3) (encB R.all)
section
variable {w W W' : World} {b2 : Nat} {R : Rt} {U : Nat → Value} {v' : Value}
theorem e10Ω.s0 (h : e10Ω w b2 R 0 U W) (h1 : Sl W' v' (encB R.list)) (h2 : Below W.heap.size W W') : e10Ω w b2 R 1 (RT.updU U 0 v') W' :=
  ⟨h.row.below h2, h.bel.trans (h2.mono h.bel.size), fun _ => h1, fun e => by omega, fun e => by omega, fun e => by omega⟩
theorem e10Ω.s1 (h : e10Ω w b2 R 1 U W) (h1 : Sl W' v' (encB R.list)) (h2 : Below W.heap.size W W') : e10Ω w b2 R 2 (RT.updU U 1 v') W' :=
  ⟨h.row.below h2, h.bel.trans (h2.mono h.bel.size), fun _ => (h.u0 (by decide)).below h2 (Nat.le_refl _), fun _ => h1, fun e => by omega, fun e => by omega⟩
theorem e10Ω.s2 (h : e10Ω w b2 R 2 U W) (h1 : Sl W' v' (encB R.all)) (h2 : Below W.heap.size W W') : e10Ω w b2 R 3 (RT.updU U 2 v') W' :=
  ⟨h.row.below h2, h.bel.trans (h2.mono h.bel.size), fun _ => (h.u0 (by decide)).below h2 (Nat.le_refl _), fun _ => (h.u1 (by decide)).below h2 (Nat.le_refl _), fun _ => h1, fun e => by omega⟩
theorem e10Ω.s3 (h : e10Ω w b2 R 3 U W) (h1 : Sl W' v' (encB R.all)) (h2 : Below W.heap.size W W') : e10Ω w b2 R 4 (RT.updU U 3 v') W' :=
  ⟨h.row.below h2, h.bel.trans (h2.mono h.bel.size), fun _ => (h.u0 (by decide)).below h2 (Nat.le_refl _), fun _ => (h.u1 (by decide)).below h2 (Nat.le_refl _), fun _ => (h.u2 (by decide)).below h2 (Nat.le_refl _), fun _ => h1⟩
end
def e10f (R : Rt) : Nat → Value
  | 0 => .agg R.cells.toArray
  | 2 => .string (strOfNums (encB R.list))
  | 3 => .agg R.cells.toArray
  | 5 => .string (strOfNums (encB R.list))
  | 6 => .bool true
  | 7 => .bool true
  | 8 => .agg R.cells.toArray
  | 10 => .string (strOfNums (encB R.all))
  | 11 => .agg R.cells.toArray
  | 13 => .string (strOfNums (encB R.all))
  | 14 => .bool true
  | 15 => .bool true
  | 16 => .bool true
  | _ => undef
/-- Where both ways meet. -/
def rootsMid (w : World) (R : Rt) (a : Act) (W : World) : Prop :=
  a.tmps.size = 72 ∧ a.eval (.tmp 2) = .pointer (some ⟨w.heap.size, 0, none⟩) ∧ a.defers = [] ∧ a.eval (.tmp 55) = .bool false ∧ RowR W w.heap.size R.cells ∧ Below w.heap.size w W
theorem drA_length {xs : List Int} (hb : Byt xs) : (drA xs).length = 163 := by
  obtain ⟨h1, h2, h3, h4⟩ := aRt_lens hb
  rw [drA_cells]; simp [Rt.cells, bv_length, h1, h2, h3, h4]
theorem drA_one (xs : List Int) : (drA xs).toArray.all (·.oneCell') = true := by rw [drA_cells]; exact cells_one _
theorem encB_byt' {xss : List (List Int)} (h : ∀ i, i < xss.length → Byt (mi xss i)) : Byt (encB xss) := by
  cases hb : big xss with
  | true => rw [(encE_big hb).2]; exact Byt.nil
  | false =>
    rw [(encE_ok hb).2, encK_fl xss _ (Nat.le_refl _), List.take_of_length_le (Nat.le_refl _)]
    refine (be_byt4 _).append (fl_byt (fun m hm => ?_))
    obtain ⟨i, hi⟩ := List.getElem?_of_mem hm
    have hlt := (List.getElem?_eq_some_iff.1 hi).1
    have := h i hlt
    have e : mi xss i = m := by simp [mi, List.getD_eq_getElem?_getD, hi]
    rw [e] at this; exact this
set_option maxHeartbeats 16000000 in
theorem wireRoots_walk (R : Rt) (hR : R.Ok) (xs : List Int) (v : Value) (w : World) (hb : Byt xs) (hs : Sl w v xs) (hl : xs.length ≤ 140737488355328) :
    Calls Try.prog 3 #[.agg R.cells.toArray, v] w fun e w' => e = .returned (.bool true) ∧ Below w.heap.size w w' := by
  have HS : Hid (Sl w v xs) := hs
  have HB : Hid (Byt xs) := hb
  have HR : Hid R.Ok := hR
  have HRL : Hid (R.cells.length = 163) := (by simpa using Rt.size hR : R.cells.length = 163)
  have HD : Hid ((drA xs).length = 163) := drA_length hb
  have HRA : Hid (drA (encB R.all) = R.cells ∧ drE (encB R.all) = 0) := ⟨by unfold drA; rw [(r_of hR).1, (r_of hR).2], by unfold drE; rw [(r_of hR).1]⟩
  have HQ1 : Hid (∀ W : World, (Op.equalIn 10000 26 (.agg (drA xs).toArray) (.agg (drA xs).toArray)).run Try.prog W = .ok true W) := fun W => by
    obtain ⟨h1, h2, h3, h4⟩ := aRt_lens hb
    rw [drA_cells]; exact eq_root _ h1 h2 h3 h4 W
  have HQ2 : Hid (∀ W : World, (Op.equalIn 10000 26 (.agg R.cells.toArray) (.agg R.cells.toArray)).run Try.prog W = .ok true W) := fun W => eq_root R hR.pr.1 hR.hs.1 hR.lk.1 hR.sg.1 W
  have HBA : Hid (Byt (encB R.all)) := encB_byt' (fun i hi => by
    have hi' : i < 3 := hi
    rcases (show i = 0 ∨ i = 1 ∨ i = 2 by omega) with rfl | rfl | rfl
    · exact byt_sign
    · exact encB_byt' (fun i hi => by
        have hi' : i < 7 := hi
        rcases (show i = 0 ∨ i = 1 ∨ i = 2 ∨ i = 3 ∨ i = 4 ∨ i = 5 ∨ i = 6 by omega) with rfl | rfl | rfl | rfl | rfl | rfl | rfl
        · exact byt_root
        · exact be_byt _ _
        · exact be_byt _ _
        · exact be_byt _ _
        · exact hR.pr.2
        · exact hR.hs.2
        · exact hR.lk.2)
    · exact hR.sg.2)
  have HEC : Hid (isR xs = true → ∀ V : World, Calls Try.prog 9 #[.agg (drA xs).toArray] V fun e w' => ∃ v', e = .returned v' ∧ Sl w' v' xs ∧ Below V.heap.size V w') := fun h V => by
    obtain ⟨h1, h2⟩ := r_back hb h
    have := encodeRoot_any (dRt xs) V h2
    rw [h1] at this
    unfold drA; rw [h]; exact this
  have HLA : Hid ((encB R.all).length ≤ 140737488355328) := Nat.le_trans (encB_small _) (by decide)
  clear hb hs hR
  have hz := zero_root
  go_enter Try.func3, Try.ntmps3
  go_wp2_with fail
  have R0 : Hid (RowR (w.alloc (.cells R.cells.toArray 26)) w.heap.size R.cells) := ⟨R.cells.toArray, by rw [World.alloc]; simp only [Array.getElem?_push, if_true], by rw [List.size_toArray]; exact HRL.out, by simp⟩
  have B0 : Hid (Below w.heap.size w (w.alloc (.cells R.cells.toArray 26))) := (Below.refl _ _).alloc (Nat.le_refl _) _
  generalize hW : w.alloc _ = w0 at R0 B0 ⊢
  clear hW
  refine (awake_any w0).mono ?_
  rintro e w1 ⟨rfl, h1⟩
  have R1 : Hid (RowR w1 w.heap.size R.cells) := R0.out.below h1
  have B1 : Hid (Below w.heap.size w w1) := B0.out.trans (h1.mono B0.out.size)
  clear h1
  go_wp2_with fail
  refine (decodeRoot_any xs v w1 HB.out (HS.out.below B1.out (Nat.le_refl _)) hl).mono ?_
  rintro e w2 ⟨rfl, h2⟩
  have R2 : Hid (RowR w2 w.heap.size R.cells) := R1.out.below h2
  have B2 : Hid (Below w.heap.size w w2) := B1.out.trans (h2.mono B1.out.size)
  clear h2
  obtain ⟨E, hE⟩ : ∃ E, drE xs = E := ⟨_, rfl⟩
  rw [hE]
  have HE : Hid (drE xs = E) := hE
  clear hE
  go_wp2_with (refine wpList_store_mid rfl 26 _ _ rfl w2.heap.size 0 (drA xs).toArray rfl rfl (start_there w2 HD.out) (size_of HD.out) (drA_one xs) ?_; generalize hW3 : World.setCells _ _ _ _ = W3; have L3 := RowR.lay HD.out hW3; clear hW3; have R3 : Hid (RowR W3 w.heap.size R.cells) := R2.out.below L3.out.2; have B3 : Hid (Below w.heap.size w W3) := B2.out.trans (L3.out.2.mono B2.out.size); have X3 : Hid (RowR W3 w2.heap.size (drA xs)) := L3.out.1; clear L3; generalize hb5 : w2.heap.size = b5 at X3 ⊢; clear hb5)
  refine (rdecodeRoot_any xs v W3 HB.out (HS.out.below B3.out (Nat.le_refl _)) hl).mono ?_
  rintro e w4 ⟨rfl, h4⟩
  rw [HE.out]
  have R4 : Hid (RowR w4 w.heap.size R.cells) := R3.out.below h4
  have X4 : Hid (RowR w4 b5 (drA xs)) := X3.out.below h4
  have B4 : Hid (Below w.heap.size w w4) := B3.out.trans (h4.mono B3.out.size)
  clear h4
  go_wp2_with (first
    | (refine wpList_store_mid rfl 26 _ _ rfl w4.heap.size 0 (drA xs).toArray rfl rfl (start_there w4 HD.out) (size_of HD.out) (drA_one xs) ?_; generalize hW5 : World.setCells _ _ _ _ = W5; have L5 := RowR.lay HD.out hW5; clear hW5; have R5 : Hid (RowR W5 w.heap.size R.cells) := R4.out.below L5.out.2; have X5 : Hid (RowR W5 b5 (drA xs)) := X4.out.below L5.out.2; have B5 : Hid (Below w.heap.size w W5) := B4.out.trans (L5.out.2.mono B4.out.size); have Y5 : Hid (RowR W5 w4.heap.size (drA xs)) := L5.out.1; clear L5; generalize hb7 : w4.heap.size = b7 at Y5 ⊢; clear hb7)
    | (refine wpList_load_mid rfl 26 _ rfl w.heap.size 0 rfl R.cells _ R5.out.range Try.underlying26 rfl (by rw [HRL.out]; exact root_size) ?_))
  refine (encodeRoot_any R W5 HR.out).mono ?_
  rintro e w6 ⟨v6, rfl, h6, h6b⟩
  have R6 : Hid (RowR w6 w.heap.size R.cells) := R5.out.below h6b
  have X6 : Hid (RowR w6 b5 (drA xs)) := X5.out.below h6b
  have Y6 : Hid (RowR w6 b7 (drA xs)) := Y5.out.below h6b
  have B6 : Hid (Below w.heap.size w w6) := B5.out.trans (h6b.mono B5.out.size)
  have S6 : Hid (Sl w6 v6 (encB R.all)) := h6
  clear h6 h6b
  go_wp2_with fail
  refine (decodeRoot_any (encB R.all) v6 w6 HBA.out S6.out HLA.out).mono ?_
  rintro e w7 ⟨rfl, h7⟩
  rw [HRA.out.1, HRA.out.2]
  have R7 : Hid (RowR w7 w.heap.size R.cells) := R6.out.below h7
  have X7 : Hid (RowR w7 b5 (drA xs)) := X6.out.below h7
  have Y7 : Hid (RowR w7 b7 (drA xs)) := Y6.out.below h7
  have B7 : Hid (Below w.heap.size w w7) := B6.out.trans (h7.mono B6.out.size)
  clear h7
  have hq1 := HQ1.out
  have hq2 := HQ2.out
  go_wp2_with (first
    | (refine wpList_store_mid rfl 26 _ _ rfl w7.heap.size 0 R.cells.toArray rfl rfl (start_there w7 HRL.out) (size_of HRL.out) (cells_one R) ?_; generalize hW8 : World.setCells _ _ _ _ = W8; have L8 := RowR.lay HRL.out hW8; clear hW8; have R8 : Hid (RowR W8 w.heap.size R.cells) := R7.out.below L8.out.2; have X8 : Hid (RowR W8 b5 (drA xs)) := X7.out.below L8.out.2; have Y8 : Hid (RowR W8 b7 (drA xs)) := Y7.out.below L8.out.2; have B8 : Hid (Below w.heap.size w W8) := B7.out.trans (L8.out.2.mono B7.out.size); have Z8 : Hid (RowR W8 w7.heap.size R.cells) := L8.out.1; clear L8; generalize hb9 : w7.heap.size = b9 at Z8 ⊢; clear hb9)
    | (refine load_gR rfl 26 _ rfl b5 0 rfl (drA xs) _ X8.out.range Try.underlying26 rfl (by rw [HD.out]; exact root_size) ?_)
    | (refine load_gR rfl 26 _ rfl b7 0 rfl (drA xs) _ Y8.out.range Try.underlying26 rfl (by rw [HD.out]; exact root_size) ?_)
    | (refine load_gR rfl 26 _ rfl b9 0 rfl R.cells _ Z8.out.range Try.underlying26 rfl (by rw [HRL.out]; exact root_size) ?_)
    | (refine load_gR rfl 26 _ rfl w.heap.size 0 rfl R.cells _ R8.out.range Try.underlying26 rfl (by rw [HRL.out]; exact root_size) ?_))
  clear hq1 hq2
  refine Code.wp_mono (Q := fun e a' W' => e = .normal ∧ rootsMid w R a' W') ?_ ?_
  · rintro e a9 W9 ⟨rfl, hN, h2, hdf, h55, hR9, hB9⟩
    have HN : Hid (a9.tmps.size = 72) := hN
    have H2 : Hid (a9.eval (.tmp 2) = .pointer (some ⟨w.heap.size, 0, none⟩)) := h2
    have HDF : Hid (a9.defers = []) := hdf
    have R9 : Hid (RowR W9 w.heap.size R.cells) := hR9
    have B9 : Hid (Below w.heap.size w W9) := hB9
    clear hN h2 hdf hR9 hB9
    go_wp2_with fail
    refine wp_cond_false h55 ?_
    clear h55
    go_wp2_with fail
    refine RT.wp_rgn [1, 4, 9, 12] (e10f R) (fun _ => 4) (e10Ω w w.heap.size R) (by kernel_rfl) (by rw [HN.out]; kernel_rfl) ?_ ?_ ?_
    · exact ⟨R9.out.keep rfl, B9.out.trans ⟨rfl, rfl, rfl, Nat.le_refl _, fun _ _ => rfl⟩, fun e => by omega, fun e => by omega, fun e => by omega, fun e => by omega⟩
    · refine ⟨?_, ?_, ?_, ?_, ?_, ?_, ?_, ?_, ?_, ?_, ?_, ?_, ?_, ?_, ?_, ?_, ?_, trivial⟩
      · refine RT.ObT.silent rfl (fun a V k0 U hO hf hp hk => ?_)
        refine RT.ob_op rfl (RT.wanted_none rfl) (wp_load_mid 26 (.tmp 2) rfl w.heap.size 0 ((hf 2 rfl).trans H2.out) (R.cells) _ hO.row.range Try.underlying26 rfl (by rw [HRL.out]; exact root_size) ⟨rfl, hO⟩)
      · refine RT.ObT.loud (j := 0) rfl (fun a V U hO hf hp => ?_)
        refine RT.ob_call (g := 10) (args := #[.agg R.cells.toArray]) rfl (RT.wanted_none rfl) (fun ev he hc => ?_) ((rootBytes_any R V HR.out).mono ?_)
        · have e1 : ev (.tmp 56) = .agg R.cells.toArray := (he (.tmp 56)).trans (hp 0 56 rfl)
          simp only [List.getElem_toArray, List.getElem_cons_succ, List.getElem_cons_zero, execOp]
          simp only [resolve, invoke, builtin, Sem.run_bind, Sem.run_pure, Result.andThen_ok, List.map_toArray, List.map_cons, List.map_nil, e1, he, Act.eval]
          rfl
        · rintro e V' ⟨v', rfl, h1, h2⟩
          exact ⟨v', rfl, v', rfl, hO.s0 h1 h2⟩
      · refine RT.ObT.silent' rfl (fun a V k0 U hO hf hp hl hk => ?_)
        have hj := hl 0 rfl
        have hstr := (hO.u0 hj).str
        refine RT.ob_val rfl (RT.wanted_none rfl) (fun ev he hc => ?_) ⟨rfl, hO⟩
        have q : ev (.tmp 57) = U 0 := (he (.tmp 57)).trans (hp 1 57 rfl)
        simp only [List.getElem_toArray, List.getElem_cons_succ, List.getElem_cons_zero, execOp]; rw [q]; simp only [Sem.run_bind, hstr, Result.andThen_ok]; rfl
      · refine RT.ObT.silent rfl (fun a V k0 U hO hf hp hk => ?_)
        refine RT.ob_op rfl (RT.wanted_none rfl) (wp_load_mid 26 (.tmp 2) rfl w.heap.size 0 ((hf 2 rfl).trans H2.out) (R.cells) _ hO.row.range Try.underlying26 rfl (by rw [HRL.out]; exact root_size) ⟨rfl, hO⟩)
      · refine RT.ObT.loud (j := 1) rfl (fun a V U hO hf hp => ?_)
        refine RT.ob_call (g := 11) (args := #[.agg R.cells.toArray]) rfl (RT.wanted_none rfl) (fun ev he hc => ?_) ((rrootBytes_any R V HR.out).mono ?_)
        · have e1 : ev (.tmp 59) = .agg R.cells.toArray := (he (.tmp 59)).trans (hp 3 59 rfl)
          simp only [List.getElem_toArray, List.getElem_cons_succ, List.getElem_cons_zero, execOp]
          simp only [resolve, invoke, builtin, Sem.run_bind, Sem.run_pure, Result.andThen_ok, List.map_toArray, List.map_cons, List.map_nil, e1, he, Act.eval]
          rfl
        · rintro e V' ⟨v', rfl, h1, h2⟩
          exact ⟨v', rfl, v', rfl, hO.s1 h1 h2⟩
      · refine RT.ObT.silent' rfl (fun a V k0 U hO hf hp hl hk => ?_)
        have hj := hl 1 rfl
        have hstr := (hO.u1 hj).str
        refine RT.ob_val rfl (RT.wanted_none rfl) (fun ev he hc => ?_) ⟨rfl, hO⟩
        have q : ev (.tmp 60) = U 1 := (he (.tmp 60)).trans (hp 4 60 rfl)
        simp only [List.getElem_toArray, List.getElem_cons_succ, List.getElem_cons_zero, execOp]; rw [q]; simp only [Sem.run_bind, hstr, Result.andThen_ok]; rfl
      · refine RT.ObT.pure rfl rfl rfl (fun a U hf hp ev he hc W => ?_)
        have q58 : ev (.tmp 58) = .string (strOfNums (encB R.list)) := (he (.tmp 58)).trans (hp 2 58 rfl)
        have q61 : ev (.tmp 61) = .string (strOfNums (encB R.list)) := (he (.tmp 61)).trans (hp 5 61 rfl)
        simp only [List.getElem_toArray, List.getElem_cons_succ, List.getElem_cons_zero, execOp]; rw [q58, q61]
        first | rfl | (go_simp; done) | (go_simp; rfl) | (go_simp; simp; done)
      · refine RT.ObT.pure rfl rfl rfl (fun a U hf hp ev he hc W => ?_)
        have q62 : ev (.tmp 62) = .bool true := (he (.tmp 62)).trans (hp 6 62 rfl)
        simp only [List.getElem_toArray, List.getElem_cons_succ, List.getElem_cons_zero, execOp]; rw [q62]
        first | rfl | (go_simp; done) | (go_simp; rfl) | (go_simp; simp; done)
      · refine RT.ObT.silent rfl (fun a V k0 U hO hf hp hk => ?_)
        have hg : a.eval (.tmp 63) = .bool true := hp 7 63 rfl
        refine RT.ob_op rfl (RT.wanted_some rfl rfl rfl hg) (wp_load_mid 26 (.tmp 2) rfl w.heap.size 0 ((hf 2 rfl).trans H2.out) (R.cells) _ hO.row.range Try.underlying26 rfl (by rw [HRL.out]; exact root_size) ⟨rfl, hO⟩)
      · refine RT.ObT.loud (j := 2) rfl (fun a V U hO hf hp => ?_)
        have hg : a.eval (.tmp 63) = .bool true := hp 7 63 rfl
        refine RT.ob_call (g := 9) (args := #[.agg R.cells.toArray]) rfl (RT.wanted_some rfl rfl rfl hg) (fun ev he hc => ?_) ((encodeRoot_any R V HR.out).mono ?_)
        · have e1 : ev (.tmp 64) = .agg R.cells.toArray := (he (.tmp 64)).trans (hp 8 64 rfl)
          simp only [List.getElem_toArray, List.getElem_cons_succ, List.getElem_cons_zero, execOp]
          simp only [resolve, invoke, builtin, Sem.run_bind, Sem.run_pure, Result.andThen_ok, List.map_toArray, List.map_cons, List.map_nil, e1, he, Act.eval]
          rfl
        · rintro e V' ⟨v', rfl, h1, h2⟩
          exact ⟨v', rfl, v', rfl, hO.s2 h1 h2⟩
      · refine RT.ObT.silent' rfl (fun a V k0 U hO hf hp hl hk => ?_)
        have hg : a.eval (.tmp 63) = .bool true := hp 7 63 rfl
        have hj := hl 2 rfl
        have hstr := (hO.u2 hj).str
        refine RT.ob_val rfl (RT.wanted_some rfl rfl rfl hg) (fun ev he hc => ?_) ⟨rfl, hO⟩
        have q : ev (.tmp 65) = U 2 := (he (.tmp 65)).trans (hp 9 65 rfl)
        simp only [List.getElem_toArray, List.getElem_cons_succ, List.getElem_cons_zero, execOp]; rw [q]; simp only [Sem.run_bind, hstr, Result.andThen_ok]; rfl
      · refine RT.ObT.silent rfl (fun a V k0 U hO hf hp hk => ?_)
        have hg : a.eval (.tmp 63) = .bool true := hp 7 63 rfl
        refine RT.ob_op rfl (RT.wanted_some rfl rfl rfl hg) (wp_load_mid 26 (.tmp 2) rfl w.heap.size 0 ((hf 2 rfl).trans H2.out) (R.cells) _ hO.row.range Try.underlying26 rfl (by rw [HRL.out]; exact root_size) ⟨rfl, hO⟩)
      · refine RT.ObT.loud (j := 3) rfl (fun a V U hO hf hp => ?_)
        have hg : a.eval (.tmp 63) = .bool true := hp 7 63 rfl
        refine RT.ob_call (g := 12) (args := #[.agg R.cells.toArray]) rfl (RT.wanted_some rfl rfl rfl hg) (fun ev he hc => ?_) ((rencodeRoot_any R V HR.out).mono ?_)
        · have e1 : ev (.tmp 67) = .agg R.cells.toArray := (he (.tmp 67)).trans (hp 11 67 rfl)
          simp only [List.getElem_toArray, List.getElem_cons_succ, List.getElem_cons_zero, execOp]
          simp only [resolve, invoke, builtin, Sem.run_bind, Sem.run_pure, Result.andThen_ok, List.map_toArray, List.map_cons, List.map_nil, e1, he, Act.eval]
          rfl
        · rintro e V' ⟨v', rfl, h1, h2⟩
          exact ⟨v', rfl, v', rfl, hO.s3 h1 h2⟩
      · refine RT.ObT.silent' rfl (fun a V k0 U hO hf hp hl hk => ?_)
        have hg : a.eval (.tmp 63) = .bool true := hp 7 63 rfl
        have hj := hl 3 rfl
        have hstr := (hO.u3 hj).str
        refine RT.ob_val rfl (RT.wanted_some rfl rfl rfl hg) (fun ev he hc => ?_) ⟨rfl, hO⟩
        have q : ev (.tmp 68) = U 3 := (he (.tmp 68)).trans (hp 12 68 rfl)
        simp only [List.getElem_toArray, List.getElem_cons_succ, List.getElem_cons_zero, execOp]; rw [q]; simp only [Sem.run_bind, hstr, Result.andThen_ok]; rfl
      · refine RT.ObT.silent rfl (fun a W k0 U hO hf hp hk => ?_)
        have hg : a.eval (.tmp 63) = .bool true := hp 7 63 rfl
        refine RT.ob_val rfl (RT.wanted_some rfl rfl rfl hg) (fun ev he hc => ?_) ⟨rfl, hO⟩
        have q66 : ev (.tmp 66) = .string (strOfNums (encB R.all)) := (he (.tmp 66)).trans (hp 10 66 rfl)
        have q69 : ev (.tmp 69) = .string (strOfNums (encB R.all)) := (he (.tmp 69)).trans (hp 13 69 rfl)
        simp only [List.getElem_toArray, List.getElem_cons_succ, List.getElem_cons_zero, execOp]; rw [q66, q69]
        first | rfl | (go_simp; done) | (go_simp; rfl) | (go_simp; simp; done)
      · refine RT.ObT.pure rfl rfl rfl (fun a U hf hp ev he hc W => ?_)
        have q63 : ev (.tmp 63) = .bool true := (he (.tmp 63)).trans (hp 7 63 rfl)
        have q70 : ev (.tmp 70) = .bool true := (he (.tmp 70)).trans (hp 14 70 rfl)
        simp only [List.getElem_toArray, List.getElem_cons_succ, List.getElem_cons_zero, execOp]; rw [q63, q70]; simp only [hc]
        first | rfl | (go_simp; done) | (go_simp; rfl) | (go_simp; simp; done)
      · refine RT.ObT.pure rfl rfl rfl (fun a U hf hp ev he hc W => ?_)
        have q71 : ev (.tmp 71) = .bool true := (he (.tmp 71)).trans (hp 15 71 rfl)
        simp only [List.getElem_toArray, List.getElem_cons_succ, List.getElem_cons_zero, execOp]; rw [q71]
        first | rfl | (go_simp; done) | (go_simp; rfl) | (go_simp; simp; done)
    · intro a V U hs hd hfx hO hv
      have HO : Hid (e10Ω w w.heap.size R 4 U V) := hO
      have HV : Hid (a.eval (.tmp 4) = .bool true) := hv 16 _ 4 rfl rfl
      clear hO hv hfx
      go_wp2_with fail
      refine bodyPost_ret (v := .bool true) ?_ (hd.trans HDF.out) ⟨rfl, HO.out.bel⟩
      have := HV.out
      simp only [results, Try.results3]
      simp only [Act.eval, Array.getD_eq_getD_getElem?] at this
      simp [this]
  cases hI : isR xs with
  | false =>
    obtain rfl : E = 2 := by rw [← HE.out]; unfold drE; rw [hI]
    go_quiet (fail)
    exact ⟨rfl, (by first | rfl | kernel_rfl | (simp [Act.put]; done)), rfl, rfl, rfl, R8.out.keep rfl, B8.out.trans ⟨rfl, rfl, rfl, Nat.le_refl _, fun _ _ => rfl⟩⟩
  | true =>
    obtain rfl : E = 0 := by rw [← HE.out]; unfold drE; rw [hI]
    have HEC' : Hid (∀ V : World, Calls Try.prog 9 #[.agg (drA xs).toArray] V fun e w' => ∃ v', e = .returned v' ∧ Sl w' v' xs ∧ Below V.heap.size V w') := HEC.out hI
    refine RT.wp_rgn [4] (e8f v xs) (fun _ => 1) (e8Ω w b5 w.heap.size (drA xs) R.cells v xs) (by kernel_rfl) (by kernel_rfl) ?_ ?_ ?_
    · exact ⟨X8.out.keep rfl, R8.out.keep rfl, B8.out.trans ⟨rfl, rfl, rfl, Nat.le_refl _, fun _ _ => rfl⟩, HS.out.below (B8.out.trans ⟨rfl, rfl, rfl, Nat.le_refl _, fun _ _ => rfl⟩ : Below w.heap.size w { W8 with drawn := W8.drawn + 1 }) (Nat.le_refl _), fun e => by omega⟩
    · refine ⟨?_, ?_, ?_, ?_, ?_, ?_, ?_, ?_, ?_, ?_, trivial⟩
      · refine RT.ObT.pure rfl rfl rfl (fun a U hf hp ev he hc W => ?_)
        have q6 : ev (.tmp 6) = .int .i64 0 := (he (.tmp 6)).trans (hf 6 rfl)
        simp only [List.getElem_toArray, List.getElem_cons_succ, List.getElem_cons_zero, execOp]; rw [q6]
        first | rfl | (go_simp; done) | (go_simp; rfl) | (go_simp; simp; done)
      · refine RT.ObT.pure rfl rfl rfl (fun a U hf hp ev he hc W => ?_)
        have q46 : ev (.tmp 46) = .int .i64 0 := (he (.tmp 46)).trans (hp 0 46 rfl)
        simp only [List.getElem_toArray, List.getElem_cons_succ, List.getElem_cons_zero, execOp]; rw [q46]; simp only [hc]
        first | rfl | (go_simp; done) | (go_simp; rfl) | (go_simp; simp; done)
      · refine RT.ObT.pure rfl rfl rfl (fun a U hf hp ev he hc W => ?_)
        have q47 : ev (.tmp 47) = .bool true := (he (.tmp 47)).trans (hp 1 47 rfl)
        simp only [List.getElem_toArray, List.getElem_cons_succ, List.getElem_cons_zero, execOp]; rw [q47]
        first | rfl | (go_simp; done) | (go_simp; rfl) | (go_simp; simp; done)
      · refine RT.ObT.silent rfl (fun a V k0 U hO hf hp hk => ?_)
        have hg : a.eval (.tmp 48) = .bool true := hp 2 48 rfl
        refine RT.ob_op rfl (RT.wanted_some rfl rfl rfl hg) (wp_load_mid 26 (.tmp 5) rfl b5 0 (hf 5 rfl) (drA xs) _ hO.1.range Try.underlying26 rfl (by rw [HD.out]; exact root_size) ⟨rfl, hO⟩)
      · refine RT.ObT.loud (j := 0) rfl (fun a V U hO hf hp => ?_)
        have hg : a.eval (.tmp 48) = .bool true := hp 2 48 rfl
        refine RT.ob_call (g := 9) (args := #[.agg (drA xs).toArray]) rfl (RT.wanted_some rfl rfl rfl hg) (fun ev he hc => ?_) ((HEC'.out V).mono ?_)
        · have e1 : ev (.tmp 49) = .agg (drA xs).toArray := (he (.tmp 49)).trans (hp 3 49 rfl)
          simp only [List.getElem_toArray, List.getElem_cons_succ, List.getElem_cons_zero, execOp]
          simp only [resolve, invoke, builtin, Sem.run_bind, Sem.run_pure, Result.andThen_ok, List.map_toArray, List.map_cons, List.map_nil, e1, he, Act.eval]
          rfl
        · rintro e V' ⟨v', rfl, h1, h2⟩
          exact ⟨v', rfl, v', rfl, hO.step h1 h2⟩
      · refine RT.ObT.silent' rfl (fun a V k0 U hO hf hp hl hk => ?_)
        have hg : a.eval (.tmp 48) = .bool true := hp 2 48 rfl
        have hj := hl 0 rfl
        have hstr := (hO.2.2.2.2 hj).str
        refine RT.ob_val rfl (RT.wanted_some rfl rfl rfl hg) (fun ev he hc => ?_) ⟨rfl, hO⟩
        have q : ev (.tmp 50) = U 0 := (he (.tmp 50)).trans (hp 4 50 rfl)
        simp only [List.getElem_toArray, List.getElem_cons_succ, List.getElem_cons_zero, execOp]; rw [q]; simp only [Sem.run_bind, hstr, Result.andThen_ok]; rfl
      · refine RT.ObT.silent rfl (fun a W k0 U hO hf hp hk => ?_)
        have hg : a.eval (.tmp 48) = .bool true := hp 2 48 rfl
        refine RT.ob_val rfl (RT.wanted_some rfl rfl rfl hg) (fun ev he hc => ?_) ⟨rfl, hO⟩
        have q1 : ev (.tmp 1) = v := (he (.tmp 1)).trans (hf 1 rfl)
        simp only [List.getElem_toArray, List.getElem_cons_succ, List.getElem_cons_zero, execOp]; rw [q1]
        first | rfl | (go_simp; done) | (go_simp; rfl) | (go_simp; simp; done)
      · refine RT.ObT.silent' rfl (fun a V k0 U hO hf hp hl hk => ?_)
        have hg : a.eval (.tmp 48) = .bool true := hp 2 48 rfl
        have hstr := hO.2.2.2.1.str
        refine RT.ob_val rfl (RT.wanted_some rfl rfl rfl hg) (fun ev he hc => ?_) ⟨rfl, hO⟩
        have q : ev (.tmp 52) = v := (he (.tmp 52)).trans (hp 6 52 rfl)
        simp only [List.getElem_toArray, List.getElem_cons_succ, List.getElem_cons_zero, execOp]; rw [q]; simp only [Sem.run_bind, hstr, Result.andThen_ok]; rfl
      · refine RT.ObT.silent rfl (fun a W k0 U hO hf hp hk => ?_)
        have hg : a.eval (.tmp 48) = .bool true := hp 2 48 rfl
        refine RT.ob_val rfl (RT.wanted_some rfl rfl rfl hg) (fun ev he hc => ?_) ⟨rfl, hO⟩
        have q51 : ev (.tmp 51) = .string (strOfNums xs) := (he (.tmp 51)).trans (hp 5 51 rfl)
        have q53 : ev (.tmp 53) = .string (strOfNums xs) := (he (.tmp 53)).trans (hp 7 53 rfl)
        simp only [List.getElem_toArray, List.getElem_cons_succ, List.getElem_cons_zero, execOp]; rw [q51, q53]
        first | rfl | (go_simp; done) | (go_simp; rfl) | (go_simp; simp; done)
      · refine RT.ObT.pure rfl rfl rfl (fun a U hf hp ev he hc W => ?_)
        have q48 : ev (.tmp 48) = .bool true := (he (.tmp 48)).trans (hp 2 48 rfl)
        have q54 : ev (.tmp 54) = .bool false := (he (.tmp 54)).trans (hp 8 54 rfl)
        simp only [List.getElem_toArray, List.getElem_cons_succ, List.getElem_cons_zero, execOp]; rw [q48, q54]; simp only [hc]
        first | rfl | (go_simp; done) | (go_simp; rfl) | (go_simp; simp; done)
    · intro a V U hs hd hfx hO hv
      exact ⟨rfl, hs.trans (by first | rfl | kernel_rfl | (simp [Act.put]; done)), hfx 2 rfl, hd, hv 9 _ 55 rfl rfl, hO.2.1, hO.2.2.1⟩
end Go.Proofs.Ythmeoobnddbgbaa
