/- awake; a nil disk. -/
import Derived.Test.YtphjjjijdbljaaaDoorDskH
import Derived.ChangeKeysEq
import Derived.Laws.StructEq
namespace Go.Proofs.YtphjjjijdbljaaaDoor
open Go Go.RowKit
set_option linter.unusedSimpArgs false
set_option linter.unusedVariables false
set_option maxRecDepth 100000

theorem same_items (x : List Int) (hx : x.length = 64) (d : Nat) (w : World) : ∀ is : List Nat, (∀ i ∈ is, i < 64) →
    (Op.eqItems (d + 1) 5 (Tryd.prog.cellsOf 5) (bv x).toArray (bv x).toArray is).run Tryd.prog w = .ok true w
  | [], _ => by simp [Op.eqItems]
  | i :: is, h => by
    have hi := h i (by simp)
    have hc : Tryd.prog.cellsOf 5 = 1 := by kernel_rfl
    have hp : Tryd.prog.plainKey 5 = true := by kernel_rfl
    have p1 := run_part_plain (P := Tryd.prog) w hp (xs := (bv x).toArray) (off := i) (v := .int .u8 (gi x i)) (by rw [List.getElem?_toArray]; exact bv_get x (by omega))
    have p3 := run_equalIn_int (P := Tryd.prog) w d 5 .u8 .u8 (gi x i) (gi x i) Tryd.underlying5
    have ih := same_items x hx d w is (fun j hj => h j (by simp [hj]))
    rw [hc] at ih
    have p4 : (Op.equalIn (d + 1) 5 (.int .u8 (gi x i)) (.int .u8 (gi x i))).run Tryd.prog w = .ok true w := by
      refine p3.trans ?_; simp
    simp only [Op.eqItems, hc, Nat.mul_one, Sem.run_bind, p1, p4, Result.andThen_ok]
    exact ih
theorem eq_sec (x : List Int) (hx : x.length = 64) (w : World) : (Op.equalIn 10000 66 (.agg (bv x).toArray) (.agg (bv x).toArray)).run Tryd.prog w = .ok true w := by
  obtain ⟨i, hi⟩ : ∃ i, Tryd.prog.info? 5 = some i := by
    cases h : Tryd.prog.info? 5 with
    | none => have := size_u8'; rw [h] at this; cases this
    | some i => exact ⟨i, rfl⟩
  have := run_equalIn_array (P := Tryd.prog) w 9999 (bv x).toArray (bv x).toArray Tryd.underlying66 hi
  rw [same_items x hx 9998 w _ (fun i hi => List.mem_range.1 hi)] at this
  exact this
theorem write_any {F : Nat → Prop} {w : World} {g : Nat} {s : Dk} (h : PD F w g s) (i : Int) (x : List Int) (hx : x.length = 64) (hN : (s.wt.length + 1) * 72 ≤ 216000000000000) :
    Calls Tryd.prog 83 #[.pointer (some ⟨g, 0, none⟩), .int .i64 i, .agg (bv x).toArray] w fun e w' => e = .returned (.int .i64 (wrE s i)) ∧ Aft F w w' g (wrS s i x) := by
  obtain ⟨gs, wv, fd, fz, h⟩ := h
  exact write_PX h i x hx hN
theorem read_any {F : Nat → Prop} {w : World} {g : Nat} {s : Dk} (h : PD F w g s) (i : Int) :
    Calls Tryd.prog 56 #[.pointer (some ⟨g, 0, none⟩), .int .i64 i] w fun e w' => e = .returned (.tuple #[.agg (bv (rdV s i)).toArray, .int .i64 (rdE s i)]) ∧ Below w.heap.size w w' := by
  obtain ⟨gs, wv, fd, fz, h⟩ := h
  exact read_PX h i
theorem sync_any {F : Nat → Prop} {w : World} {g : Nat} {s : Dk} (h : PD F w g s) :
    Calls Tryd.prog 26 #[.pointer (some ⟨g, 0, none⟩)] w fun e w' => e = .returned (.int .i64 (syE s)) ∧ Aft F w w' g (syS s) := by
  obtain ⟨gs, wv, fd, fz, h⟩ := h
  exact sync_PX h
theorem PD.below {F : Nat → Prop} {w w' : World} {g : Nat} {s : Dk} (h : PD F w g s) (hb : Below w.heap.size w w') : PD F w' g s := by
  obtain ⟨gs, wv, fd, fz, h⟩ := h
  exact ⟨gs, wv, fd, fz, h.keep hb.size (fun b hb' => hb.block b (h.Flt b hb'))⟩
/-- The disk at g, all of whose blocks lie from B on, and all that is below as in w0. -/
def At (B : Nat) (w0 w : World) (g : Nat) (s : Dk) : Prop := ∃ F, PD F w g s ∧ (∀ b, F b → B ≤ b) ∧ Below B w0 w
theorem NewP.at' {w0 w w' : World} {g n B : Nat} (h : NewP w w' g n) (hb : Below B w0 w) (hB : B ≤ w.heap.size) : At B w0 w' g (dk0 n) := by
  obtain ⟨F, h1, h2, h3⟩ := h
  exact ⟨F, h1, fun b hb' => Nat.le_trans hB (h3 b hb'), hb.trans (h2.mono hB)⟩
theorem Aft.at' {F : Nat → Prop} {w0 w w' : World} {g B : Nat} {s' : Dk} (h : Aft F w w' g s') (hF : ∀ b, F b → B ≤ b) (hb : Below B w0 w) (hB : B ≤ w.heap.size) : At B w0 w' g s' := by
  obtain ⟨F', h1, h2, h3⟩ := h
  exact ⟨F', h1, fun b hb' => (h3 b hb').elim (hF b) (fun e => Nat.le_trans hB e), hb.trans (h2.below hB hF)⟩
theorem At.below {w0 w w' : World} {g B : Nat} {s : Dk} (h : At B w0 w g s) (hb : Below w.heap.size w w') (hB : B ≤ w.heap.size) : At B w0 w' g s := by
  obtain ⟨F, h1, h2, h3⟩ := h
  exact ⟨F, h1.below hb, h2, h3.trans (hb.mono hB)⟩
theorem At.write {w0 w : World} {g B : Nat} {s : Dk} (h : At B w0 w g s) (hB : B ≤ w.heap.size) (i : Int) (x : List Int) (hx : x.length = 64) (hN : (s.wt.length + 1) * 72 ≤ 216000000000000) :
    Calls Tryd.prog 83 #[.pointer (some ⟨g, 0, none⟩), .int .i64 i, .agg (bv x).toArray] w fun e w' => e = .returned (.int .i64 (wrE s i)) ∧ At B w0 w' g (wrS s i x) ∧ w.heap.size ≤ w'.heap.size := by
  obtain ⟨F, h1, h2, h3⟩ := h
  refine (write_any h1 i x hx hN).mono ?_
  rintro e w' ⟨he, ha⟩
  exact ⟨he, ha.at' h2 h3 hB, by obtain ⟨_, _, c, _⟩ := ha; exact c.size⟩
theorem At.read {w0 w : World} {g B : Nat} {s : Dk} (h : At B w0 w g s) (hB : B ≤ w.heap.size) (i : Int) :
    Calls Tryd.prog 56 #[.pointer (some ⟨g, 0, none⟩), .int .i64 i] w fun e w' => e = .returned (.tuple #[.agg (bv (rdV s i)).toArray, .int .i64 (rdE s i)]) ∧ At B w0 w' g s ∧ w.heap.size ≤ w'.heap.size := by
  obtain ⟨F, h1, h2, h3⟩ := id h
  refine (read_any h1 i).mono ?_
  rintro e w' ⟨he, hb⟩
  exact ⟨he, h.below hb hB, hb.size⟩
theorem At.sync {w0 w : World} {g B : Nat} {s : Dk} (h : At B w0 w g s) (hB : B ≤ w.heap.size) :
    Calls Tryd.prog 26 #[.pointer (some ⟨g, 0, none⟩)] w fun e w' => e = .returned (.int .i64 (syE s)) ∧ At B w0 w' g (syS s) ∧ w.heap.size ≤ w'.heap.size := by
  obtain ⟨F, h1, h2, h3⟩ := h
  refine (sync_any h1).mono ?_
  rintro e w' ⟨he, ha⟩
  exact ⟨he, ha.at' h2 h3 hB, by obtain ⟨_, _, c, _⟩ := ha; exact c.size⟩
theorem At.waiting {w0 w : World} {g B : Nat} {s : Dk} (h : At B w0 w g s) : Calls Tryd.prog 25 #[.pointer (some ⟨g, 0, none⟩)] w fun e w' => e = .returned (.int .i64 (s.wt.length : Int)) ∧ w' = w := by
  obtain ⟨F, h1, h2, h3⟩ := h
  exact waiting_any h1
theorem At.down {w0 w : World} {g B : Nat} {s : Dk} (h : At B w0 w g s) : Calls Tryd.prog 27 #[.pointer (some ⟨g, 0, none⟩)] w fun e w' => e = .returned (.bool s.dn) ∧ w' = w := by
  obtain ⟨F, h1, h2, h3⟩ := h
  exact down_any h1
theorem At.size {w0 w : World} {g B : Nat} {s : Dk} (h : At B w0 w g s) : w0.heap.size ≤ w.heap.size := by
  obtain ⟨F, h1, h2, h3⟩ := h
  exact h3.size
theorem At.bel {w0 w : World} {g B : Nat} {s : Dk} (h : At B w0 w g s) : Below B w0 w := by
  obtain ⟨F, h1, h2, h3⟩ := h
  exact h3
/-- A value of 64 bytes laid in a new row. -/
theorem laid {w W : World} {x : List Int} (hx : x.length = 64) (eW : (w.alloc (.cells (bv z64).toArray 66)).setCells w.heap.size 0 (bv x) = W) : Hid (Below w.heap.size w W ∧ W.rangeAt w.heap.size 0 (bv x) ∧ W.heap.size = w.heap.size + 1) := by
  have S0 := (sec_start (w := w) rfl).out
  subst eW
  exact ⟨below_setCells _ (Nat.le_refl _) _ _ _ S0.2.1, World.rangeAt_setCells_same _ _ _ _ (by rw [bv_length, hx]; exact S0.1), by rw [size_setCells]; exact S0.2.2⟩
theorem lay_there (w : World) {x : List Int} (hx : x.length = 64) : (w.alloc (.cells (bv z64).toArray 66)).there w.heap.size 0 (bv x).toArray.size := there_sec hx (sec_start (w := w) rfl).out.1
/-- A load of a row under a guard that holds. -/
theorem load_g {P : Program} {ops : Array Oper} {rest : List Oper} {op : Oper} {a : Act} {w : World} {Q : Exit → Act → World → Prop} (hw : Region.wanted op (yielded ops a.tmps) = true) (ty : TypeId) (x : Operand) (ho : op.op = .load ty x)
    (b o : Nat) (hx : a.eval x = .pointer (some ⟨b, o, none⟩)) (cs : List Value) (d : TypeDesc) (hc : w.rangeAt b o cs)
    (hu : P.underlying ty = some d) (hd : d.isRow = true) (hi : (P.info? ty).map (·.size) = some cs.length)
    (h : wpList P ops Q rest (a.put op.dst (.agg cs.toArray)) w) : wpList P ops Q (op :: rest) a w := by
  unfold wpList
  rw [if_pos hw]
  exact .inl (wp_load_mid ty x ho b o hx cs d hc hu hd hi h)
theorem aw_read : rdV (wrS (dk0 3) 1 (fill 5)) 1 = fill 5 ∧ rdE (wrS (dk0 3) 1 (fill 5)) 1 = 0 ∧ wrE (dk0 3) 1 = 0 ∧ (wrS (dk0 3) 1 (fill 5)).wt.length = 1 := ⟨rfl, rfl, rfl, rfl⟩
theorem nil_sectors (w : World) : Calls Tryd.prog 24 #[.pointer none] w fun e w' => e = .returned (.int .i64 0) ∧ w' = w := by
  go_enter Tryd.func24, Tryd.ntmps24
  go_wp2
  go_ret
  exact ⟨rfl, rfl⟩
theorem nil_waiting (w : World) : Calls Tryd.prog 25 #[.pointer none] w fun e w' => e = .returned (.int .i64 0) ∧ w' = w := by
  go_enter Tryd.func25, Tryd.ntmps25
  go_wp2
  go_ret
  exact ⟨rfl, rfl⟩
theorem nil_down (w : World) : Calls Tryd.prog 27 #[.pointer none] w fun e w' => e = .returned (.bool false) ∧ w' = w := by
  go_enter Tryd.func27, Tryd.ntmps27
  go_wp2
  go_ret
  exact ⟨rfl, rfl⟩
theorem nil_sync (w : World) : Calls Tryd.prog 26 #[.pointer none] w fun e w' => e = .returned (.int .i64 1) ∧ w' = w := by
  go_enter Tryd.func26, Tryd.ntmps26
  go_wp2
  go_ret
  exact ⟨rfl, rfl⟩
theorem nil_write (w : World) (i : Int) (x : List Int) : Calls Tryd.prog 83 #[.pointer none, .int .i64 i, .agg (bv x).toArray] w fun e w' => e = .returned (.int .i64 1) ∧ Below w.heap.size w w' := by
  go_enter Tryd.func83, Tryd.ntmps83
  go_wp2_with fail
  refine (has_nil i).mono ?_
  rintro e w1 ⟨rfl, rfl⟩
  go_wp2_with fail
  go_ret
  exact ⟨rfl, (Below.refl _ _).alloc (Nat.le_refl _) _⟩
set_option maxHeartbeats 1000000 in
theorem nil_read (w : World) (i : Int) : Calls Tryd.prog 56 #[.pointer none, .int .i64 i] w fun e w' => e = .returned (.tuple #[.agg (bv z64).toArray, .int .i64 1]) ∧ Below w.heap.size w w' := by
  have hz := zero_sec
  have hbz := build_sec
  go_enter Tryd.func56, Tryd.ntmps56
  go_wp2_with fail
  generalize hW : w.alloc _ = w0
  have S0 := sec_start hW
  clear hW
  refine (has_nil i).mono ?_
  rintro e w1 ⟨rfl, rfl⟩
  go_wp2_with (refine wpList_store_mid rfl 66 _ _ rfl w.heap.size 0 (bv z64).toArray rfl rfl (there_sec z64_length S0.out.1) (size_sec z64_length) (bv_one' _) ?_)
  refine bodyPost_ret (v := .tuple #[.agg (bv z64).toArray, .int .i64 1]) ?_ rfl ⟨rfl, below_setCells _ (Nat.le_refl _) _ _ _ S0.out.2.1⟩
  have q := World.rangeAt_setCells_same _ w.heap.size 0 (bv z64) (there_sec z64_length S0.out.1)
  simp only [results, Tryd.results56]
  simp [asAddr, run_loadVar_mid _ w.heap.size 0 66 (bv z64) _ q Tryd.underlying66 rfl (by rw [bv_length, z64_length]; exact size64)]
end Go.Proofs.YtphjjjijdbljaaaDoor
