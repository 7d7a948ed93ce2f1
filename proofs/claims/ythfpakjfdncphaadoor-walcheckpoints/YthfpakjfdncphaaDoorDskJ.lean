/- filled. -/
import Derived.Test.YthfpakjfdncphaaDoorDskI
import Derived.ChangeKeysEq
import Derived.Laws.StructEq
namespace Go.Proofs.YthfpakjfdncphaaDoor
open Go Go.RowKit
set_option linter.unusedSimpArgs false
set_option linter.unusedVariables false
set_option maxRecDepth 100000

/-- A byte of a filled sector. -/
def flb (b : Int) (i : Nat) : Int := if i = 63 then (b * 2) % 256 else (b + ((i % 32 : Nat) : Int)) % 256
def fill (b : Int) : List Int := (List.range 64).map (flb b)
theorem fill_length (b : Int) : (fill b).length = 64 := by simp [fill]
theorem fill_get (b : Int) {k : Nat} (h : k < 64) : (fill b)[k]? = some (flb b k) := by simp [fill, h]
/-- A sector of which the first k bytes are filled. -/
def part (b : Int) (k : Nat) : List Int := (fill b).take k ++ z64.drop k
theorem part_length (b : Int) {k : Nat} (h : k ≤ 64) : (part b k).length = 64 := by
  simp [part, fill_length, z64_length]; omega
theorem part_step (b : Int) {k : Nat} (h : k < 64) : (part b k).set k (flb b k) = part b (k + 1) := by
  apply List.ext_getElem?
  intro j
  have hz := z64_length
  have hf := fill_length b
  unfold part
  rw [List.getElem?_set]
  split
  · rename_i e; subst e
    rw [if_pos (by simp [hz, hf]; omega), List.getElem?_append_left (by simp [hf]; omega), List.getElem?_take, if_pos (by omega), fill_get b h]
  · rename_i e
    rw [List.getElem?_append, List.getElem?_append]
    simp only [List.length_take, hf]
    by_cases h1 : j < k
    · rw [if_pos (by omega), if_pos (by omega), List.getElem?_take, List.getElem?_take, if_pos h1, if_pos (by omega)]
    · rw [if_neg (by omega), if_neg (by omega), List.getElem?_drop, List.getElem?_drop]
      congr 1; omega
theorem bv_set (xs : List Int) (k : Nat) (z : Int) : (bv xs).toArray.setIfInBounds k (.int .u8 z) = (bv (xs.set k z)).toArray := by
  rw [List.setIfInBounds_toArray]; simp [bv, List.map_set]
/-- A row of 64 bytes, in a block of its own. -/
def SR (w : World) (b : Nat) (xs : List Int) : Prop := w.heap[b]? = some (.cells (bv xs).toArray 59 (0, 0))
theorem SR.range {w : World} {b : Nat} {xs : List Int} (h : SR w b xs) : w.rangeAt b 0 (bv xs) := fun j u hu => by
  rw [Nat.zero_add, cell_of_row w b j _ _ _ h]; simpa using hu
theorem SR.there {w : World} {b : Nat} {xs : List Int} (h : SR w b xs) (hx : xs.length = 64) : w.there b 0 64 := there_of_row' h 0 64 (by rw [List.size_toArray, bv_length, hx]; omega)
theorem SR.cell {w : World} {b k : Nat} {xs : List Int} (h : SR w b xs) (hk : k < xs.length) : w.cell? ⟨b, k, none⟩ = some (.int .u8 (gi xs k)) ∧ w.frozen? ⟨b, k, none⟩ = false := by
  refine ⟨?_, frozen_of_row _ _ _ _ _ h⟩
  rw [cell_of_row w b k _ _ _ h, List.getElem?_toArray, bv_get xs hk]
theorem SR.set {w : World} {b k : Nat} {xs : List Int} (h : SR w b xs) (z : Int) : SR (w.setCell ⟨b, k, none⟩ (.int .u8 z)) b (xs.set k z) := by
  unfold SR
  rw [heap_setCell_same h, bv_set]
theorem SR.lt {w : World} {b : Nat} {xs : List Int} (h : SR w b xs) : b < w.heap.size := (Array.getElem?_eq_some_iff.1 h).1
theorem two_rows (w : World) : Hid (Below w.heap.size w ((w.alloc (.cells (bv z64).toArray 59)).alloc (.cells (bv z64).toArray 59)) ∧ SR ((w.alloc (.cells (bv z64).toArray 59)).alloc (.cells (bv z64).toArray 59)) w.heap.size z64 ∧ SR ((w.alloc (.cells (bv z64).toArray 59)).alloc (.cells (bv z64).toArray 59)) (w.heap.size + 1) z64) := by
  refine ⟨((Below.refl _ _).alloc (Nat.le_refl _) _).alloc (by simp) _, ?_, ?_⟩
  · show ((w.heap.push _).push _)[w.heap.size]? = _
    rw [Array.getElem?_push_lt (by simp)]; simp
  · show ((w.heap.push _).push _)[w.heap.size + 1]? = _
    simp only [Array.getElem?_push, Array.size_push]; rw [if_pos trivial]
end Go.Proofs.YthfpakjfdncphaaDoor
/- awake; a nil disk. -/
namespace Go.Proofs.YthfpakjfdncphaaDoor
open Go Go.RowKit
set_option linter.unusedSimpArgs false
set_option linter.unusedVariables false
set_option maxRecDepth 100000

theorem same_items (x : List Int) (hx : x.length = 64) (d : Nat) (w : World) : ∀ is : List Nat, (∀ i ∈ is, i < 64) →
    (Op.eqItems (d + 1) 5 (Tryd.prog.cellsOf 5) (bv x).toArray (bv x).toArray is).run Tryd.prog w = .ok true w
  | [], _ => by simp [Op.eqItems]
  | i :: is, h => by
    have hi := h i (by simp)
    have hc : Tryd.prog.cellsOf 5 = 1 := by kernel_rfl
    have hp : Tryd.prog.plainKey 5 = true := by kernel_rfl
    have p1 := run_part_plain (P := Tryd.prog) w hp (xs := (bv x).toArray) (off := i) (v := .int .u8 (gi x i)) (by rw [List.getElem?_toArray]; exact bv_get x (by omega))
    have p3 := run_equalIn_int (P := Tryd.prog) w d 5 .u8 .u8 (gi x i) (gi x i) Tryd.underlying5
    have ih := same_items x hx d w is (fun j hj => h j (by simp [hj]))
    rw [hc] at ih
    have p4 : (Op.equalIn (d + 1) 5 (.int .u8 (gi x i)) (.int .u8 (gi x i))).run Tryd.prog w = .ok true w := by
      refine p3.trans ?_; simp
    simp only [Op.eqItems, hc, Nat.mul_one, Sem.run_bind, p1, p4, Result.andThen_ok]
    exact ih
theorem eq_sec (x : List Int) (hx : x.length = 64) (w : World) : (Op.equalIn 10000 59 (.agg (bv x).toArray) (.agg (bv x).toArray)).run Tryd.prog w = .ok true w := by
  obtain ⟨i, hi⟩ : ∃ i, Tryd.prog.info? 5 = some i := by
    cases h : Tryd.prog.info? 5 with
    | none => have := size_u8'; rw [h] at this; cases this
    | some i => exact ⟨i, rfl⟩
  have := run_equalIn_array (P := Tryd.prog) w 9999 (bv x).toArray (bv x).toArray Tryd.underlying59 hi
  rw [same_items x hx 9998 w _ (fun i hi => List.mem_range.1 hi)] at this
  exact this
theorem write_any {F : Nat → Prop} {w : World} {g : Nat} {s : Dk} (h : PD F w g s) (i : Int) (x : List Int) (hx : x.length = 64) (hN : (s.wt.length + 1) * 72 ≤ 216000000000000) :
    Calls Tryd.prog 53 #[.pointer (some ⟨g, 0, none⟩), .int .i64 i, .agg (bv x).toArray] w fun e w' => e = .returned (.int .i64 (wrE s i)) ∧ Aft F w w' g (wrS s i x) := by
  obtain ⟨gs, wv, fd, fz, h⟩ := h
  exact write_PX h i x hx hN
theorem read_any {F : Nat → Prop} {w : World} {g : Nat} {s : Dk} (h : PD F w g s) (i : Int) :
    Calls Tryd.prog 44 #[.pointer (some ⟨g, 0, none⟩), .int .i64 i] w fun e w' => e = .returned (.tuple #[.agg (bv (rdV s i)).toArray, .int .i64 (rdE s i)]) ∧ Below w.heap.size w w' := by
  obtain ⟨gs, wv, fd, fz, h⟩ := h
  exact read_PX h i
theorem sync_any {F : Nat → Prop} {w : World} {g : Nat} {s : Dk} (h : PD F w g s) :
    Calls Tryd.prog 34 #[.pointer (some ⟨g, 0, none⟩)] w fun e w' => e = .returned (.int .i64 (syE s)) ∧ Aft F w w' g (syS s) := by
  obtain ⟨gs, wv, fd, fz, h⟩ := h
  exact sync_PX h
theorem restart_any {F : Nat → Prop} {w : World} {g : Nat} {s : Dk} (h : PD F w g s) (cs : List Int) (cv : Value) (hc : Sl w cv cs) (hF : ∀ b, cv.ownBlock = some b → cs ≠ [] → ¬ F b) (hcl : cs.length ≤ 140737488355328) :
    Calls Tryd.prog 20 #[.pointer (some ⟨g, 0, none⟩), cv] w fun e w' => e = .returned (.tuple #[]) ∧ Aft F w w' g (rsS s cs) := by
  obtain ⟨gs, wv, fd, fz, h⟩ := h
  exact restart_PX h cs cv hc hF hcl
theorem PD.below {F : Nat → Prop} {w w' : World} {g : Nat} {s : Dk} (h : PD F w g s) (hb : Below w.heap.size w w') : PD F w' g s := by
  obtain ⟨gs, wv, fd, fz, h⟩ := h
  exact ⟨gs, wv, fd, fz, h.keep hb.size (fun b hb' => hb.block b (h.Flt b hb'))⟩
/-- The disk at g, all of whose blocks lie from B on, and all that is below as in w0. -/
def At (B : Nat) (w0 w : World) (g : Nat) (s : Dk) : Prop := ∃ F, PD F w g s ∧ (∀ b, F b → B ≤ b) ∧ Below B w0 w
theorem NewP.at' {w0 w w' : World} {g n B : Nat} (h : NewP w w' g n) (hb : Below B w0 w) (hB : B ≤ w.heap.size) : At B w0 w' g (dk0 n) := by
  obtain ⟨F, h1, h2, h3⟩ := h
  exact ⟨F, h1, fun b hb' => Nat.le_trans hB (h3 b hb'), hb.trans (h2.mono hB)⟩
theorem Aft.at' {F : Nat → Prop} {w0 w w' : World} {g B : Nat} {s' : Dk} (h : Aft F w w' g s') (hF : ∀ b, F b → B ≤ b) (hb : Below B w0 w) (hB : B ≤ w.heap.size) : At B w0 w' g s' := by
  obtain ⟨F', h1, h2, h3⟩ := h
  exact ⟨F', h1, fun b hb' => (h3 b hb').elim (hF b) (fun e => Nat.le_trans hB e), hb.trans (h2.below hB hF)⟩
theorem At.below {w0 w w' : World} {g B : Nat} {s : Dk} (h : At B w0 w g s) (hb : Below w.heap.size w w') (hB : B ≤ w.heap.size) : At B w0 w' g s := by
  obtain ⟨F, h1, h2, h3⟩ := h
  exact ⟨F, h1.below hb, h2, h3.trans (hb.mono hB)⟩
theorem At.write {w0 w : World} {g B : Nat} {s : Dk} (h : At B w0 w g s) (hB : B ≤ w.heap.size) (i : Int) (x : List Int) (hx : x.length = 64) (hN : (s.wt.length + 1) * 72 ≤ 216000000000000) :
    Calls Tryd.prog 53 #[.pointer (some ⟨g, 0, none⟩), .int .i64 i, .agg (bv x).toArray] w fun e w' => e = .returned (.int .i64 (wrE s i)) ∧ At B w0 w' g (wrS s i x) ∧ w.heap.size ≤ w'.heap.size := by
  obtain ⟨F, h1, h2, h3⟩ := h
  refine (write_any h1 i x hx hN).mono ?_
  rintro e w' ⟨he, ha⟩
  exact ⟨he, ha.at' h2 h3 hB, by obtain ⟨_, _, c, _⟩ := ha; exact c.size⟩
theorem At.read {w0 w : World} {g B : Nat} {s : Dk} (h : At B w0 w g s) (hB : B ≤ w.heap.size) (i : Int) :
    Calls Tryd.prog 44 #[.pointer (some ⟨g, 0, none⟩), .int .i64 i] w fun e w' => e = .returned (.tuple #[.agg (bv (rdV s i)).toArray, .int .i64 (rdE s i)]) ∧ At B w0 w' g s ∧ w.heap.size ≤ w'.heap.size := by
  obtain ⟨F, h1, h2, h3⟩ := id h
  refine (read_any h1 i).mono ?_
  rintro e w' ⟨he, hb⟩
  exact ⟨he, h.below hb hB, hb.size⟩
theorem At.sync {w0 w : World} {g B : Nat} {s : Dk} (h : At B w0 w g s) (hB : B ≤ w.heap.size) :
    Calls Tryd.prog 34 #[.pointer (some ⟨g, 0, none⟩)] w fun e w' => e = .returned (.int .i64 (syE s)) ∧ At B w0 w' g (syS s) ∧ w.heap.size ≤ w'.heap.size := by
  obtain ⟨F, h1, h2, h3⟩ := h
  refine (sync_any h1).mono ?_
  rintro e w' ⟨he, ha⟩
  exact ⟨he, ha.at' h2 h3 hB, by obtain ⟨_, _, c, _⟩ := ha; exact c.size⟩
theorem At.setFull {w0 w : World} {g B : Nat} {s : Dk} (h : At B w0 w g s) (hB : B ≤ w.heap.size) (b : Bool) :
    Calls Tryd.prog 19 #[.pointer (some ⟨g, 0, none⟩), .bool b] w fun e w' => e = .returned (.tuple #[]) ∧ At B w0 w' g { s with fu := b } ∧ w.heap.size ≤ w'.heap.size := by
  obtain ⟨F, h1, h2, h3⟩ := h
  refine (setFull_any h1 b).mono ?_
  rintro e w' ⟨he, ha⟩
  exact ⟨he, ha.at' h2 h3 hB, by obtain ⟨_, _, c, _⟩ := ha; exact c.size⟩
theorem At.setFuse {w0 w : World} {g B : Nat} {s : Dk} (h : At B w0 w g s) (hB : B ≤ w.heap.size) (n : Int) (hn : n ≤ 9223372036854775807) :
    Calls Tryd.prog 18 #[.pointer (some ⟨g, 0, none⟩), .int .i64 n] w fun e w' => e = .returned (.tuple #[]) ∧ At B w0 w' g { s with fz := fuseOf n } ∧ w.heap.size ≤ w'.heap.size := by
  obtain ⟨F, h1, h2, h3⟩ := h
  refine (setFuse_any h1 n hn).mono ?_
  rintro e w' ⟨he, ha⟩
  exact ⟨he, ha.at' h2 h3 hB, by obtain ⟨_, _, c, _⟩ := ha; exact c.size⟩
theorem At.restart {w0 w : World} {g B : Nat} {s : Dk} (h : At B w0 w g s) (hB : B ≤ w.heap.size) (cs : List Int) (cv : Value) (hc : Sl w cv cs) (hF : ∀ b, cv.ownBlock = some b → b < B) (hcl : cs.length ≤ 140737488355328) :
    Calls Tryd.prog 20 #[.pointer (some ⟨g, 0, none⟩), cv] w fun e w' => e = .returned (.tuple #[]) ∧ At B w0 w' g (rsS s cs) ∧ w.heap.size ≤ w'.heap.size := by
  obtain ⟨F, h1, h2, h3⟩ := h
  refine (restart_any h1 cs cv hc (fun b hb _ hf => by have h1 := hF b hb; have h2 := h2 b hf; omega) hcl).mono ?_
  rintro e w' ⟨he, ha⟩
  exact ⟨he, ha.at' h2 h3 hB, by obtain ⟨_, _, c, _⟩ := ha; exact c.size⟩
theorem At.waiting {w0 w : World} {g B : Nat} {s : Dk} (h : At B w0 w g s) : Calls Tryd.prog 33 #[.pointer (some ⟨g, 0, none⟩)] w fun e w' => e = .returned (.int .i64 (s.wt.length : Int)) ∧ w' = w := by
  obtain ⟨F, h1, h2, h3⟩ := h
  exact waiting_any h1
theorem At.down {w0 w : World} {g B : Nat} {s : Dk} (h : At B w0 w g s) : Calls Tryd.prog 21 #[.pointer (some ⟨g, 0, none⟩)] w fun e w' => e = .returned (.bool s.dn) ∧ w' = w := by
  obtain ⟨F, h1, h2, h3⟩ := h
  exact down_any h1
theorem At.size {w0 w : World} {g B : Nat} {s : Dk} (h : At B w0 w g s) : w0.heap.size ≤ w.heap.size := by
  obtain ⟨F, h1, h2, h3⟩ := h
  exact h3.size
theorem At.bel {w0 w : World} {g B : Nat} {s : Dk} (h : At B w0 w g s) : Below B w0 w := by
  obtain ⟨F, h1, h2, h3⟩ := h
  exact h3
/-- A value of 64 bytes laid in a new row. -/
theorem laid {w W : World} {x : List Int} (hx : x.length = 64) (eW : (w.alloc (.cells (bv z64).toArray 59)).setCells w.heap.size 0 (bv x) = W) : Hid (Below w.heap.size w W ∧ W.rangeAt w.heap.size 0 (bv x) ∧ W.heap.size = w.heap.size + 1) := by
  have S0 := (sec_start (w := w) rfl).out
  subst eW
  exact ⟨below_setCells _ (Nat.le_refl _) _ _ _ S0.2.1, World.rangeAt_setCells_same _ _ _ _ (by rw [bv_length, hx]; exact S0.1), by rw [size_setCells]; exact S0.2.2⟩
theorem lay_there (w : World) {x : List Int} (hx : x.length = 64) : (w.alloc (.cells (bv z64).toArray 59)).there w.heap.size 0 (bv x).toArray.size := there_sec hx (sec_start (w := w) rfl).out.1
/-- A load of a row under a guard that holds. -/
theorem load_g {P : Program} {ops : Array Oper} {rest : List Oper} {op : Oper} {a : Act} {w : World} {Q : Exit → Act → World → Prop} (hw : Region.wanted op (yielded ops a.tmps) = true) (ty : TypeId) (x : Operand) (ho : op.op = .load ty x)
    (b o : Nat) (hx : a.eval x = .pointer (some ⟨b, o, none⟩)) (cs : List Value) (d : TypeDesc) (hc : w.rangeAt b o cs)
    (hu : P.underlying ty = some d) (hd : d.isRow = true) (hi : (P.info? ty).map (·.size) = some cs.length)
    (h : wpList P ops Q rest (a.put op.dst (.agg cs.toArray)) w) : wpList P ops Q (op :: rest) a w := by
  unfold wpList
  rw [if_pos hw]
  exact .inl (wp_load_mid ty x ho b o hx cs d hc hu hd hi h)
theorem aw_read : rdV (wrS (dk0 3) 1 (fill 5)) 1 = fill 5 ∧ rdE (wrS (dk0 3) 1 (fill 5)) 1 = 0 ∧ wrE (dk0 3) 1 = 0 ∧ (wrS (dk0 3) 1 (fill 5)).wt.length = 1 := ⟨rfl, rfl, rfl, rfl⟩
theorem nil_sectors (w : World) : Calls Tryd.prog 32 #[.pointer none] w fun e w' => e = .returned (.int .i64 0) ∧ w' = w := by
  go_enter Tryd.func32, Tryd.ntmps32
  go_wp2
  go_ret
  exact ⟨rfl, rfl⟩
theorem nil_waiting (w : World) : Calls Tryd.prog 33 #[.pointer none] w fun e w' => e = .returned (.int .i64 0) ∧ w' = w := by
  go_enter Tryd.func33, Tryd.ntmps33
  go_wp2
  go_ret
  exact ⟨rfl, rfl⟩
theorem nil_down (w : World) : Calls Tryd.prog 21 #[.pointer none] w fun e w' => e = .returned (.bool false) ∧ w' = w := by
  go_enter Tryd.func21, Tryd.ntmps21
  go_wp2
  go_ret
  exact ⟨rfl, rfl⟩
theorem nil_setFull (w : World) (b : Bool) : Calls Tryd.prog 19 #[.pointer none, .bool b] w fun e w' => e = .returned (.tuple #[]) ∧ w' = w := by
  go_enter Tryd.func19, Tryd.ntmps19
  go_wp2
  go_end0
  exact ⟨rfl, rfl⟩
theorem nil_setFuse (w : World) (n : Int) : Calls Tryd.prog 18 #[.pointer none, .int .i64 n] w fun e w' => e = .returned (.tuple #[]) ∧ w' = w := by
  go_enter Tryd.func18, Tryd.ntmps18
  go_wp2
  go_end0
  exact ⟨rfl, rfl⟩
theorem nil_restart (w : World) (v : Value) : Calls Tryd.prog 20 #[.pointer none, v] w fun e w' => e = .returned (.tuple #[]) ∧ w' = w := by
  go_enter Tryd.func20, Tryd.ntmps20
  go_wp2
  refine bodyPost_ret (results_none rfl _ _ _) rfl ?_
  exact ⟨rfl, rfl⟩
theorem nil_sync (w : World) : Calls Tryd.prog 34 #[.pointer none] w fun e w' => e = .returned (.int .i64 1) ∧ w' = w := by
  go_enter Tryd.func34, Tryd.ntmps34
  go_wp2
  go_ret
  exact ⟨rfl, rfl⟩
theorem nil_write (w : World) (i : Int) (x : List Int) : Calls Tryd.prog 53 #[.pointer none, .int .i64 i, .agg (bv x).toArray] w fun e w' => e = .returned (.int .i64 1) ∧ Below w.heap.size w w' := by
  go_enter Tryd.func53, Tryd.ntmps53
  go_wp2_with fail
  refine (has_nil i).mono ?_
  rintro e w1 ⟨rfl, rfl⟩
  go_wp2_with fail
  go_ret
  exact ⟨rfl, (Below.refl _ _).alloc (Nat.le_refl _) _⟩
set_option maxHeartbeats 1000000 in
theorem nil_read (w : World) (i : Int) : Calls Tryd.prog 44 #[.pointer none, .int .i64 i] w fun e w' => e = .returned (.tuple #[.agg (bv z64).toArray, .int .i64 1]) ∧ Below w.heap.size w w' := by
  have hz := zero_sec
  have hbz := build_sec
  go_enter Tryd.func44, Tryd.ntmps44
  go_wp2_with fail
  generalize hW : w.alloc _ = w0
  have S0 := sec_start hW
  clear hW
  refine (has_nil i).mono ?_
  rintro e w1 ⟨rfl, rfl⟩
  go_wp2_with (refine wpList_store_mid rfl 59 _ _ rfl w.heap.size 0 (bv z64).toArray rfl rfl (there_sec z64_length S0.out.1) (size_sec z64_length) (bv_one' _) ?_)
  refine bodyPost_ret (v := .tuple #[.agg (bv z64).toArray, .int .i64 1]) ?_ rfl ⟨rfl, below_setCells _ (Nat.le_refl _) _ _ _ S0.out.2.1⟩
  have q := World.rangeAt_setCells_same _ w.heap.size 0 (bv z64) (there_sec z64_length S0.out.1)
  simp only [results, Tryd.results44]
  simp [asAddr, run_loadVar_mid _ w.heap.size 0 59 (bv z64) _ q Tryd.underlying59 rfl (by rw [bv_length, z64_length]; exact size64)]
end Go.Proofs.YthfpakjfdncphaaDoor
