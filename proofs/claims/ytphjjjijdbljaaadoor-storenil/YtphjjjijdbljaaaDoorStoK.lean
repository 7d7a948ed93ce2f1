/- Package store: a map of one entry; weightBehind of one change on an empty table. -/
import Derived.Test.YtphjjjijdbljaaaDoorStoH
import Derived.Maps.OwnOps
namespace Go.Proofs.YtphjjjijdbljaaaDoor
open Go Go.RowKit
set_option linter.unusedSimpArgs false
set_option linter.unusedVariables false
set_option maxRecDepth 100000

theorem beq_str (s : ByteArray) : (s == s) = true := (MapKept.bytes_beq s s).2 rfl
theorem check_str {P : Program} {k : TypeId} (hk : P.underlying k = some .string) (em : Bool) (s : ByteArray) (w : World) : (Instr.checkKey em 10000 k (.string s)).run P w = .ok () w := by
  show (Instr.checkKey em (9999 + 1) k (.string s)).run P w = _
  generalize 9999 = n
  simp [Instr.checkKey, run_underlying hk, Result.andThen]
theorem find_none {P : Program} {k : TypeId} (hk : P.underlying k = some .string) (s : ByteArray) (w : World) : (Instr.findKey k (.string s) []).run P w = .ok none w := by
  simp [Instr.findKey, Instr.findNow, run_underlying hk, Result.andThen]
theorem find_one {P : Program} {k : TypeId} (hk : P.underlying k = some .string) (s : ByteArray) (v : Value) (n : Nat) (w : World) : (Instr.findKey k (.string s) [⟨.string s, v, n⟩]).run P w = .ok (some (0, v)) w := by
  simp [Instr.findKey, Instr.findNow, Instr.sameNow, beq_str, run_underlying hk, Result.andThen]
/-- A map of texts to numbers, of no or one entry. -/
theorem look_empty {P : Program} {w : World} {t k e : TypeId} {b c : Nat} (ht : P.underlying t = some (.map k e)) (hk : P.underlying k = some .string) (hz : (zeroValue e).run P w = .ok (.int .i64 0) w) (hb : w.heap[b]? = some (.map #[] c)) (s : ByteArray) :
    (Instr.lookup t (.map (some b)) (.string s) true).run P w = .ok (.tuple #[.int .i64 0, .bool false]) w := by
  simp [Instr.lookup, run_underlying ht, MapKept.run_getObj_map hb, check_str hk, find_none hk, hz, Result.andThen]
theorem look_one {P : Program} {w : World} {t k e : TypeId} {b c n : Nat} (ht : P.underlying t = some (.map k e)) (hk : P.underlying k = some .string) (s : ByteArray) (v : Value) (hb : w.heap[b]? = some (.map #[⟨.string s, v, n⟩] c)) :
    (Instr.lookup t (.map (some b)) (.string s) false).run P w = .ok v w := by
  simp [Instr.lookup, run_underlying ht, MapKept.run_getObj_map hb, check_str hk, find_one hk, Result.andThen]
theorem put_empty {P : Program} {w : World} {t k e : TypeId} {b c : Nat} (ht : P.underlying t = some (.map k e)) (hk : P.underlying k = some .string) (s : ByteArray) (v : Value) (hb : w.heap[b]? = some (.map #[] c)) :
    ∃ w', (Instr.mapUpdate t (.map (some b)) (.string s) v).run P w = .ok () w' ∧ w'.heap[b]? = some (.map #[⟨.string s, v, c⟩] (c + 1)) ∧ w.grownBy w' (some b) := by
  refine ⟨ChangeMaps.setBlock w b (.map #[⟨.string s, v, c⟩] (c + 1)), by simp [Instr.mapUpdate, run_underlying ht, MapKept.run_getObj_map hb, check_str hk, find_none hk, MapKept.run_setObj_map _ hb, Result.andThen, ChangeMaps.setBlock], ChangeMaps.heap_setBlock_same hb _, ⟨rfl, rfl, rfl, by simp [ChangeMaps.setBlock], fun i _ hi => ChangeMaps.heap_setBlock_other hb _ (fun e => hi (by rw [e]))⟩⟩
theorem put_one {P : Program} {w : World} {t k e : TypeId} {b c n : Nat} (ht : P.underlying t = some (.map k e)) (hk : P.underlying k = some .string) (s : ByteArray) (v v' : Value) (hb : w.heap[b]? = some (.map #[⟨.string s, v, n⟩] c)) :
    ∃ w', (Instr.mapUpdate t (.map (some b)) (.string s) v').run P w = .ok () w' ∧ w'.heap[b]? = some (.map #[⟨.string s, v', n⟩] c) ∧ w.grownBy w' (some b) := by
  have hst : (Instr.keyThatStays (.string s) (.string s)).run P w = .ok (.string s) w := by
    have : Instr.sameBits 10000 (.string s) (.string s) = true := by
      show Instr.sameBits (9999 + 1) _ _ = true
      simp [Instr.sameBits, beq_str]
    simp [Instr.keyThatStays, this]
  refine ⟨ChangeMaps.setBlock w b (.map #[⟨.string s, v', n⟩] c), by simp [Instr.mapUpdate, run_underlying ht, MapKept.run_getObj_map hb, check_str hk, find_one hk, MapKept.run_setObj_map _ hb, hst, Result.andThen, ChangeMaps.setBlock, Array.modify, Array.modifyM, Id.run]; rfl, ChangeMaps.heap_setBlock_same hb _, ⟨rfl, rfl, rfl, by simp [ChangeMaps.setBlock], fun i _ hi => ChangeMaps.heap_setBlock_other hb _ (fun e => hi (by rw [e]))⟩⟩
theorem zero_int (w : World) : (zeroValue 3).run Tryd.prog w = .ok (.int .i64 0) w := by kernel_rfl
theorem wp_lookE {ops : Array Oper} {rest : List Oper} {o : Oper} {a : Act} {Q : Exit → Act → World → Prop} {wr : World} (hgd : o.guard = none) (m x : Operand) (ho : o.op = .lookup 76 m x true) (b c : Nat) (s : ByteArray) (hm : a.eval m = .map (some b)) (hx : a.eval x = .string s) (hb : wr.heap[b]? = some (.map #[] c))
    (h : wpList Tryd.prog ops Q rest (a.put o.dst (.tuple #[.int .i64 0, .bool false])) wr) : wpList Tryd.prog ops Q (o :: rest) a wr := by
  refine wpList_plain hgd fun K hK => ?_
  have hr := look_empty (P := Tryd.prog) (t := 76) Tryd.underlying76 Tryd.underlying9 (zero_int wr) hb s
  unfold Oper.wp
  simp [execOp, ho, hm, hx, hr, Result.andThen]
  exact hK _ _ h
theorem wp_look1 {ops : Array Oper} {rest : List Oper} {o : Oper} {a : Act} {Q : Exit → Act → World → Prop} {wr : World} (hgd : o.guard = none) (m x : Operand) (ho : o.op = .lookup 76 m x false) (b c n : Nat) (s : ByteArray) (v : Value) (hm : a.eval m = .map (some b)) (hx : a.eval x = .string s) (hb : wr.heap[b]? = some (.map #[⟨.string s, v, n⟩] c))
    (h : wpList Tryd.prog ops Q rest (a.put o.dst v) wr) : wpList Tryd.prog ops Q (o :: rest) a wr := by
  refine wpList_plain hgd fun K hK => ?_
  have hr := look_one (P := Tryd.prog) (t := 76) Tryd.underlying76 Tryd.underlying9 s v hb
  unfold Oper.wp
  simp [execOp, ho, hm, hx, hr, Result.andThen]
  exact hK _ _ h
theorem wp_putE {ops : Array Oper} {rest : List Oper} {o : Oper} {a : Act} {Q : Exit → Act → World → Prop} {wr : World} (hgd : o.guard = none) (m x y : Operand) (ho : o.op = .mapUpdate 76 m x y) (b c : Nat) (s : ByteArray) (v : Value) (hm : a.eval m = .map (some b)) (hx : a.eval x = .string s) (hy : a.eval y = v) (hb : wr.heap[b]? = some (.map #[] c))
    (h : ∀ w', w'.heap[b]? = some (.map #[⟨.string s, v, c⟩] (c + 1)) → wr.grownBy w' (some b) → wpList Tryd.prog ops Q rest (a.put o.dst undef) w') : wpList Tryd.prog ops Q (o :: rest) a wr := by
  refine wpList_plain hgd fun K hK => ?_
  obtain ⟨w', hr, h1, h2⟩ := put_empty (P := Tryd.prog) (t := 76) Tryd.underlying76 Tryd.underlying9 s v hb
  unfold Oper.wp
  simp [execOp, ho, hm, hx, hy, hr, Result.andThen]
  exact hK _ _ (h w' h1 h2)
theorem op_put1 {o : Oper} {a : Act} {w : World} {Y : Act → World → Prop} {Q : Exit → Act → World → Prop} (m x y : Operand) (ho : o.op = .mapUpdate 76 m x y) (b c n : Nat) (s : ByteArray) (v v' : Value) (hm : a.eval m = .map (some b)) (hx : a.eval x = .string s) (hy : a.eval y = v') (hb : w.heap[b]? = some (.map #[⟨.string s, v, n⟩] c))
    (h : ∀ w', w'.heap[b]? = some (.map #[⟨.string s, v', n⟩] c) → w.grownBy w' (some b) → Y (a.put o.dst undef) w') : Oper.wp Tryd.prog o a w Y Q := by
  obtain ⟨w', hr, h1, h2⟩ := put_one (P := Tryd.prog) (t := 76) Tryd.underlying76 Tryd.underlying9 s v v' hb
  unfold Oper.wp
  simp [execOp, ho, hm, hx, hy, hr, Result.andThen]
  exact h w' h1 h2
theorem sp_nil (k : ByteArray) : Sp [] k 0 := ⟨Nat.le_refl _, fun i c h => by simp at h, fun i c h => by simp at h⟩
theorem cs_nil (w : World) : CS w (.slice none 0 0) [] := ⟨none, 0, rfl, Nat.le_refl _, .inl ⟨rfl, fun _ => rfl⟩⟩
theorem heap_al (w : World) (X : Obj) {b : Nat} (h : b < w.heap.size) : (w.alloc X).heap[b]? = w.heap[b]? := by show (w.heap.push _)[b]? = _; rw [Array.getElem?_push, if_neg (by omega)]
theorem cell_blk {w w' : World} {b : Nat} (h : w'.heap[b]? = w.heap[b]?) (o : Nat) : w'.cell? ⟨b, o, none⟩ = w.cell? ⟨b, o, none⟩ := by unfold World.cell?; rw [h]
theorem heap_ge {w : World} {b : Nat} {X : Obj} (h : w.heap[b]? = some X) : b < w.heap.size := (Array.getElem?_eq_some_iff.1 h).1
/-- A change in a block. -/
def CB (w : World) (D : Nat) (c : Cg) : Prop := w.heap[D]? = some (.cells #[.string c.k, .string c.v, .bool c.gn] 38 (0, 0))
theorem CB.cells {w : World} {D : Nat} {c : Cg} (h : CB w D c) : w.cell? ⟨D, 0, none⟩ = some (.string c.k) ∧ w.cell? ⟨D, 1, none⟩ = some (.string c.v) ∧ w.cell? ⟨D, 2, none⟩ = some (.bool c.gn) := by
  unfold CB at h
  refine ⟨?_, ?_, ?_⟩ <;> simp [World.cell?, h]
theorem cb_al (w : World) (c : Cg) : CB (w.alloc (.cells #[.string c.k, .string c.v, .bool c.gn] 38 (0, 0))) w.heap.size c := by
  show (w.heap.push _)[w.heap.size]? = _; simp
theorem CB.keep {w w' : World} {D : Nat} {c : Cg} (h : CB w D c) (e : w'.heap[D]? = w.heap[D]?) : CB w' D c := by unfold CB; rw [e]; exact h
def wbf (B D G : Nat) (c : Cg) : Nat → Value
  | 0 => .map (some B) | 1 => .pointer (some ⟨D, 0, none⟩) | 2 => .string c.k | 3 => .agg (cc c) | 4 => .int .i64 (G : Int) | _ => undef
def wbΩ (w3 : World) (B G : Nat) (c : Cg) : Nat → (Nat → Value) → World → Prop
  | 0, _, W => Below w3.heap.size w3 W
  | _ + 1, _, W => ∃ W1, Below w3.heap.size w3 W1 ∧ W1.grownBy W (some B) ∧ W.heap[B]? = some (.map #[⟨.string c.k, .int .i64 (G : Int), 0⟩] 1)
set_option maxHeartbeats 2000000 in
theorem weightBehind_one (c : Cg) (hf : fine c = true) (hg : c.gn = false) (v : Value) (w : World) (hv : CS w v [c]) (b o : Nat) (hb : b < w.heap.size) (h0 : w.cell? ⟨b, o, none⟩ = some (.slice none 0 0)) (h1 : w.cell? ⟨b, o + 1, none⟩ = some (.int .i64 0)) :
    Calls Tryd.prog 18 #[.pointer (some ⟨b, o, none⟩), v] w fun e w' => e = .returned (.int .i64 (wg c : Int)) ∧ Below w.heap.size w w' := by
  obtain ⟨ad, cap, rfl, -, hx⟩ := hv
  rcases hx with ⟨hx, _⟩ | ⟨bb, bo, rfl, hlb, hm⟩
  · cases hx
  have HR : Hid (w.rangeAt bb (bo + 0 * 3) (cc c).toList) := hm 0 c rfl
  have HF : Hid (fine c = true) := hf
  have HG : Hid (c.gn = false) := hg
  have HB0 : Hid (w.cell? ⟨b, o, none⟩ = some (.slice none 0 0)) := h0
  obtain ⟨G, hG⟩ : ∃ G, wg c = G := ⟨_, rfl⟩
  obtain ⟨-, hk1, hk2⟩ := fine_iff.1 hf
  have hG2 : G ≤ 33000 := by rw [← hG]; unfold wg; omega
  have HW : Hid (∀ W : World, Calls Tryd.prog 33 #[.agg (cc c)] W fun e w' => e = .returned (.int .i64 (G : Int)) ∧ Below W.heap.size W w') := fun W => by rw [← hG]; exact weight_any c ⟨by omega, by omega⟩ W
  rw [hG]
  clear hm hf hG h0 hg
  have hmm := @run_makeMap Tryd.prog
  go_enter Tryd.func18, Tryd.ntmps18
  go_wp2_with fail
  go_loopw [5, 20] (fun s i wr => Below w.heap.size w wr ∧ ((i = .int .i64 0 ∧ s = .int .i64 0 ∧ wr.heap[w.heap.size]? = some (.map #[] 0)) ∨ (i = .int .i64 1 ∧ s = .int .i64 (G : Int)))) (fun _ i _ => 1 - (intOf i).toNat)
  case atStart => exact ⟨(Below.refl _ _).alloc (Nat.le_refl _) _, .inl ⟨rfl, rfl, by show (w.heap.push _)[w.heap.size]? = _; simp⟩⟩
  case round =>
    obtain ⟨hbl, hq⟩ := hrel
    have H4 : Hid (Below w.heap.size w wr) := hbl
    clear hbl
    rcases hq with ⟨rfl, rfl, hmap⟩ | ⟨rfl, rfl⟩
    · have HM : Hid (wr.heap[w.heap.size]? = some (.map #[] 0)) := hmap
      have c0 : wr.cell? ⟨bb, bo, none⟩ = some (.string c.k) := (H4.out.cell (p := ⟨bb, bo, none⟩) hlb).trans (by simpa using HR.out 0 _ rfl)
      have c1 : wr.cell? ⟨bb, bo + 1, none⟩ = some (.string c.v) := (H4.out.cell (p := ⟨bb, bo + 1, none⟩) hlb).trans (by simpa using HR.out 1 _ rfl)
      have c2 : wr.cell? ⟨bb, bo + 2, none⟩ = some (.bool c.gn) := (H4.out.cell (p := ⟨bb, bo + 2, none⟩) hlb).trans (by simpa using HR.out 2 _ rfl)
      have HD : Hid (w.heap.size < wr.heap.size) := heap_ge hmap
      clear hmap
      go_wp2_with (first
        | (at_lookup; refine wp_lookE rfl _ _ rfl w.heap.size 0 c.k rfl rfl ((heap_al _ _ HD.out).trans HM.out) ?_)
        | (go_at_call 11; refine (find_any [] c.k 0 (sp_nil _) (.slice none 0 0) _ b o (((cell_blk (heap_al wr _ (Nat.lt_of_lt_of_le hb H4.out.size)) o).trans (H4.out.cell (p := ⟨b, o, none⟩) hb)).trans HB0.out) (cs_nil _) (by simp)).mono ?_; rintro e w2 ⟨rfl, h5⟩
           have K2 : Hid (CB w2 wr.heap.size c) := (cb_al wr c).keep (h5.block _ (by simp))
           obtain ⟨k0, k1, k2⟩ := K2.out.cells
           have M2 : Hid (w2.heap[w.heap.size]? = some (.map #[] 0)) := (h5.block _ (by simp; have := HD.out; omega)).trans ((heap_al _ _ HD.out).trans HM.out)
           have B2 : Hid (Below w.heap.size w w2) := (H4.out.alloc H4.out.size _).trans (h5.mono (by simp; have := HD.out; omega))
           have Z2 : Hid (wr.heap.size < w2.heap.size) := heap_ge K2.out
           simp only [tr, List.getElem?_nil]
           clear h5)
        | (at_mapUpdate; refine wp_putE rfl _ _ _ rfl w.heap.size 0 c.k (.int .i64 0) rfl rfl rfl M2.out ?_; intro w3 h6 h7
           have M3 : Hid (w3.heap[w.heap.size]? = some (.map #[⟨.string c.k, .int .i64 0, 0⟩] 1)) := h6
           have K3 : Hid (CB w3 wr.heap.size c) := K2.out.keep (h7.block _ Z2.out (by intro e; have e1 := Option.some.inj e; have e2 := HD.out; omega))
           have B3 : Hid (Below w.heap.size w w3) := B2.out.grown h7 B2.out.size (fun j hj => by cases hj; exact Nat.le_refl _)
           have Z3 : Hid (wr.heap.size < w3.heap.size) := heap_ge K3.out
           have j2 : w3.cell? ⟨wr.heap.size, 2, none⟩ = some (.bool false) := by rw [← HG.out]; exact K3.out.cells.2.2
           clear h6 h7))
      refine RU.wp_rgn' [5] (wbf w.heap.size wr.heap.size G c) hK0 (wbΩ w3 w.heap.size G c) (by kernel_rfl) (by kernel_rfl) (show Below w3.heap.size w3 _ from (Below.refl _ _).drew) ?_ ?_
      · refine ⟨?_, ?_, ?_, ?_, ?_, ?_, trivial⟩
        · refine RU.ObT.pure rfl rfl rfl (fun a V hf hp ev he hc W => ?_)
          have q6 : ev (.tmp 6) = .map (some w.heap.size) := (he (.tmp 6)).trans (hf 6 rfl)
          simp only [List.getElem_toArray, List.getElem_cons_succ, List.getElem_cons_zero, execOp, Option.map_some, Option.map_none]; rw [q6]
          first | (go_simp; done) | (go_simp; rfl) | rfl
        · refine RU.ObT.pure rfl rfl rfl (fun a V hf hp ev he hc W => ?_)
          have q8 : ev (.tmp 8) = .pointer (some ⟨wr.heap.size, 0, none⟩) := (he (.tmp 8)).trans (hf 8 rfl)
          simp only [List.getElem_toArray, List.getElem_cons_succ, List.getElem_cons_zero, execOp, Option.map_some, Option.map_none]; rw [q8]
          first | (go_simp; done) | (go_simp; rfl) | rfl
        · refine RU.ObT.silent rfl (fun a W k0 V hO hf hp hk => ?_)
          obtain rfl : k0 = 0 := Nat.le_zero.1 hk
          have hO' : Below w3.heap.size w3 W := hO
          obtain ⟨hc0, hc1, hc2⟩ := (K3.out.keep (hO'.block _ Z3.out)).cells
          refine RU.ob_val rfl (RU.wanted_none rfl) (fun ev he hc => ?_) ⟨rfl, hO⟩
          have q58 : ev (.tmp 58) = .pointer (some ⟨wr.heap.size, 0, none⟩) := (he (.tmp 58)).trans (hp 1 58 rfl)
          simp only [List.getElem_toArray, List.getElem_cons_succ, List.getElem_cons_zero, execOp, Option.map_some, Option.map_none]; rw [q58]
          first | (go_simp; done) | (go_simp; rfl) | rfl
        · refine RU.ObT.silent rfl (fun a W k0 V hO hf hp hk => ?_)
          obtain rfl : k0 = 0 := Nat.le_zero.1 hk
          have hO' : Below w3.heap.size w3 W := hO
          obtain ⟨hc0, hc1, hc2⟩ := (K3.out.keep (hO'.block _ Z3.out)).cells
          refine RU.ob_val rfl (RU.wanted_none rfl) (fun ev he hc => ?_) ⟨rfl, hO⟩
          have q8 : ev (.tmp 8) = .pointer (some ⟨wr.heap.size, 0, none⟩) := (he (.tmp 8)).trans (hf 8 rfl)
          simp only [List.getElem_toArray, List.getElem_cons_succ, List.getElem_cons_zero, execOp, Option.map_some, Option.map_none]; rw [q8]
          first | (go_simp; done) | (go_simp; rfl) | rfl
        · refine RU.ObT.silent rfl (fun a W k0 V hO hf hp hk => ?_)
          obtain rfl : k0 = 0 := Nat.le_zero.1 hk
          have hO' : Below w3.heap.size w3 W := hO
          have e60 : a.eval (.tmp 60) = .agg (cc c) := hp 3 60 rfl
          refine RU.ob_call (g := 33) (args := #[.agg (cc c)]) rfl (RU.wanted_none rfl) (fun ev he hc => ?_) ((HW.out W).mono ?_)
          · have h60 := (he (.tmp 60)).trans e60
            have hfn := he (.func 33)
            simp only [List.getElem_toArray, List.getElem_cons_succ, List.getElem_cons_zero, execOp, Option.map_some, Option.map_none]
            simp only [resolve, invoke, Sem.run_bind, Sem.run_pure, Result.andThen_ok, List.map_toArray, List.map_cons, List.map_nil, h60, hfn, Act.eval, hc]
            rfl
          · rintro e' W2 ⟨rfl, hb2⟩
            exact ⟨_, rfl, rfl, hO'.trans (hb2.mono hO'.size)⟩
        · refine RU.ObT.loud (j := 0) rfl (fun a W V hO hf hp => ?_)
          have hO' : Below w3.heap.size w3 W := hO
          refine RU.ob_op rfl (RU.wanted_none rfl) (op_put1 (.tmp 57) (.tmp 59) (.tmp 61) rfl w.heap.size 1 0 c.k (.int .i64 0) (.int .i64 (G : Int)) (hp 0 57 rfl) (hp 2 59 rfl) (hp 4 61 rfl) ((hO'.block _ (heap_ge M3.out)).trans M3.out) ?_)
          intro W2 g1 g2
          exact ⟨undef, rfl, W, hO', g2, g1⟩
      · intro w4 V4 hO4
        obtain ⟨w5, b5, g5, m5⟩ := hO4
        have M4 : Hid (w4.heap[w.heap.size]? = some (.map #[⟨.string c.k, .int .i64 (G : Int), 0⟩] 1)) := m5
        have B4 : Hid (Below w.heap.size w w4) := (B3.out.trans (b5.mono B3.out.size)).grown g5 (Nat.le_trans B3.out.size b5.size) (fun j hj => by cases hj; exact Nat.le_refl _)
        have K4 : Hid (CB w4 wr.heap.size c) := (K3.out.keep (b5.block _ Z3.out)).keep (g5.block _ (Nat.lt_of_lt_of_le Z3.out b5.size) (by intro e; have e1 := Option.some.inj e; have e2 := HD.out; omega))
        obtain ⟨n0, n1, n2⟩ := K4.out.cells
        clear b5 g5 m5
        simp only [RU.lay, RU.val, RU.at', wbf, Act.put]
        simp only [List.setIfInBounds_toArray, List.set_cons_succ, List.set_cons_zero]
        go_wp2_with (at_lookup; refine wp_look1 rfl _ _ rfl w.heap.size 1 0 c.k (.int .i64 (G : Int)) rfl rfl M4.out ?_)
        exact ⟨⟨B4.out, .inr ⟨by go_num, by go_num⟩⟩, by simp [intOf]⟩
    · go_wp2_with fail
      go_ret
      exact ⟨rfl, H4.out⟩
end Go.Proofs.YtphjjjijdbljaaaDoor
