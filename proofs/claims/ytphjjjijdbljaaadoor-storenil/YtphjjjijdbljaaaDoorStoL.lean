/- Package store: a new change at the table's end. -/
import Derived.Test.YtphjjjijdbljaaaDoorStoK
namespace Go.Proofs.YtphjjjijdbljaaaDoor
open Go Go.RowKit
set_option linter.unusedSimpArgs false
set_option linter.unusedVariables false
set_option maxRecDepth 100000

theorem SX.froz {w : World} {st lg : Nat} {room taken : Int} {v : Value} {wt : Int} {lost : Bool} (h : SX w st lg room taken v wt lost) (k : Nat) : w.frozen? ⟨st, k, none⟩ = false := by
  unfold SX at h
  unfold World.frozen?; rw [h]; simp
theorem grown_set {w : World} {st : Nat} {cs : Array Value} {t : TypeId} (h : w.heap[st]? = some (.cells cs t (0, 0))) (k : Nat) (u : Value) : w.grownBy (w.setCell ⟨st, k, none⟩ u) (some st) :=
  ⟨rfl, rfl, rfl, by simp [World.setCell], fun j _ hj => Below.heap_setCell _ _ _ j (fun e => hj (by rw [e]))⟩
theorem SX.setT {w : World} {st lg : Nat} {room taken : Int} {v : Value} {wt : Int} {lost : Bool} (h : SX w st lg room taken v wt lost) (z : Int) : SX (w.setCell ⟨st, 2, none⟩ (.int .i64 z)) st lg room z v wt lost ∧ w.grownBy (w.setCell ⟨st, 2, none⟩ (.int .i64 z)) (some st) := by
  refine ⟨?_, grown_set h _ _⟩
  show (World.setCell _ _ _).heap[_]? = _
  rw [heap_setCell_same h]; rfl
theorem SX.setV {w : World} {st lg : Nat} {room taken : Int} {v : Value} {wt : Int} {lost : Bool} (h : SX w st lg room taken v wt lost) (u : Value) : SX (w.setCell ⟨st, 3, none⟩ u) st lg room taken u wt lost ∧ w.grownBy (w.setCell ⟨st, 3, none⟩ u) (some st) := by
  refine ⟨?_, grown_set h _ _⟩
  show (World.setCell _ _ _).heap[_]? = _
  rw [heap_setCell_same h]; rfl
theorem SX.setW {w : World} {st lg : Nat} {room taken : Int} {v : Value} {wt : Int} {lost : Bool} (h : SX w st lg room taken v wt lost) (z : Int) : SX (w.setCell ⟨st, 4, none⟩ (.int .i64 z)) st lg room taken v z lost ∧ w.grownBy (w.setCell ⟨st, 4, none⟩ (.int .i64 z)) (some st) := by
  refine ⟨?_, grown_set h _ _⟩
  show (World.setCell _ _ _).heap[_]? = _
  rw [heap_setCell_same h]; rfl
theorem SX.setL {w : World} {st lg : Nat} {room taken : Int} {v : Value} {wt : Int} {lost : Bool} (h : SX w st lg room taken v wt lost) (z : Bool) : SX (w.setCell ⟨st, 5, none⟩ (.bool z)) st lg room taken v wt z ∧ w.grownBy (w.setCell ⟨st, 5, none⟩ (.bool z)) (some st) := by
  refine ⟨?_, grown_set h _ _⟩
  show (World.setCell _ _ _).heap[_]? = _
  rw [heap_setCell_same h]; rfl
theorem info_cg : ∃ i, Tryd.prog.info? 38 = some i ∧ i.zero = some (.agg #[.string ⟨#[]⟩, .string ⟨#[]⟩, .bool false]) ∧ i.size = 3 ∧ i.bytes = 40 := by
  have h1 : (Tryd.prog.info? 38).map (·.size) = some 3 := by kernel_rfl
  have h2 : (Tryd.prog.info? 38).map (·.bytes) = some 40 := by kernel_rfl
  have h3 : (Tryd.prog.info? 38).map (·.zero) = some (some (.agg #[.string ⟨#[]⟩, .string ⟨#[]⟩, .bool false])) := by kernel_rfl
  cases hq : Tryd.prog.info? 38 with
  | none => rw [hq] at h1; cases h1
  | some i =>
    rw [hq] at h1 h2 h3
    exact ⟨i, rfl, Option.some.inj h3, Option.some.inj h1, Option.some.inj h2⟩
/-- append of one change onto nil. -/
theorem app_cg {ops : Array Oper} {rest : List Oper} {o : Oper} {a : Act} {Q : Exit → Act → World → Prop} {wr : World} (hgd : o.guard = none) (s x : Operand) (ho : o.op = .call { callee := .builtin .append, args := #[s, x], argTypes := #[39, 39] })
    (hs : a.eval s = .slice none 0 0) (D cp : Nat) (c : Cg) (hx : a.eval x = .slice (some ⟨D, 0, none⟩) 1 cp) (hc : wr.rangeAt D 0 (cc c).toList)
    (h : ∀ v' w', CS w' v' [c] → Below wr.heap.size wr w' → (∀ b, v'.ownBlock = some b → wr.heap.size ≤ b) → wpList Tryd.prog ops Q rest (a.put o.dst v') w') : wpList Tryd.prog ops Q (o :: rest) a wr := by
  obtain ⟨i, hi, hz, hsz, hby⟩ := info_cg
  refine wpList_append_own_at wr hgd s x 39 ho wr.heap.size 38 i _ 3 40 Tryd.underlying39 hi hz hsz hby rfl (by decide) (.slice none 0 0) 0 [] hs ⟨rfl, .inl ⟨rfl, rfl⟩⟩ ⟨D, 0, none⟩ 1 cp (cc c).toList hx rfl ?_ ?_ (by unfold maxLen; omega) (by omega) (Nat.le_refl _) ?_
  · intro j u hj
    rw [addr_add0]; exact hc j u hj
  · intro u hu
    simp [cc] at hu
    rcases hu with rfl | rfl | rfl <;> rfl
  · intro v' w' h1 h2 h3 h4
    rcases h1.2 with ⟨rfl, h0⟩ | ⟨g, cap, cur, rfl, hb, hg, hcc, _, hs, ht⟩
    · simp at h0
    · refine h _ w' ?_ ((Below.refl _ wr).grown h2 (Nat.le_refl _) (fun b hb' => by simp [Value.ownBlock] at hb')) (fun b e => by rw [own_at e]; exact hb)
      refine ⟨_, cap, rfl, hcc, .inr ⟨g, 0, rfl, (Array.getElem?_eq_some_iff.1 hg).1, fun i c' hi => ?_⟩⟩
      match i, hi with
      | 0, hi =>
        simp at hi; subst hi
        intro j u hj
        have hlt : j < 3 := by have := (List.getElem?_eq_some_iff.1 hj).1; simpa [cc] using this
        have e : (cur.toList.take ((0 + 1) * 3))[j]? = some u := by rw [ht, List.nil_append]; exact hj
        rw [List.getElem?_take, if_pos (by omega), Array.getElem?_toList] at e
        have e2 : (0 + 0 * 3 + j) = j := by omega
        simp only [World.cell?, hg, e2, Option.isSome_none, Bool.false_eq_true, if_false, e]
      | i + 1, hi => simp at hi
set_option maxHeartbeats 1000000 in
theorem insert_one (c : Cg) (D cp : Nat) (w : World) (hc : w.rangeAt D 0 (cc c).toList) :
    Calls Tryd.prog 62 #[.slice none 0 0, .int .i64 0, .slice (some ⟨D, 0, none⟩) 1 cp] w fun e w' => ∃ v', e = .returned v' ∧ CS w' v' [c] ∧ Below w.heap.size w w' ∧ ∀ b, v'.ownBlock = some b → w.heap.size ≤ b := by
  have HC : Hid (w.rangeAt D 0 (cc c).toList) := hc
  clear hc
  go_enter Tryd.func62, Tryd.ntmps62
  go_wp2_with (at_builtin; refine app_cg rfl _ _ rfl rfl D cp c rfl HC.out ?_; intro v1 w1 h1 h2 h3; have H1 : Hid (CS w1 v1 [c]) := h1; have H2 : Hid (Below w.heap.size w w1) := h2; have H3 : Hid (∀ b, v1.ownBlock = some b → w.heap.size ≤ b) := h3; clear h1 h2 h3)
  go_ret
  exact ⟨_, rfl, H1.out, H2.out, H3.out⟩
theorem gb_below {w w' : World} (h : Below w.heap.size w w') (r : Option Nat) : w.grownBy w' r := ⟨h.os, h.tape, h.output, h.size, fun b hb _ => h.block b hb⟩
theorem cb_range {w : World} {D : Nat} {c : Cg} (h : CB w D c) : w.rangeAt D 0 (cc c).toList := by
  intro j u hj
  obtain ⟨c0, c1, c2⟩ := h.cells
  rw [Nat.zero_add]
  match j, hj with
  | 0, hj => simp [cc] at hj; subst hj; exact c0
  | 1, hj => simp [cc] at hj; subst hj; exact c1
  | 2, hj => simp [cc] at hj; subst hj; exact c2
  | j + 3, hj => simp [cc] at hj
theorem CS.far {w w' : World} {v : Value} {l : List Cg} {r : Nat} (h : CS w v l) (hg : w.grownBy w' (some r)) (hr : ∀ b, v.ownBlock = some b → b ≠ r) : CS w' v l := by
  obtain ⟨ad, cap, rfl, hc, h⟩ := h
  refine ⟨ad, cap, rfl, hc, ?_⟩
  rcases h with h | ⟨b, o, rfl, hlt, hm⟩
  · exact .inl h
  · refine .inr ⟨b, o, rfl, Nat.lt_of_lt_of_le hlt hg.size, fun i c hi j v hv => ?_⟩
    exact (cell_blk (hg.block b hlt (fun e => by cases e; exact hr r rfl rfl)) _).trans (hm i c hi j v hv)
/-- What is changed of a table. -/
def CnP (w w' : World) (st lg : Nat) (room taken : Int) (c : Cg) (G : Nat) (lost : Bool) : Prop := ∃ v', SX w' st lg room taken v' (G : Int) lost ∧ CS w' v' [c] ∧ (∀ b, v'.ownBlock = some b → w.heap.size ≤ b) ∧ w.grownBy w' (some st)
def c5f (st : Nat) (c : Cg) (G : Nat) : Nat → Value
  | 0 | 1 | 7 => .pointer (some ⟨st, 3, none⟩) | 2 | 8 => .pointer (some ⟨st, 4, none⟩) | 3 => .int .i64 0 | 4 => .agg (cc c) | 5 | 6 => .int .i64 (G : Int) | _ => undef
def c5Ω (w2 : World) (st lg : Nat) (room taken : Int) (G : Nat) (lost : Bool) : Nat → (Nat → Value) → World → Prop
  | 0, _, W => Below w2.heap.size w2 W
  | _ + 1, _, W => ∃ W1, Below w2.heap.size w2 W1 ∧ W1.grownBy W (some st) ∧ SX W st lg room taken (.slice none 0 0) (G : Int) lost
def c11f (st D : Nat) (c : Cg) : Nat → Value
  | 0 | 1 | 2 | 3 | 15 | 16 => .pointer (some ⟨st, 3, none⟩) | 4 => .slice none 0 0 | 5 => .int .i64 0 | 6 => .pointer (some ⟨D, 0, none⟩) | 7 | 8 => .string c.k | 9 => .pointer (some ⟨D, 1, none⟩) | 10 | 11 => .string c.v | 12 => .agg #[.string c.k, .string c.v, .bool false] | _ => undef
def c11K : Nat → Nat
  | 0 | 15 | 16 => 2 | 1 | 2 | 3 | 4 | 5 => 1 | _ => 0
def c11Ω (w4 : World) (st lg : Nat) (room taken : Int) (c : Cg) (G : Nat) (lost : Bool) : Nat → (Nat → Value) → World → Prop
  | 0, _, W => Below w4.heap.size w4 W
  | 1, U, W => Below w4.heap.size w4 W ∧ ∃ D', U 0 = .slice (some ⟨D', 0, none⟩) 1 1 ∧ W.rangeAt D' 0 (cc c).toList
  | 2, U, W => Below w4.heap.size w4 W ∧ CS W (U 1) [c] ∧ ∀ b, (U 1).ownBlock = some b → w4.heap.size ≤ b
  | _ + 3, _, W => CnP w4 W st lg room taken c G lost
theorem c11Ω.below {w4 : World} {st lg : Nat} {room taken : Int} {c : Cg} {G : Nat} {lost : Bool} {k : Nat} {U : Nat → Value} {W : World} (h : c11Ω w4 st lg room taken c G lost k U W) (hk : k ≤ 1) : Below w4.heap.size w4 W := by
  match k, h, hk with
  | 0, h, _ => exact h
  | 1, h, _ => exact h.1
set_option maxHeartbeats 4000000 in
theorem change_new {w : World} {st lg : Nat} {room taken : Int} {lost : Bool} (h : SX w st lg room taken (.slice none 0 0) 0 lost) (c : Cg) (hf : fine c = true) (hg : c.gn = false) :
    Calls Tryd.prog 45 #[.pointer (some ⟨st, 3, none⟩), .agg (cc c)] w fun e w' => e = .returned (.tuple #[]) ∧ CnP w w' st lg room taken c (wg c) lost := by
  obtain ⟨G, hG⟩ : ∃ G, wg c = G := ⟨_, rfl⟩
  obtain ⟨-, hk1, hk2⟩ := fine_iff.1 hf
  have hG2 : G ≤ 33000 := by rw [← hG]; unfold wg; omega
  have HW : Hid (∀ W : World, Calls Tryd.prog 33 #[.agg (cc c)] W fun e w' => e = .returned (.int .i64 (G : Int)) ∧ Below W.heap.size W w') := fun W => by rw [← hG]; exact weight_any c ⟨by omega, by omega⟩ W
  rw [hG]
  have HX : Hid (SX w st lg room taken (.slice none 0 0) 0 lost) := h
  have HL : Hid (st < w.heap.size) := h.lt
  have HG : Hid (c.gn = false) := hg
  have HCC : Hid (cc c = #[.string c.k, .string c.v, .bool c.gn]) := rfl
  rw [show (Value.agg (cc c)) = .agg #[.string c.k, .string c.v, .bool c.gn] from rfl]
  clear hf hG h hg
  go_enter Tryd.func45, Tryd.ntmps45
  go_wp2_with (go_at_call 11; refine (find_any [] c.k 0 (sp_nil _) (.slice none 0 0) _ st 3 ((cell_blk (heap_al w _ HL.out) 3).trans HX.out.cells.2.2.2.1) (cs_nil _) (by simp)).mono ?_; rintro e w2 ⟨rfl, h5⟩; have K2 : Hid (CB w2 w.heap.size c) := (cb_al w c).keep (h5.block _ (by simp)); have B2 : Hid (Below w.heap.size w w2) := ((Below.refl _ w).alloc (Nat.le_refl _) _).trans (h5.mono (by simp)); have X2 : Hid (SX w2 st lg room taken (.slice none 0 0) 0 lost) := HX.out.below B2.out; have k2 : w2.cell? ⟨w.heap.size, 2, none⟩ = some (.bool false) := (by rw [← HG.out]; exact K2.out.cells.2.2); simp only [tr, List.getElem?_nil]; clear h5)
  refine RU.wp_rgn' [9] (c5f st c G) hK0 (c5Ω w2 st lg room taken G lost) (by kernel_rfl) (by kernel_rfl) (show Below w2.heap.size w2 _ from (Below.refl _ _).drew) ?_ ?_
  · refine ⟨?_, ?_, ?_, ?_, ?_, ?_, ?_, ?_, ?_, ?_, trivial⟩
    · refine RU.ObT.pure rfl rfl rfl (fun a V hf hp ev he hc W => ?_)
      have q0 : ev (.tmp 0) = .pointer (some ⟨st, 3, none⟩) := (he (.tmp 0)).trans (hf 0 rfl)
      simp only [List.getElem_toArray, List.getElem_cons_succ, List.getElem_cons_zero, execOp, Option.map_some, Option.map_none]; rw [q0]
      first | (go_simp; done) | (go_simp; rfl) | rfl
    · refine RU.ObT.pure rfl rfl rfl (fun a V hf hp ev he hc W => ?_)
      have q32 : ev (.tmp 32) = .pointer (some ⟨st, 3, none⟩) := (he (.tmp 32)).trans (hp 0 32 rfl)
      simp only [List.getElem_toArray, List.getElem_cons_succ, List.getElem_cons_zero, execOp, Option.map_some, Option.map_none]; rw [q32]
      first | (go_simp; done) | (go_simp; rfl) | rfl
    · refine RU.ObT.pure rfl rfl rfl (fun a V hf hp ev he hc W => ?_)
      have q33 : ev (.tmp 33) = .pointer (some ⟨st, 3, none⟩) := (he (.tmp 33)).trans (hp 1 33 rfl)
      simp only [List.getElem_toArray, List.getElem_cons_succ, List.getElem_cons_zero, execOp, Option.map_some, Option.map_none]; rw [q33]
      first | (go_simp; done) | (go_simp; rfl) | rfl
    · refine RU.ObT.silent rfl (fun a W k0 V hO hf hp hk => ?_)
      obtain rfl : k0 = 0 := Nat.le_zero.1 hk
      have hO' : Below w2.heap.size w2 W := hO
      obtain ⟨-, -, -, hs3, hs4, -⟩ := (X2.out.below hO').cells
      refine RU.ob_val rfl (RU.wanted_none rfl) (fun ev he hc => ?_) ⟨rfl, hO⟩
      have q34 : ev (.tmp 34) = .pointer (some ⟨st, 4, none⟩) := (he (.tmp 34)).trans (hp 2 34 rfl)
      simp only [List.getElem_toArray, List.getElem_cons_succ, List.getElem_cons_zero, execOp, Option.map_some, Option.map_none]; rw [q34]
      first | (go_simp; done) | (go_simp; rfl) | rfl
    · refine RU.ObT.silent rfl (fun a W k0 V hO hf hp hk => ?_)
      obtain rfl : k0 = 0 := Nat.le_zero.1 hk
      have hO' : Below w2.heap.size w2 W := hO
      obtain ⟨hc0, hc1, hc2⟩ := (K2.out.keep (hO'.block _ (heap_ge K2.out))).cells
      refine RU.ob_val rfl (RU.wanted_none rfl) (fun ev he hc => ?_) ⟨rfl, hO⟩
      have q3 : ev (.tmp 3) = .pointer (some ⟨w.heap.size, 0, none⟩) := (he (.tmp 3)).trans (hf 3 rfl)
      simp only [List.getElem_toArray, List.getElem_cons_succ, List.getElem_cons_zero, execOp, Option.map_some, Option.map_none]; rw [q3]
      first | (go_simp; done) | (go_simp; rfl) | rfl
    · refine RU.ObT.silent rfl (fun a W k0 V hO hf hp hk => ?_)
      obtain rfl : k0 = 0 := Nat.le_zero.1 hk
      have hO' : Below w2.heap.size w2 W := hO
      have e36 : a.eval (.tmp 36) = .agg (cc c) := hp 4 36 rfl
      refine RU.ob_call (g := 33) (args := #[.agg (cc c)]) rfl (RU.wanted_none rfl) (fun ev he hc => ?_) ((HW.out W).mono ?_)
      · have h36 := (he (.tmp 36)).trans e36
        have hfn := he (.func 33)
        simp only [List.getElem_toArray, List.getElem_cons_succ, List.getElem_cons_zero, execOp, Option.map_some, Option.map_none]
        simp only [resolve, invoke, Sem.run_bind, Sem.run_pure, Result.andThen_ok, List.map_toArray, List.map_cons, List.map_nil, h36, hfn, Act.eval, hc]
        rfl
      · rintro e' W2 ⟨rfl, hb2⟩
        exact ⟨_, rfl, rfl, hO'.trans (hb2.mono hO'.size)⟩
    · refine RU.ObT.pure rfl rfl rfl (fun a V hf hp ev he hc W => ?_)
      have q35 : ev (.tmp 35) = .int .i64 0 := (he (.tmp 35)).trans (hp 3 35 rfl)
      have q37 : ev (.tmp 37) = .int .i64 (G : Int) := (he (.tmp 37)).trans (hp 5 37 rfl)
      simp only [List.getElem_toArray, List.getElem_cons_succ, List.getElem_cons_zero, execOp, Option.map_some, Option.map_none]; rw [q35, q37]
      have hwr : IntKind.i64.wrap (G : Int) = (G : Int) := by rw [IntKind.wrap_i64]; omega
      first | (go_simp; done) | (go_simp; rfl) | rfl
    · refine RU.ObT.pure rfl rfl rfl (fun a V hf hp ev he hc W => ?_)
      have q32 : ev (.tmp 32) = .pointer (some ⟨st, 3, none⟩) := (he (.tmp 32)).trans (hp 0 32 rfl)
      simp only [List.getElem_toArray, List.getElem_cons_succ, List.getElem_cons_zero, execOp, Option.map_some, Option.map_none]; rw [q32]
      first | (go_simp; done) | (go_simp; rfl) | rfl
    · refine RU.ObT.pure rfl rfl rfl (fun a V hf hp ev he hc W => ?_)
      have q39 : ev (.tmp 39) = .pointer (some ⟨st, 3, none⟩) := (he (.tmp 39)).trans (hp 7 39 rfl)
      simp only [List.getElem_toArray, List.getElem_cons_succ, List.getElem_cons_zero, execOp, Option.map_some, Option.map_none]; rw [q39]
      first | (go_simp; done) | (go_simp; rfl) | rfl
    · refine RU.ObT.loud (j := 0) rfl (fun a W V hO hf hp => ?_)
      have hO' : Below w2.heap.size w2 W := hO
      have q40 : a.eval (.tmp 40) = .pointer (some ⟨st, 4, none⟩) := hp 8 40 rfl
      have q38 : a.eval (.tmp 38) = .int .i64 (G : Int) := hp 6 38 rfl
      have hx := X2.out.below hO'
      have hcell := hx.cells.2.2.2.2.1
      have hfr := hx.froz 4
      have hse := hx.setW (G : Int)
      refine RU.ob_skip (w' := W.setCell ⟨st, 4, none⟩ (.int .i64 (G : Int))) rfl (RU.wanted_none rfl) (fun ev he hc => ?_) ⟨_, rfl, W, hO', hse.2, hse.1⟩
      have e1 := (he (.tmp 40)).trans q40
      have e2 := (he (.tmp 38)).trans q38
      simp only [List.getElem_toArray, List.getElem_cons_succ, List.getElem_cons_zero, execOp]
      rw [e1, e2]
      go_simp
  intro w4 V4 hO4
  obtain ⟨w3, b3, g3, x3⟩ := hO4
  have X4 : Hid (SX w4 st lg room taken (.slice none 0 0) (G : Int) lost) := x3
  have K4 : Hid (CB w4 w.heap.size c) := (K2.out.keep (b3.block _ (heap_ge K2.out))).keep (g3.block _ (Nat.lt_of_lt_of_le (heap_ge K2.out) b3.size) (fun e => by have e1 := Option.some.inj e; have e2 := HL.out; omega))
  have G4 : Hid (w.grownBy w4 (some st)) := ((gb_below B2.out _).trans (gb_below b3 _)).trans g3
  have j2 : w4.cell? ⟨w.heap.size, 2, none⟩ = some (.bool false) := by rw [← HG.out]; exact K4.out.cells.2.2
  clear b3 g3 x3 k2
  simp only [RU.lay, RU.val, RU.at', c5f, Act.put]
  simp only [List.setIfInBounds_toArray, List.set_cons_succ, List.set_cons_zero]
  go_wp2_with fail
  refine RU.wp_rgn' [13, 14, 17] (c11f st w.heap.size c) c11K (c11Ω w4 st lg room taken c G lost) (by kernel_rfl) (by kernel_rfl) (show Below w4.heap.size w4 _ from (Below.refl _ _).drew) ?_ ?_
  · refine ⟨?_, ?_, ?_, ?_, ?_, ?_, ?_, ?_, ?_, ?_, ?_, ?_, ?_, ?_, ?_, ?_, ?_, ?_, trivial⟩
    · refine RU.ObT.pure rfl rfl rfl (fun a V hf hp ev he hc W => ?_)
      have q0 : ev (.tmp 0) = .pointer (some ⟨st, 3, none⟩) := (he (.tmp 0)).trans (hf 0 rfl)
      simp only [List.getElem_toArray, List.getElem_cons_succ, List.getElem_cons_zero, execOp, Option.map_some, Option.map_none]; rw [q0]
      first | (go_simp; done) | (go_simp; rfl) | rfl
    · refine RU.ObT.pure rfl rfl rfl (fun a V hf hp ev he hc W => ?_)
      have q0 : ev (.tmp 0) = .pointer (some ⟨st, 3, none⟩) := (he (.tmp 0)).trans (hf 0 rfl)
      simp only [List.getElem_toArray, List.getElem_cons_succ, List.getElem_cons_zero, execOp, Option.map_some, Option.map_none]; rw [q0]
      first | (go_simp; done) | (go_simp; rfl) | rfl
    · refine RU.ObT.pure rfl rfl rfl (fun a V hf hp ev he hc W => ?_)
      have q75 : ev (.tmp 75) = .pointer (some ⟨st, 3, none⟩) := (he (.tmp 75)).trans (hp 1 75 rfl)
      simp only [List.getElem_toArray, List.getElem_cons_succ, List.getElem_cons_zero, execOp, Option.map_some, Option.map_none]; rw [q75]
      first | (go_simp; done) | (go_simp; rfl) | rfl
    · refine RU.ObT.pure rfl rfl rfl (fun a V hf hp ev he hc W => ?_)
      have q76 : ev (.tmp 76) = .pointer (some ⟨st, 3, none⟩) := (he (.tmp 76)).trans (hp 2 76 rfl)
      simp only [List.getElem_toArray, List.getElem_cons_succ, List.getElem_cons_zero, execOp, Option.map_some, Option.map_none]; rw [q76]
      first | (go_simp; done) | (go_simp; rfl) | rfl
    · refine RU.ObT.silent rfl (fun a W k0 V hO hf hp hk => ?_)
      have hO' : Below w4.heap.size w4 W := hO.below (Nat.le_trans hk (by decide))
      have hs3 := (X4.out.below hO').cells.2.2.2.1
      refine RU.ob_val rfl (RU.wanted_none rfl) (fun ev he hc => ?_) ⟨rfl, hO⟩
      have q77 : ev (.tmp 77) = .pointer (some ⟨st, 3, none⟩) := (he (.tmp 77)).trans (hp 3 77 rfl)
      simp only [List.getElem_toArray, List.getElem_cons_succ, List.getElem_cons_zero, execOp, Option.map_some, Option.map_none]; rw [q77]
      first | (go_simp; done) | (go_simp; rfl) | rfl
    · refine RU.ObT.pure rfl rfl rfl (fun a V hf hp ev he hc W => ?_)
      have q4 : ev (.tmp 4) = .int .i64 0 := (he (.tmp 4)).trans (hf 4 rfl)
      simp only [List.getElem_toArray, List.getElem_cons_succ, List.getElem_cons_zero, execOp, Option.map_some, Option.map_none]; rw [q4]
      first | (go_simp; done) | (go_simp; rfl) | rfl
    · refine RU.ObT.pure rfl rfl rfl (fun a V hf hp ev he hc W => ?_)
      have q3 : ev (.tmp 3) = .pointer (some ⟨w.heap.size, 0, none⟩) := (he (.tmp 3)).trans (hf 3 rfl)
      simp only [List.getElem_toArray, List.getElem_cons_succ, List.getElem_cons_zero, execOp, Option.map_some, Option.map_none]; rw [q3]
      first | (go_simp; done) | (go_simp; rfl) | rfl
    · refine RU.ObT.silent rfl (fun a W k0 V hO hf hp hk => ?_)
      have hO' : Below w4.heap.size w4 W := hO.below (Nat.le_trans hk (by decide))
      obtain ⟨hc0, hc1, hc2⟩ := (K4.out.keep (hO'.block _ (heap_ge K4.out))).cells
      refine RU.ob_val rfl (RU.wanted_none rfl) (fun ev he hc => ?_) ⟨rfl, hO⟩
      have q80 : ev (.tmp 80) = .pointer (some ⟨w.heap.size, 0, none⟩) := (he (.tmp 80)).trans (hp 6 80 rfl)
      simp only [List.getElem_toArray, List.getElem_cons_succ, List.getElem_cons_zero, execOp, Option.map_some, Option.map_none]; rw [q80]
      first | (go_simp; done) | (go_simp; rfl) | rfl
    · refine RU.ObT.silent rfl (fun a W k0 V hO hf hp hk => ?_)
      have h0 : k0 = 0 := Nat.le_zero.1 hk
      subst h0
      have hO' : Below w4.heap.size w4 W := hO
      have e81 : a.eval (.tmp 81) = .string c.k := hp 7 81 rfl
      refine RU.ob_call (g := 61) (args := #[.string c.k]) rfl (RU.wanted_none rfl) (fun ev he hc => ?_) ((sclone_any c.k (by omega) W).mono ?_)
      · have h81 := (he (.tmp 81)).trans e81
        have hfn := he (.func 61)
        simp only [List.getElem_toArray, List.getElem_cons_succ, List.getElem_cons_zero, execOp, Option.map_some, Option.map_none]
        simp only [resolve, invoke, Sem.run_bind, Sem.run_pure, Result.andThen_ok, List.map_toArray, List.map_cons, List.map_nil, h81, hfn, Act.eval, hc]
        rfl
      · rintro e' W2 ⟨rfl, hb2⟩
        exact ⟨_, rfl, rfl, (hO'.trans (hb2.mono hO'.size) : Below w4.heap.size w4 W2)⟩
    · refine RU.ObT.pure rfl rfl rfl (fun a V hf hp ev he hc W => ?_)
      have q3 : ev (.tmp 3) = .pointer (some ⟨w.heap.size, 0, none⟩) := (he (.tmp 3)).trans (hf 3 rfl)
      simp only [List.getElem_toArray, List.getElem_cons_succ, List.getElem_cons_zero, execOp, Option.map_some, Option.map_none]; rw [q3]
      first | (go_simp; done) | (go_simp; rfl) | rfl
    · refine RU.ObT.silent rfl (fun a W k0 V hO hf hp hk => ?_)
      have hO' : Below w4.heap.size w4 W := hO.below (Nat.le_trans hk (by decide))
      obtain ⟨hc0, hc1, hc2⟩ := (K4.out.keep (hO'.block _ (heap_ge K4.out))).cells
      refine RU.ob_val rfl (RU.wanted_none rfl) (fun ev he hc => ?_) ⟨rfl, hO⟩
      have q83 : ev (.tmp 83) = .pointer (some ⟨w.heap.size, 1, none⟩) := (he (.tmp 83)).trans (hp 9 83 rfl)
      simp only [List.getElem_toArray, List.getElem_cons_succ, List.getElem_cons_zero, execOp, Option.map_some, Option.map_none]; rw [q83]
      first | (go_simp; done) | (go_simp; rfl) | rfl
    · refine RU.ObT.silent rfl (fun a W k0 V hO hf hp hk => ?_)
      have h0 : k0 = 0 := Nat.le_zero.1 hk
      subst h0
      have hO' : Below w4.heap.size w4 W := hO
      have e84 : a.eval (.tmp 84) = .string c.v := hp 10 84 rfl
      refine RU.ob_call (g := 61) (args := #[.string c.v]) rfl (RU.wanted_none rfl) (fun ev he hc => ?_) ((sclone_any c.v (by omega) W).mono ?_)
      · have h84 := (he (.tmp 84)).trans e84
        have hfn := he (.func 61)
        simp only [List.getElem_toArray, List.getElem_cons_succ, List.getElem_cons_zero, execOp, Option.map_some, Option.map_none]
        simp only [resolve, invoke, Sem.run_bind, Sem.run_pure, Result.andThen_ok, List.map_toArray, List.map_cons, List.map_nil, h84, hfn, Act.eval, hc]
        rfl
      · rintro e' W2 ⟨rfl, hb2⟩
        exact ⟨_, rfl, rfl, (hO'.trans (hb2.mono hO'.size) : Below w4.heap.size w4 W2)⟩
    · refine RU.ObT.pure rfl rfl rfl (fun a V hf hp ev he hc W => ?_)
      have q82 : ev (.tmp 82) = .string c.k := (he (.tmp 82)).trans (hp 8 82 rfl)
      have q85 : ev (.tmp 85) = .string c.v := (he (.tmp 85)).trans (hp 11 85 rfl)
      simp only [List.getElem_toArray, List.getElem_cons_succ, List.getElem_cons_zero, execOp, Option.map_some, Option.map_none]
      simp only [List.map_toArray, List.map_cons, List.map_nil, q82, q85]
      first | (go_simp; done) | (go_simp; rfl) | rfl
    · refine RU.ObT.loud (j := 0) rfl (fun a W V hO hf hp => ?_)
      have hO' : Below w4.heap.size w4 W := hO
      have q86 : a.eval (.tmp 86) = .agg #[.string c.k, .string c.v, .bool false] := hp 12 86 rfl
      refine RU.ob_run (v := .slice (some ⟨W.heap.size, 0, none⟩) 1 1) (w' := W.alloc (.cells #[.string c.k, .string c.v, .bool false] 38)) rfl (RU.wanted_none rfl) (fun ev he hc => ?_) ⟨_, rfl, hO'.alloc hO'.size _, W.heap.size, rfl, cb_range (c := c) (by have := cb_al W c; rw [HG.out] at this; exact this)⟩
      have e1 := (he (.tmp 86)).trans q86
      simp only [List.getElem_toArray, List.getElem_cons_succ, List.getElem_cons_zero, execOp]
      simp only [List.map_toArray, List.map_cons, List.map_nil, e1]
      go_simp
    · refine RU.ObT.loud (j := 1) rfl (fun a W V hO hf hp => ?_)
      obtain ⟨hO', D', hU, hr⟩ := hO
      have e78 : a.eval (.tmp 78) = .slice none 0 0 := hp 4 78 rfl
      have e79 : a.eval (.tmp 79) = .int .i64 0 := hp 5 79 rfl
      have e87 : a.eval (.tmp 87) = .slice (some ⟨D', 0, none⟩) 1 1 := (hp 13 87 rfl).trans hU
      refine RU.ob_call (g := 62) (args := #[.slice none 0 0, .int .i64 0, .slice (some ⟨D', 0, none⟩) 1 1]) rfl (RU.wanted_none rfl) (fun ev he hc => ?_) ((insert_one c D' 1 W hr).mono ?_)
      · have h78 := (he (.tmp 78)).trans e78
        have h79 := (he (.tmp 79)).trans e79
        have h87 := (he (.tmp 87)).trans e87
        have hfn := he (.func 62)
        simp only [List.getElem_toArray, List.getElem_cons_succ, List.getElem_cons_zero, execOp, Option.map_some, Option.map_none]
        simp only [resolve, invoke, Sem.run_bind, Sem.run_pure, Result.andThen_ok, List.map_toArray, List.map_cons, List.map_nil, h78, h79, h87, hfn, Act.eval, hc]
        rfl
      · rintro e' W2 ⟨v', rfl, g1, g2, g3⟩
        exact ⟨_, rfl, _, rfl, hO'.trans (g2.mono hO'.size), g1, fun b hb => Nat.le_trans hO'.size (g3 b hb)⟩
    · refine RU.ObT.pure rfl rfl rfl (fun a V hf hp ev he hc W => ?_)
      have q74 : ev (.tmp 74) = .pointer (some ⟨st, 3, none⟩) := (he (.tmp 74)).trans (hp 0 74 rfl)
      simp only [List.getElem_toArray, List.getElem_cons_succ, List.getElem_cons_zero, execOp, Option.map_some, Option.map_none]; rw [q74]
      first | (go_simp; done) | (go_simp; rfl) | rfl
    · refine RU.ObT.pure rfl rfl rfl (fun a V hf hp ev he hc W => ?_)
      have q89 : ev (.tmp 89) = .pointer (some ⟨st, 3, none⟩) := (he (.tmp 89)).trans (hp 15 89 rfl)
      simp only [List.getElem_toArray, List.getElem_cons_succ, List.getElem_cons_zero, execOp, Option.map_some, Option.map_none]; rw [q89]
      first | (go_simp; done) | (go_simp; rfl) | rfl
    · refine RU.ObT.loud (j := 2) rfl (fun a W V hO hf hp => ?_)
      obtain ⟨hO', hcs, hnb⟩ := hO
      have q90 : a.eval (.tmp 90) = .pointer (some ⟨st, 3, none⟩) := hp 16 90 rfl
      have q88 : a.eval (.tmp 88) = V 1 := hp 14 88 rfl
      have hx := X4.out.below hO'
      have hcell := hx.cells.2.2.2.1
      have hfr := hx.froz 3
      have hse := hx.setV (V 1)
      obtain ⟨ad, cp, hv1, -, -⟩ := id hcs
      refine RU.ob_skip (w' := W.setCell ⟨st, 3, none⟩ (V 1)) rfl (RU.wanted_none rfl) (fun ev he hc => ?_) ⟨_, rfl, V 1, hse.1, hcs.far hse.2 (fun b hb e => by have h1 := hnb b hb; have h2 := X4.out.lt; omega), hnb, (gb_below hO' _).trans hse.2⟩
      have e1 := (he (.tmp 90)).trans q90
      have e2 := (he (.tmp 88)).trans q88
      simp only [List.getElem_toArray, List.getElem_cons_succ, List.getElem_cons_zero, execOp]
      rw [e1, e2, hv1]
      go_simp
  intro w5 V5 hO5
  have P5 : Hid (CnP w4 w5 st lg room taken c G lost) := hO5
  clear hO5
  simp only [RU.lay, RU.val, RU.at', c11f, Act.put]
  simp only [List.setIfInBounds_toArray, List.set_cons_succ, List.set_cons_zero]
  go_wp2_with fail
  go_end0
  obtain ⟨v', y1, y2, y3, y4⟩ := P5.out
  exact ⟨rfl, v', y1, y2, fun b hb => Nat.le_trans G4.out.size (y3 b hb), G4.out.trans y4⟩
end Go.Proofs.YtphjjjijdbljaaaDoor
