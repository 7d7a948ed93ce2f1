/- A disk's six cells; what changes and what stays. -/
import Derived.Test.YtphjjjijdbljaaaDoorWirA
import Derived.Deep.MidRow
import Derived.Deep.RegionHeld
import Derived.Deep.RegionLaw
import Derived.Laws.CopyOwn
namespace Go.Proofs.YtphjjjijdbljaaaDoor
open Go Go.RowKit
set_option linter.unusedSimpArgs false
set_option linter.unusedVariables false

/-- Only blocks of F, and new ones, have changed. -/
structure Chg (F : Nat → Prop) (w w' : World) : Prop where
  os : w'.os = w.os
  tape : w'.tape = w.tape
  output : w'.output = w.output
  size : w.heap.size ≤ w'.heap.size
  other : ∀ b, b < w.heap.size → ¬ F b → w'.heap[b]? = w.heap[b]?
theorem Chg.refl (F : Nat → Prop) (w : World) : Chg F w w := ⟨rfl, rfl, rfl, Nat.le_refl _, fun _ _ _ => rfl⟩
theorem Chg.trans {F : Nat → Prop} {x y z : World} (h : Chg F x y) (k : Chg F y z) : Chg F x z :=
  ⟨k.os.trans h.os, k.tape.trans h.tape, k.output.trans h.output, Nat.le_trans h.size k.size, fun b hb hf => (k.other b (Nat.lt_of_lt_of_le hb h.size) hf).trans (h.other b hb hf)⟩
theorem Chg.trans' {F G : Nat → Prop} {x y z : World} (h : Chg F x y) (k : Chg G y z) (hG : ∀ b, G b → F b ∨ x.heap.size ≤ b) : Chg F x z :=
  ⟨k.os.trans h.os, k.tape.trans h.tape, k.output.trans h.output, Nat.le_trans h.size k.size, fun b hb hf => (k.other b (Nat.lt_of_lt_of_le hb h.size) (fun hg => (hG b hg).elim hf (by omega))).trans (h.other b hb hf)⟩
theorem Chg.mono {F G : Nat → Prop} {x y : World} (h : Chg F x y) (k : ∀ b, F b → G b) : Chg G x y := ⟨h.os, h.tape, h.output, h.size, fun b hb hf => h.other b hb (fun q => hf (k b q))⟩
theorem Chg.ofBelow {F : Nat → Prop} {x y : World} (h : Below x.heap.size x y) : Chg F x y := ⟨h.os, h.tape, h.output, h.size, fun b hb _ => h.block b hb⟩
theorem Chg.below {F : Nat → Prop} {x y : World} {B : Nat} (h : Chg F x y) (hB : B ≤ x.heap.size) (hF : ∀ b, F b → B ≤ b) : Below B x y := ⟨h.os, h.tape, h.output, h.size, fun b hb => h.other b (by omega) (fun q => by have := hF b q; omega)⟩
theorem Chg.alloc {F : Nat → Prop} {x y : World} (h : Chg F x y) (o : Obj) : Chg F x (y.alloc o) := h.trans (Chg.ofBelow ((Below.refl _ y).alloc (Nat.le_refl _) o))
theorem heap_setCell_same {w : World} {g j : Nat} {cs : Array Value} {t : TypeId} (h : w.heap[g]? = some (.cells cs t (0, 0))) (v : Value) : (w.setCell ⟨g, j, none⟩ v).heap[g]? = some (.cells (cs.setIfInBounds j v) t (0, 0)) := by
  have hlt : g < w.heap.size := (Array.getElem?_eq_some_iff.1 h).1
  have := Array.getElem?_eq_some_iff.1 h
  simp [World.setCell, Array.getElem?_modify, h]
theorem Chg.setCell {F : Nat → Prop} {x y : World} (h : Chg F x y) {g j : Nat} {v : Value} (hg : F g) : Chg F x (y.setCell ⟨g, j, none⟩ v) :=
  h.trans ⟨rfl, rfl, rfl, by simp [World.setCell], fun b hb hf => Below.heap_setCell _ _ _ _ (fun e => hf (by subst e; exact hg))⟩
/-- The six cells of a disk. -/
def six (sv wv : Value) (fu dn fd : Bool) (fz : Int) : Array Value := #[sv, wv, .bool fu, .bool dn, .bool fd, .int .i64 fz]
def DB (w : World) (g : Nat) (sv wv : Value) (fu dn fd : Bool) (fz : Int) : Prop := w.heap[g]? = some (.cells (six sv wv fu dn fd fz) 59 (0, 0))
variable {w : World} {g : Nat} {sv wv : Value} {fu dn fd : Bool} {fz : Int}
theorem DB.cell (h : DB w g sv wv fu dn fd fz) (j : Nat) : w.cell? ⟨g, j, none⟩ = (six sv wv fu dn fd fz)[j]? := by
  unfold World.cell?; rw [h]; rfl
theorem DB.froz (h : DB w g sv wv fu dn fd fz) (j : Nat) : w.frozen? ⟨g, j, none⟩ = false := by
  unfold World.frozen?; rw [h]; simp
theorem DB.keep {w' : World} (h : DB w g sv wv fu dn fd fz) (k : w'.heap[g]? = w.heap[g]?) : DB w' g sv wv fu dn fd fz := k.trans h
theorem DB.cells (h : DB w g sv wv fu dn fd fz) : w.cell? ⟨g, 0, none⟩ = some sv ∧ w.cell? ⟨g, 1, none⟩ = some wv ∧ w.cell? ⟨g, 2, none⟩ = some (.bool fu) ∧ w.cell? ⟨g, 3, none⟩ = some (.bool dn) ∧ w.cell? ⟨g, 4, none⟩ = some (.bool fd) ∧ w.cell? ⟨g, 5, none⟩ = some (.int .i64 fz) :=
  ⟨h.cell 0, h.cell 1, h.cell 2, h.cell 3, h.cell 4, h.cell 5⟩
theorem DB.set1 (h : DB w g sv wv fu dn fd fz) (v : Value) : DB (w.setCell ⟨g, 1, none⟩ v) g sv v fu dn fd fz := heap_setCell_same h v
theorem DB.set2 (h : DB w g sv wv fu dn fd fz) (v : Bool) : DB (w.setCell ⟨g, 2, none⟩ (.bool v)) g sv wv v dn fd fz := heap_setCell_same h _
theorem DB.set3 (h : DB w g sv wv fu dn fd fz) (v : Bool) : DB (w.setCell ⟨g, 3, none⟩ (.bool v)) g sv wv fu v fd fz := heap_setCell_same h _
theorem DB.set4 (h : DB w g sv wv fu dn fd fz) (v : Bool) : DB (w.setCell ⟨g, 4, none⟩ (.bool v)) g sv wv fu dn v fz := heap_setCell_same h _
theorem DB.set5 (h : DB w g sv wv fu dn fd fz) (v : Int) : DB (w.setCell ⟨g, 5, none⟩ (.int .i64 v)) g sv wv fu dn fd v := heap_setCell_same h _
theorem DB.lt (h : DB w g sv wv fu dn fd fz) : g < w.heap.size := (Array.getElem?_eq_some_iff.1 h).1
/-- What 'operates' answers, and what it leaves. -/
def opA (dn fd : Bool) (fz : Int) : Bool := !dn && !(fd && (fz == 0))
def opD (dn fd : Bool) (fz : Int) : Bool := dn || (fd && (fz == 0))
def opF (dn fd : Bool) (fz : Int) : Int := if !dn && (fd && !(fz == 0)) then fz - 1 else fz
set_option maxHeartbeats 1000000 in
theorem operates_any (h : DB w g sv wv fu dn fd fz) (hz : fd = true → 0 ≤ fz ∧ fz ≤ 9223372036854775807) :
    Calls Tryd.prog 38 #[.pointer (some ⟨g, 0, none⟩)] w fun e w' => e = .returned (.bool (opA dn fd fz)) ∧ DB w' g sv wv fu (opD dn fd fz) fd (opF dn fd fz) ∧ Chg (fun b => b = g) w w' ∧ w'.heap.size = w.heap.size := by
  have H : Hid (DB w g sv wv fu dn fd fz) := h
  obtain ⟨h0, h1, h2, h3, h4, h5⟩ := h.cells
  have f3 := h.froz 3
  have f5 := h.froz 5
  have HZ : Hid (fd = true → 0 ≤ fz ∧ fz ≤ 9223372036854775807) := hz
  clear h hz
  cases dn with
  | true =>
    go_enter Tryd.func38, Tryd.ntmps38
    go_wp2
    go_ret
    exact ⟨rfl, H.out, Chg.refl _ _, rfl⟩
  | false =>
    cases fd with
    | false =>
      go_enter Tryd.func38, Tryd.ntmps38
      go_wp2
      go_ret
      exact ⟨rfl, H.out, Chg.refl _ _, rfl⟩
    | true =>
      by_cases hf : fz = 0
      · subst hf
        go_enter Tryd.func38, Tryd.ntmps38
        go_wp2
        go_ret
        exact ⟨rfl, H.out.set3 true, (Chg.refl _ _).setCell rfl, by simp [World.setCell]⟩
      · have hn : ¬ ((fz == 0) = true) := by simpa using hf
        go_enter Tryd.func38, Tryd.ntmps38
        go_wp2
        go_ret
        have e1 : opA false true fz = true := by simp [opA, hf]
        have e2 : opD false true fz = false := by simp [opD, hf]
        have e3 : opF false true fz = fz - 1 := by simp [opF, hf]
        rw [e1, e2, e3]
        have hw : wrap64 (fz - 1) = fz - 1 := by have := HZ.out trivial; unfold wrap64; omega
        rw [hw]
        exact ⟨rfl, H.out.set5 (fz - 1), (Chg.refl _ _).setCell rfl, by simp [World.setCell]⟩
end Go.Proofs.YtphjjjijdbljaaaDoor
/- Sectors, writes that wait, a disk. -/
namespace Go.Proofs.YtphjjjijdbljaaaDoor
open Go Go.RowKit
set_option linter.unusedSimpArgs false
set_option linter.unusedVariables false

theorem size64 : (Tryd.prog.info? 66).map (·.size) = some 64 := by kernel_rfl
theorem there_of_row' {w : World} {g : Nat} {cs : Array Value} {t : TypeId} (hg : w.heap[g]? = some (.cells cs t (0, 0))) (o n : Nat) (hn : o + n ≤ cs.size) : w.there g o n := fun j hj =>
  ⟨by rw [cell_of_row w g (o + j) cs t _ hg, Array.getElem?_eq_getElem (by omega)]; rfl, frozen_of_row _ _ _ _ _ hg⟩
theorem heap_past (b c : Nat) (hc : c ≠ b) : ∀ (vs : List Value) (o : Nat) (w : World), (w.setCells b o vs).heap[c]? = w.heap[c]?
  | [], _, _ => rfl
  | v :: r, o, w => by
    rw [World.setCells, heap_past b c hc r (o + 1)]
    exact Below.heap_setCell _ _ _ _ hc
theorem size_setCells (b : Nat) : ∀ (vs : List Value) (o : Nat) (w : World), (w.setCells b o vs).heap.size = w.heap.size
  | [], _, _ => rfl
  | v :: r, o, w => by
    rw [World.setCells, size_setCells b r (o + 1)]
    simp [World.setCell]
theorem heap_setCells_same {g : Nat} {t : TypeId} : ∀ (vs : List Value) (o : Nat) (w : World) (cs : Array Value), w.heap[g]? = some (.cells cs t (0, 0)) → ∃ cs', (w.setCells g o vs).heap[g]? = some (.cells cs' t (0, 0)) ∧ cs'.size = cs.size
  | [], _, _, cs, h => ⟨cs, h, rfl⟩
  | v :: r, o, w, cs, h => by
    rw [World.setCells]
    obtain ⟨cs', h1, h2⟩ := heap_setCells_same r (o + 1) _ _ (heap_setCell_same (j := o) h v)
    exact ⟨cs', h1, by rw [h2]; simp⟩
theorem Chg.setCells {F : Nat → Prop} {x y : World} (h : Chg F x y) {g o : Nat} {vs : List Value} (hg : F g) : Chg F x (y.setCells g o vs) := by
  refine h.trans ?_
  have : ∀ (vs : List Value) (o : Nat) (y : World), Chg F y (y.setCells g o vs) := by
    intro vs
    induction vs with
    | nil => intro o y; exact Chg.refl _ _
    | cons v r ih => intro o y; rw [World.setCells]; exact ((Chg.refl _ _).setCell hg).trans (ih _ _)
  exact this _ _ _
/-- One more sector's bytes in their place. -/
def upd (st : Nat → List Int) (i : Nat) (x : List Int) : Nat → List Int := fun j => if j = i then x else st j
/-- The sectors, in a block of their own. -/
structure SB (w : World) (gs n : Nat) (st : Nat → List Int) : Prop where
  blk : ∃ cur, w.heap[gs]? = some (.cells cur 66 (0, 0)) ∧ cur.size = n * 64
  len : ∀ i, i < n → (st i).length = 64
  at' : ∀ i, i < n → w.rangeAt gs (i * 64) (bv (st i))
theorem SB.there {w : World} {gs n : Nat} {st : Nat → List Int} (h : SB w gs n st) {i : Nat} (hi : i < n) : w.there gs (i * 64) 64 := by
  obtain ⟨cur, h1, h2⟩ := h.blk
  exact there_of_row' h1 _ _ (by rw [h2]; omega)
theorem SB.lt {w : World} {gs n : Nat} {st : Nat → List Int} (h : SB w gs n st) : gs < w.heap.size := by
  obtain ⟨cur, h1, h2⟩ := h.blk
  exact (Array.getElem?_eq_some_iff.1 h1).1
theorem SB.keep {w w' : World} {gs n : Nat} {st : Nat → List Int} (h : SB w gs n st) (k : w'.heap[gs]? = w.heap[gs]?) : SB w' gs n st :=
  ⟨by rw [k]; exact h.blk, h.len, fun i hi j v hv => (World.cell?_of_block (w := w) (w' := w') (a := ⟨gs, i * 64 + j, none⟩) k).trans (h.at' i hi j v hv)⟩
/-- A sector written over. -/
theorem SB.store {w : World} {gs n : Nat} {st : Nat → List Int} (h : SB w gs n st) {i : Nat} (hi : i < n) {x : List Int} (hx : x.length = 64) : SB (w.setCells gs (i * 64) (bv x)) gs n (upd st i x) := by
  obtain ⟨cur, h1, h2⟩ := h.blk
  obtain ⟨cs', g1, g2⟩ := heap_setCells_same (bv x) (i * 64) w cur h1
  refine ⟨⟨cs', g1, by rw [g2, h2]⟩, fun j hj => ?_, fun j hj => ?_⟩
  · unfold upd; split
    · exact hx
    · exact h.len j hj
  · unfold upd; split
    · rename_i e; subst e
      exact World.rangeAt_setCells_same _ _ _ _ (by rw [bv_length, hx]; exact h.there hi)
    · rename_i e
      exact World.rangeAt_setCells_apart (h.at' j hj) _ _ _ (.inr (by rw [bv_length, bv_length, hx, h.len j hj]; omega))
/-- What a write that waits is, as cells. -/
def wc (p : Nat × List Int) : List Value := .int .i64 (p.1 : Int) :: bv p.2
def wcs (l : List (Nat × List Int)) : List Value := (l.map wc).flatten
def Wok (n : Nat) (l : List (Nat × List Int)) : Prop := ∀ p ∈ l, p.1 < n ∧ p.2.length = 64
theorem wc_one (p : Nat × List Int) : ∀ u ∈ wc p, u.oneCell' = true := by
  intro u hu
  rcases List.mem_cons.1 hu with rfl | hu
  · rfl
  · exact bv_one _ u hu
theorem wc_length {p : Nat × List Int} (h : p.2.length = 64) : (wc p).length = 65 := by simp [wc, bv_length, h]
theorem wcs_snoc (l : List (Nat × List Int)) (p : Nat × List Int) : wcs (l ++ [p]) = wcs l ++ wc p := by simp [wcs]
theorem wcs_length {n : Nat} : ∀ {l : List (Nat × List Int)}, Wok n l → (wcs l).length = l.length * 65
  | [], _ => rfl
  | p :: l, h => by
    have h1 := wc_length (h p (by simp)).2
    have h2 := wcs_length (l := l) (fun q hq => h q (by simp [hq]))
    have : wcs (p :: l) = wc p ++ wcs l := by simp [wcs]
    rw [this, List.length_append, h1, h2, List.length_cons]; omega
theorem wcs_get {n : Nat} : ∀ {l : List (Nat × List Int)} {i : Nat} {p : Nat × List Int}, Wok n l → l[i]? = some p → ∀ j, j < 65 → (wcs l)[i * 65 + j]? = (wc p)[j]?
  | [], _, _, _, h, _, _ => by simp at h
  | q :: l, i, p, hw, h, j, hj => by
    have h1 := wc_length (hw q (by simp)).2
    have e : wcs (q :: l) = wc q ++ wcs l := by simp [wcs]
    rw [e]
    cases i with
    | zero =>
      simp at h; subst h
      rw [Nat.zero_mul, Nat.zero_add, List.getElem?_append_left (by omega)]
    | succ i =>
      simp at h
      rw [List.getElem?_append_right (by omega), h1, show (i + 1) * 65 + j - 65 = i * 65 + j by omega]
      exact wcs_get (l := l) (fun q hq => hw q (by simp [hq])) h j hj
/-- The writes that wait. -/
structure WB (T : TypeId) (w : World) (v : Value) (n : Nat) (l : List (Nat × List Int)) : Prop where
  row : w.ownsRow 0 T 65 v l.length (wcs l)
  ok : Wok n l
theorem WB.lt {T : TypeId} {w : World} {v : Value} {n : Nat} {l : List (Nat × List Int)} (h : WB T w v n l) {b : Nat} (hb : v.ownBlock = some b) : b < w.heap.size := (h.row.lt b hb).2
theorem WB.keep {T : TypeId} {w w' : World} {v : Value} {n : Nat} {l : List (Nat × List Int)} (h : WB T w v n l) (k : ∀ b, v.ownBlock = some b → w'.heap[b]? = w.heap[b]?) : WB T w' v n l := by
  refine ⟨⟨h.row.1, ?_⟩, h.ok⟩
  rcases h.row.2 with h1 | ⟨g, cap, cur, rfl, hb, hg, hc⟩
  · exact .inl h1
  · exact .inr ⟨g, cap, cur, rfl, hb, by rw [k g rfl]; exact hg, hc⟩
theorem WB.shape {T : TypeId} {w : World} {v : Value} {n : Nat} {l : List (Nat × List Int)} (h : WB T w v n l) : ∃ ad cap, v = .slice ad l.length cap ∧ l.length ≤ cap ∧ (ad = none → l = []) ∧ (∀ a, ad = some a → ∃ b, a = ⟨b, 0, none⟩ ∧ b < w.heap.size ∧ (∀ i p, l[i]? = some p → w.rangeAt b (i * 65) (wc p))) := by
  rcases h.row.2 with ⟨rfl, h0⟩ | ⟨g, cap, cur, hv, hb, hg, hc, hm, hs, ht⟩
  · exact ⟨none, 0, by rw [h0], by omega, fun _ => List.length_eq_zero_iff.1 h0, fun a ha => by cases ha⟩
  · refine ⟨_, cap, hv, hc, (by intro e; cases e), fun a ha => ?_⟩
    cases ha
    refine ⟨g, rfl, (Array.getElem?_eq_some_iff.1 hg).1, fun i p hp j u hu => ?_⟩
    have hp2 := h.ok p (List.mem_of_getElem? hp)
    have hj : j < 65 := by have := (List.getElem?_eq_some_iff.1 hu).1; rw [wc_length hp2.2] at this; exact this
    have hi : i < l.length := (List.getElem?_eq_some_iff.1 hp).1
    have e := wcs_get h.ok hp j hj
    rw [hu, ← ht, List.getElem?_take, if_pos (by omega), Array.getElem?_toList] at e
    rw [cell_of_row w g _ cur _ _ hg]; exact e
/-- A disk, as the document has it. -/
structure Dk where
  n : Nat
  st : Nat → List Int
  wt : List (Nat × List Int)
  fu : Bool
  dn : Bool
  fz : Option Nat
/-- The fuse, as the program has it. -/
def fzP (f : Option Nat) (fd : Bool) (fz : Int) : Prop := match f with
  | none => fd = false
  | some k => fd = true ∧ fz = (k : Int) ∧ k ≤ 9223372036854775807
/-- The program's disk lies at g, in blocks of F. -/
structure PX (F : Nat → Prop) (w : World) (g : Nat) (s : Dk) (gs : Nat) (wv : Value) (fd : Bool) (fz : Int) : Prop where
  db : DB w g (.slice (some ⟨gs, 0, none⟩) s.n s.n) wv s.fu s.dn fd fz
  fz : fzP s.fz fd fz
  sb : SB w gs s.n s.st
  wb : WB 81 w wv s.n s.wt
  ggs : g ≠ gs
  wg : wv.ownBlock ≠ some g
  wgs : wv.ownBlock ≠ some gs
  Fg : F g
  Fgs : F gs
  Fw : ∀ b, wv.ownBlock = some b → F b
  Flt : ∀ b, F b → b < w.heap.size
  n1 : 1 ≤ s.n
  n2 : s.n ≤ 65536
def PD (F : Nat → Prop) (w : World) (g : Nat) (s : Dk) : Prop := ∃ gs wv fd fz, PX F w g s gs wv fd fz
theorem PX.keep {F : Nat → Prop} {w w' : World} {g : Nat} {s : Dk} {gs : Nat} {wv : Value} {fd : Bool} {fz : Int} (h : PX F w g s gs wv fd fz) (hs : w.heap.size ≤ w'.heap.size) (k : ∀ b, F b → w'.heap[b]? = w.heap[b]?) : PX F w' g s gs wv fd fz :=
  ⟨h.db.keep (k g h.Fg), h.fz, h.sb.keep (k gs h.Fgs), h.wb.keep (fun b hb => k b (h.Fw b hb)), h.ggs, h.wg, h.wgs, h.Fg, h.Fgs, h.Fw, fun b hb => Nat.lt_of_lt_of_le (h.Flt b hb) hs, h.n1, h.n2⟩
theorem PD.keep {F : Nat → Prop} {w w' : World} {g : Nat} {s : Dk} (h : PD F w g s) (hs : w.heap.size ≤ w'.heap.size) (k : ∀ b, F b → w'.heap[b]? = w.heap[b]?) : PD F w' g s := by
  obtain ⟨gs, wv, fd, fz, h⟩ := h
  exact ⟨gs, wv, fd, fz, h.keep hs k⟩
theorem PX.chg {F G : Nat → Prop} {w w' : World} {g : Nat} {s : Dk} {gs : Nat} {wv : Value} {fd : Bool} {fz : Int} (h : PX F w g s gs wv fd fz) (c : Chg G w w') (d : ∀ b, F b → ¬ G b) : PX F w' g s gs wv fd fz :=
  h.keep c.size (fun b hb => c.other b (h.Flt b hb) (d b hb))
theorem PD.chg {F G : Nat → Prop} {w w' : World} {g : Nat} {s : Dk} (h : PD F w g s) (c : Chg G w w') (d : ∀ b, F b → ¬ G b) : PD F w' g s := by
  obtain ⟨gs, wv, fd, fz, h⟩ := h
  exact ⟨gs, wv, fd, fz, h.chg c d⟩
/-- What a call on the disk leaves. -/
def Aft (F : Nat → Prop) (w w' : World) (g : Nat) (s : Dk) : Prop := ∃ F', PD F' w' g s ∧ Chg F w w' ∧ ∀ b, F' b → F b ∨ w.heap.size ≤ b
def hasB (n : Nat) (i : Int) : Bool := decide (0 ≤ i) && decide (i < (n : Int))
set_option maxHeartbeats 1000000 in
theorem has_any {w : World} {g gs n : Nat} {wv : Value} {fu dn fd : Bool} {fz : Int} (h : DB w g (.slice (some ⟨gs, 0, none⟩) n n) wv fu dn fd fz) (i : Int) :
    Calls Tryd.prog 70 #[.pointer (some ⟨g, 0, none⟩), .int .i64 i] w fun e w' => e = .returned (.bool (hasB n i)) ∧ w' = w := by
  obtain ⟨h0, -⟩ := h.cells
  clear h
  by_cases h1 : 0 ≤ i
  · go_enter Tryd.func70, Tryd.ntmps70
    go_wp2
    go_ret
    simp [hasB, h1]
  · go_enter Tryd.func70, Tryd.ntmps70
    go_wp2
    go_ret
    simp [hasB]
    intro q; omega
theorem has_nil {w : World} (i : Int) : Calls Tryd.prog 70 #[.pointer none, .int .i64 i] w fun e w' => e = .returned (.bool false) ∧ w' = w := by
  go_enter Tryd.func70, Tryd.ntmps70
  go_wp2
  go_ret
  simp
end Go.Proofs.YtphjjjijdbljaaaDoor
