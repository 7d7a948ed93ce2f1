/- What comes in as a slice of bytes. -/
import Derived.Test.YthfpakjfdncphaaDoorRows
import Derived.Test.YthfpakjfdncphaaDoorWirA
import Derived.ProofKit
import Derived.OpenShut
import Derived.ChangeOld
import Derived.SizedLaws
import Derived.Deep.MidRow
namespace Go.Proofs.YthfpakjfdncphaaDoor
open Go Go.ChangeShapes Go.WideShapes Go.ChangeAt Go.RowKit
set_option linter.unusedVariables false
set_option maxRecDepth 100000

theorem okWide_addr {W : World} {base : Nat} {x : Addr} {l c : Nat} {t e : TypeId} (hu : Tryd.prog.underlying t = some (.slice e)) (hv : Value.okWide Tryd.prog W .any base t (.slice (some x) l c)) : x.spot = none ∧ x.block < W.heap.size := by
  simp only [Value.okWide, hu, Cell.okWide, Cell.ok] at hv
  obtain ⟨_, _, _, hs, row, cells, hsh, _⟩ := hv
  refine ⟨hs, ?_⟩
  unfold World.shape? at hsh
  cases hg : W.heap[x.block]? with
  | none => rw [hg] at hsh; simp at hsh
  | some o => exact (Array.getElem?_eq_some_iff.1 hg).1
theorem byte_wf {n : Int} (h : (Lit.int .u8 n).wf = true) : 0 ≤ n ∧ n ≤ 255 := by
  simp only [Lit.wf, Bool.and_eq_true, decide_eq_true_eq] at h
  exact h
theorem sl_of {W : World} {b o l c : Nat} {zs : List Int} (hb : b < W.heap.size) (hl : l ≤ c) (hz : zs.length = c) (hcell : ∀ i, i < zs.length → W.cell? ((⟨b, o, none⟩ : Addr).add i) = some (.int .u8 (zs.getD i 0))) (hwz : ∀ n ∈ zs, (Lit.int .u8 n).wf = true) :
    Byt (zs.take l) ∧ (zs.take l).length = l ∧ Sl W (.slice (some ⟨b, o, none⟩) l c) (zs.take l) := by
  have hlen : (zs.take l).length = l := by rw [List.length_take]; omega
  refine ⟨fun z hz' => byte_wf (hwz z (List.mem_of_mem_take hz')), hlen, ⟨some ⟨b, o, none⟩, c, by rw [hlen], by rw [hlen]; exact hl, .inr ⟨b, o, rfl, hb, fun i hi => ?_⟩⟩⟩
  rw [hlen] at hi
  have h1 := hcell i (by omega)
  rw [addr_add0] at h1
  rw [h1]
  unfold gi
  simp only [List.getD_eq_getElem?_getD, List.getElem?_take, if_pos hi]
/-- A slice of bytes that came in. -/
theorem open_bytes {H : Type} {enc : TypeId × Value → H} {W : World} {base : Nat} {a : Option Addr} {l c : Nat} {d : DataW H} {p : List MemPlace} (hv : Value.okWide Tryd.prog W .any base 32 (.slice a l c))
    (h : DataW.Trod enc Tryd.prog W 0 (fun _ => true) true 32 (.slice a l c) d p) :
    ∃ xs, Byt xs ∧ xs.length = l ∧ Sl W (.slice a l c) xs ∧ ((d = .nil ∧ l = 0) ∨ ∃ es sp, d = .slice es sp ∧ es.length + sp.length = c ∧ l ≤ c) := by
  obtain ⟨fuel, hf⟩ := h
  rcases open_ints Tryd.underlying32 Tryd.underlying5 (by kernel_rfl) hf with ⟨hcs, hx⟩ | ⟨x, l', c', zs, hcs, _, hl, hm, hz, hx, hcell, hwz⟩
  · simp [Value.cells] at hcs
    obtain ⟨rfl, rfl, rfl⟩ := hcs
    exact ⟨[], Byt.nil, rfl, ⟨none, 0, rfl, Nat.le_refl _, .inl ⟨rfl, fun _ => rfl⟩⟩, .inl ⟨congrArg Prod.fst hx, rfl⟩⟩
  · simp [Value.cells] at hcs
    obtain ⟨rfl, rfl, rfl⟩ := hcs
    obtain ⟨hs, hb⟩ := okWide_addr Tryd.underlying32 hv
    obtain ⟨b, o, sp⟩ := x
    obtain rfl : sp = none := hs
    have hz' : zs.length = c := by simpa using hz
    obtain ⟨h1, h2, h3⟩ := sl_of hb hl hz' hcell hwz
    refine ⟨_, h1, h2, h3, .inr ⟨_, _, congrArg Prod.fst hx, ?_, hl⟩⟩
    simp only [lits, List.length_map, List.length_take, List.length_drop]; omega
end Go.Proofs.YthfpakjfdncphaaDoor
/- A disk's six cells; what changes and what stays. -/
namespace Go.Proofs.YthfpakjfdncphaaDoor
open Go Go.RowKit
set_option linter.unusedSimpArgs false
set_option linter.unusedVariables false

/-- Only blocks of F, and new ones, have changed. -/
structure Chg (F : Nat → Prop) (w w' : World) : Prop where
  os : w'.os = w.os
  tape : w'.tape = w.tape
  output : w'.output = w.output
  size : w.heap.size ≤ w'.heap.size
  other : ∀ b, b < w.heap.size → ¬ F b → w'.heap[b]? = w.heap[b]?
theorem Chg.refl (F : Nat → Prop) (w : World) : Chg F w w := ⟨rfl, rfl, rfl, Nat.le_refl _, fun _ _ _ => rfl⟩
theorem Chg.trans {F : Nat → Prop} {x y z : World} (h : Chg F x y) (k : Chg F y z) : Chg F x z :=
  ⟨k.os.trans h.os, k.tape.trans h.tape, k.output.trans h.output, Nat.le_trans h.size k.size, fun b hb hf => (k.other b (Nat.lt_of_lt_of_le hb h.size) hf).trans (h.other b hb hf)⟩
theorem Chg.trans' {F G : Nat → Prop} {x y z : World} (h : Chg F x y) (k : Chg G y z) (hG : ∀ b, G b → F b ∨ x.heap.size ≤ b) : Chg F x z :=
  ⟨k.os.trans h.os, k.tape.trans h.tape, k.output.trans h.output, Nat.le_trans h.size k.size, fun b hb hf => (k.other b (Nat.lt_of_lt_of_le hb h.size) (fun hg => (hG b hg).elim hf (by omega))).trans (h.other b hb hf)⟩
theorem Chg.mono {F G : Nat → Prop} {x y : World} (h : Chg F x y) (k : ∀ b, F b → G b) : Chg G x y := ⟨h.os, h.tape, h.output, h.size, fun b hb hf => h.other b hb (fun q => hf (k b q))⟩
theorem Chg.ofBelow {F : Nat → Prop} {x y : World} (h : Below x.heap.size x y) : Chg F x y := ⟨h.os, h.tape, h.output, h.size, fun b hb _ => h.block b hb⟩
theorem Chg.below {F : Nat → Prop} {x y : World} {B : Nat} (h : Chg F x y) (hB : B ≤ x.heap.size) (hF : ∀ b, F b → B ≤ b) : Below B x y := ⟨h.os, h.tape, h.output, h.size, fun b hb => h.other b (by omega) (fun q => by have := hF b q; omega)⟩
theorem Chg.alloc {F : Nat → Prop} {x y : World} (h : Chg F x y) (o : Obj) : Chg F x (y.alloc o) := h.trans (Chg.ofBelow ((Below.refl _ y).alloc (Nat.le_refl _) o))
theorem heap_setCell_same {w : World} {g j : Nat} {cs : Array Value} {t : TypeId} (h : w.heap[g]? = some (.cells cs t (0, 0))) (v : Value) : (w.setCell ⟨g, j, none⟩ v).heap[g]? = some (.cells (cs.setIfInBounds j v) t (0, 0)) := by
  have hlt : g < w.heap.size := (Array.getElem?_eq_some_iff.1 h).1
  have := Array.getElem?_eq_some_iff.1 h
  simp [World.setCell, Array.getElem?_modify, h]
theorem Chg.setCell {F : Nat → Prop} {x y : World} (h : Chg F x y) {g j : Nat} {v : Value} (hg : F g) : Chg F x (y.setCell ⟨g, j, none⟩ v) :=
  h.trans ⟨rfl, rfl, rfl, by simp [World.setCell], fun b hb hf => Below.heap_setCell _ _ _ _ (fun e => hf (by subst e; exact hg))⟩
/-- The six cells of a disk. -/
def six (sv wv : Value) (fu dn fd : Bool) (fz : Int) : Array Value := #[sv, wv, .bool fu, .bool dn, .bool fd, .int .i64 fz]
def DB (w : World) (g : Nat) (sv wv : Value) (fu dn fd : Bool) (fz : Int) : Prop := w.heap[g]? = some (.cells (six sv wv fu dn fd fz) 56 (0, 0))
variable {w : World} {g : Nat} {sv wv : Value} {fu dn fd : Bool} {fz : Int}
theorem DB.cell (h : DB w g sv wv fu dn fd fz) (j : Nat) : w.cell? ⟨g, j, none⟩ = (six sv wv fu dn fd fz)[j]? := by
  unfold World.cell?; rw [h]; rfl
theorem DB.froz (h : DB w g sv wv fu dn fd fz) (j : Nat) : w.frozen? ⟨g, j, none⟩ = false := by
  unfold World.frozen?; rw [h]; simp
theorem DB.keep {w' : World} (h : DB w g sv wv fu dn fd fz) (k : w'.heap[g]? = w.heap[g]?) : DB w' g sv wv fu dn fd fz := k.trans h
theorem DB.cells (h : DB w g sv wv fu dn fd fz) : w.cell? ⟨g, 0, none⟩ = some sv ∧ w.cell? ⟨g, 1, none⟩ = some wv ∧ w.cell? ⟨g, 2, none⟩ = some (.bool fu) ∧ w.cell? ⟨g, 3, none⟩ = some (.bool dn) ∧ w.cell? ⟨g, 4, none⟩ = some (.bool fd) ∧ w.cell? ⟨g, 5, none⟩ = some (.int .i64 fz) :=
  ⟨h.cell 0, h.cell 1, h.cell 2, h.cell 3, h.cell 4, h.cell 5⟩
theorem DB.set1 (h : DB w g sv wv fu dn fd fz) (v : Value) : DB (w.setCell ⟨g, 1, none⟩ v) g sv v fu dn fd fz := heap_setCell_same h v
theorem DB.set2 (h : DB w g sv wv fu dn fd fz) (v : Bool) : DB (w.setCell ⟨g, 2, none⟩ (.bool v)) g sv wv v dn fd fz := heap_setCell_same h _
theorem DB.set3 (h : DB w g sv wv fu dn fd fz) (v : Bool) : DB (w.setCell ⟨g, 3, none⟩ (.bool v)) g sv wv fu v fd fz := heap_setCell_same h _
theorem DB.set4 (h : DB w g sv wv fu dn fd fz) (v : Bool) : DB (w.setCell ⟨g, 4, none⟩ (.bool v)) g sv wv fu dn v fz := heap_setCell_same h _
theorem DB.set5 (h : DB w g sv wv fu dn fd fz) (v : Int) : DB (w.setCell ⟨g, 5, none⟩ (.int .i64 v)) g sv wv fu dn fd v := heap_setCell_same h _
theorem DB.lt (h : DB w g sv wv fu dn fd fz) : g < w.heap.size := (Array.getElem?_eq_some_iff.1 h).1
/-- What 'operates' answers, and what it leaves. -/
def opA (dn fd : Bool) (fz : Int) : Bool := !dn && !(fd && (fz == 0))
def opD (dn fd : Bool) (fz : Int) : Bool := dn || (fd && (fz == 0))
def opF (dn fd : Bool) (fz : Int) : Int := if !dn && (fd && !(fz == 0)) then fz - 1 else fz
set_option maxHeartbeats 1000000 in
theorem operates_any (h : DB w g sv wv fu dn fd fz) (hz : fd = true → 0 ≤ fz ∧ fz ≤ 9223372036854775807) :
    Calls Tryd.prog 42 #[.pointer (some ⟨g, 0, none⟩)] w fun e w' => e = .returned (.bool (opA dn fd fz)) ∧ DB w' g sv wv fu (opD dn fd fz) fd (opF dn fd fz) ∧ Chg (fun b => b = g) w w' ∧ w'.heap.size = w.heap.size := by
  have H : Hid (DB w g sv wv fu dn fd fz) := h
  obtain ⟨h0, h1, h2, h3, h4, h5⟩ := h.cells
  have f3 := h.froz 3
  have f5 := h.froz 5
  have HZ : Hid (fd = true → 0 ≤ fz ∧ fz ≤ 9223372036854775807) := hz
  clear h hz
  cases dn with
  | true =>
    go_enter Tryd.func42, Tryd.ntmps42
    go_wp2
    go_ret
    exact ⟨rfl, H.out, Chg.refl _ _, rfl⟩
  | false =>
    cases fd with
    | false =>
      go_enter Tryd.func42, Tryd.ntmps42
      go_wp2
      go_ret
      exact ⟨rfl, H.out, Chg.refl _ _, rfl⟩
    | true =>
      by_cases hf : fz = 0
      · subst hf
        go_enter Tryd.func42, Tryd.ntmps42
        go_wp2
        go_ret
        exact ⟨rfl, H.out.set3 true, (Chg.refl _ _).setCell rfl, by simp [World.setCell]⟩
      · have hn : ¬ ((fz == 0) = true) := by simpa using hf
        go_enter Tryd.func42, Tryd.ntmps42
        go_wp2
        go_ret
        have e1 : opA false true fz = true := by simp [opA, hf]
        have e2 : opD false true fz = false := by simp [opD, hf]
        have e3 : opF false true fz = fz - 1 := by simp [opF, hf]
        rw [e1, e2, e3]
        have hw : wrap64 (fz - 1) = fz - 1 := by have := HZ.out trivial; unfold wrap64; omega
        rw [hw]
        exact ⟨rfl, H.out.set5 (fz - 1), (Chg.refl _ _).setCell rfl, by simp [World.setCell]⟩
end Go.Proofs.YthfpakjfdncphaaDoor
