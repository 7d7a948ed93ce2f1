/- SHA-256 of lists of bytes. -/
import Derived.Test.YtddgdaggdgeclaaDoorWirA
import Derived.Test.YtddgdaggdgeclaaDoorShaP
namespace Go.Proofs.YtddgdaggdgeclaaDoor
open Go Go.RowKit
set_option linter.unusedSimpArgs false
set_option linter.unusedVariables false

set_option maxRecDepth 100000
/-- What SHA-256 answers of a list of bytes, as 32 integers. -/
def hm (xs : List Int) : Nat → BitVec 8 := fun i => BitVec.ofInt 8 (gi xs i)
def row32 (S : Sh.St) : List Int := (List.range 32).map fun i => Sh.ub (Sh.sbyte S i)
def hs (xs : List Int) : List Int := row32 (Sh.sumSt Sh.K256 Sh.H256 (hm xs) xs.length)
theorem row32_length (S : Sh.St) : (row32 S).length = 32 := by simp [row32]
theorem hs_length (xs : List Int) : (hs xs).length = 32 := row32_length _
theorem srow_bv (S : Sh.St) : Sh.srow S = (bv (row32 S)).toArray := by
  unfold Sh.srow bv row32
  rw [List.map_map]; rfl
theorem row32_byt (S : Sh.St) : Byt (row32 S) := by
  intro z hz
  obtain ⟨i, _, rfl⟩ := List.mem_map.1 hz
  have := (Sh.sbyte S i).isLt
  unfold Sh.ub; omega
theorem hs_byt (xs : List Int) : Byt (hs xs) := row32_byt _
/-- The block of a slice that has room for something. -/
def slB : Value → Option Nat
  | .slice (some a) _ c => if c = 0 then none else some a.block
  | _ => none
theorem slB_own {v : Value} {b : Nat} (h : slB v = some b) : v.ownBlock = some b := by
  unfold slB at h
  split at h
  · split at h
    · cases h
    · exact h
  · cases h
/-- A slice whose block is there, also where it holds nothing (if it has room). -/
structure Sq (w : World) (v : Value) (xs : List Int) : Prop where
  sl : Sl w v xs
  some' : ∀ A l c, v = .slice (some A) l c → c ≠ 0 → A.spot = none ∧ A.block < w.heap.size
  none' : ∀ l c, v = .slice none l c → c = 0
theorem Sq.below {w w' : World} {v : Value} {xs : List Int} (h : Sq w v xs) (hb : Below w.heap.size w w') : Sq w' v xs :=
  ⟨h.sl.below hb (Nat.le_refl _), fun A l c e h0 => ⟨(h.some' A l c e h0).1, Nat.lt_of_lt_of_le (h.some' A l c e h0).2 hb.size⟩, h.none'⟩
theorem Ow.sq {B0 : Nat} {w : World} {v : Value} {xs : List Int} (h : Ow B0 w v xs) : Sq w v xs := by
  refine ⟨h.sl, fun A l c e _ => ?_, fun l c e => ?_⟩
  · rcases h.2 with ⟨rfl, h0⟩ | ⟨g, cap, cur, hv, hb, hg, hc, _, hs, ht⟩
    · cases e
    · rw [hv] at e; cases e; exact ⟨rfl, (Array.getElem?_eq_some_iff.1 hg).1⟩
  · rcases h.2 with ⟨rfl, h0⟩ | ⟨g, cap, cur, hv, hb, hg, hc, _, hs, ht⟩
    · cases e; rfl
    · rw [hv] at e; cases e
theorem byte_of (z : Int) (h0 : 0 ≤ z) (h1 : z ≤ 255) : Value.int .u8 z = Sh.B (BitVec.ofInt 8 z) := by
  show Value.int .u8 z = Value.int .u8 (Sh.ub (BitVec.ofInt 8 z))
  congr 1
  rw [Sh.ub, BitVec.toNat_ofInt]
  omega
theorem Sq.bytes {w : World} {v : Value} {xs : List Int} (h : Sq w v xs) (hb : Byt xs) : Sh.Bytes w v xs.length (hm xs) w.heap.size := by
  obtain ⟨ad, cap, rfl, hc, hcell⟩ := h.sl
  cases ad with
  | none =>
    obtain rfl := h.none' _ _ rfl
    have : xs.length = 0 := by omega
    rw [this]
    exact .inl ⟨⟨none, rfl⟩, rfl⟩
  | some A =>
    by_cases hc0 : cap = 0
    · subst hc0
      have : xs.length = 0 := by omega
      rw [this]
      exact .inl ⟨⟨some A, rfl⟩, rfl⟩
    obtain ⟨h1, h2⟩ := h.some' A _ _ rfl hc0
    obtain ⟨b, o, sp⟩ := A
    simp only at h1 h2; subst h1
    refine .inr ⟨b, o, cap, rfl, hc, h2, Nat.ne_of_lt h2, fun i hi => ?_⟩
    rcases hcell with ⟨rfl, _⟩ | ⟨b', o', he, _, hm'⟩
    · simp at hi
    · cases he
      rw [hm' i hi]
      have := hb.get hi
      exact congrArg some (byte_of _ this.1 this.2)
/-- The program's tables, in memory. -/
abbrev Tb (w : World) : Prop := Sh.Tabs w Sh.K256 Sh.H256
theorem Tb.low {w w' : World} {B : Nat} (h : Tb w) (hb : Below B w w') (hB : 1 < B ∧ 2 < B) : Tb w' := Sh.Tabs.below h hb hB.1 hB.2
theorem Tb.below {w w' : World} (h : Tb w) (hb : Below w.heap.size w w') : Tb w' := Sh.Tabs.below h hb h.lt.1 h.lt.2
theorem sum256_sl (xs h : List Int) (v : Value) (hh : hs xs = h) (hl : xs.length ≤ 140737488355328) (w : World) (hT : Tb w) (hb : Byt xs) (hv : Sq w v xs) :
    Calls Tryd.prog 21 #[v] w fun e w' => e = .returned (.agg (bv h).toArray) ∧ Below w.heap.size w w' := by
  subst hh
  refine (Sh.sum256_any Sh.K256 Sh.H256 (hm xs) xs.length v (by omega) w hT (hv.bytes hb)).mono fun e w' ⟨h1, h2⟩ => ⟨?_, h2⟩
  rw [h1, srow_bv]; rfl
end Go.Proofs.YtddgdaggdgeclaaDoor
