/- Package point: multiples. -/
import Derived.Test.YtaebjponihocaabDoorPoiB
namespace Go.Proofs.YtaebjponihocaabDoor
open Go Go.RowKit
set_option linter.unusedSimpArgs false
set_option linter.unusedVariables false
def SU (p q : P4) : P4 := sumN (p4 (pv p)) (p4 (pv q))
def muS (a : P4) : Nat → P4
  | 0 => neuN
  | n + 1 => SU (muS a n) a
/-- a taken i times, by sums. -/
def muN (a : P4) : Nat → P4
  | 0 => neuN
  | n + 1 => sumN (muN a n) a
theorem muN_ok (a : P4) : ∀ n, (muN a n).ok
  | 0 => neuN_ok
  | n + 1 => sumN_ok _ _
theorem muS_eq {a : P4} (h : a.ok) : ∀ n, muS a n = muN a n
  | 0 => rfl
  | n + 1 => by
    show sumN (p4 (pv (muS a n))) (p4 (pv a)) = sumN (muN a n) a
    rw [muS_eq h n, p4_pv (muN_ok a n), p4_pv h]
def muT (a : P4) (i : Nat) : Prop := IsP (pv (muS a i)) ∧ IsP (pv a)
def fstR (o : Option (List Prop × Value)) : Option (List Prop) := o.map (·.1)
def sndR (o : Option (List Prop × Value)) : Value := (o.map (·.2)).getD undef
theorem of_fst {o : Option (List Prop × Value)} {ps : List Prop} (h : fstR o = some ps) : o = some (ps, sndR o) := by
  cases o with
  | none => cases h
  | some q => simp only [fstR, Option.map_some, Option.some.injEq] at h; subst h; rfl
def mulV (P : Program) (fn : Func) (a : P4) : Value := sndR (sfunG P F3 M0 100 fn (bodyOf fn) [pv a])
def cellsOf : Value → List Value
  | .agg cs => cs.toList
  | _ => []
def isAggB : Value → Bool
  | .agg _ => true
  | _ => false
theorem agg_cells {v : Value} (h : isAggB v = true) : v = .agg (cellsOf v).toArray := by
  cases v <;> simp [isAggB] at h
  rename_i cs
  simp [cellsOf]
def sl (l : List Value) (i : Nat) : List Value := (l.drop (128 * i)).take 128
def muL (g : Nat → P4) : List Value := (List.range 16).flatMap fun i => pcs (g i)
/-- A row is its slices. -/
theorem of_slices (f : Nat → List Value) : ∀ (n : Nat) (l : List Value), l.length = 128 * n → (∀ i, i < n → sl l i = f i) → l = (List.range n).flatMap f
  | 0, l, hl, _ => by
    have : l = [] := List.eq_nil_of_length_eq_zero (by omega)
    rw [this]; rfl
  | n + 1, l, hl, h => by
    have ih := of_slices f n (l.take (128 * n)) (by rw [List.length_take]; omega) (fun i hi => by
      rw [← h i (by omega)]
      unfold sl
      rw [List.drop_take, List.take_take]
      congr 1
      omega)
    have hn := h n (by omega)
    unfold sl at hn
    rw [List.take_of_length_le (by rw [List.length_drop]; omega)] at hn
    rw [List.range_succ, List.flatMap_append, ← ih, List.flatMap_cons, List.flatMap_nil, List.append_nil, ← hn, List.take_append_drop]
theorem mul_run1 (a : P4) : fstR (sfunG Tryd.prog F3 M0 100 Tryd.f47 (bodyOf Tryd.f47) [pv a]) = some [muT a 0, muT a 1, muT a 2, muT a 3, muT a 4, muT a 5, muT a 6, muT a 7, muT a 8, muT a 9, muT a 10, muT a 11, muT a 12, muT a 13, muT a 14] := by kernel_rfl
theorem mul_agg (a : P4) : isAggB (mulV Tryd.prog Tryd.f47 a) = true := by kernel_rfl
theorem mul_len (a : P4) : (cellsOf (mulV Tryd.prog Tryd.f47 a)).length = 2048 := by kernel_rfl
theorem mul_sl (a : P4) : (List.range 16).map (sl (cellsOf (mulV Tryd.prog Tryd.f47 a))) = (List.range 16).map fun i => pcs (muS a i) := by kernel_rfl
theorem mul_val {a : P4} (h : a.ok) : mulV Tryd.prog Tryd.f47 a = .agg (muL (muN a)).toArray := by
  have e := of_slices (fun i => pcs (muS a i)) 16 _ (mul_len a) (fun i hi => List.map_inj_left.1 (mul_sl a) i (List.mem_range.2 hi))
  rw [agg_cells (mul_agg a), e]
  unfold muL
  rw [show muS a = muN a from funext (muS_eq h)]
theorem flat_muL (g : Nat → P4) : flat (.agg (muL g).toArray) = true := by
  show ((muL g).toArray.toList.all flat1) = true
  rw [List.toList_toArray]
  unfold muL
  rw [List.all_flatMap]
  refine List.all_eq_true.2 fun i _ => ?_
  unfold pcs
  simp only [List.all_append, flat_bl, Bool.and_self]
def gMus : List Value → Option (List Prop × Value)
  | [A] => some ([IsP A], .agg (muL (muN (p4 A))).toArray)
  | _ => none
theorem gMus_ok {X : Cx} (hX : X.Ok Tryd.prog) (hc : coversG M0 X.gl = true) : (X.var M0 47 gMus).Ok Tryd.prog := by
  refine gVar_ok hX M0_flat hc Tryd.func47 (by kernel_rfl) (by kernel_rfl) ?_
  intro args ps v ha hg hp
  unfold gMus at hg
  split at hg
  · rename_i A
    simp only [Option.some.injEq, Prod.mk.injEq] at hg
    obtain ⟨rfl, rfl⟩ := hg
    obtain ⟨hA, lA⟩ := hp _ (List.mem_singleton.2 rfl)
    refine ⟨.inl (flat_muL _), fun w hw => ?_⟩
    have run := of_fst (mul_run1 (p4 A))
    have e := mul_val lA
    unfold mulV at e
    rw [e] at run
    have ht : ∀ i, muT (p4 A) i := fun i => by
      unfold muT
      rw [muS_eq lA]
      exact ⟨isP_pv (muN_ok _ _), isP_pv lA⟩
    have h := sfunG_calls F3_ok mixed M0_flat (by kernel_rfl) Tryd.func47 (by kernel_rfl) run (by
      intro p hp
      simp only [List.mem_cons, List.not_mem_nil, or_false] at hp
      rcases hp with rfl | rfl | rfl | rfl | rfl | rfl | rfl | rfl | rfl | rfl | rfl | rfl | rfl | rfl | rfl <;> exact ht _) (by simp [flat_pv]) (.inl (flat_muL _)) w hw
    rw [← hA] at h
    exact h
  · simp at hg
def F4 : Cx := F3.var M0 47 gMus
theorem F4_ok : F4.Ok Tryd.prog := gMus_ok F3_ok (by kernel_rfl)
end Go.Proofs.YtaebjponihocaabDoor
