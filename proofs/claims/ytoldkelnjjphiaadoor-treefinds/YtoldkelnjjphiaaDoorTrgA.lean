/- A region in whatever order: values that are known, values of which something is known, new blocks and stores into them. -/
import Derived.Test.YtoldkelnjjphiaaDoorTrrH
namespace Go.Proofs.YtoldkelnjjphiaaDoor
open Go Go.RowKit
set_option linter.unusedSimpArgs false
set_option linter.unusedVariables false
set_option maxRecDepth 100000

/-- The places of a new block and of the store into it, what is stored, what was there. -/
abbrev Al := Nat × Nat × List Value × List Value
structure GI (U : World) (f : Nat → Option Value) (φ : Nat → Value → World → Prop) (L : List Al) (d : Nat → Bool) (V : Nat → Value) (W : World) : Prop where
  be : Below U.heap.size U W
  kn : ∀ i v, f i = some v → d i = true → V i = v
  pr : ∀ i, d i = true → (∀ x ∈ L, d x.2.1 = false) → φ i (V i) W
  pt : ∀ x ∈ L, d x.1 = true → ∃ b, V x.1 = .pointer (some ⟨b, 0, none⟩) ∧ U.heap.size ≤ b ∧ b < W.heap.size ∧ W.there b 0 x.2.2.2.length ∧ W.rangeAt b 0 (if d x.2.1 = true then x.2.2.1 else x.2.2.2)
  ne : ∀ x ∈ L, ∀ y ∈ L, x.1 ≠ y.1 → d x.1 = true → d y.1 = true → V x.1 ≠ V y.1
theorem setd_ne {d : Nat → Bool} {i j : Nat} (h : j ≠ i) : RG.setd d i j = d j := by unfold RG.setd; rw [if_neg h]
theorem updV_ne {V : Nat → Value} {i j : Nat} {v : Value} (h : j ≠ i) : RG.updV V i v j = V j := by unfold RG.updV; rw [if_neg h]
theorem setd_self {d : Nat → Bool} {i : Nat} : RG.setd d i i = true := by unfold RG.setd; rw [if_pos rfl]
theorem updV_self {V : Nat → Value} {i : Nat} {v : Value} : RG.updV V i v i = v := by unfold RG.updV; rw [if_pos rfl]
theorem GI.start {U : World} {f : Nat → Option Value} {φ : Nat → Value → World → Prop} {L : List Al} {V : Nat → Value} : GI U f φ L (fun _ => false) V U.drew :=
  ⟨(Below.refl _ _).drew, (fun _ _ _ h => by cases h), (fun _ h => by cases h), (fun _ _ h => by cases h), (fun _ _ _ _ _ h => by cases h)⟩
/-- An operation under which memory only grows. -/
theorem GI.step {U : World} {f : Nat → Option Value} {φ : Nat → Value → World → Prop} {L : List Al} {d : Nat → Bool} {V : Nat → Value} {W W' : World} (h : GI U f φ L d V W) (mono : ∀ i v W W', φ i v W → Below W.heap.size W W' → φ i v W') (hb : Below W.heap.size W W') (i : Nat) (v : Value)
    (hns : ∀ x ∈ L, x.1 ≠ i ∧ x.2.1 ≠ i) (hk : ∀ u, f i = some u → v = u) (hφ : φ i v W') : GI U f φ L (RG.setd d i) (RG.updV V i v) W' := by
  refine ⟨h.be.trans (hb.mono h.be.size), fun j u hj hd => ?_, fun j hd hno => ?_, fun x hx hd => ?_, fun x hx y hy hxy h1 h2 => ?_⟩
  · by_cases q : j = i
    · subst q; rw [updV_self]; exact hk u hj
    · rw [setd_ne q] at hd; rw [updV_ne q]; exact h.kn j u hj hd
  · by_cases q : j = i
    · subst q; rw [updV_self]; exact hφ
    · rw [setd_ne q] at hd; rw [updV_ne q]
      exact mono _ _ _ _ (h.pr j hd (fun x hx => by have := hno x hx; rwa [setd_ne (hns x hx).2] at this)) hb
  · obtain ⟨n1, n2⟩ := hns x hx
    rw [setd_ne n1] at hd
    rw [updV_ne n1, setd_ne n2]
    obtain ⟨b, q1, q2, q3, q4, q5⟩ := h.pt x hx hd
    exact ⟨b, q1, q2, Nat.lt_of_lt_of_le q3 hb.size, there_keep q4 (hb.block b q3), range_keep q5 (hb.block b q3)⟩
  · rw [setd_ne (hns x hx).1] at h1
    rw [setd_ne (hns y hy).1] at h2
    rw [updV_ne (hns x hx).1, updV_ne (hns y hy).1]
    exact h.ne x hx y hy hxy h1 h2
/-- A new block. -/
theorem GI.alloc {U : World} {f : Nat → Option Value} {φ : Nat → Value → World → Prop} {L : List Al} {d : Nat → Bool} {V : Nat → Value} {W : World} (h : GI U f φ L d V W) (mono : ∀ i v W W', φ i v W → Below W.heap.size W W' → φ i v W') (x : Al) (hx : x ∈ L) (t : TypeId) (hst : d x.2.1 = false)
    (huq : ∀ y ∈ L, y.1 = x.1 → y = x) (hns : ∀ y ∈ L, y.2.1 ≠ x.1) (hfn : f x.1 = none) (hφ : ∀ v W', φ x.1 v W') :
    GI U f φ L (RG.setd d x.1) (RG.updV V x.1 (.pointer (some ⟨W.heap.size, 0, none⟩))) (W.alloc (.cells x.2.2.2.toArray t)) := by
  have hb : Below W.heap.size W (W.alloc (.cells x.2.2.2.toArray t)) := (Below.refl _ W).alloc (Nat.le_refl _) _
  have hh : (W.alloc (.cells x.2.2.2.toArray t)).heap[W.heap.size]? = some (.cells x.2.2.2.toArray t (0, 0)) := by show (W.heap.push _)[W.heap.size]? = _; simp
  have old : ∀ y ∈ L, y.1 ≠ x.1 → d y.1 = true → ∃ b, V y.1 = .pointer (some ⟨b, 0, none⟩) ∧ b < W.heap.size := fun y hy _ hd => by
    obtain ⟨b, q1, -, q3, -, -⟩ := h.pt y hy hd; exact ⟨b, q1, q3⟩
  refine ⟨h.be.trans (hb.mono h.be.size), fun j u hj hd => ?_, fun j hd hno => ?_, fun y hy hd => ?_, fun y hy z hz hyz h1 h2 => ?_⟩
  · by_cases q : j = x.1
    · subst q; rw [hfn] at hj; cases hj
    · rw [setd_ne q] at hd; rw [updV_ne q]; exact h.kn j u hj hd
  · by_cases q : j = x.1
    · subst q; exact hφ _ _
    · rw [setd_ne q] at hd; rw [updV_ne q]
      exact mono _ _ _ _ (h.pr j hd (fun y hy => by have := hno y hy; rwa [setd_ne (hns y hy)] at this)) hb
  · by_cases q : y.1 = x.1
    · obtain rfl := huq y hy q
      rw [updV_self, setd_ne (hns y hy), hst, if_neg (by decide)]
      exact ⟨W.heap.size, rfl, h.be.size, by simp, there_of_row' hh 0 _ (by simp), range_alloc W _ t (0, 0)⟩
    · rw [setd_ne q] at hd
      rw [updV_ne q, setd_ne (hns y hy)]
      obtain ⟨b, q1, q2, q3, q4, q5⟩ := h.pt y hy hd
      exact ⟨b, q1, q2, Nat.lt_of_lt_of_le q3 hb.size, there_keep q4 (hb.block b q3), range_keep q5 (hb.block b q3)⟩
  · by_cases q : y.1 = x.1
    · have q' : z.1 ≠ x.1 := fun e => hyz (q.trans e.symm)
      rw [setd_ne q'] at h2
      obtain ⟨b, e, hl⟩ := old z hz q' h2
      rw [q, updV_self, updV_ne q', e]
      intro he
      simp only [Value.pointer.injEq, Option.some.injEq, Addr.mk.injEq, and_true] at he
      omega
    · rw [setd_ne q] at h1
      by_cases q' : z.1 = x.1
      · obtain ⟨b, e, hl⟩ := old y hy q h1
        rw [q', updV_self, updV_ne q, e]
        intro he
        simp only [Value.pointer.injEq, Option.some.injEq, Addr.mk.injEq, and_true] at he
        omega
      · rw [setd_ne q'] at h2
        rw [updV_ne q, updV_ne q']
        exact h.ne y hy z hz hyz h1 h2
/-- A store into a new block. -/
theorem GI.store {U : World} {f : Nat → Option Value} {φ : Nat → Value → World → Prop} {L : List Al} {d : Nat → Bool} {V : Nat → Value} {W : World} (h : GI U f φ L d V W) (x : Al) (hx : x ∈ L) (hd0 : d x.1 = true) {b : Nat} (hV : V x.1 = .pointer (some ⟨b, 0, none⟩)) (v : Value)
    (huq : ∀ y ∈ L, y.2.1 = x.2.1 → y = x) (hns : ∀ y ∈ L, y.1 ≠ x.2.1) (hfn : f x.2.1 = none) (hlen : x.2.2.1.length = x.2.2.2.length) (hone : ∀ y ∈ L, y ≠ x → y.1 ≠ x.1) :
    GI U f φ L (RG.setd d x.2.1) (RG.updV V x.2.1 v) (W.setCells b 0 x.2.2.1) := by
  obtain ⟨b', e, p1, p2, p3, p4⟩ := h.pt x hx hd0
  rw [hV] at e
  obtain rfl : b = b' := by simpa using e
  refine ⟨below_setCells p1 _ _ h.be, fun j u hj hd => ?_, fun j hd hno => ?_, fun y hy hd => ?_, fun y hy z hz hyz h1 h2 => ?_⟩
  · by_cases q : j = x.2.1
    · subst q; rw [hfn] at hj; cases hj
    · rw [setd_ne q] at hd; rw [updV_ne q]; exact h.kn j u hj hd
  · have := hno x hx; rw [setd_self] at this; cases this
  · rw [setd_ne (hns y hy)] at hd
    rw [updV_ne (hns y hy)]
    by_cases q : y = x
    · subst q
      rw [setd_self, if_pos rfl]
      refine ⟨b, hV, p1, by rw [size_setC]; exact p2, ?_, ?_⟩
      · exact World.there_setCells p3 _ _ _
      · exact World.rangeAt_setCells_same _ _ _ _ (by rw [hlen]; exact p3)
    · have q2 : y.2.1 ≠ x.2.1 := fun e => q (huq y hy e)
      rw [setd_ne q2]
      obtain ⟨b2, r1, r2, r3, r4, r5⟩ := h.pt y hy hd
      have hne : b2 ≠ b := fun e => h.ne y hy x hx (hone y hy q) hd hd0 (by rw [r1, hV, e])
      exact ⟨b2, r1, r2, by rw [size_setC]; exact r3, World.there_setCells r4 _ _ _, World.rangeAt_setCells_apart r5 _ _ _ (.inl hne)⟩
  · rw [setd_ne (hns y hy)] at h1
    rw [setd_ne (hns z hz)] at h2
    rw [updV_ne (hns y hy), updV_ne (hns z hz)]
    exact h.ne y hy z hz hyz h1 h2
end Go.Proofs.YtoldkelnjjphiaaDoor
