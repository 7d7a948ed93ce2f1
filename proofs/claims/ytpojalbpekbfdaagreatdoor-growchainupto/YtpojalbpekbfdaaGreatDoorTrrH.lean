/- The reference: Apart. -/
import Derived.Test.YtpojalbpekbfdaaGreatDoorTrrC
import Derived.Test.YtpojalbpekbfdaaGreatDoorTreV
import Derived.Test.YtpojalbpekbfdaaGreatDoorTrrG
namespace Go.Proofs.YtpojalbpekbfdaaGreatDoor
open Go Go.RowKit
set_option linter.unusedSimpArgs false
set_option linter.unusedVariables false
set_option maxRecDepth 100000

theorem there_keep {W W' : World} {b o n : Nat} (h : W.there b o n) (e : W'.heap[b]? = W.heap[b]?) : W'.there b o n := fun j hj => by
  obtain ⟨h1, h2⟩ := h j hj
  unfold World.cell? at h1 ⊢
  unfold World.frozen? at h2 ⊢
  rw [e]; exact ⟨h1, h2⟩
theorem range_keep {W W' : World} {b o : Nat} {cs : List Value} (h : W.rangeAt b o cs) (e : W'.heap[b]? = W.heap[b]?) : W'.rangeAt b o cs := fun j v hj => by
  have := h j v hj
  unfold World.cell? at this ⊢
  rw [e]; exact this
/-- Two nodes laid in two new blocks, in whatever order. -/
structure TwI (U : World) (f : Nat → Value) (y x z : List Value) (n : Nat) (i9 i10 i11 i12 : Nat) (d : Nat → Bool) (V : Nat → Value) (W : World) : Prop where
  si : ∀ i, i < i9 → d i = true → V i = f i
  be : Below U.heap.size U W
  p9 : d i9 = true → ∃ b, V i9 = .pointer (some ⟨b, 0, none⟩) ∧ U.heap.size ≤ b ∧ b < W.heap.size ∧ W.there b 0 n ∧ W.rangeAt b 0 (if d i11 = true then y else z)
  p10 : d i10 = true → ∃ b, V i10 = .pointer (some ⟨b, 0, none⟩) ∧ U.heap.size ≤ b ∧ b < W.heap.size ∧ W.there b 0 n ∧ W.rangeAt b 0 (if d i12 = true then x else z)
  ne : d i9 = true → d i10 = true → V i9 ≠ V i10
theorem TwI.silent {U : World} {f : Nat → Value} {y x z : List Value} {n i9 : Nat} {d : Nat → Bool} {V : Nat → Value} {W : World} (h : TwI U f y x z n i9 (i9 + 1) (i9 + 2) (i9 + 3) d V W) {i : Nat} (hi : i < i9) : TwI U f y x z n i9 (i9 + 1) (i9 + 2) (i9 + 3) (RG.setd d i) (RG.updV V i (f i)) W := by
  have e : ∀ j, i9 ≤ j → RG.setd d i j = d j ∧ RG.updV V i (f i) j = V j := fun j hj => by
    unfold RG.setd RG.updV
    rw [if_neg (by omega), if_neg (by omega)]; exact ⟨rfl, rfl⟩
  refine ⟨fun j hj hd => ?_, h.be, ?_, ?_, ?_⟩
  · unfold RG.setd at hd
    unfold RG.updV
    by_cases q : j = i
    · rw [if_pos q, q]
    · rw [if_neg q] at hd ⊢; exact h.si j hj hd
  · rw [(e i9 (Nat.le_refl _)).1, (e i9 (Nat.le_refl _)).2, (e (i9 + 2) (by omega)).1]; exact h.p9
  · rw [(e (i9 + 1) (by omega)).1, (e (i9 + 1) (by omega)).2, (e (i9 + 3) (by omega)).1]; exact h.p10
  · rw [(e i9 (Nat.le_refl _)).1, (e i9 (Nat.le_refl _)).2, (e (i9 + 1) (by omega)).1, (e (i9 + 1) (by omega)).2]; exact h.ne
theorem TwI.alloc1 {U : World} {f : Nat → Value} {y x z : List Value} {n i9 : Nat} {d : Nat → Bool} {V : Nat → Value} {W : World} (h : TwI U f y x z n i9 (i9 + 1) (i9 + 2) (i9 + 3) d V W) (t : TypeId) (hz : z.length = n) (h11 : d (i9 + 2) = false) :
    TwI U f y x z n i9 (i9 + 1) (i9 + 2) (i9 + 3) (RG.setd d i9) (RG.updV V i9 (.pointer (some ⟨W.heap.size, 0, none⟩))) (W.alloc (.cells z.toArray t)) := by
  have e : ∀ j, j ≠ i9 → RG.setd d i9 j = d j ∧ RG.updV V i9 (.pointer (some ⟨W.heap.size, 0, none⟩)) j = V j := fun j hj => by
    unfold RG.setd RG.updV
    rw [if_neg hj, if_neg hj]; exact ⟨rfl, rfl⟩
  have hb : Below W.heap.size W (W.alloc (.cells z.toArray t)) := (Below.refl _ W).alloc (Nat.le_refl _) _
  have hh : (W.alloc (.cells z.toArray t)).heap[W.heap.size]? = some (.cells z.toArray t (0, 0)) := by show (W.heap.push _)[W.heap.size]? = _; simp
  have v9 : RG.updV V i9 (.pointer (some ⟨W.heap.size, 0, none⟩)) i9 = .pointer (some ⟨W.heap.size, 0, none⟩) := by unfold RG.updV; rw [if_pos rfl]
  refine ⟨fun j hj hd => ?_, h.be.alloc h.be.size _, fun _ => ?_, fun hd => ?_, fun _ hd => ?_⟩
  · rw [(e j (by omega)).1] at hd; rw [(e j (by omega)).2]; exact h.si j hj hd
  · refine ⟨W.heap.size, v9, h.be.size, by simp, there_of_row' hh 0 n (by simp [hz]), ?_⟩
    rw [(e (i9 + 2) (by omega)).1, h11, if_neg (by decide)]
    exact range_alloc W z t (0, 0)
  · rw [(e (i9 + 1) (by omega)).1] at hd
    obtain ⟨b, q1, q2, q3, q4, q5⟩ := h.p10 hd
    rw [(e (i9 + 1) (by omega)).2, (e (i9 + 3) (by omega)).1]
    exact ⟨b, q1, q2, Nat.lt_of_lt_of_le q3 hb.size, there_keep q4 (hb.block b q3), range_keep q5 (hb.block b q3)⟩
  · rw [(e (i9 + 1) (by omega)).1] at hd
    obtain ⟨b, q1, q2, q3, q4, q5⟩ := h.p10 hd
    rw [v9, (e (i9 + 1) (by omega)).2, q1]
    intro he
    simp only [Value.pointer.injEq, Option.some.injEq, Addr.mk.injEq, and_true] at he
    omega
theorem TwI.alloc2 {U : World} {f : Nat → Value} {y x z : List Value} {n i9 : Nat} {d : Nat → Bool} {V : Nat → Value} {W : World} (h : TwI U f y x z n i9 (i9 + 1) (i9 + 2) (i9 + 3) d V W) (t : TypeId) (hz : z.length = n) (h12 : d (i9 + 3) = false) :
    TwI U f y x z n i9 (i9 + 1) (i9 + 2) (i9 + 3) (RG.setd d (i9 + 1)) (RG.updV V (i9 + 1) (.pointer (some ⟨W.heap.size, 0, none⟩))) (W.alloc (.cells z.toArray t)) := by
  have e : ∀ j, j ≠ i9 + 1 → RG.setd d (i9 + 1) j = d j ∧ RG.updV V (i9 + 1) (.pointer (some ⟨W.heap.size, 0, none⟩)) j = V j := fun j hj => by
    unfold RG.setd RG.updV
    rw [if_neg hj, if_neg hj]; exact ⟨rfl, rfl⟩
  have hb : Below W.heap.size W (W.alloc (.cells z.toArray t)) := (Below.refl _ W).alloc (Nat.le_refl _) _
  have hh : (W.alloc (.cells z.toArray t)).heap[W.heap.size]? = some (.cells z.toArray t (0, 0)) := by show (W.heap.push _)[W.heap.size]? = _; simp
  have v9 : RG.updV V (i9 + 1) (.pointer (some ⟨W.heap.size, 0, none⟩)) (i9 + 1) = .pointer (some ⟨W.heap.size, 0, none⟩) := by unfold RG.updV; rw [if_pos rfl]
  refine ⟨fun j hj hd => ?_, h.be.alloc h.be.size _, fun hd => ?_, fun _ => ?_, fun hd _ => ?_⟩
  · rw [(e j (by omega)).1] at hd; rw [(e j (by omega)).2]; exact h.si j hj hd
  · rw [(e i9 (by omega)).1] at hd
    obtain ⟨b, q1, q2, q3, q4, q5⟩ := h.p9 hd
    rw [(e i9 (by omega)).2, (e (i9 + 2) (by omega)).1]
    exact ⟨b, q1, q2, Nat.lt_of_lt_of_le q3 hb.size, there_keep q4 (hb.block b q3), range_keep q5 (hb.block b q3)⟩
  · refine ⟨W.heap.size, v9, h.be.size, by simp, there_of_row' hh 0 n (by simp [hz]), ?_⟩
    rw [(e (i9 + 3) (by omega)).1, h12, if_neg (by decide)]
    exact range_alloc W z t (0, 0)
  · rw [(e i9 (by omega)).1] at hd
    obtain ⟨b, q1, q2, q3, q4, q5⟩ := h.p9 hd
    rw [v9, (e i9 (by omega)).2, q1]
    intro he
    simp only [Value.pointer.injEq, Option.some.injEq, Addr.mk.injEq, and_true] at he
    omega
theorem size_setC (b : Nat) : ∀ (vs : List Value) (o : Nat) (w : World), (w.setCells b o vs).heap.size = w.heap.size
  | [], _, _ => rfl
  | v :: r, o, w => by
    rw [World.setCells, size_setC b r (o + 1)]
    simp [World.setCell]
theorem TwI.store1 {U : World} {f : Nat → Value} {y x z : List Value} {n i9 : Nat} {d : Nat → Bool} {V : Nat → Value} {W : World} (h : TwI U f y x z n i9 (i9 + 1) (i9 + 2) (i9 + 3) d V W) (hy : y.length = n) (h9 : d i9 = true) (h10 : d (i9 + 1) = true) {b : Nat} (hb : V i9 = .pointer (some ⟨b, 0, none⟩)) (v : Value) :
    TwI U f y x z n i9 (i9 + 1) (i9 + 2) (i9 + 3) (RG.setd d (i9 + 2)) (RG.updV V (i9 + 2) v) (W.setCells b 0 y) := by
  have e : ∀ j, j ≠ i9 + 2 → RG.setd d (i9 + 2) j = d j ∧ RG.updV V (i9 + 2) v j = V j := fun j hj => by
    unfold RG.setd RG.updV
    rw [if_neg hj, if_neg hj]; exact ⟨rfl, rfl⟩
  have s11 : RG.setd d (i9 + 2) (i9 + 2) = true := by unfold RG.setd; rw [if_pos rfl]
  obtain ⟨b', q1, q2, q3, q4, q5⟩ := h.p9 h9
  obtain rfl : b' = b := by rw [hb] at q1; simp at q1; exact q1.symm
  obtain ⟨c, r1, r2, r3, r4, r5⟩ := h.p10 h10
  have hne : c ≠ b' := fun e => h.ne h9 h10 (by rw [q1, r1, e])
  refine ⟨fun j hj hd => ?_, below_setCells q2 _ _ h.be, fun _ => ?_, fun _ => ?_, fun a1 a2 => ?_⟩
  · rw [(e j (by omega)).1] at hd; rw [(e j (by omega)).2]; exact h.si j hj hd
  · rw [(e i9 (by omega)).2, s11, if_pos rfl]
    exact ⟨b', q1, q2, by rw [size_setC]; exact q3, World.there_setCells q4 _ _ _, World.rangeAt_setCells_same _ _ _ _ (by rw [hy]; exact q4)⟩
  · rw [(e (i9 + 1) (by omega)).2, (e (i9 + 3) (by omega)).1]
    exact ⟨c, r1, r2, by rw [size_setC]; exact r3, World.there_setCells r4 _ _ _, World.rangeAt_setCells_apart r5 _ _ _ (.inl hne)⟩
  · rw [(e i9 (by omega)).2, (e (i9 + 1) (by omega)).2]; exact h.ne h9 h10
theorem TwI.store2 {U : World} {f : Nat → Value} {y x z : List Value} {n i9 : Nat} {d : Nat → Bool} {V : Nat → Value} {W : World} (h : TwI U f y x z n i9 (i9 + 1) (i9 + 2) (i9 + 3) d V W) (hy : x.length = n) (h9 : d i9 = true) (h10 : d (i9 + 1) = true) {b : Nat} (hb : V (i9 + 1) = .pointer (some ⟨b, 0, none⟩)) (v : Value) :
    TwI U f y x z n i9 (i9 + 1) (i9 + 2) (i9 + 3) (RG.setd d (i9 + 3)) (RG.updV V (i9 + 3) v) (W.setCells b 0 x) := by
  have e : ∀ j, j ≠ i9 + 3 → RG.setd d (i9 + 3) j = d j ∧ RG.updV V (i9 + 3) v j = V j := fun j hj => by
    unfold RG.setd RG.updV
    rw [if_neg hj, if_neg hj]; exact ⟨rfl, rfl⟩
  have s11 : RG.setd d (i9 + 3) (i9 + 3) = true := by unfold RG.setd; rw [if_pos rfl]
  obtain ⟨b', q1, q2, q3, q4, q5⟩ := h.p10 h10
  obtain rfl : b' = b := by rw [hb] at q1; simp at q1; exact q1.symm
  obtain ⟨c, r1, r2, r3, r4, r5⟩ := h.p9 h9
  have hne : c ≠ b' := fun e => h.ne h9 h10 (by rw [q1, r1, e])
  refine ⟨fun j hj hd => ?_, below_setCells q2 _ _ h.be, fun _ => ?_, fun _ => ?_, fun a1 a2 => ?_⟩
  · rw [(e j (by omega)).1] at hd; rw [(e j (by omega)).2]; exact h.si j hj hd
  · rw [(e i9 (by omega)).2, (e (i9 + 2) (by omega)).1]
    exact ⟨c, r1, r2, by rw [size_setC]; exact r3, World.there_setCells r4 _ _ _, World.rangeAt_setCells_apart r5 _ _ _ (.inl hne)⟩
  · rw [(e (i9 + 1) (by omega)).2, s11, if_pos rfl]
    exact ⟨b', q1, q2, by rw [size_setC]; exact q3, World.there_setCells q4 _ _ _, World.rangeAt_setCells_same _ _ _ _ (by rw [hy]; exact q4)⟩
  · rw [(e i9 (by omega)).2, (e (i9 + 1) (by omega)).2]; exact h.ne h9 h10
end Go.Proofs.YtpojalbpekbfdaaGreatDoor
