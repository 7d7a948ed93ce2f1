/- A region in whatever order: values that are known, values of which something is known, new blocks and stores into them. -/
import Derived.Test.YtpojalbpekbfdaaDoorRgnG
import Derived.Test.YtpojalbpekbfdaaDoorTrrB
import Derived.Test.YtpojalbpekbfdaaDoorTrjD
namespace Go.Proofs.YtpojalbpekbfdaaDoor
open Go Go.RowKit
set_option linter.unusedSimpArgs false
set_option linter.unusedVariables false
set_option maxRecDepth 100000

/-- The places of a new block and of the store into it, what is stored, what was there. -/
abbrev Al := Nat × Nat × List Value × List Value
structure GI (U : World) (f : Nat → Option Value) (φ : Nat → Value → World → Prop) (L : List Al) (d : Nat → Bool) (V : Nat → Value) (W : World) : Prop where
  be : Below U.heap.size U W
  kn : ∀ i v, f i = some v → d i = true → V i = v
  pr : ∀ i, d i = true → (∀ x ∈ L, d x.2.1 = false) → φ i (V i) W
  pt : ∀ x ∈ L, d x.1 = true → ∃ b, V x.1 = .pointer (some ⟨b, 0, none⟩) ∧ U.heap.size ≤ b ∧ b < W.heap.size ∧ W.there b 0 x.2.2.2.length ∧ W.rangeAt b 0 (if d x.2.1 = true then x.2.2.1 else x.2.2.2)
  ne : ∀ x ∈ L, ∀ y ∈ L, x.1 ≠ y.1 → d x.1 = true → d y.1 = true → V x.1 ≠ V y.1
theorem setd_ne {d : Nat → Bool} {i j : Nat} (h : j ≠ i) : RG.setd d i j = d j := by unfold RG.setd; rw [if_neg h]
theorem updV_ne {V : Nat → Value} {i j : Nat} {v : Value} (h : j ≠ i) : RG.updV V i v j = V j := by unfold RG.updV; rw [if_neg h]
theorem setd_self {d : Nat → Bool} {i : Nat} : RG.setd d i i = true := by unfold RG.setd; rw [if_pos rfl]
theorem updV_self {V : Nat → Value} {i : Nat} {v : Value} : RG.updV V i v i = v := by unfold RG.updV; rw [if_pos rfl]
theorem GI.start {U : World} {f : Nat → Option Value} {φ : Nat → Value → World → Prop} {L : List Al} {V : Nat → Value} : GI U f φ L (fun _ => false) V U.drew :=
  ⟨(Below.refl _ _).drew, (fun _ _ _ h => by cases h), (fun _ h => by cases h), (fun _ _ h => by cases h), (fun _ _ _ _ _ h => by cases h)⟩
/-- An operation under which memory only grows. -/
theorem GI.step {U : World} {f : Nat → Option Value} {φ : Nat → Value → World → Prop} {L : List Al} {d : Nat → Bool} {V : Nat → Value} {W W' : World} (h : GI U f φ L d V W) (mono : ∀ i v W W', φ i v W → Below W.heap.size W W' → φ i v W') (hb : Below W.heap.size W W') (i : Nat) (v : Value)
    (hns : ∀ x ∈ L, x.1 ≠ i ∧ x.2.1 ≠ i) (hk : ∀ u, f i = some u → v = u) (hφ : φ i v W') : GI U f φ L (RG.setd d i) (RG.updV V i v) W' := by
  refine ⟨h.be.trans (hb.mono h.be.size), fun j u hj hd => ?_, fun j hd hno => ?_, fun x hx hd => ?_, fun x hx y hy hxy h1 h2 => ?_⟩
  · by_cases q : j = i
    · subst q; rw [updV_self]; exact hk u hj
    · rw [setd_ne q] at hd; rw [updV_ne q]; exact h.kn j u hj hd
  · by_cases q : j = i
    · subst q; rw [updV_self]; exact hφ
    · rw [setd_ne q] at hd; rw [updV_ne q]
      exact mono _ _ _ _ (h.pr j hd (fun x hx => by have := hno x hx; rwa [setd_ne (hns x hx).2] at this)) hb
  · obtain ⟨n1, n2⟩ := hns x hx
    rw [setd_ne n1] at hd
    rw [updV_ne n1, setd_ne n2]
    obtain ⟨b, q1, q2, q3, q4, q5⟩ := h.pt x hx hd
    exact ⟨b, q1, q2, Nat.lt_of_lt_of_le q3 hb.size, there_keep q4 (hb.block b q3), range_keep q5 (hb.block b q3)⟩
  · rw [setd_ne (hns x hx).1] at h1
    rw [setd_ne (hns y hy).1] at h2
    rw [updV_ne (hns x hx).1, updV_ne (hns y hy).1]
    exact h.ne x hx y hy hxy h1 h2
/-- A new block. -/
theorem GI.alloc {U : World} {f : Nat → Option Value} {φ : Nat → Value → World → Prop} {L : List Al} {d : Nat → Bool} {V : Nat → Value} {W : World} (h : GI U f φ L d V W) (mono : ∀ i v W W', φ i v W → Below W.heap.size W W' → φ i v W') (x : Al) (hx : x ∈ L) (t : TypeId) (hst : d x.2.1 = false)
    (huq : ∀ y ∈ L, y.1 = x.1 → y = x) (hns : ∀ y ∈ L, y.2.1 ≠ x.1) (hfn : f x.1 = none) (hφ : ∀ v W', φ x.1 v W') :
    GI U f φ L (RG.setd d x.1) (RG.updV V x.1 (.pointer (some ⟨W.heap.size, 0, none⟩))) (W.alloc (.cells x.2.2.2.toArray t)) := by
  have hb : Below W.heap.size W (W.alloc (.cells x.2.2.2.toArray t)) := (Below.refl _ W).alloc (Nat.le_refl _) _
  have hh : (W.alloc (.cells x.2.2.2.toArray t)).heap[W.heap.size]? = some (.cells x.2.2.2.toArray t (0, 0)) := by show (W.heap.push _)[W.heap.size]? = _; simp
  have old : ∀ y ∈ L, y.1 ≠ x.1 → d y.1 = true → ∃ b, V y.1 = .pointer (some ⟨b, 0, none⟩) ∧ b < W.heap.size := fun y hy _ hd => by
    obtain ⟨b, q1, -, q3, -, -⟩ := h.pt y hy hd; exact ⟨b, q1, q3⟩
  refine ⟨h.be.trans (hb.mono h.be.size), fun j u hj hd => ?_, fun j hd hno => ?_, fun y hy hd => ?_, fun y hy z hz hyz h1 h2 => ?_⟩
  · by_cases q : j = x.1
    · subst q; rw [hfn] at hj; cases hj
    · rw [setd_ne q] at hd; rw [updV_ne q]; exact h.kn j u hj hd
  · by_cases q : j = x.1
    · subst q; exact hφ _ _
    · rw [setd_ne q] at hd; rw [updV_ne q]
      exact mono _ _ _ _ (h.pr j hd (fun y hy => by have := hno y hy; rwa [setd_ne (hns y hy)] at this)) hb
  · by_cases q : y.1 = x.1
    · obtain rfl := huq y hy q
      rw [updV_self, setd_ne (hns y hy), hst, if_neg (by decide)]
      exact ⟨W.heap.size, rfl, h.be.size, by simp, there_of_row' hh 0 _ (by simp), range_alloc W _ t (0, 0)⟩
    · rw [setd_ne q] at hd
      rw [updV_ne q, setd_ne (hns y hy)]
      obtain ⟨b, q1, q2, q3, q4, q5⟩ := h.pt y hy hd
      exact ⟨b, q1, q2, Nat.lt_of_lt_of_le q3 hb.size, there_keep q4 (hb.block b q3), range_keep q5 (hb.block b q3)⟩
  · by_cases q : y.1 = x.1
    · have q' : z.1 ≠ x.1 := fun e => hyz (q.trans e.symm)
      rw [setd_ne q'] at h2
      obtain ⟨b, e, hl⟩ := old z hz q' h2
      rw [q, updV_self, updV_ne q', e]
      intro he
      simp only [Value.pointer.injEq, Option.some.injEq, Addr.mk.injEq, and_true] at he
      omega
    · rw [setd_ne q] at h1
      by_cases q' : z.1 = x.1
      · obtain ⟨b, e, hl⟩ := old y hy q h1
        rw [q', updV_self, updV_ne q, e]
        intro he
        simp only [Value.pointer.injEq, Option.some.injEq, Addr.mk.injEq, and_true] at he
        omega
      · rw [setd_ne q'] at h2
        rw [updV_ne q, updV_ne q']
        exact h.ne y hy z hz hyz h1 h2
/-- A store into a new block. -/
theorem GI.store {U : World} {f : Nat → Option Value} {φ : Nat → Value → World → Prop} {L : List Al} {d : Nat → Bool} {V : Nat → Value} {W : World} (h : GI U f φ L d V W) (x : Al) (hx : x ∈ L) (hd0 : d x.1 = true) {b : Nat} (hV : V x.1 = .pointer (some ⟨b, 0, none⟩)) (v : Value)
    (huq : ∀ y ∈ L, y.2.1 = x.2.1 → y = x) (hns : ∀ y ∈ L, y.1 ≠ x.2.1) (hfn : f x.2.1 = none) (hlen : x.2.2.1.length = x.2.2.2.length) (hone : ∀ y ∈ L, y ≠ x → y.1 ≠ x.1) :
    GI U f φ L (RG.setd d x.2.1) (RG.updV V x.2.1 v) (W.setCells b 0 x.2.2.1) := by
  obtain ⟨b', e, p1, p2, p3, p4⟩ := h.pt x hx hd0
  rw [hV] at e
  obtain rfl : b = b' := by simpa using e
  refine ⟨below_setCells p1 _ _ h.be, fun j u hj hd => ?_, fun j hd hno => ?_, fun y hy hd => ?_, fun y hy z hz hyz h1 h2 => ?_⟩
  · by_cases q : j = x.2.1
    · subst q; rw [hfn] at hj; cases hj
    · rw [setd_ne q] at hd; rw [updV_ne q]; exact h.kn j u hj hd
  · have := hno x hx; rw [setd_self] at this; cases this
  · rw [setd_ne (hns y hy)] at hd
    rw [updV_ne (hns y hy)]
    by_cases q : y = x
    · subst q
      rw [setd_self, if_pos rfl]
      refine ⟨b, hV, p1, by rw [size_setC]; exact p2, ?_, ?_⟩
      · exact World.there_setCells p3 _ _ _
      · exact World.rangeAt_setCells_same _ _ _ _ (by rw [hlen]; exact p3)
    · have q2 : y.2.1 ≠ x.2.1 := fun e => q (huq y hy e)
      rw [setd_ne q2]
      obtain ⟨b2, r1, r2, r3, r4, r5⟩ := h.pt y hy hd
      have hne : b2 ≠ b := fun e => h.ne y hy x hx (hone y hy q) hd hd0 (by rw [r1, hV, e])
      exact ⟨b2, r1, r2, by rw [size_setC]; exact r3, World.there_setCells r4 _ _ _, World.rangeAt_setCells_apart r5 _ _ _ (.inl hne)⟩
  · rw [setd_ne (hns y hy)] at h1
    rw [setd_ne (hns z hz)] at h2
    rw [updV_ne (hns y hy), updV_ne (hns z hz)]
    exact h.ne y hy z hz hyz h1 h2
end Go.Proofs.YtpojalbpekbfdaaDoor
/- As TrgA, with one store into an elder block, behind all that reads memory. -/
namespace Go.Proofs.YtpojalbpekbfdaaDoor
open Go Go.RowKit
set_option linter.unusedSimpArgs false
set_option linter.unusedVariables false
set_option maxRecDepth 100000

def GL (U : World) (f : Nat → Option Value) (φ : Nat → Value → World → Prop) (L : List Al) (s b o : Nat) (cs : List Value) (d : Nat → Bool) (V : Nat → Value) (W : World) : Prop :=
  (d s = false ∧ GI U f φ L d V W) ∨ (d s = true ∧ (∀ i v, f i = some v → d i = true → V i = v) ∧ ∃ W0, Below U.heap.size U W0 ∧ W = W0.setCells b o cs)
variable {U : World} {f : Nat → Option Value} {φ : Nat → Value → World → Prop} {L : List Al} {s b o : Nat} {cs : List Value}
theorem GL.start {V : Nat → Value} : GL U f φ L s b o cs (fun _ => false) V U.drew := .inl ⟨rfl, GI.start⟩
variable {P : Program} {ops : Array Oper} {Q : Exit → Act → World → Prop} {a0 : Act}
/-- An operation ahead of the store. -/
theorem GL.ob {i : Nat} (hs : (RU.px ops s).contains i = true) (h : ∀ a w d V, GI U f φ L d V w → d i = false → (∀ p, (RU.px ops i).contains p = true → d p = true) → (∀ j, (RU.px ops j).contains i = true → d j = false) → (∀ t, RU.early ops i t = true → a.eval (.tmp t) = a0.eval (.tmp t)) → (∀ p t, RU.predB ops i p t = true → a.eval (.tmp t) = V p) →
    wpOp P ops Q i (fun a' w' => ∃ v, a' = a.put ((ops[i]?).bind (·.dst)) v ∧ GI U f φ L (RG.setd d i) (RG.updV V i v) w') a w) : RG.Ob P ops Q a0 (GL U f φ L s b o cs) i := by
  intro a w d V hG hd hpx hbk hf hp
  have hsf : d s = false := hbk s hs
  rcases hG with ⟨-, hI⟩ | ⟨hbad, -⟩
  · refine wpOp_mono (fun a' w' ⟨v, e, q⟩ => ⟨v, e, .inl ⟨?_, q⟩⟩) (h a w d V hI hd hpx hbk hf hp)
    unfold RG.setd
    rw [if_neg (fun e => ?_)]
    · exact hsf
    · subst e
      have := hpx s hs
      rw [hsf] at this; cases this
  · rw [hsf] at hbad; cases hbad
/-- The store. -/
theorem GL.obs (h : ∀ a w d V, GI U f φ L d V w → d s = false → (∀ p, (RU.px ops s).contains p = true → d p = true) → (∀ j, (RU.px ops j).contains s = true → d j = false) → (∀ t, RU.early ops s t = true → a.eval (.tmp t) = a0.eval (.tmp t)) → (∀ p t, RU.predB ops s p t = true → a.eval (.tmp t) = V p) →
    wpOp P ops Q s (fun a' w' => ∃ v, a' = a.put ((ops[s]?).bind (·.dst)) v ∧ GL U f φ L s b o cs (RG.setd d s) (RG.updV V s v) w') a w) : RG.Ob P ops Q a0 (GL U f φ L s b o cs) s := by
  intro a w d V hG hd hpx hbk hf hp
  rcases hG with ⟨-, hI⟩ | ⟨hbad, -⟩
  · exact h a w d V hI hd hpx hbk hf hp
  · rw [hd] at hbad; cases hbad
theorem GL.stored {d : Nat → Bool} {V : Nat → Value} {W : World} (h : GI U f φ L d V W) (hfn : f s = none) (v : Value) : GL U f φ L s b o cs (RG.setd d s) (RG.updV V s v) (W.setCells b o cs) := by
  refine .inr ⟨setd_self, fun i u hi hd => ?_, W, h.be, rfl⟩
  by_cases q : i = s
  · subst q; rw [hfn] at hi; cases hi
  · rw [setd_ne q] at hd; rw [updV_ne q]; exact h.kn i u hi hd
/-- An operation behind the store. -/
theorem GL.oba {i : Nat} (hs : (RU.px ops i).contains s = true) (h : ∀ a w d V, (∀ i v, f i = some v → d i = true → V i = v) → d i = false → (∀ p, (RU.px ops i).contains p = true → d p = true) → (∀ t, RU.early ops i t = true → a.eval (.tmp t) = a0.eval (.tmp t)) → (∀ p t, RU.predB ops i p t = true → a.eval (.tmp t) = V p) →
    (∀ v, (∀ u, f i = some u → v = u) → GL U f φ L s b o cs (RG.setd d i) (RG.updV V i v) w) →
    wpOp P ops Q i (fun a' w' => ∃ v, a' = a.put ((ops[i]?).bind (·.dst)) v ∧ GL U f φ L s b o cs (RG.setd d i) (RG.updV V i v) w') a w) : RG.Ob P ops Q a0 (GL U f φ L s b o cs) i := by
  intro a w d V hG hd hpx hbk hf hp
  have hst := hpx s hs
  rcases hG with ⟨hbad, -⟩ | ⟨-, hK, W0, hB, hW⟩
  · rw [hst] at hbad; cases hbad
  · refine h a w d V hK hd hpx hf hp (fun v hv => .inr ⟨?_, fun j u hj hdj => ?_, W0, hB, hW⟩)
    · unfold RG.setd; split
      · rfl
      · exact hst
    · by_cases q : j = i
      · subst q; rw [updV_self]; exact hv u hj
      · rw [setd_ne q] at hdj; rw [updV_ne q]; exact hK j u hj hdj
theorem GL.fin {d : Nat → Bool} {V : Nat → Value} {W : World} (h : GL U f φ L s b o cs d V W) (hd : d s = true) : (∀ i v, f i = some v → d i = true → V i = v) ∧ ∃ W0, Below U.heap.size U W0 ∧ W = W0.setCells b o cs := by
  rcases h with ⟨hbad, -⟩ | ⟨-, hK, W0, hB, hW⟩
  · rw [hd] at hbad; cases hbad
  · exact ⟨hK, W0, hB, hW⟩
end Go.Proofs.YtpojalbpekbfdaaDoor
/- The reference: Join, NodeBytes, Top. -/
namespace Go.Proofs.YtpojalbpekbfdaaDoor
open Go Go.RowKit
set_option linter.unusedSimpArgs false
set_option linter.unusedVariables false
set_option maxRecDepth 100000

def mi (xss : List (List Int)) (i : Nat) : List Int := xss.getD i []
theorem mi_get {xss : List (List Int)} {i : Nat} (h : i < xss.length) : mi xss i = xss[i] := by simp [mi, List.getD, List.getElem?_eq_getElem h]
/-- A slice that holds these byte strings. -/
def LL (w : World) (v : Value) (xss : List (List Int)) : Prop :=
  ∃ ad cap, v = .slice ad xss.length cap ∧ xss.length ≤ cap ∧ ((xss = [] ∧ (ad = none → cap = 0)) ∨ ∃ b o, ad = some ⟨b, o, none⟩ ∧ b < w.heap.size ∧ ∀ i, i < xss.length → ∃ u, w.cell? ⟨b, o + i, none⟩ = some u ∧ Sl w u (mi xss i))
theorem LL.below {w w' : World} {v : Value} {xss : List (List Int)} (h : LL w v xss) (hb : Below w.heap.size w w') : LL w' v xss := by
  obtain ⟨ad, cap, rfl, hc, h⟩ := h
  refine ⟨ad, cap, rfl, hc, ?_⟩
  rcases h with h | ⟨b, o, rfl, hlt, hm⟩
  · exact .inl h
  · refine .inr ⟨b, o, rfl, Nat.lt_of_lt_of_le hlt hb.size, fun i hi => ?_⟩
    obtain ⟨u, h1, h2⟩ := hm i hi
    exact ⟨u, (hb.cell (p := ⟨b, o + i, none⟩) hlt).trans h1, h2.below hb (Nat.le_refl _)⟩
/-- The first members, joined. -/
def jo (xss : List (List Int)) : Nat → List Int
  | 0 => []
  | k + 1 => jo xss k ++ mi xss k
theorem jo_le {xss : List (List Int)} {B : Nat} (h : ∀ i, i < xss.length → (mi xss i).length ≤ B) : ∀ k, k ≤ xss.length → (jo xss k).length ≤ k * B
  | 0, _ => by simp [jo]
  | k + 1, hk => by
    have h1 := jo_le h k (by omega)
    have h2 := h k (by omega)
    simp only [jo, List.length_append, Nat.succ_mul]; omega
set_option maxHeartbeats 2000000 in
theorem rJoin_any (xss : List (List Int)) (v : Value) (w : World) (hs : LL w v xss) (hL : ∀ i, i < xss.length → (mi xss i).length ≤ 1048576) (hn : xss.length ≤ 1000) :
    Calls Tryd.prog 56 #[v] w fun e w' => ∃ v', e = .returned v' ∧ Ow w.heap.size w' v' (jo xss xss.length) ∧ Below w.heap.size w w' := by
  obtain ⟨ad, cap, rfl, hc, hx⟩ := hs
  have HX : Hid (xss = [] ∧ (ad = none → cap = 0) ∨ ∃ b o, ad = some ⟨b, o, none⟩ ∧ b < w.heap.size ∧ ∀ i, i < xss.length → ∃ u, w.cell? ⟨b, o + i, none⟩ = some u ∧ Sl w u (mi xss i)) := hx
  have HL : Hid (∀ i, i < xss.length → (mi xss i).length ≤ 1048576) := hL
  have HB : Hid (∀ k, k ≤ xss.length → (jo xss k).length ≤ k * 1048576) := fun k hk => jo_le hL k hk
  clear hx hL hc
  go_enter Tryd.func56, Tryd.ntmps56
  go_wp2_with fail
  go_loopw [3, 7] (fun ov i wr => ∃ k : Nat, k ≤ xss.length ∧ i = .int .i64 (k : Int) ∧ Ow w.heap.size wr ov (jo xss k) ∧ Below w.heap.size w wr) (fun _ i _ => xss.length - (intOf i).toNat)
  case atStart => exact ⟨0, Nat.zero_le _, rfl, Ow.nil _ _, Below.refl _ _⟩
  case round =>
    obtain ⟨k, hkl, rfl, how, h4⟩ := hrel
    have H4 : Hid (Below w.heap.size w wr) := h4
    have HO : Hid (Ow w.heap.size wr u3 (jo xss k)) := how
    clear h4 how
    by_cases hlt : k < xss.length
    · rcases HX.out with ⟨rfl, _⟩ | ⟨b, o, rfl, hlb, hm⟩
      · simp at hlt
      · obtain ⟨u, hc0, hu⟩ := hm k hlt
        have c0 : wr.cell? ⟨b, o + k, none⟩ = some u := (H4.out.cell (p := ⟨b, o + k, none⟩) hlb).trans hc0
        have HS : Hid (Sl wr u (mi xss k)) := hu.below H4.out (Nat.le_refl _)
        have HLK : Hid ((jo xss k).length + (mi xss k).length ≤ 140737488355328) := by
          have h1 := HB.out k hkl
          have h2 := HL.out k hlt
          have h3 := Nat.mul_le_mul_right 1048576 (show k ≤ 1000 by omega)
          show _ ≤ _; omega
        obtain ⟨ua, uc, hue, -, -⟩ := hu
        obtain ⟨ul, hul⟩ : ∃ n, (mi xss k).length = n := ⟨_, rfl⟩
        rw [hul] at hue
        subst hue
        clear hm hc0 hlb hul
        go_wp2_with (at_builtin; refine app_u8 (B0 := w.heap.size) rfl _ _ rfl H4.out.size u3 (jo xss k) rfl HO.out _ rfl (mi xss k) HS.out HLK.out ?_; intro v1 w1 g1 g2 g3 g4; have O1 : Hid (Ow w.heap.size w1 v1 (jo xss (k + 1))) := g1; have B1 : Hid (Below w.heap.size wr w1) := g3; clear g1 g2 g3 g4)
        exact ⟨⟨k + 1, hlt, by go_num, O1.out, H4.out.trans B1.out⟩, by simp [intOf]; omega⟩
    · obtain rfl : k = xss.length := by omega
      go_wp2_with fail
      go_ret
      exact ⟨_, rfl, HO.out, H4.out⟩
end Go.Proofs.YtpojalbpekbfdaaDoor
