/- Nodes of a call's own, written over; a leaf put among others. -/
import Derived.Test.YtpojalbpekbfdabDoorTrmB
import Derived.Test.YtpojalbpekbfdabDoorTrrH
namespace Go.Proofs.YtpojalbpekbfdabDoor
open Go Go.RowKit
set_option linter.unusedSimpArgs false
set_option linter.unusedVariables false
set_option maxRecDepth 100000

/-- An array with a row of cells written over. -/
def setL (cur : Array Value) : Nat → List Value → Array Value
  | _, [] => cur
  | o, v :: r => setL (cur.setIfInBounds o v) (o + 1) r
theorem setL_size : ∀ (vs : List Value) (o : Nat) (cur : Array Value), (setL cur o vs).size = cur.size
  | [], _, _ => rfl
  | v :: r, o, cur => by rw [setL, setL_size r]; simp
theorem setL_list : ∀ (vs : List Value) (o : Nat) (cur : Array Value), o + vs.length ≤ cur.size → (setL cur o vs).toList = cur.toList.take o ++ vs ++ cur.toList.drop (o + vs.length)
  | [], o, cur, _ => by simp [setL]
  | v :: r, o, cur, h => by
    simp only [List.length_cons] at h
    rw [setL, setL_list r (o + 1) _ (by simp; omega), Array.toList_setIfInBounds]
    have ho : o < cur.toList.length := by rw [Array.length_toList]; omega
    rw [List.drop_set_of_lt (by omega)]
    have e : (cur.toList.set o v).take (o + 1) = cur.toList.take o ++ [v] := by
      rw [List.take_succ_eq_append_getElem (by rw [List.length_set]; exact ho), List.getElem_set_self, List.take_set_of_le (Nat.le_refl _)]
    rw [e, List.length_cons, show o + 1 + r.length = o + (r.length + 1) by omega]
    simp
theorem heap_setC (g : Nat) : ∀ (vs : List Value) (o : Nat) (w : World) (cur : Array Value) (t : TypeId) (fr : Nat × Nat), w.heap[g]? = some (.cells cur t fr) → (w.setCells g o vs).heap[g]? = some (.cells (setL cur o vs) t fr)
  | [], _, _, _, _, _, h => h
  | v :: r, o, w, cur, t, fr, h => by
    rw [World.setCells, setL]
    refine heap_setC g r (o + 1) _ _ t fr ?_
    show (w.heap.modify g _)[g]? = _
    rw [Array.getElem?_modify, if_pos rfl, h]
    simp
theorem ncs_take {l : List Nd} (hk : ∀ x ∈ l, x.Ok) (i : Nat) (hi : i ≤ l.length) : (ncs l).take (i * 65) = ncs (l.take i) := by
  have e : ncs l = ncs (l.take i) ++ ncs (l.drop i) := by rw [← ncs_app, List.take_append_drop]
  have hl : (ncs (l.take i)).length = i * 65 := by rw [ncs_length (fun x hx => hk x (List.mem_of_mem_take hx)), List.length_take]; congr 1; omega
  rw [e, ← hl, List.take_left]
theorem ncs_drop {l : List Nd} (hk : ∀ x ∈ l, x.Ok) (i : Nat) (hi : i ≤ l.length) : (ncs l).drop (i * 65) = ncs (l.drop i) := by
  have e : ncs l = ncs (l.take i) ++ ncs (l.drop i) := by rw [← ncs_app, List.take_append_drop]
  have hl : (ncs (l.take i)).length = i * 65 := by rw [ncs_length (fun x hx => hk x (List.mem_of_mem_take hx)), List.length_take]; congr 1; omega
  rw [e, ← hl, List.drop_left]
/-- Nodes of the call's own, some written over. -/
theorem NO.set {B : Nat} {w : World} {g n cap : Nat} {l : List Nd} (h : NO B w (.slice (some ⟨g, 0, none⟩) n cap) l) {m : List Nd} (hm : ∀ x ∈ m, x.Ok) {i : Nat} (hi : i + m.length ≤ l.length) :
    NO B (w.setCells g (i * 65) (ncs m)) (.slice (some ⟨g, 0, none⟩) n cap) (l.take i ++ m ++ l.drop (i + m.length)) := by
  obtain ⟨ho, hk, hB⟩ := h
  have hk' : ∀ x ∈ l.take i ++ m ++ l.drop (i + m.length), x.Ok := fun x hx => by
    simp only [List.mem_append] at hx
    rcases hx with (hx | hx) | hx
    · exact hk x (List.mem_of_mem_take hx)
    · exact hm x hx
    · exact hk x (List.mem_of_mem_drop hx)
  have hlen : (l.take i ++ m ++ l.drop (i + m.length)).length = l.length := by simp only [List.length_append, List.length_take, List.length_drop]; omega
  have hml := ncs_length hm
  refine ⟨?_, hk', by rw [size_setC]; exact hB⟩
  obtain ⟨h1, ⟨he, _⟩ | ⟨g', cap', cur, he, hBg, hg, hnc, hcm, hcs, htk⟩⟩ := ho
  · cases he
  · simp only [Value.slice.injEq, Option.some.injEq, Addr.mk.injEq, and_true] at he
    obtain ⟨rfl, rfl, rfl⟩ := he
    have hsz : l.length * 65 ≤ cur.size := by rw [hcs]; exact Nat.mul_le_mul_right 65 hnc
    have hfit : i * 65 + (ncs m).length ≤ l.length * 65 := by rw [hml, ← Nat.add_mul]; exact Nat.mul_le_mul_right 65 hi
    rw [hlen]
    refine ⟨by rw [ncs_length hk', hlen], .inr ⟨g, cap, _, rfl, hBg, heap_setC g _ _ w cur _ _ hg, hnc, hcm, by rw [setL_size]; exact hcs, ?_⟩⟩
    rw [setL_list _ _ _ (by omega)]
    have hct : cur.toList.take (i * 65) = ncs (l.take i) := by
      rw [← ncs_take hk i (by omega), ← htk, List.take_take, Nat.min_eq_left (Nat.mul_le_mul_right 65 (by omega))]
    have hcl : cur.toList.length = cur.size := Array.length_toList
    rw [hct, ncs_app, ncs_app, hml, ← Nat.add_mul]
    have hp : (ncs (l.take i) ++ ncs m).length = (i + m.length) * 65 := by
      rw [List.length_append, hml, ncs_length (fun x hx => hk x (List.mem_of_mem_take hx)), List.length_take, Nat.add_mul]; congr 2; omega
    rw [List.take_append, hp, List.take_of_length_le (by rw [hp]; exact Nat.mul_le_mul_right 65 hi)]
    congr 1
    rw [← ncs_drop hk (i + m.length) hi, ← htk, List.drop_take]
/-- copy of nodes. -/
theorem run_copy_nd (w : World) (ty : TypeId) (b o dLen dCap : Nat) (a : Addr) (sLen sCap : Nat) (cs : List Value) (hn : cs.length = Nat.min sLen dLen * 65)
    (hsrc : ∀ j v, cs[j]? = some v → w.cell? (a.add j) = some v) (hc : ∀ j, j < cs.length → (w.cell? ⟨b, o + j, none⟩).isSome = true) (hf : ∀ j, j < cs.length → w.frozen? ⟨b, o + j, none⟩ = false) (h1 : ∀ v ∈ cs, v.oneCell' = true) :
    (Builtin.copy_ #[28, 28] ty #[.slice (some ⟨b, o, none⟩) dLen dCap, .slice (some a) sLen sCap]).run Tryd.prog w = .ok (goInt (Nat.min sLen dLen)) (w.setCells b o cs) := by
  have hl := run_loadCells_list (P := Tryd.prog) w a cs hsrc
  have hst := run_storeCells_cells (P := Tryd.prog) b o cs 0 w (by simpa using hc) (by simpa using hf) h1
  obtain ⟨i, z, hi, hz, hs, -, -⟩ := info_nd
  rw [hn] at hl
  simp [Builtin.copy_, run_underlying Tryd.underlying28, Builtin.lenOf, Builtin.firstCells, sizeOf, typeInfo, hi, hs, hl, hst]
theorem run_copy_no (w : World) (ty : TypeId) (d a : Option Addr) (dCap sLen sCap : Nat) :
    (Builtin.copy_ #[28, 28] ty #[.slice d 0 dCap, .slice a sLen sCap]).run Tryd.prog w = .ok (goInt 0) w := by
  obtain ⟨i, z, hi, hz, hs, -, -⟩ := info_nd
  have hl : ∀ (x : Addr), (loadCells x 0).run Tryd.prog w = .ok #[] w := fun x => by simpa using run_loadCells_list (P := Tryd.prog) w x [] (by simp)
  cases d <;> cases a <;> simp [Builtin.copy_, run_underlying Tryd.underlying28, Builtin.lenOf, Builtin.firstCells, sizeOf, typeInfo, hi, hs, storeCells, hl]
/-- A node put among nodes that rise. -/
theorem put_perm {s t : List Nd} (h : s.Perm t) (y : Nd) (a : Nat) : (s.take a ++ [y] ++ s.drop a).Perm (t ++ [y]) := by
  have h1 : (s.take a ++ [y] ++ s.drop a).Perm (y :: (s.take a ++ s.drop a)) := by
    rw [List.append_assoc]; exact List.perm_middle
  rw [List.take_append_drop] at h1
  exact h1.trans ((List.Perm.cons y h).trans (List.perm_append_singleton y t).symm)
theorem put_rise {s : List Nd} (hs : s.Pairwise (fun a b => pf a.p 256 < pf b.p 256)) {y : Nd} {a : Nat} (hlo : ∀ (j : Nat) (x : Nd), j < a → s[j]? = some x → pf x.p 256 < pf y.p 256) (hhi : ∀ (j : Nat) (x : Nd), a ≤ j → s[j]? = some x → pf y.p 256 < pf x.p 256) :
    (s.take a ++ [y] ++ s.drop a).Pairwise (fun a b => pf a.p 256 < pf b.p 256) := by
  have lo : ∀ x ∈ s.take a, pf x.p 256 < pf y.p 256 := fun x hx => by
    obtain ⟨i, hi, rfl⟩ := List.getElem_of_mem hx
    have hi' := hi; rw [List.length_take] at hi'
    rw [List.getElem_take]
    exact hlo i _ (by omega) (List.getElem?_eq_getElem (by omega))
  have hi : ∀ x ∈ s.drop a, pf y.p 256 < pf x.p 256 := fun x hx => by
    obtain ⟨i, hi, rfl⟩ := List.getElem_of_mem hx
    have hi' := hi; rw [List.length_drop] at hi'
    rw [List.getElem_drop]
    exact hhi (a + i) _ (by omega) (List.getElem?_eq_getElem (by omega))
  rw [List.append_assoc]
  refine List.pairwise_append.2 ⟨hs.sublist (List.take_sublist _ _), List.pairwise_append.2 ⟨List.pairwise_singleton _ _, hs.sublist (List.drop_sublist _ _), fun x hx z hz => ?_⟩, fun x hx z hz => ?_⟩
  · simp at hx; subst hx; exact hi z hz
  · rcases List.mem_append.1 hz with q | q
    · simp at q; subst q; exact lo x hx
    · exact Nat.lt_trans (lo x hx) (hi z q)
/-- One below the rest is below a place: all ahead of it are. -/
theorem rise_lo {s : List Nd} (hs : s.Pairwise (fun a b => pf a.p 256 < pf b.p 256)) {y : Nd} {a : Nat} {z : Nd} (hz : s[a - 1]? = some z) (ha : 0 < a) (h : pf z.p 256 < pf y.p 256) (j : Nat) (x : Nd) (hj : j < a) (hx : s[j]? = some x) : pf x.p 256 < pf y.p 256 := by
  obtain ⟨h1, rfl⟩ := List.getElem?_eq_some_iff.1 hz
  obtain ⟨h2, rfl⟩ := List.getElem?_eq_some_iff.1 hx
  rcases Nat.lt_or_ge j (a - 1) with q | q
  · exact Nat.lt_trans (List.pairwise_iff_getElem.1 hs j (a - 1) h2 h1 q) h
  · obtain rfl : j = a - 1 := by omega
    exact h
/-- Two of one label: no list of them rises. -/
theorem dup_not {ls : List Lf} (hk : ∀ x ∈ ls, x.Ok) {k : Nat} {x : Lf} (hx : ls[k]? = some x) {s : List Nd} (hs : s.Perm ((ls.take k).map ln)) {z : Nd} (hz : z ∈ s) (e : z.p = x.p) : ¬ okl ls := by
  intro h
  have hn := okl_ne hk h
  obtain ⟨y, hy, rfl⟩ := List.mem_map.1 (hs.mem_iff.1 hz)
  obtain ⟨i, hi, rfl⟩ := List.getElem_of_mem hy
  have hi' := hi; rw [List.length_take] at hi'
  obtain ⟨hkl, rfl⟩ := List.getElem?_eq_some_iff.1 hx
  rw [List.getElem_take] at e
  have := List.pairwise_iff_getElem.1 hn i k (by omega) hkl (by omega)
  exact this (congrArg (fun q => pf q 256) e)
end Go.Proofs.YtpojalbpekbfdabDoor
/- A region in whatever order: values that are known, values of which something is known, new blocks and stores into them. -/
namespace Go.Proofs.YtpojalbpekbfdabDoor
open Go Go.RowKit
set_option linter.unusedSimpArgs false
set_option linter.unusedVariables false
set_option maxRecDepth 100000

/-- The places of a new block and of the store into it, what is stored, what was there. -/
abbrev Al := Nat × Nat × List Value × List Value
structure GI (U : World) (f : Nat → Option Value) (φ : Nat → Value → World → Prop) (L : List Al) (d : Nat → Bool) (V : Nat → Value) (W : World) : Prop where
  be : Below U.heap.size U W
  kn : ∀ i v, f i = some v → d i = true → V i = v
  pr : ∀ i, d i = true → (∀ x ∈ L, d x.2.1 = false) → φ i (V i) W
  pt : ∀ x ∈ L, d x.1 = true → ∃ b, V x.1 = .pointer (some ⟨b, 0, none⟩) ∧ U.heap.size ≤ b ∧ b < W.heap.size ∧ W.there b 0 x.2.2.2.length ∧ W.rangeAt b 0 (if d x.2.1 = true then x.2.2.1 else x.2.2.2)
  ne : ∀ x ∈ L, ∀ y ∈ L, x.1 ≠ y.1 → d x.1 = true → d y.1 = true → V x.1 ≠ V y.1
theorem setd_ne {d : Nat → Bool} {i j : Nat} (h : j ≠ i) : RG.setd d i j = d j := by unfold RG.setd; rw [if_neg h]
theorem updV_ne {V : Nat → Value} {i j : Nat} {v : Value} (h : j ≠ i) : RG.updV V i v j = V j := by unfold RG.updV; rw [if_neg h]
theorem setd_self {d : Nat → Bool} {i : Nat} : RG.setd d i i = true := by unfold RG.setd; rw [if_pos rfl]
theorem updV_self {V : Nat → Value} {i : Nat} {v : Value} : RG.updV V i v i = v := by unfold RG.updV; rw [if_pos rfl]
theorem GI.start {U : World} {f : Nat → Option Value} {φ : Nat → Value → World → Prop} {L : List Al} {V : Nat → Value} : GI U f φ L (fun _ => false) V U.drew :=
  ⟨(Below.refl _ _).drew, (fun _ _ _ h => by cases h), (fun _ h => by cases h), (fun _ _ h => by cases h), (fun _ _ _ _ _ h => by cases h)⟩
/-- An operation under which memory only grows. -/
theorem GI.step {U : World} {f : Nat → Option Value} {φ : Nat → Value → World → Prop} {L : List Al} {d : Nat → Bool} {V : Nat → Value} {W W' : World} (h : GI U f φ L d V W) (mono : ∀ i v W W', φ i v W → Below W.heap.size W W' → φ i v W') (hb : Below W.heap.size W W') (i : Nat) (v : Value)
    (hns : ∀ x ∈ L, x.1 ≠ i ∧ x.2.1 ≠ i) (hk : ∀ u, f i = some u → v = u) (hφ : φ i v W') : GI U f φ L (RG.setd d i) (RG.updV V i v) W' := by
  refine ⟨h.be.trans (hb.mono h.be.size), fun j u hj hd => ?_, fun j hd hno => ?_, fun x hx hd => ?_, fun x hx y hy hxy h1 h2 => ?_⟩
  · by_cases q : j = i
    · subst q; rw [updV_self]; exact hk u hj
    · rw [setd_ne q] at hd; rw [updV_ne q]; exact h.kn j u hj hd
  · by_cases q : j = i
    · subst q; rw [updV_self]; exact hφ
    · rw [setd_ne q] at hd; rw [updV_ne q]
      exact mono _ _ _ _ (h.pr j hd (fun x hx => by have := hno x hx; rwa [setd_ne (hns x hx).2] at this)) hb
  · obtain ⟨n1, n2⟩ := hns x hx
    rw [setd_ne n1] at hd
    rw [updV_ne n1, setd_ne n2]
    obtain ⟨b, q1, q2, q3, q4, q5⟩ := h.pt x hx hd
    exact ⟨b, q1, q2, Nat.lt_of_lt_of_le q3 hb.size, there_keep q4 (hb.block b q3), range_keep q5 (hb.block b q3)⟩
  · rw [setd_ne (hns x hx).1] at h1
    rw [setd_ne (hns y hy).1] at h2
    rw [updV_ne (hns x hx).1, updV_ne (hns y hy).1]
    exact h.ne x hx y hy hxy h1 h2
/-- A new block. -/
theorem GI.alloc {U : World} {f : Nat → Option Value} {φ : Nat → Value → World → Prop} {L : List Al} {d : Nat → Bool} {V : Nat → Value} {W : World} (h : GI U f φ L d V W) (mono : ∀ i v W W', φ i v W → Below W.heap.size W W' → φ i v W') (x : Al) (hx : x ∈ L) (t : TypeId) (hst : d x.2.1 = false)
    (huq : ∀ y ∈ L, y.1 = x.1 → y = x) (hns : ∀ y ∈ L, y.2.1 ≠ x.1) (hfn : f x.1 = none) (hφ : ∀ v W', φ x.1 v W') :
    GI U f φ L (RG.setd d x.1) (RG.updV V x.1 (.pointer (some ⟨W.heap.size, 0, none⟩))) (W.alloc (.cells x.2.2.2.toArray t)) := by
  have hb : Below W.heap.size W (W.alloc (.cells x.2.2.2.toArray t)) := (Below.refl _ W).alloc (Nat.le_refl _) _
  have hh : (W.alloc (.cells x.2.2.2.toArray t)).heap[W.heap.size]? = some (.cells x.2.2.2.toArray t (0, 0)) := by show (W.heap.push _)[W.heap.size]? = _; simp
  have old : ∀ y ∈ L, y.1 ≠ x.1 → d y.1 = true → ∃ b, V y.1 = .pointer (some ⟨b, 0, none⟩) ∧ b < W.heap.size := fun y hy _ hd => by
    obtain ⟨b, q1, -, q3, -, -⟩ := h.pt y hy hd; exact ⟨b, q1, q3⟩
  refine ⟨h.be.trans (hb.mono h.be.size), fun j u hj hd => ?_, fun j hd hno => ?_, fun y hy hd => ?_, fun y hy z hz hyz h1 h2 => ?_⟩
  · by_cases q : j = x.1
    · subst q; rw [hfn] at hj; cases hj
    · rw [setd_ne q] at hd; rw [updV_ne q]; exact h.kn j u hj hd
  · by_cases q : j = x.1
    · subst q; exact hφ _ _
    · rw [setd_ne q] at hd; rw [updV_ne q]
      exact mono _ _ _ _ (h.pr j hd (fun y hy => by have := hno y hy; rwa [setd_ne (hns y hy)] at this)) hb
  · by_cases q : y.1 = x.1
    · obtain rfl := huq y hy q
      rw [updV_self, setd_ne (hns y hy), hst, if_neg (by decide)]
      exact ⟨W.heap.size, rfl, h.be.size, by simp, there_of_row' hh 0 _ (by simp), range_alloc W _ t (0, 0)⟩
    · rw [setd_ne q] at hd
      rw [updV_ne q, setd_ne (hns y hy)]
      obtain ⟨b, q1, q2, q3, q4, q5⟩ := h.pt y hy hd
      exact ⟨b, q1, q2, Nat.lt_of_lt_of_le q3 hb.size, there_keep q4 (hb.block b q3), range_keep q5 (hb.block b q3)⟩
  · by_cases q : y.1 = x.1
    · have q' : z.1 ≠ x.1 := fun e => hyz (q.trans e.symm)
      rw [setd_ne q'] at h2
      obtain ⟨b, e, hl⟩ := old z hz q' h2
      rw [q, updV_self, updV_ne q', e]
      intro he
      simp only [Value.pointer.injEq, Option.some.injEq, Addr.mk.injEq, and_true] at he
      omega
    · rw [setd_ne q] at h1
      by_cases q' : z.1 = x.1
      · obtain ⟨b, e, hl⟩ := old y hy q h1
        rw [q', updV_self, updV_ne q, e]
        intro he
        simp only [Value.pointer.injEq, Option.some.injEq, Addr.mk.injEq, and_true] at he
        omega
      · rw [setd_ne q'] at h2
        rw [updV_ne q, updV_ne q']
        exact h.ne y hy z hz hyz h1 h2
/-- A store into a new block. -/
theorem GI.store {U : World} {f : Nat → Option Value} {φ : Nat → Value → World → Prop} {L : List Al} {d : Nat → Bool} {V : Nat → Value} {W : World} (h : GI U f φ L d V W) (x : Al) (hx : x ∈ L) (hd0 : d x.1 = true) {b : Nat} (hV : V x.1 = .pointer (some ⟨b, 0, none⟩)) (v : Value)
    (huq : ∀ y ∈ L, y.2.1 = x.2.1 → y = x) (hns : ∀ y ∈ L, y.1 ≠ x.2.1) (hfn : f x.2.1 = none) (hlen : x.2.2.1.length = x.2.2.2.length) (hone : ∀ y ∈ L, y ≠ x → y.1 ≠ x.1) :
    GI U f φ L (RG.setd d x.2.1) (RG.updV V x.2.1 v) (W.setCells b 0 x.2.2.1) := by
  obtain ⟨b', e, p1, p2, p3, p4⟩ := h.pt x hx hd0
  rw [hV] at e
  obtain rfl : b = b' := by simpa using e
  refine ⟨below_setCells p1 _ _ h.be, fun j u hj hd => ?_, fun j hd hno => ?_, fun y hy hd => ?_, fun y hy z hz hyz h1 h2 => ?_⟩
  · by_cases q : j = x.2.1
    · subst q; rw [hfn] at hj; cases hj
    · rw [setd_ne q] at hd; rw [updV_ne q]; exact h.kn j u hj hd
  · have := hno x hx; rw [setd_self] at this; cases this
  · rw [setd_ne (hns y hy)] at hd
    rw [updV_ne (hns y hy)]
    by_cases q : y = x
    · subst q
      rw [setd_self, if_pos rfl]
      refine ⟨b, hV, p1, by rw [size_setC]; exact p2, ?_, ?_⟩
      · exact World.there_setCells p3 _ _ _
      · exact World.rangeAt_setCells_same _ _ _ _ (by rw [hlen]; exact p3)
    · have q2 : y.2.1 ≠ x.2.1 := fun e => q (huq y hy e)
      rw [setd_ne q2]
      obtain ⟨b2, r1, r2, r3, r4, r5⟩ := h.pt y hy hd
      have hne : b2 ≠ b := fun e => h.ne y hy x hx (hone y hy q) hd hd0 (by rw [r1, hV, e])
      exact ⟨b2, r1, r2, by rw [size_setC]; exact r3, World.there_setCells r4 _ _ _, World.rangeAt_setCells_apart r5 _ _ _ (.inl hne)⟩
  · rw [setd_ne (hns y hy)] at h1
    rw [setd_ne (hns z hz)] at h2
    rw [updV_ne (hns y hy), updV_ne (hns z hz)]
    exact h.ne y hy z hz hyz h1 h2
end Go.Proofs.YtpojalbpekbfdabDoor
/- As TrgA, with one store into an elder block, behind all that reads memory. -/
namespace Go.Proofs.YtpojalbpekbfdabDoor
open Go Go.RowKit
set_option linter.unusedSimpArgs false
set_option linter.unusedVariables false
set_option maxRecDepth 100000

def GL (U : World) (f : Nat → Option Value) (φ : Nat → Value → World → Prop) (L : List Al) (s b o : Nat) (cs : List Value) (d : Nat → Bool) (V : Nat → Value) (W : World) : Prop :=
  (d s = false ∧ GI U f φ L d V W) ∨ (d s = true ∧ (∀ i v, f i = some v → d i = true → V i = v) ∧ ∃ W0, Below U.heap.size U W0 ∧ W = W0.setCells b o cs)
variable {U : World} {f : Nat → Option Value} {φ : Nat → Value → World → Prop} {L : List Al} {s b o : Nat} {cs : List Value}
theorem GL.start {V : Nat → Value} : GL U f φ L s b o cs (fun _ => false) V U.drew := .inl ⟨rfl, GI.start⟩
variable {P : Program} {ops : Array Oper} {Q : Exit → Act → World → Prop} {a0 : Act}
/-- An operation ahead of the store. -/
theorem GL.ob {i : Nat} (hs : (RU.px ops s).contains i = true) (h : ∀ a w d V, GI U f φ L d V w → d i = false → (∀ p, (RU.px ops i).contains p = true → d p = true) → (∀ j, (RU.px ops j).contains i = true → d j = false) → (∀ t, RU.early ops i t = true → a.eval (.tmp t) = a0.eval (.tmp t)) → (∀ p t, RU.predB ops i p t = true → a.eval (.tmp t) = V p) →
    wpOp P ops Q i (fun a' w' => ∃ v, a' = a.put ((ops[i]?).bind (·.dst)) v ∧ GI U f φ L (RG.setd d i) (RG.updV V i v) w') a w) : RG.Ob P ops Q a0 (GL U f φ L s b o cs) i := by
  intro a w d V hG hd hpx hbk hf hp
  have hsf : d s = false := hbk s hs
  rcases hG with ⟨-, hI⟩ | ⟨hbad, -⟩
  · refine wpOp_mono (fun a' w' ⟨v, e, q⟩ => ⟨v, e, .inl ⟨?_, q⟩⟩) (h a w d V hI hd hpx hbk hf hp)
    unfold RG.setd
    rw [if_neg (fun e => ?_)]
    · exact hsf
    · subst e
      have := hpx s hs
      rw [hsf] at this; cases this
  · rw [hsf] at hbad; cases hbad
/-- The store. -/
theorem GL.obs (h : ∀ a w d V, GI U f φ L d V w → d s = false → (∀ p, (RU.px ops s).contains p = true → d p = true) → (∀ j, (RU.px ops j).contains s = true → d j = false) → (∀ t, RU.early ops s t = true → a.eval (.tmp t) = a0.eval (.tmp t)) → (∀ p t, RU.predB ops s p t = true → a.eval (.tmp t) = V p) →
    wpOp P ops Q s (fun a' w' => ∃ v, a' = a.put ((ops[s]?).bind (·.dst)) v ∧ GL U f φ L s b o cs (RG.setd d s) (RG.updV V s v) w') a w) : RG.Ob P ops Q a0 (GL U f φ L s b o cs) s := by
  intro a w d V hG hd hpx hbk hf hp
  rcases hG with ⟨-, hI⟩ | ⟨hbad, -⟩
  · exact h a w d V hI hd hpx hbk hf hp
  · rw [hd] at hbad; cases hbad
theorem GL.stored {d : Nat → Bool} {V : Nat → Value} {W : World} (h : GI U f φ L d V W) (hfn : f s = none) (v : Value) : GL U f φ L s b o cs (RG.setd d s) (RG.updV V s v) (W.setCells b o cs) := by
  refine .inr ⟨setd_self, fun i u hi hd => ?_, W, h.be, rfl⟩
  by_cases q : i = s
  · subst q; rw [hfn] at hi; cases hi
  · rw [setd_ne q] at hd; rw [updV_ne q]; exact h.kn i u hi hd
/-- An operation behind the store. -/
theorem GL.oba {i : Nat} (hs : (RU.px ops i).contains s = true) (h : ∀ a w d V, (∀ i v, f i = some v → d i = true → V i = v) → d i = false → (∀ p, (RU.px ops i).contains p = true → d p = true) → (∀ t, RU.early ops i t = true → a.eval (.tmp t) = a0.eval (.tmp t)) → (∀ p t, RU.predB ops i p t = true → a.eval (.tmp t) = V p) →
    (∀ v, (∀ u, f i = some u → v = u) → GL U f φ L s b o cs (RG.setd d i) (RG.updV V i v) w) →
    wpOp P ops Q i (fun a' w' => ∃ v, a' = a.put ((ops[i]?).bind (·.dst)) v ∧ GL U f φ L s b o cs (RG.setd d i) (RG.updV V i v) w') a w) : RG.Ob P ops Q a0 (GL U f φ L s b o cs) i := by
  intro a w d V hG hd hpx hbk hf hp
  have hst := hpx s hs
  rcases hG with ⟨hbad, -⟩ | ⟨-, hK, W0, hB, hW⟩
  · rw [hst] at hbad; cases hbad
  · refine h a w d V hK hd hpx hf hp (fun v hv => .inr ⟨?_, fun j u hj hdj => ?_, W0, hB, hW⟩)
    · unfold RG.setd; split
      · rfl
      · exact hst
    · by_cases q : j = i
      · subst q; rw [updV_self]; exact hv u hj
      · rw [setd_ne q] at hdj; rw [updV_ne q]; exact hK j u hj hdj
theorem GL.fin {d : Nat → Bool} {V : Nat → Value} {W : World} (h : GL U f φ L s b o cs d V W) (hd : d s = true) : (∀ i v, f i = some v → d i = true → V i = v) ∧ ∃ W0, Below U.heap.size U W0 ∧ W = W0.setCells b o cs := by
  rcases h with ⟨hbad, -⟩ | ⟨-, hK, W0, hB, hW⟩
  · rw [hd] at hbad; cases hbad
  · exact ⟨hK, W0, hB, hW⟩
end Go.Proofs.YtpojalbpekbfdabDoor
