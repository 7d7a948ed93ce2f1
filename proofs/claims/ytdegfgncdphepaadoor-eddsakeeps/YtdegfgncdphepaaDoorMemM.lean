/- A small state within another: blocks renamed, and those let go that nobody needs. -/
import Derived.Test.YtdegfgncdphepaaDoorMemL
namespace Go.Proofs.YtdegfgncdphepaaDoor
open Go Go.RowKit
set_option linter.unusedSimpArgs false
set_option linter.unusedVariables false
variable {H : Ren → World → Prop} {gl : List Nat} {r₀ r : Ren} {w₀ w : World} {P : Program} {X : Cx} {Q : Exit → Act × Mem → Prop}
/-- A cell, its block renamed from small to small; the world's own values stay. -/
def es1 (σ : Ren) : Value → Option Value
  | .pointer (some a) => (σ a.block).map fun b => .pointer (some ⟨b, a.off, a.spot⟩)
  | .slice (some a) l c => (σ a.block).map fun b => .slice (some ⟨b, a.off, a.spot⟩) l c
  | .tuple vs => some (.tuple vs)
  | v => if flat1 v then some v else none
def es (σ : Ren) : Value → Option Value
  | .agg cs => (trL (es1 σ) cs.toList).map fun l => .agg l.toArray
  | .tuple vs => if vs.size = 1 || flat (.tuple vs) then some (.tuple vs) else none
  | v => es1 σ v
def comp (σ r : Ren) : Ren := fun b => (σ b).bind r
theorem es1_comp {σ : Ren} {v v' v'' : Value} (h : es1 σ v = some v') (h' : tr1 r v' = some v'') : tr1 (comp σ r) v = some v'' := by
  unfold es1 at h
  split at h
  · rename_i a
    cases hb : σ a.block with
    | none => simp [hb] at h
    | some b =>
      simp only [hb, Option.map_some, Option.some.injEq] at h; subst h
      simp only [tr1] at h' ⊢
      simpa [comp, hb] using h'
  · rename_i a l c
    cases hb : σ a.block with
    | none => simp [hb] at h
    | some b =>
      simp only [hb, Option.map_some, Option.some.injEq] at h; subst h
      simp only [tr1] at h' ⊢
      simpa [comp, hb] using h'
  · simp only [Option.some.injEq] at h; subst h
    simpa [tr1] using h'
  · split at h
    · rename_i hf
      simp only [Option.some.injEq] at h; subst h
      rw [tr1_flat _ _ hf] at h' ⊢; exact h'
    · simp at h
theorem esL_comp {σ : Ren} : ∀ {l l' l'' : List Value}, trL (es1 σ) l = some l' → trL (tr1 r) l' = some l'' → trL (tr1 (comp σ r)) l = some l''
  | [], l', l'', h, h' => by simp only [trL, Option.some.injEq] at h; subst h; exact h'
  | v :: l, l', l'', h, h' => by
    obtain ⟨x, y, h1, h2, rfl⟩ := trL_cons h
    obtain ⟨x', y', h3, h4, rfl⟩ := trL_cons h'
    exact trL_mk (es1_comp h1 h3) (esL_comp h2 h4)
theorem es_comp {σ : Ren} {v v' v'' : Value} (h : es σ v = some v') (h' : tr r v' = some v'') : tr (comp σ r) v = some v'' := by
  unfold es at h
  split at h
  · rename_i cs
    cases hb : trL (es1 σ) cs.toList with
    | none => simp [hb] at h
    | some k =>
      simp only [hb, Option.map_some, Option.some.injEq] at h; subst h
      simp only [tr, tr2] at h' ⊢
      cases hk : trL (tr1 r) k with
      | none => simp [hk] at h'
      | some k' =>
        simp only [hk, Option.map_some, Option.some.injEq] at h'
        simp only [esL_comp hb hk, Option.map_some, h']
  · rename_i vs
    split at h
    · rename_i hc
      simp only [Option.some.injEq] at h; subst h
      simp only [Bool.or_eq_true, decide_eq_true_eq] at hc
      rcases hc with hc | hc
      · simp only [tr, if_pos hc] at h' ⊢
        simpa [tr1] using h'
      · rw [tr_flat _ _ hc] at h' ⊢; exact h'
    · simp at h
  · rename_i hn1 hn2
    have ht : ∀ u, es1 σ v = some u → tr r u = some v'' → tr1 r u = some v'' := by
      intro u hu hv
      unfold es1 at hu
      split at hu
      · rename_i a
        cases hb : σ a.block with
        | none => simp [hb] at hu
        | some b => simp only [hb, Option.map_some, Option.some.injEq] at hu; subst hu; exact hv
      · rename_i a l c
        cases hb : σ a.block with
        | none => simp [hb] at hu
        | some b => simp only [hb, Option.map_some, Option.some.injEq] at hu; subst hu; exact hv
      · exact absurd rfl (hn2 _)
      · split at hu
        · rename_i hf
          simp only [Option.some.injEq] at hu; subst hu
          have hfl : flat v = true := by cases v <;> simp_all [flat, flat2, flat1]
          rw [tr_flat _ _ hfl] at hv
          rw [tr1_flat _ _ hf]; exact hv
        · simp at hu
    exact tr_of_tr2 (tr2_of_tr1 (es1_comp h (ht v' h h')))
structure Emb (n0 : Nat) (gl : List Nat) (σ : Ren) (s' s : Act × Mem) : Prop where
  cells : ∀ b' B', getB s'.2 b' = some B' → ∃ b B, σ b' = some b ∧ getB s.2 b = some B ∧ B'.ty = B.ty ∧ trL (es1 σ) B'.cells = some B.cells
  full : ∀ b' b, σ b' = some b → ∃ B', getB s'.2 b' = some B'
  inj : ∀ b b' c, σ b = some c → σ b' = some c → b = b'
  low : ∀ b, b < n0 → (∃ B, getB s.2 b = some B) → σ b = some b
  new : ∀ b' b, σ b' = some b → b < n0 → b' = b
  size : s.1.tmps.size = s'.1.tmps.size
  tmps : ∀ t, s'.1.eval (.tmp t) = poison ∨ es σ (s'.1.eval (.tmp t)) = some (s.1.eval (.tmp t))
  defers : s.1.defers = s'.1.defers
  glob : ∀ g ∈ gl, σ g = some g
theorem es_poison {σ : Ren} {v : Value} (h : es σ v = some poison) : v = poison := by
  unfold es at h
  split at h
  · rename_i cs
    cases hb : trL (es1 σ) cs.toList with
    | none => simp [hb] at h
    | some k => simp [hb, poison] at h
  · split at h
    · simpa using h
    · simp at h
  · rename_i hn1 hn2
    unfold es1 at h
    split at h
    · rename_i a
      cases hb : σ a.block <;> simp [hb, poison] at h
    · rename_i a l c
      cases hb : σ a.block <;> simp [hb, poison] at h
    · exact absurd rfl (hn2 _)
    · split at h
      · simpa using h
      · simp at h
theorem Emb.sim {n0 : Nat} {σ : Ren} {s' s : Act × Mem} (E : Emb n0 gl σ s' s) (hlow : ∀ b c, r₀ b = some c → b < n0) {A : Act} (S : Sim gl r₀ w₀ s.1 s.2 A w r) : Sim gl r₀ w₀ s'.1 s'.2 A w (comp σ r) := by
  refine ⟨⟨fun b' B' hB' => ?_, fun b' c hc => ?_, fun b b' c h1 h2 => ?_⟩, ⟨fun b c hb => ?_, fun b' c hc => ?_⟩, S.fr, S.size.trans E.size, fun t => ?_, S.defers.trans E.defers, fun g hg => ?_⟩
  · obtain ⟨b, B, h1, h2, h3, h4⟩ := E.cells b' B' hB'
    obtain ⟨c, cs, p1, p2, p3⟩ := S.rel.cells b B h2
    exact ⟨c, cs, by simp [comp, h1, p1], esL_comp h4 p2, by rw [h3]; exact p3⟩
  · unfold comp at hc
    cases hb : σ b' with
    | none => simp [hb] at hc
    | some b => exact E.full b' b hb
  · unfold comp at h1 h2
    cases e1 : σ b with
    | none => simp [e1] at h1
    | some x =>
      cases e2 : σ b' with
      | none => simp [e2] at h2
      | some y =>
        simp only [e1, e2, Option.bind_some] at h1 h2
        have := S.rel.inj x y c h1 h2
        subst this
        exact E.inj b b' x e1 e2
  · have h1 := S.ext.1 b c hb
    have h2 := E.low b (hlow b c hb) (S.rel.full b c h1)
    simp [comp, h2, h1]
  · unfold comp at hc
    cases e1 : σ b' with
    | none => simp [e1] at hc
    | some x =>
      simp only [e1, Option.bind_some] at hc
      rcases S.ext.2 x c hc with h | h
      · have := E.new b' x e1 (hlow x c h)
        subst this; exact .inl h
      · exact .inr h
  · rcases E.tmps t with h | h
    · exact .inl h
    · rcases S.tmps t with h2 | h2
      · rw [h2] at h; exact .inl (es_poison h)
      · exact .inr (es_comp h h2)
  · simp [comp, E.glob g hg, S.glob g hg]
theorem SWn.embed {n0 : Nat} {σ : Ren} {s' s : Act × Mem} {c : Code} (hlow : ∀ r₀ w₀, H r₀ w₀ → ∀ b c, r₀ b = some c → b < n0) (E : Emb n0 gl σ s' s) (h : SWn H P gl c s' Q) : SWn H P gl c s Q :=
  fun r₀ w₀ A w r hH S => h r₀ w₀ A w _ hH (E.sim (hlow r₀ w₀ hH) S)
/-- The slice in the slot d, its block b at the place j behind the blocks that stay. -/
def nrR (m : Mem) (j b : Nat) : Ren := fun k => if k < j then (getB m k).map (fun _ => k) else if k = j then some b else none
def fixV (m : Mem) (j : Nat) : Value → Bool
  | .pointer (some a) => decide (a.block < j) && (getB m a.block).isSome
  | .slice (some a) _ _ => decide (a.block < j) && (getB m a.block).isSome
  | .tuple vs => vs.size = 1 || flat (.tuple vs)
  | v => flat v
theorem es1_flat (σ : Ren) (v : Value) (h : flat1 v = true) : es1 σ v = some v := by
  unfold es1
  split
  · simp [flat1] at h
  · simp [flat1] at h
  · rfl
  · simp [h]
theorem fixV_es {m : Mem} {j b : Nat} {v : Value} (h : fixV m j v = true) : es (nrR m j b) v = some v := by
  have hz : ∀ a : Addr, a.block < j → (getB m a.block).isSome = true → nrR m j b a.block = some a.block := by
    intro a h1 h2
    unfold nrR
    rw [if_pos h1]
    obtain ⟨B, hB⟩ := Option.isSome_iff_exists.1 h2
    simp [hB]
  cases v with
  | pointer p =>
    cases p with
    | none => rfl
    | some a =>
      simp only [fixV, Bool.and_eq_true, decide_eq_true_eq] at h
      simp [es, es1, hz a h.1 h.2]
  | slice p l c =>
    cases p with
    | none => rfl
    | some a =>
      simp only [fixV, Bool.and_eq_true, decide_eq_true_eq] at h
      simp [es, es1, hz a h.1 h.2]
  | tuple vs =>
    simp only [fixV] at h
    simp only [es, if_pos h]
  | agg cs =>
    have h' : cs.toList.all flat1 = true := by simpa [fixV, flat, flat2] using h
    have := trL_all (f := es1 (nrR m j b)) (p := flat1) (es1_flat _) h'
    simp [es, this]
  | map p =>
    have h' : flat1 (.map p) = true := h
    exact (es1_flat (nrR m j b) (.map p) h' : es1 _ _ = _)
  | chan p =>
    have h' : flat1 (.chan p) = true := h
    exact (es1_flat (nrR m j b) (.chan p) h' : es1 _ _ = _)
  | _ => first | rfl | (simp [fixV, flat, flat2, flat1] at h; done)
def fixAll (m : Mem) (j d : Nat) (a : Act) : Bool := a.tmps.toList.zipIdx.all fun p => p.2 == d || (!good p.1 || fixV m j p.1)
theorem not_good {v : Value} (h : good v = false) : v = poison := by
  unfold good at h
  split at h
  · rfl
  · simp at h
theorem fixAll_at {m : Mem} {j d : Nat} {a : Act} (h : fixAll m j d a = true) (t : Nat) (ht : t ≠ d) : a.eval (.tmp t) = poison ∨ fixV m j (a.eval (.tmp t)) = true := by
  by_cases hl : t < a.tmps.size
  · have hm : (a.tmps[t], t) ∈ a.tmps.toList.zipIdx := by
      rw [List.mem_zipIdx_iff_getElem?]; simp [hl]
    have := List.all_eq_true.1 h _ hm
    have e : a.eval (.tmp t) = a.tmps[t] := by simp [Act.eval, hl]
    rw [e]
    simp only [Bool.or_eq_true, beq_iff_eq, Bool.not_eq_true'] at this
    rcases this with h1 | h1 | h1
    · exact absurd h1 ht
    · exact .inl (not_good h1)
    · exact .inr h1
  · have e : a.eval (.tmp t) = undef := by simp [Act.eval, Array.getElem?_eq_none (Nat.le_of_not_lt hl)]
    rw [e]; exact .inr rfl
/-- The own slice's block is brought to the place j; the blocks behind are let go. -/
theorem SWn.norm {n0 j b d k cap : Nat} {a : Act} {m : Mem} {cells : List Value} {ty : TypeId} {c : Code} (hlow : ∀ r₀ w₀, H r₀ w₀ → ∀ b c, r₀ b = some c → b < n0) (hn : n0 ≤ j) (hj : j ≤ b)
    (hd : a.eval (.tmp d) = .slice (some ⟨b, 0, none⟩) k cap) (hds : d < a.tmps.size) (hb : getB m b = some ⟨cells, ty⟩) (hcf : cells.all flat1 = true)
    (hkeep : ∀ i B, i < j → getB m i = some B → trL (es1 (nrR m j b)) B.cells = some B.cells) (hfix : fixAll m j d a = true) (hgl : ∀ g ∈ gl, g < j ∧ (getB m g).isSome = true)
    (h : SWn H P gl c (a.put (some d) (.slice (some ⟨j, 0, none⟩) k cap), m.take j ++ [some ⟨cells, ty⟩]) Q) : SWn H P gl c (a, m) Q := by
  have hjm : j ≤ m.length := by have := getB_lt hb; omega
  have htl : (m.take j).length = j := by simp; omega
  have hget : ∀ i, getB (m.take j ++ [some ⟨cells, ty⟩]) i = if i = j then some ⟨cells, ty⟩ else if i < j then getB m i else none := by
    intro i
    rw [getB_snoc, htl]
    split
    · rfl
    · unfold getB
      rw [List.getElem?_take]
      split <;> rfl
  refine SWn.embed hlow (σ := nrR m j b) ⟨?_, ?_, ?_, ?_, ?_, ?_, ?_, ?_, ?_⟩ h
  · intro b' B' hB'
    rw [hget] at hB'
    split at hB'
    · rename_i e
      cases hB'
      exact ⟨b, _, by simp [nrR, e], hb, rfl, trL_all (es1_flat _) hcf⟩
    · split at hB'
      · rename_i e
        exact ⟨b', B', by simp [nrR, e, hB'], hB', rfl, hkeep b' B' e hB'⟩
      · cases hB'
  · intro b' x hx
    rw [hget]
    unfold nrR at hx
    split at hx
    · rename_i e
      rw [if_neg (by omega), if_pos e]
      cases hq : getB m b' with
      | none => simp [hq] at hx
      | some B => exact ⟨B, rfl⟩
    · split at hx
      · rename_i e; rw [if_pos e]; exact ⟨_, rfl⟩
      · cases hx
  · have hs : ∀ i x, nrR m j b i = some x → (i < j ∧ x = i) ∨ (i = j ∧ x = b) := by
      intro i x hx
      unfold nrR at hx
      split at hx
      · rename_i e
        cases hq : getB m i with
        | none => simp [hq] at hx
        | some B => simp only [hq, Option.map_some, Option.some.injEq] at hx; exact .inl ⟨e, hx.symm⟩
      · split at hx
        · rename_i e; simp only [Option.some.injEq] at hx; exact .inr ⟨e, hx.symm⟩
        · cases hx
    intro i i' x h1 h2
    rcases hs i x h1 with ⟨p1, p2⟩ | ⟨p1, p2⟩ <;> rcases hs i' x h2 with ⟨q1, q2⟩ | ⟨q1, q2⟩ <;> omega
  · rintro i hi ⟨B, hB⟩
    simp only at hB
    simp [nrR, show i < j by omega, hB]
  · intro b' x hx hlt
    unfold nrR at hx
    split at hx
    · cases hq : getB m b' with
      | none => simp [hq] at hx
      | some B => simp only [hq, Option.map_some, Option.some.injEq] at hx; exact hx
    · split at hx
      · simp only [Option.some.injEq] at hx; omega
      · cases hx
  · simp [Act.put]
  · intro t
    rw [eval_put]
    by_cases ht : d = t
    · subst ht
      rw [if_pos rfl, if_pos hds]
      refine .inr ?_
      simp only at hd ⊢
      rw [hd]
      simp [es, es1, nrR]
    · rw [if_neg ht]
      rcases fixAll_at hfix t (fun e => ht e.symm) with e | e
      · exact .inl e
      · exact .inr (fixV_es e)
  · simp [Act.put]
  · intro g hg
    obtain ⟨h1, h2⟩ := hgl g hg
    obtain ⟨B, hB⟩ := Option.isSome_iff_exists.1 h2
    simp [nrR, h1, hB]
/-- A function that gives back a slice of its own. -/
theorem callsN_of_SWn {f : FuncId} {fn : Func} {c : Code} {args : List Value} {m : Mem} {n : Nat} {e : TypeId} {R : Nat → List Value → Prop} (hf : P.funcs[f]? = some fn) (hb : fn.body = some c)
    (h : SWn H P gl c (sinit fn args, m) fun ex s => (ex = .normal ∨ ex = .ret) ∧ s.1.defers = [] ∧ ∃ b cap q, sres P fn s = some (.slice (some ⟨b, 0, none⟩) n cap) ∧ getB s.2 b = some ⟨q, ⟨e, (0, 0)⟩⟩ ∧ m.length ≤ b ∧ q.all flat1 = true ∧ R cap q ∧ ∀ i B, getB m i = some B → getB s.2 i = some B)
    {r : Ren} {w : World} {args' : List Value} (hr : Rel r m w) (hH : H r w) (hgl : ∀ g ∈ gl, r g = some g) (ha : trL (tr r) args = some args') :
    Calls P f args'.toArray w fun ex w' => ∃ v', ex = .returned v' ∧ ∃ c cap q, v' = .slice (some ⟨c, 0, none⟩) n cap ∧ w.heap.size ≤ c ∧ w'.heap[c]? = some (.cells q.toArray e (0, 0)) ∧ q.all flat1 = true ∧ R cap q ∧ Below w.heap.size w w' := by
  refine calls_of_wp hf hb ?_
  have S : Sim gl r w (sinit fn args) m { tmps := args'.toArray ++ Array.replicate (fn.ntmps - args'.toArray.size) undef, defers := [] } w r := by
    have hl := trL_len ha
    obtain ⟨h1, h2⟩ := tmps_of (trL_append ha (trL_rep r (fn.ntmps - args.length))) (sinit fn args) { tmps := args'.toArray ++ Array.replicate (fn.ntmps - args'.toArray.size) undef, defers := [] }
      (by simp [sinit]) (by simp [hl])
    exact ⟨hr, ⟨Le.refl _, fun _ _ h => .inl h⟩, Fr.refl _ _, h1, h2, rfl, hgl⟩
  refine wp_mono (h r w _ w r hH S) ?_
  rintro ex A' w' ⟨s, r', ⟨he, hd, b, cap, q, h1, h2, h3, h4, h5, h6⟩, S'⟩
  obtain ⟨v', e1, e2⟩ := sres_run (a := s.1) (m := s.2) S' h1
  obtain ⟨x, hx, rfl⟩ := tr_slice e1
  obtain ⟨c2, cs2, q1, q2, q3⟩ := S'.rel.cells b _ h2
  rw [hx] at q1; cases q1
  rw [trL_all (tr1_flat r') h4] at q2
  cases q2
  have hge : w.heap.size ≤ x := by
    rcases S'.ext.2 b x hx with h0 | h0
    · obtain ⟨B, hB⟩ := hr.full b x h0
      have := getB_lt hB
      omega
    · exact h0
  have hbel : Below w.heap.size w w' := by
    refine ⟨S'.fr.os, S'.fr.tape, S'.fr.output, S'.fr.size, fun k hk => ?_⟩
    by_cases hm : ∃ i, r i = some k
    · obtain ⟨i, hik⟩ := hm
      obtain ⟨B, hB⟩ := hr.full i k hik
      obtain ⟨c1, cs1, p1, p2, p3⟩ := hr.cells i B hB
      rw [hik] at p1; cases p1
      obtain ⟨c3, cs3, z1, z2, z3⟩ := S'.rel.cells i B (h6 i B hB)
      rw [S'.ext.1 _ _ hik] at z1; cases z1
      rw [trL_mono (tr1_more S'.ext.1) p2] at z2
      cases z2
      rw [z3, p3]
    · exact S'.fr.block k hk (fun i hi => hm ⟨i, hi⟩)
  have hdef : A'.defers = [] := S'.defers.trans hd
  rcases he with rfl | rfl
  · exact ⟨hdef, _, e2, _, rfl, x, cap, q, rfl, hge, q3, h4, h5, hbel⟩
  · exact ⟨hdef, _, e2, _, rfl, x, cap, q, rfl, hge, q3, h4, h5, hbel⟩
end Go.Proofs.YtdegfgncdphepaaDoor
