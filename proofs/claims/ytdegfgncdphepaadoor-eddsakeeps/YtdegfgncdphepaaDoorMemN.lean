/- Blocks let go; slices that stay the world's own; codes run one behind the other beneath H; results of functions begun beneath H. -/
import Derived.Test.YtdegfgncdphepaaDoorMemM
namespace Go.Proofs.YtdegfgncdphepaaDoor
open Go Go.RowKit
set_option linter.unusedSimpArgs false
set_option linter.unusedVariables false
variable {H : Ren → World → Prop} {gl : List Nat} {r₀ r : Ren} {w₀ w : World} {P : Program} {X : Cx} {Q : Exit → Act × Mem → Prop}
/-- The blocks of the beginning lie below n0. -/
def Low (n0 : Nat) (r : Ren) : Prop := ∀ b c, r b = some c → b < n0
theorem SWn.forget {c : Code} {a : Act} {m : Mem} (l : List Nat) (h : SWn H P gl c (forgetL a l, m) Q) : SWn H P gl c (a, m) Q :=
  fun r₀ w₀ A w r hH S => h r₀ w₀ A w r hH (Sim.forgetL l S)
theorem es1_flatR (σ : Ren) (v : Value) (h : flatR v = true) : es1 σ v = some v := by
  unfold flatR at h
  split at h
  · rfl
  · exact es1_flat σ v h
theorem getB_take (m : Mem) (j i : Nat) : getB (m.take j) i = if i < j then getB m i else none := by
  unfold getB
  rw [List.getElem?_take]
  split <;> rfl
/-- Cells that name no small block. -/
def memR (m : Mem) : Bool := m.all fun o => match o with
  | some B => B.cells.all flatR
  | none => true
theorem memR_get {m : Mem} (h : memR m = true) {b : Nat} {B : Blk} (hB : getB m b = some B) : B.cells.all flatR = true := by
  have hl := getB_lt hB
  have hm : some B ∈ m := by
    unfold getB at hB
    rw [List.getElem?_eq_getElem hl] at hB
    simp only [Option.getD_some] at hB
    rw [← hB]; exact List.getElem_mem hl
  exact List.all_eq_true.1 h _ hm
theorem memR_app {m m' : Mem} (h : memR m = true) (h' : memR m' = true) : memR (m ++ m') = true := by
  unfold memR at *; rw [List.all_append, h, h']; rfl
theorem memR_one {l : List Value} {ty : BT} (h : l.all flatR = true) : memR [some ⟨l, ty⟩] = true := by
  simp only [memR, List.all_cons, List.all_nil, Bool.and_true]; exact h
theorem memR_flat {m : Mem} (h : flatM m = true) : memR m = true := by
  refine List.all_eq_true.2 fun o ho => ?_
  have := List.all_eq_true.1 h o ho
  cases o with
  | none => rfl
  | some B => exact flatR_of this
def fixA (m : Mem) (j : Nat) (a : Act) : Bool := a.tmps.toList.all fun v => !good v || fixV m j v
theorem fixA_at {m : Mem} {j : Nat} {a : Act} (h : fixA m j a = true) (t : Nat) : a.eval (.tmp t) = poison ∨ fixV m j (a.eval (.tmp t)) = true := by
  by_cases hl : t < a.tmps.size
  · have hm : a.tmps[t] ∈ a.tmps.toList := by simp
    have := List.all_eq_true.1 h _ hm
    have e : a.eval (.tmp t) = a.tmps[t] := by simp [Act.eval, hl]
    rw [e]
    simp only [Bool.or_eq_true, Bool.not_eq_true'] at this
    rcases this with h1 | h1
    · exact .inl (not_good h1)
    · exact .inr h1
  · have e : a.eval (.tmp t) = undef := by simp [Act.eval, Array.getElem?_eq_none (Nat.le_of_not_lt hl)]
    rw [e]; exact .inr rfl
theorem fixV_take {m : Mem} {j : Nat} {v : Value} (h : fixV (m.take j) j v = true) : fixV m j v = true := by
  unfold fixV at h ⊢
  split at h
  · rename_i a
    simp only [Bool.and_eq_true, decide_eq_true_eq] at h ⊢
    refine ⟨h.1, ?_⟩
    have := h.2
    rw [getB_take, if_pos h.1] at this; exact this
  · rename_i a _ _
    simp only [Bool.and_eq_true, decide_eq_true_eq] at h ⊢
    refine ⟨h.1, ?_⟩
    have := h.2
    rw [getB_take, if_pos h.1] at this; exact this
  · exact h
  · exact h
def idR (m : Mem) (j : Nat) : Ren := fun k => if k < j then (getB m k).map (fun _ => k) else none
theorem idR_some {m : Mem} {j k x : Nat} (h : idR m j k = some x) : x = k ∧ k < j ∧ ∃ B, getB m k = some B := by
  unfold idR at h
  split at h
  · rename_i e
    cases hq : getB m k with
    | none => simp [hq] at h
    | some B => simp only [hq, Option.map_some, Option.some.injEq] at h; exact ⟨h.symm, e, B, rfl⟩
  · cases h
theorem fixV_id {m : Mem} {j : Nat} {v : Value} (h : fixV m j v = true) : es (idR m j) v = some v := by
  have hz : ∀ a : Addr, a.block < j → (getB m a.block).isSome = true → idR m j a.block = some a.block := by
    intro a h1 h2
    unfold idR
    rw [if_pos h1]
    obtain ⟨B, hB⟩ := Option.isSome_iff_exists.1 h2
    simp [hB]
  cases v with
  | pointer p =>
    cases p with
    | none => rfl
    | some a =>
      simp only [fixV, Bool.and_eq_true, decide_eq_true_eq] at h
      simp [es, es1, hz a h.1 h.2]
  | slice p l c =>
    cases p with
    | none => rfl
    | some a =>
      simp only [fixV, Bool.and_eq_true, decide_eq_true_eq] at h
      simp [es, es1, hz a h.1 h.2]
  | tuple vs =>
    simp only [fixV] at h
    simp only [es, if_pos h]
  | agg cs =>
    have h' : cs.toList.all flat1 = true := by simpa [fixV, flat, flat2] using h
    have := trL_all (f := es1 (idR m j)) (p := flat1) (es1_flat _) h'
    simp [es, this]
  | map p =>
    have h' : flat1 (.map p) = true := h
    exact (es1_flat (idR m j) (.map p) h' : es1 _ _ = _)
  | chan p =>
    have h' : flat1 (.chan p) = true := h
    exact (es1_flat (idR m j) (.chan p) h' : es1 _ _ = _)
  | _ => first | rfl | (simp [fixV, flat, flat2, flat1] at h; done)
/-- The blocks from the place j on are let go. -/
theorem SWn.trim {n0 j : Nat} {a : Act} {m : Mem} {c : Code} (hlow : ∀ r₀ w₀, H r₀ w₀ → Low n0 r₀) (hn : n0 ≤ j) (hkeep : memR (m.take j) = true) (hfix : fixA (m.take j) j a = true) (hgl : ∀ g ∈ gl, g < j ∧ (getB m g).isSome = true)
    (h : SWn H P gl c (a, m.take j) Q) : SWn H P gl c (a, m) Q := by
  refine SWn.embed hlow (s' := (a, m.take j)) (s := (a, m)) (σ := idR m j) ⟨?_, ?_, ?_, ?_, ?_, rfl, ?_, rfl, ?_⟩ h
  · intro b' B' hB'
    have hr := memR_get hkeep hB'
    rw [getB_take] at hB'
    split at hB'
    · rename_i e
      exact ⟨b', B', by simp [idR, e, hB'], hB', rfl, trL_all (es1_flatR _) hr⟩
    · cases hB'
  · intro b' x hx
    obtain ⟨_, e, B, hB⟩ := idR_some hx
    exact ⟨B, by rw [getB_take, if_pos e]; exact hB⟩
  · intro i i' x h1 h2
    rw [← (idR_some h1).1, ← (idR_some h2).1]
  · rintro i hi ⟨B, hB⟩
    simp only at hB
    simp [idR, show i < j by omega, hB]
  · intro b' x hx hlt
    exact (idR_some hx).1.symm
  · intro t
    rcases fixA_at hfix t with e | e
    · exact .inl e
    · exact .inr (fixV_id (fixV_take e))
  · intro g hg
    obtain ⟨h1, h2⟩ := hgl g hg
    obtain ⟨B, hB⟩ := Option.isSome_iff_exists.1 h2
    simp [idR, h1, hB]
/-- The same to a state that is told: some slots and the blocks from j on are let go. -/
theorem SWn.trimK {n0 : Nat} (j : Nat) (l : List Nat) {s t : Act × Mem} {c : Code} (ht : (forgetL s.1 l, s.2.take j) = t) (hlow : ∀ r₀ w₀, H r₀ w₀ → Low n0 r₀) (hn : n0 ≤ j) (hkeep : memR t.2 = true) (hfix : fixA t.2 j t.1 = true) (hgl : ∀ g ∈ gl, g < j ∧ (getB t.2 g).isSome = true)
    (h : SWn H P gl c t Q) : SWn H P gl c s Q := by
  obtain ⟨a, m⟩ := s
  subst ht
  refine SWn.forget l (SWn.trim hlow hn hkeep hfix (fun g hg => ?_) h)
  obtain ⟨h1, h2⟩ := hgl g hg
  refine ⟨h1, ?_⟩
  rw [getB_take, if_pos h1] at h2; exact h2
/-- The own slice's block is brought to the place j, some slots and all other blocks behind are let go. -/
theorem SWn.normK {n0 : Nat} (j d b k cap : Nat) (l : List Nat) {cells : List Value} {ty : TypeId} {s t : Act × Mem} {c : Code}
    (hd : (forgetL s.1 l).eval (.tmp d) = .slice (some ⟨b, 0, none⟩) k cap) (hds : d < (forgetL s.1 l).tmps.size) (hb : getB s.2 b = some ⟨cells, ty⟩) (hj : j ≤ b) (hcf : cells.all flat1 = true)
    (ht : ((forgetL s.1 l).put (some d) (.slice (some ⟨j, 0, none⟩) k cap), s.2.take j ++ [some ⟨cells, ty⟩]) = t) (hlow : ∀ r₀ w₀, H r₀ w₀ → Low n0 r₀) (hn : n0 ≤ j) (hkeep : memR (s.2.take j) = true) (hfix : fixAll (s.2.take j) j d (forgetL s.1 l) = true) (hgl : ∀ g ∈ gl, g < j ∧ (getB (s.2.take j) g).isSome = true)
    (h : SWn H P gl c t Q) : SWn H P gl c s Q := by
  obtain ⟨a, m⟩ := s
  subst ht
  simp only at *
  refine SWn.forget l (SWn.norm (cells := cells) (ty := ty) (b := b) (j := j) hlow hn hj hd hds hb hcf (fun i B hi hB => ?_) ?_ (fun g hg => ?_) h)
  · exact trL_all (es1_flatR _) (memR_get hkeep (by rw [getB_take, if_pos hi]; exact hB))
  · refine List.all_eq_true.2 fun p hp => ?_
    have := List.all_eq_true.1 hfix p hp
    simp only [Bool.or_eq_true] at this ⊢
    rcases this with h1 | h1 | h1
    · exact .inl h1
    · exact .inr (.inl h1)
    · exact .inr (.inr (fixV_take h1))
  · obtain ⟨h1, h2⟩ := hgl g hg
    refine ⟨h1, ?_⟩
    rw [getB_take, if_pos h1] at h2; exact h2
/-- Codes run one behind the other. -/
theorem sexecLn_sound (hX : X.Ok P) (hm : P.follows .mixedOrders = true) {n : Nat} {rest : Code} {rs : List Prop} (hrs : ∀ p ∈ rs, p) : ∀ (cs : List Code) (qs : List Prop) (s s' : Act × Mem), sexecL P X n cs qs s = some (rs, s') → SWn H P X.gl rest s' Q → SWn H P X.gl (seqs cs rest) s Q
  | [], qs, s, s', h, hq => by simp only [sexecL, Option.some.injEq, Prod.mk.injEq] at h; rw [h.2]; exact hq
  | c :: cs, qs, s, s', h, hq => by
    simp only [sexecL] at h
    split at h
    · rename_i q1 s1 h1
      refine SWn.seq ((SW.n (sexec_sound hX hm hrs n c qs _ s _ _ h1 (sexecL_ob cs _ _ _ _ h))).mono ?_)
      rintro e s2 ⟨rfl, rfl⟩
      exact sexecLn_sound hX hm hrs cs _ _ _ h hq
    · simp at h
theorem SWn.preG (hX : X.Ok P) (hm : P.follows .mixedOrders = true) (hg : X.gl = gl) {n : Nat} {c rest : Code} {cs : List Code} {s s' : Act × Mem} {ps : List Prop} (hc : c = seqs cs rest) (h : sexecL P X n cs [] s = some (ps, s')) (hp : ∀ p ∈ ps, p) (hq : SWn H P gl rest s' Q) : SWn H P gl c s Q := by
  subst hg; rw [hc]; exact sexecLn_sound hX hm hp cs [] s s' h hq
theorem SWn.runG (hX : X.Ok P) (hm : P.follows .mixedOrders = true) (hg : X.gl = gl) {c : Code} {s s' : Act × Mem} {e : Exit} {ps : List Prop} (n : Nat) (h : sexec P X n c [] s = some (ps, e, s')) (hp : ∀ p ∈ ps, p) (hq : Q e s') : SWn H P gl c s Q :=
  (SW.runG hX hm hg n h hp hq).n
/-- A slice of the world's own: its cells, or nil. -/
def WSrc (v : Value) (n : Nat) (news : List Value) (w : World) : Prop :=
  news.length = n ∧ ((∃ c, v = .slice none 0 c ∧ n = 0) ∨ ∃ c o cap, v = .slice (some ⟨c, o, none⟩) n cap ∧ c < w.heap.size ∧ ∀ j u, news[j]? = some u → w.cell? ⟨c, o + j, none⟩ = some u)
/-- None of its cells is in the small memory. -/
def apart (r : Ren) : Value → Prop
  | .slice (some a) n _ => n = 0 ∨ ∀ b : Nat, r b ≠ some a.block
  | _ => True
theorem WSrc.src {v : Value} {n : Nat} {news : List Value} (h : WSrc v n news w) {tx e' : TypeId} (hk : P.underlying tx = some (.slice e')) (hf : news.all flat1 = true) : Go.Src P 1 tx v n news w := by
  obtain ⟨hl, ⟨c, rfl, rfl⟩ | ⟨c, o, cap, rfl, hc, hj⟩⟩ := h
  · rw [List.length_eq_zero_iff.1 hl]
    exact Go.Src.ofNil w hk c
  · refine Go.Src.ofSlice w hk ⟨c, o, none⟩ n cap news (by rw [hl, Nat.mul_one]) (fun j u hu => ?_) (fun u hu => flat1_one (List.all_eq_true.1 hf u hu))
    rw [Addr.add_mid]; exact hj j u hu
theorem WSrc.fr {v : Value} {n : Nat} {news : List Value} (h : WSrc v n news w₀) (ha : apart r₀ v) (hf : Fr r₀ w₀ w) : WSrc v n news w := by
  obtain ⟨hl, ⟨c, rfl, rfl⟩ | ⟨c, o, cap, rfl, hc, hj⟩⟩ := h
  · exact ⟨hl, .inl ⟨c, rfl, rfl⟩⟩
  · refine ⟨hl, .inr ⟨c, o, cap, rfl, Nat.lt_of_lt_of_le hc hf.size, fun j u hu => ?_⟩⟩
    have := hj j u hu
    rcases ha with rfl | ha
    · rw [List.length_eq_zero_iff.1 hl] at hu; cases hu
    have hb := hf.block c hc ha
    simp only [World.cell?] at this ⊢
    rw [hb]; exact this
theorem WSrc.below {v : Value} {n : Nat} {news : List Value} (h : WSrc v n news w₀) (hb : Below w₀.heap.size w₀ w) : WSrc v n news w := by
  obtain ⟨hl, ⟨c, rfl, rfl⟩ | ⟨c, o, cap, rfl, hc, hj⟩⟩ := h
  · exact ⟨hl, .inl ⟨c, rfl, rfl⟩⟩
  · refine ⟨hl, .inr ⟨c, o, cap, rfl, Nat.lt_of_lt_of_le hc hb.size, fun j u hu => ?_⟩⟩
    have := hj j u hu
    simp only [World.cell?] at this ⊢
    rw [hb.block c hc]; exact this
theorem tr_raw {v v' : Value} (h : tr r (raw v) = some v') : v' = v := by
  simp only [raw, tr, List.size_toArray, List.length_singleton, if_true, tr1] at h
  split at h
  · simpa using h.symm
  · simp at h
theorem SrcS.raw {tx e' : TypeId} (hk : P.underlying tx = some (.slice e')) {m : Mem} {v : Value} {n : Nat} {news : List Value} (hf : news.all flat1 = true) (h : ∀ r₀ w₀, H r₀ w₀ → WSrc v n news w₀ ∧ apart r₀ v) : SrcS H P tx m (raw v) n news := by
  refine ⟨hf, fun r₀ w₀ w r hH hfr _ v' hv => ?_⟩
  rw [tr_raw hv]
  obtain ⟨h1, h2⟩ := h r₀ w₀ hH
  exact (h1.fr h2 hfr).src hk hf
/-- A load by what lies at the place. -/
theorem SWL.load {ops : Array Oper} {s : Act × Mem} {l : List Nat} {i : Nat} {o : Oper} {t : TypeId} {x : Operand} {b k : Nat} {v : Value} (ho : ops[i]? = some o) (hg : o.guard = none) (hop : o.op = .load t x) (hx : okX gl s.1.eval x = true) (he : s.1.eval x = .pointer (some ⟨b, k, none⟩)) (hl : sload P t b k s.2 = some v)
    (h : SWL H P gl ops l (s.1.put o.dst v, s.2) Q) : SWL H P gl ops (i :: l) s Q := by
  refine SWL.op ho hg fun r₀ w₀ A w r hH S => ?_
  have h1 := S.eval hx
  rw [he] at h1
  obtain ⟨c, hc, e⟩ := tr_ptr h1
  obtain ⟨v', h2, h3⟩ := load_run S.rel hc hl
  refine ⟨v', w, _, r, ?_, S.put0 h2 o.dst, h⟩
  simp [execOp, hop, e, Instr.loadAt, Instr.sureAddr, h3]
/-- A function's contract from its body's run in the small memory, beneath H: it leaves that memory as it is. -/
theorem calls_of_SWn {f : FuncId} {fn : Func} {c : Code} {args : List Value} {m : Mem} {R : Value → Prop} (hf : P.funcs[f]? = some fn) (hb : fn.body = some c)
    (h : SWn H P gl c (sinit fn args, m) fun e s => (e = .normal ∨ e = .ret) ∧ s.1.defers = [] ∧ ∃ v, sres P fn s = some v ∧ (flat v = true ∨ v = undef) ∧ (∀ i B, getB m i = some B → getB s.2 i = some B) ∧ R v)
    {r : Ren} {w : World} {args' : List Value} (hr : Rel r m w) (hH : H r w) (hgl : ∀ g ∈ gl, r g = some g) (ha : trL (tr r) args = some args') :
    Calls P f args'.toArray w fun e w' => ∃ v, e = .returned v ∧ R v ∧ Below w.heap.size w w' := by
  refine calls_of_wp hf hb ?_
  have S : Sim gl r w (sinit fn args) m { tmps := args'.toArray ++ Array.replicate (fn.ntmps - args'.toArray.size) undef, defers := [] } w r := by
    have hl := trL_len ha
    obtain ⟨h1, h2⟩ := tmps_of (trL_append ha (trL_rep r (fn.ntmps - args.length))) (sinit fn args) { tmps := args'.toArray ++ Array.replicate (fn.ntmps - args'.toArray.size) undef, defers := [] }
      (by simp [sinit]) (by simp [hl])
    exact ⟨hr, ⟨Le.refl _, fun _ _ h => .inl h⟩, Fr.refl _ _, h1, h2, rfl, hgl⟩
  refine wp_mono (h r w _ w r hH S) ?_
  rintro e A' w' ⟨s, r', ⟨he, hd, v, h1, h2, h3, h4⟩, S'⟩
  obtain ⟨v', e1, e2⟩ := sres_run (a := s.1) (m := s.2) S' h1
  have hv : tr r' v = some v := by
    rcases h2 with h2 | rfl
    · exact tr_flat r' v h2
    · exact tr_undef r'
  rw [hv] at e1
  cases e1
  have hbel : Below w.heap.size w w' := by
    refine ⟨S'.fr.os, S'.fr.tape, S'.fr.output, S'.fr.size, fun k hk => ?_⟩
    by_cases hm : ∃ b, r b = some k
    · obtain ⟨b, hbk⟩ := hm
      obtain ⟨B, hB⟩ := hr.full b k hbk
      obtain ⟨c1, cs1, p1, p2, p3⟩ := hr.cells b B hB
      rw [hbk] at p1; cases p1
      obtain ⟨c2, cs2, q1, q2, q3⟩ := S'.rel.cells b B (h3 b B hB)
      rw [S'.ext.1 _ _ hbk] at q1; cases q1
      rw [trL_mono (tr1_more S'.ext.1) p2] at q2
      cases q2
      rw [q3, p3]
    · exact S'.fr.block k hk (fun b e => hm ⟨b, e⟩)
  have hdef : A'.defers = [] := S'.defers.trans hd
  rcases he with rfl | rfl
  · exact ⟨hdef, v, e2, v, rfl, h4, hbel⟩
  · exact ⟨hdef, v, e2, v, rfl, h4, hbel⟩
end Go.Proofs.YtdegfgncdphepaaDoor
