/- A region in whatever order, as RgnS has it; each operation has a relation of its own, and what an operation has yielded need hold only until another one (D) comes. -/
import Derived.Test.YtefaohokmhdplaaDoorProg
import Derived.WalkKit
import Derived.Orders
namespace Go.Proofs.YtefaohokmhdplaaDoor.RD
open Go Go.RowKit
set_option linter.unusedSimpArgs false
set_option linter.unusedVariables false

/-- The slots that a region's operations write. -/
def dsts (ops : Array Oper) : List (Option Tmp) := ops.toList.map (·.dst)
/-- What an operation comes behind: the operation's place and its slot. -/
def preds (ops : Array Oper) (i : Nat) : List (Nat × Option Tmp) :=
  match ops[i]? with
  | none => []
  | some o => (o.after.toList.filter (Region.binds .any)).filterMap fun e => (ops[e.on]?).map fun o => (e.on, o.dst)
/-- What lies in a slot; nothing, where there is none. -/
def ev (a : Act) : Option Tmp → Value
  | some d => a.eval (.tmp d)
  | none => undef
section
variable {P : Program} {ops : Array Oper} {Q : Exit → Act → World → Prop} {φ : Nat → Value → World → Prop} {a0 : Act} {w0 : World} {R0 : World → World → Prop} {R : Nat → World → World → Prop} {D : Nat → Nat}
/-- What is owed for one operation. -/
def Ob (P : Program) (ops : Array Oper) (Q : Exit → Act → World → Prop) (φ : Nat → Value → World → Prop) (a0 : Act) (w0 : World) (R0 : World → World → Prop) (R : Nat → World → World → Prop) (D : Nat → Nat) (i : Nat) : Prop :=
  ∀ a w, R0 w0 w → (∀ t, (dsts ops).contains (some t) = false → a.eval (.tmp t) = a0.eval (.tmp t)) → (∀ p ∈ preds ops i, (D p.1 = i ∨ ops.size ≤ D p.1) → φ p.1 (ev a p.2) w) →
    wpOp P ops Q i (fun a' w' => ∃ v, a' = a.put ((ops[i]?).bind (·.dst)) v ∧ φ i v w' ∧ R i w w') a w
structure Rj (ops : Array Oper) (φ : Nat → Value → World → Prop) (a0 : Act) (w0 : World) (R0 : World → World → Prop) (D : Nat → Nat) (listed : Array Bool) (a : Act) (w : World) : Prop where
  below : R0 w0 w
  lsz : listed.size = ops.size
  closed : ∀ i, listed.getD i false = true → ∀ p ∈ preds ops i, listed.getD p.1 false = true
  defers : a.defers = a0.defers
  size : a.tmps.size = a0.tmps.size
  fix : ∀ t, (dsts ops).contains (some t) = false → a.eval (.tmp t) = a0.eval (.tmp t)
  done : ∀ i o, ops[i]? = some o → listed.getD i false = true → listed.getD (D i) false = false → φ i (ev a o.dst) w
theorem dst_mem {i : Nat} {o : Oper} {d : Tmp} (ho : ops[i]? = some o) (hd : o.dst = some d) : (dsts ops).contains (some d) = true := by
  simp only [dsts, List.contains_iff_mem, List.mem_map]
  exact ⟨o, by simpa using Array.mem_of_getElem? ho, hd⟩
theorem nodup_dst (h : (dsts ops).Nodup) {i j : Nat} {o o' : Oper} {d : Tmp} (ho : ops[i]? = some o) (ho' : ops[j]? = some o') (hd : o.dst = some d) (hd' : o'.dst = some d) : i = j := by
  have h1 : (dsts ops)[i]? = some (some d) := by simp [dsts, ho, hd]
  have h2 : (dsts ops)[j]? = some (some d) := by simp [dsts, ho', hd']
  have hi : i < (dsts ops).length := (List.getElem?_eq_some_iff.1 h1).1
  have hj : j < (dsts ops).length := (List.getElem?_eq_some_iff.1 h2).1
  have g1 := (List.getElem?_eq_some_iff.1 h1).2
  have g2 := (List.getElem?_eq_some_iff.1 h2).2
  have H := List.pairwise_iff_getElem.1 h
  rcases Nat.lt_trichotomy i j with hl | hl | hl
  · exact absurd (g1.trans g2.symm) (H i j hi hj hl)
  · exact hl
  · exact absurd (g2.trans g1.symm) (H j i hj hi hl)
theorem Rj.step (htr : ∀ i a b c, R0 a b → R i b c → R0 a c) (hnd : (dsts ops).Nodup) (hno : ∀ (i : Nat) (o : Oper) (v : Value) (w : World), ops[i]? = some o → o.dst = none → φ i v w → φ i undef w) (hst : ∀ i j v w w', i ≠ j → D i ≠ j → (preds ops i).any (fun p => p.1 == j) = false → φ i v w → R j w w' → φ i v w') (hsz : ∀ (i : Nat) (o : Oper) (d : Tmp), ops[i]? = some o → o.dst = some d → d < a0.tmps.size)
    {listed : Array Bool} {a : Act} {w w' : World} {i : Nat} {o : Oper} {v : Value} (h : Rj ops φ a0 w0 R0 D listed a w) (ho : ops[i]? = some o) (hnl : listed.getD i false = false) (hall : ∀ p ∈ preds ops i, listed.getD p.1 false = true) (hv : φ i v w') (hb : R i w w') :
    Rj ops φ a0 w0 R0 D (listed.setIfInBounds i true) (a.put o.dst v) w' := by
  have hli : i < listed.size := by rw [h.lsz]; exact (Array.getElem?_eq_some_iff.1 ho).1
  have hset : ∀ k, listed.getD k false = true → (listed.setIfInBounds i true).getD k false = true := by
    intro k hk
    by_cases e : k = i
    · subst e; simp [hli]
    · rw [getD_set_ne false (Ne.symm e)]; exact hk
  refine ⟨htr _ _ _ _ h.below hb, by simp [h.lsz], fun k hk p hp => ?_, ?_, ?_, fun t ht => ?_, fun j oj hj hl hdd => ?_⟩
  · by_cases e : k = i
    · subst e; exact hset _ (hall p hp)
    · rw [getD_set_ne false (Ne.symm e)] at hk; exact hset _ (h.closed k hk p hp)
  · cases hx : o.dst <;> simp [Act.put, h.defers]
  · cases hx : o.dst <;> simp [Act.put, h.size]
  · rw [Act.eval_put (fun d hd e => ?_)]
    · exact h.fix t ht
    · cases e
      rw [dst_mem ho hd] at ht; cases ht
  · by_cases e : j = i
    · subst e
      rw [ho] at hj; cases hj
      cases hd : o.dst with
      | none => exact hno j o v w' ho hd hv
      | some d =>
        have hlt : d < a.tmps.size := by rw [h.size]; exact hsz j o d ho hd
        have : ev (a.put (some d) v) (some d) = v := by simp [ev, Act.put, Act.eval, hlt]
        rw [this]; exact hv
    · have hne : D j ≠ i := by intro e'; rw [e'] at hdd; simp [hli] at hdd
      have hlj : listed.getD j false = true := by rw [getD_set_ne false (Ne.symm e)] at hl; exact hl
      have hnp : (preds ops j).any (fun p => p.1 == i) = false := by
        rw [List.any_eq_false]
        intro p hp he
        have := h.closed j hlj p hp
        rw [eq_of_beq he, hnl] at this; cases this
      have hq := hst j i _ _ _ e hne hnp (h.done j oj hj (by rw [getD_set_ne false (Ne.symm e)] at hl; exact hl) (by rw [getD_set_ne false (Ne.symm hne)] at hdd; exact hdd)) hb
      cases hd : oj.dst with
      | none => rw [hd] at hq; exact hq
      | some d =>
        rw [hd] at hq
        have : ev (a.put o.dst v) (some d) = ev a (some d) := by
          show (a.put o.dst v).eval (.tmp d) = a.eval (.tmp d)
          rw [Act.eval_put (fun d' hd' e' => ?_)]
          cases e'
          exact e (nodup_dst hnd hj ho hd hd')
        rw [this]; exact hq
theorem getD_past {l : Array Bool} {n : Nat} (h : l.size ≤ n) : l.getD n false = false := by simp [Array.getD_eq_getD_getElem?, Array.getElem?_eq_none h]
theorem all_listed (hback : ∀ (i : Nat) (o : Oper), ops[i]? = some o → ∀ e ∈ o.after, Region.binds .any e = true → e.on < i) {listed : Array Bool} (hl : listed.size = ops.size) (hr : Region.ready .any ops listed = []) :
    ∀ (n i : Nat), i < n → i < ops.size → listed.getD i false = true := by
  intro n
  induction n with
  | zero => intro i hi; omega
  | succ n ih =>
    intro i hi hlt
    cases hb : listed.getD i true with
    | true => simpa [hl, hlt] using hb
    | false =>
      have : i ∈ Region.ready .any ops listed := mem_ready.2 ⟨hb, ops[i], by simp [hlt], fun e he hbe => by
        have := hback i ops[i] (by simp [hlt]) e he hbe
        exact ih e.on (by omega) (by omega)⟩
      rw [hr] at this; cases this
theorem rgn_loop (htr : ∀ i a b c, R0 a b → R i b c → R0 a c) (hnd : (dsts ops).Nodup) (hno : ∀ (i : Nat) (o : Oper) (v : Value) (w : World), ops[i]? = some o → o.dst = none → φ i v w → φ i undef w) (hst : ∀ i j v w w', i ≠ j → D i ≠ j → (preds ops i).any (fun p => p.1 == j) = false → φ i v w → R j w w' → φ i v w') (hsz : ∀ (i : Nat) (o : Oper) (d : Tmp), ops[i]? = some o → o.dst = some d → d < a0.tmps.size)
    (hob : ∀ i, i < ops.size → Ob P ops Q φ a0 w0 R0 R D i)
    (hback : ∀ (i : Nat) (o : Oper), ops[i]? = some o → ∀ e ∈ o.after, Region.binds .any e = true → e.on < i)
    (hfin : ∀ a w, a.tmps.size = a0.tmps.size → a.defers = a0.defers → R0 w0 w → (∀ t, (dsts ops).contains (some t) = false → a.eval (.tmp t) = a0.eval (.tmp t)) → (∀ (i : Nat) (o : Oper), ops[i]? = some o → ops.size ≤ D i → φ i (ev a o.dst) w) → Q .normal a w) :
    ∀ (n : Nat) (listed : Array Bool) (a : Act) (w : World), listed.size = ops.size → n = (List.range ops.size).countP (fun i => !listed.getD i true) → Rj ops φ a0 w0 R0 D listed a w → wpAny P .any ops Q n listed a w := by
  intro n
  induction n with
  | zero =>
    intro listed a w hl hn h
    have hr : Region.ready .any ops listed = [] := by
      rw [List.eq_nil_iff_forall_not_mem]
      intro i hi
      obtain ⟨h0, o, ho, _⟩ := mem_ready.1 hi
      have := (List.countP_eq_zero.1 hn.symm) i (List.mem_range.2 (Array.getElem?_eq_some_iff.1 ho).1)
      rw [h0] at this; simp at this
    exact ⟨hr, hfin a w h.size h.defers h.below h.fix (fun i o ho hD => h.done i o ho (all_listed hback hl hr (i + 1) i (Nat.lt_succ_self i) (Array.getElem?_eq_some_iff.1 ho).1) (getD_past (by rw [hl]; exact hD)))⟩
  | succ n ih =>
    intro listed a w hl hn h
    refine ⟨fun hr => hfin a w h.size h.defers h.below h.fix (fun i o ho hD => h.done i o ho (all_listed hback hl hr (i + 1) i (Nat.lt_succ_self i) (Array.getElem?_eq_some_iff.1 ho).1) (getD_past (by rw [hl]; exact hD))), fun i hi => ?_⟩
    obtain ⟨h0, o, ho, hall⟩ := mem_ready.1 hi
    have hlt : i < ops.size := (Array.getElem?_eq_some_iff.1 ho).1
    have hnl' : listed.getD i false = false := by
      simp only [Array.getD_eq_getD_getElem?] at h0 ⊢
      cases hx : listed[i]? with
      | none => rfl
      | some b => rw [hx] at h0; exact h0
    have hall' : ∀ p ∈ preds ops i, listed.getD p.1 false = true := by
      intro p hp
      unfold preds at hp
      rw [ho] at hp
      simp only [List.mem_filterMap, List.mem_filter] at hp
      obtain ⟨e, ⟨he, hb⟩, hx⟩ := hp
      cases hoe : ops[e.on]? with
      | none => rw [hoe] at hx; simp at hx
      | some oe =>
        rw [hoe] at hx
        simp only [Option.map_some, Option.some.injEq] at hx
        subst hx
        exact hall e (by simpa using he) hb
    refine wpOp_mono ?_ (hob i hlt a w h.below h.fix ?_)
    · rintro a' w' ⟨v, rfl, hv, hb⟩
      rw [ho]
      refine ih _ _ _ (by simp [hl]) ?_ (h.step htr hnd hno hst hsz ho hnl' hall' hv hb)
      have hc : ∀ (l : List Nat), l.Nodup → i ∈ l → l.countP (fun j => !listed.getD j true) = l.countP (fun j => !(listed.setIfInBounds i true).getD j true) + 1 := by
        intro l
        induction l with
        | nil => intro _ hm; cases hm
        | cons x l ihl =>
          intro hnd' hm
          obtain ⟨hx, hl'⟩ := List.nodup_cons.1 hnd'
          rw [List.countP_cons, List.countP_cons]
          by_cases e : x = i
          · subst e
            have e1 : (listed.setIfInBounds x true).getD x true = true := by simp [hl, hlt]
            have e2 : l.countP (fun j => !listed.getD j true) = l.countP (fun j => !(listed.setIfInBounds x true).getD j true) :=
              List.countP_congr (fun j hj => by rw [getD_set_ne true (fun (e : x = j) => hx (e ▸ hj))])
            rw [h0, e1, e2]; rfl
          · have hm' : i ∈ l := by rcases List.mem_cons.1 hm with h | h; exact absurd h.symm e; exact h
            rw [ihl hl' hm', getD_set_ne true (Ne.symm e)]
            omega
      have := hc (List.range ops.size) List.nodup_range (List.mem_range.2 hlt)
      omega
    · intro p hp hD
      unfold preds at hp
      rw [ho] at hp
      simp only [List.mem_filterMap, List.mem_filter] at hp
      obtain ⟨e, ⟨he, hb⟩, hx⟩ := hp
      cases hoe : ops[e.on]? with
      | none => rw [hoe] at hx; simp at hx
      | some oe =>
        rw [hoe] at hx
        simp only [Option.map_some, Option.some.injEq] at hx
        subst hx
        refine h.done e.on oe hoe (hall e (by simpa using he) hb) ?_
        rcases hD with hD | hD
        · rw [hD]; exact hnl'
        · exact getD_past (by rw [hl]; exact hD)
/-- The obligations, one behind the other. -/
def Obs (f : Nat → Prop) : Nat → Nat → Prop
  | _, 0 => True
  | k, n + 1 => f k ∧ Obs f (k + 1) n
theorem Obs.get {f : Nat → Prop} : ∀ {n k : Nat}, Obs f k n → ∀ i, k ≤ i → i < k + n → f i
  | 0, k, _, i, h1, h2 => by omega
  | n + 1, k, h, i, h1, h2 => by
    by_cases e : i = k
    · subst e; exact h.1
    · exact Obs.get h.2 i (by omega) (by omega)
def szB (ops : Array Oper) (n : Nat) : Bool := ops.toList.all fun o => match o.dst with | some d => decide (d < n) | none => true
def backB (ops : Array Oper) : Bool := (List.range ops.size).all fun i => match ops[i]? with | some o => o.after.toList.all (fun e => !Region.binds .any e || decide (e.on < i)) | none => true
theorem wp_rgn {id : Nat} (φ : Nat → Value → World → Prop) (R0 : World → World → Prop) (R : Nat → World → World → Prop) (D : Nat → Nat) (hdr : R0 w0 { w0 with drawn := w0.drawn + 1 }) (htr : ∀ i a b c, R0 a b → R i b c → R0 a c) (hm : P.follows .mixedOrders = true) (hnd : (dsts ops).Nodup) (hsz : szB ops a0.tmps.size = true) (hbk : backB ops = true)
    (hno : ∀ (i : Nat) (o : Oper) (v : Value) (w : World), ops[i]? = some o → o.dst = none → φ i v w → φ i undef w) (hst : ∀ i j v w w', i ≠ j → D i ≠ j → (preds ops i).any (fun p => p.1 == j) = false → φ i v w → R j w w' → φ i v w') (hob : Obs (Ob P ops Q φ a0 w0 R0 R D) 0 ops.size)
    (hfin : ∀ a w, a.tmps.size = a0.tmps.size → a.defers = a0.defers → R0 w0 w → (∀ t, (dsts ops).contains (some t) = false → a.eval (.tmp t) = a0.eval (.tmp t)) → (∀ (i : Nat) (o : Oper), ops[i]? = some o → ops.size ≤ D i → φ i (ev a o.dst) w) → Q .normal a w) :
    (Code.region id ops true).wp P Q a0 w0 := by
  refine wp_region_any hm (rgn_loop (a0 := a0) (w0 := w0) htr hnd hno hst ?_ (fun i hi => hob.get i (Nat.zero_le _) (by omega)) ?_ hfin _ _ _ _ (by simp) ?_ ?_)
  · intro i o d ho hd
    have := List.all_eq_true.1 hsz o (by simpa using Array.mem_of_getElem? ho)
    rw [hd] at this; exact of_decide_eq_true this
  · intro i o ho e he hb
    have := List.all_eq_true.1 hbk i (List.mem_range.2 (Array.getElem?_eq_some_iff.1 ho).1)
    rw [ho] at this
    have := List.all_eq_true.1 this e (by simpa using he)
    rw [hb] at this; exact of_decide_eq_true (by simpa using this)
  · rw [List.countP_eq_length.2 ?_]
    · simp
    · intro i hi
      have := List.mem_range.1 hi
      simp [this]
  · have hno' : ∀ i, (Array.replicate ops.size false).getD i false = true → False := by
      intro i hi
      simp only [Array.getD_eq_getD_getElem?, Array.getElem?_replicate] at hi
      split at hi <;> simp at hi
    exact ⟨hdr, by simp, fun i hl => (hno' i (by simpa using hl)).elim, rfl, rfl, fun _ _ => rfl, fun i o ho hl _ => (hno' i (by simpa using hl)).elim⟩
/-- An operation that only yields a value. -/
theorem ob_val {i : Nat} {o : Oper} {v : Value} {a : Act} {w : World} (ho : ops[i]? = some o) (hw : Region.wanted o (yielded ops a.tmps) = true) (hr : ∀ ev : Operand → Value, (∀ x, ev x = a.eval x) → (∀ c, ev (.const c) = c) → (execOp ev o).run P w = .ok (.value v) w) (hv : φ i v w) (hrf : R i w w) :
    wpOp P ops Q i (fun a' w' => ∃ v, a' = a.put ((ops[i]?).bind (·.dst)) v ∧ φ i v w' ∧ R i w w') a w := by
  unfold wpOp
  simp only [ho, hw, if_true]
  refine .inl ?_
  unfold Oper.wp
  rw [hr a.eval (fun _ => rfl) (fun _ => rfl)]
  exact ⟨v, rfl, hv, hrf⟩
/-- An operation that makes memory. -/
theorem ob_run {i : Nat} {o : Oper} {v : Value} {a : Act} {w w' : World} (ho : ops[i]? = some o) (hw : Region.wanted o (yielded ops a.tmps) = true) (hr : ∀ ev : Operand → Value, (∀ x, ev x = a.eval x) → (∀ c, ev (.const c) = c) → (execOp ev o).run P w = .ok (.value v) w') (hv : φ i v w') (hR : R i w w') :
    wpOp P ops Q i (fun a' w' => ∃ v, a' = a.put ((ops[i]?).bind (·.dst)) v ∧ φ i v w' ∧ R i w w') a w := by
  unfold wpOp
  simp only [ho, hw, if_true]
  refine .inl ?_
  unfold Oper.wp
  rw [hr a.eval (fun _ => rfl) (fun _ => rfl)]
  exact ⟨v, rfl, hv, hR⟩
/-- By a law for lists of operations. -/
theorem ob_list {i : Nat} {o : Oper} {a : Act} {w : World} {Y : Act → World → Prop} (ho : ops[i]? = some o) (hw : Region.wanted o (yielded ops a.tmps) = true)
    (h : wpList P ops (fun e a w => match e with | .normal => Y a w | e => Q e a w) [o] a w) : wpOp P ops Q i Y a w := by
  unfold wpOp
  unfold wpList at h
  simp only [hw, if_true] at h
  simp only [ho, hw, if_true]
  rcases h with h | ⟨h1, h2⟩
  · refine .inl ?_
    unfold Oper.wp at h ⊢
    generalize (execOp a.eval o).run P w = r at *
    cases r with
    | ok n w' =>
      cases n <;> simp only [Oper.upon] at h ⊢ <;>
        first
          | exact h
          | exact Calls.mono h (fun e w'' he => by cases e <;> exact he)
          | exact Rows.mono h (fun _ _ he => he)
    | halt x w' => cases x <;> simp only [Oper.upon] at h ⊢ <;> exact h
  · exact .inr ⟨h1, h2⟩
/-- A call. -/
theorem ob_call {i : Nat} {o : Oper} {a : Act} {w : World} {f : FuncId} {args : Array Value} (ho : ops[i]? = some o) (hw : Region.wanted o (yielded ops a.tmps) = true) (hr : ∀ ev : Operand → Value, (∀ x, ev x = a.eval x) → (∀ c, ev (.const c) = c) → (execOp ev o).run P w = .ok (.enter f args) w)
    (hc : Calls P f args w fun e w' => ∃ v, e = .returned v ∧ φ i v w' ∧ R i w w') :
    wpOp P ops Q i (fun a' w' => ∃ v, a' = a.put ((ops[i]?).bind (·.dst)) v ∧ φ i v w' ∧ R i w w') a w := by
  unfold wpOp
  simp only [ho, hw, if_true]
  refine .inl ?_
  unfold Oper.wp
  rw [hr a.eval (fun _ => rfl) (fun _ => rfl)]
  refine Calls.mono hc fun e w' ⟨v, he, h1, h2⟩ => ?_
  subst he
  exact ⟨v, rfl, h1, h2⟩
theorem wanted_none {o : Oper} {a : Act} (h : o.guard = none) : Region.wanted o (yielded ops a.tmps) = true := by
  unfold Region.wanted; rw [h]
theorem wanted_some {o og : Oper} {a : Act} {g d : Nat} {b : Bool} (h : o.guard = some (g, b)) (hg : ops[g]? = some og) (hd : og.dst = some d) (he : a.eval (.tmp d) = .bool b) : Region.wanted o (yielded ops a.tmps) = true := by
  have hy : yielded ops a.tmps g = some b := by
    unfold yielded
    rw [hg]
    simp only [Option.bind_some, hd]
    simp only [Act.eval, Array.getD_eq_getD_getElem?] at he
    cases hx : a.tmps[d]? with
    | none => rw [hx] at he; simp [undef] at he
    | some x => rw [hx] at he; simp at he; rw [he]
  unfold Region.wanted
  rw [h]
  simp [hy]
theorem hpD {a : Act} {w : World} {i : Nat} (hp : ∀ p ∈ preds ops i, (D p.1 = i ∨ ops.size ≤ D p.1) → φ p.1 (ev a p.2) w) (k d : Nat) (h : (preds ops i).contains (k, some d) = true) (hD : D k = i ∨ ops.size ≤ D k) : φ k (a.eval (.tmp d)) w :=
  hp (k, some d) (List.contains_iff_mem.1 h) hD
theorem act_of {a : Act} {l : List Value} (hs : a.tmps.size = l.length) (hd : a.defers = []) (h : Obs (fun i => a.eval (.tmp i) = l.getD i undef) 0 l.length) : a = ⟨l.toArray, []⟩ := by
  obtain ⟨t, df⟩ := a
  simp only at hs hd
  subst hd
  congr 1
  apply Array.ext
  · simpa using hs
  · intro i h1 h2
    have h2' : i < l.length := by simpa using h2
    have := h.get i (Nat.zero_le _) (by omega)
    simp only [Act.eval, Array.getD_eq_getD_getElem?, List.getD_eq_getElem?_getD] at this
    rw [Array.getElem?_eq_getElem h1, List.getElem?_eq_getElem h2'] at this
    simpa using this
end
end Go.Proofs.YtefaohokmhdplaaDoor.RD
