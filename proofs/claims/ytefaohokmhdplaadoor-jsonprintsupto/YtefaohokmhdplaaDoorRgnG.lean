/- A region in whatever order, with an invariant of one's own over what is done, what it has yielded, and the world. -/
import Derived.Test.YtefaohokmhdplaaDoorRgnU
namespace Go.Proofs.YtefaohokmhdplaaDoor.RG
open Go Go.RowKit RU
set_option linter.unusedSimpArgs false
set_option linter.unusedVariables false

def setd (d : Nat → Bool) (i : Nat) : Nat → Bool := fun j => if j = i then true else d j
def updV (V : Nat → Value) (i : Nat) (v : Value) : Nat → Value := fun j => if j = i then v else V j
section
variable {P : Program} {ops : Array Oper} {Q : Exit → Act → World → Prop} {a0 : Act} {I : (Nat → Bool) → (Nat → Value) → World → Prop}
/-- What is owed for one operation. -/
def Ob (P : Program) (ops : Array Oper) (Q : Exit → Act → World → Prop) (a0 : Act) (I : (Nat → Bool) → (Nat → Value) → World → Prop) (i : Nat) : Prop :=
  ∀ a w d V, I d V w → d i = false → (∀ p, (px ops i).contains p = true → d p = true) → (∀ j, (px ops j).contains i = true → d j = false) → (∀ t, RU.early ops i t = true → a.eval (.tmp t) = a0.eval (.tmp t)) → (∀ p t, predB ops i p t = true → a.eval (.tmp t) = V p) →
    wpOp P ops Q i (fun a' w' => ∃ v, a' = a.put ((ops[i]?).bind (·.dst)) v ∧ I (setd d i) (updV V i v) w') a w
structure Rg (ops : Array Oper) (a0 : Act) (I : (Nat → Bool) → (Nat → Value) → World → Prop) (listed : Array Bool) (a : Act) (w : World) (V : Nat → Value) : Prop where
  om : I (fun i => listed.getD i false) V w
  defers : a.defers = a0.defers
  size : a.tmps.size = a0.tmps.size
  fix : ∀ t, (dsts ops).contains t = false → a.eval (.tmp t) = a0.eval (.tmp t)
  unw : ∀ t, (∀ (j : Nat) (o : Oper), ops[j]? = some o → o.dst = some t → listed.getD j false = false) → a.eval (.tmp t) = a0.eval (.tmp t)
  closed : ∀ i, listed.getD i false = true → ∀ p ∈ px ops i, listed.getD p false = true
  done : ∀ i o d, ops[i]? = some o → o.dst = some d → listed.getD i false = true → a.eval (.tmp d) = V i
theorem predB_use {i p t : Nat} (h : predB ops i p t = true) : p ∈ px ops i ∧ ∃ o, ops[p]? = some o ∧ o.dst = some t := by
  unfold predB at h
  cases ho : ops[p]? with
  | none => rw [ho] at h; simp at h
  | some o =>
    rw [ho] at h
    simp only [Bool.and_eq_true, List.contains_iff_mem, beq_iff_eq] at h
    exact ⟨h.1, o, rfl, h.2⟩
theorem step (hnd : (dsts ops).Nodup) (hsz : ∀ (i : Nat) (o : Oper) (d : Tmp), ops[i]? = some o → o.dst = some d → d < a0.tmps.size)
    {listed : Array Bool} {a : Act} {w : World} {V : Nat → Value} {i : Nat} {o : Oper} (h : Rg ops a0 I listed a w V) (hl : listed.size = ops.size) (ho : ops[i]? = some o) (h0 : listed.getD i false = false) (hall : ∀ p ∈ px ops i, listed.getD p false = true)
    (hob : Ob P ops Q a0 I i) : wpOp P ops Q i (fun a' w' => ∃ V', Rg ops a0 I (listed.setIfInBounds i true) a' w' V') a w := by
  have hlt : i < ops.size := (Array.getElem?_eq_some_iff.1 ho).1
  have hback : ∀ j, i ∈ px ops j → listed.getD j false = false := fun j hj => by
    cases hlj : listed.getD j false with
    | false => rfl
    | true => have := h.closed j hlj i hj; rw [h0] at this; cases this
  have hear : ∀ t, RU.early ops i t = true → a.eval (.tmp t) = a0.eval (.tmp t) := by
    intro t ht
    refine h.unw t (fun j oj hj hd => ?_)
    have h1 := List.all_eq_true.1 ht j (List.mem_range.2 (Array.getElem?_eq_some_iff.1 hj).1)
    rw [hj] at h1
    simp only [hd, beq_self_eq_true, Bool.not_true, Bool.false_or] at h1
    exact hback j (by simpa using h1)
  have hq := hob a w _ V h.om h0 (fun p hp => hall p (by simpa using hp)) (fun j hj => hback j (by simpa using hj)) hear (fun p t hp => by
    obtain ⟨h1, o', h2, h3⟩ := predB_use hp
    exact h.done p o' t h2 h3 (hall p h1))
  have hget : ∀ j, (listed.setIfInBounds i true).getD j false = if j = i then true else listed.getD j false := by
    intro j
    split
    · rename_i e; subst e; simp [hl, hlt]
    · rename_i e; exact getD_set_ne false (Ne.symm e)
  refine wpOp_mono ?_ hq
  rintro a' w' ⟨v, rfl, hI⟩
  rw [ho]
  refine ⟨updV V i v, ⟨?_, ?_, ?_, ?_, ?_, ?_, ?_⟩⟩
  · have e : (fun j => (listed.setIfInBounds i true).getD j false) = setd (fun j => listed.getD j false) i := funext hget
    rw [e]; exact hI
  · show (a.put o.dst v).defers = _
    cases hx : o.dst <;> simp [Act.put, h.defers]
  · show (a.put o.dst v).tmps.size = _
    cases hx : o.dst <;> simp [Act.put, h.size]
  · intro t ht
    show (a.put o.dst v).eval (.tmp t) = _
    rw [Act.eval_put (fun d hd e => ?_)]
    · exact h.fix t ht
    · cases e; rw [dst_mem ho hd] at ht; cases ht
  · intro t ht
    have hne : o.dst ≠ some t := fun e => by
      have := ht i o ho e
      rw [hget, if_pos rfl] at this; cases this
    show (a.put o.dst v).eval (.tmp t) = _
    rw [Act.eval_put (fun d hd e => by cases e; exact hne hd)]
    refine h.unw t (fun j oj hj hd => ?_)
    have := ht j oj hj hd
    rw [hget] at this
    split at this
    · cases this
    · exact this
  · intro j hj p hp
    rw [hget] at hj ⊢
    split
    · rfl
    · split at hj
      · rename_i e'; subst e'; exact hall p hp
      · exact h.closed j hj p hp
  · intro j oj d hj hd hlj
    show (a.put o.dst v).eval (.tmp d) = _
    rw [put_eval hnd hsz h.size ho hj hd]
    unfold updV
    split
    · rfl
    · rename_i e
      rw [hget, if_neg e] at hlj
      exact h.done j oj d hj hd hlj
theorem rgn_loop (hnd : (dsts ops).Nodup) (hsz : ∀ (i : Nat) (o : Oper) (d : Tmp), ops[i]? = some o → o.dst = some d → d < a0.tmps.size)
    (hob : ∀ i, i < ops.size → Ob P ops Q a0 I i)
    (hback : ∀ (i : Nat) (o : Oper), ops[i]? = some o → ∀ e ∈ o.after, Region.binds .any e = true → e.on < i)
    (hfin : ∀ a w d V, a.tmps.size = a0.tmps.size → a.defers = a0.defers → (∀ t, (dsts ops).contains t = false → a.eval (.tmp t) = a0.eval (.tmp t)) → (∀ i, i < ops.size → d i = true) → I d V w → (∀ (i : Nat) (o : Oper) (t : Tmp), ops[i]? = some o → o.dst = some t → a.eval (.tmp t) = V i) → Q .normal a w) :
    ∀ (n : Nat) (listed : Array Bool) (a : Act) (w : World), listed.size = ops.size → n = (List.range ops.size).countP (fun i => !listed.getD i true) → (∃ V, Rg ops a0 I listed a w V) → wpAny P .any ops Q n listed a w := by
  have hend : ∀ (listed : Array Bool) (a : Act) (w : World), listed.size = ops.size → (∃ V, Rg ops a0 I listed a w V) → Region.ready .any ops listed = [] → Q .normal a w := by
    intro listed a w hl ⟨V, h⟩ hr
    have hal : ∀ i, i < ops.size → listed.getD i false = true := fun i hi => all_listed hback hl hr (i + 1) i (Nat.lt_succ_self i) hi
    exact hfin a w _ V h.size h.defers h.fix hal h.om (fun i o d ho hd => h.done i o d ho hd (hal i (Array.getElem?_eq_some_iff.1 ho).1))
  intro n
  induction n with
  | zero =>
    intro listed a w hl hn h
    have hr : Region.ready .any ops listed = [] := by
      rw [List.eq_nil_iff_forall_not_mem]
      intro i hi
      obtain ⟨h0, o, ho, _⟩ := mem_ready.1 hi
      have := (List.countP_eq_zero.1 hn.symm) i (List.mem_range.2 (Array.getElem?_eq_some_iff.1 ho).1)
      rw [h0] at this; simp at this
    exact ⟨hr, hend listed a w hl h hr⟩
  | succ n ih =>
    intro listed a w hl hn h
    refine ⟨fun hr => hend listed a w hl h hr, fun i hi => ?_⟩
    obtain ⟨h0, o, ho, hall⟩ := mem_ready.1 hi
    have hlt : i < ops.size := (Array.getElem?_eq_some_iff.1 ho).1
    obtain ⟨V, h⟩ := h
    refine wpOp_mono ?_ (step hnd hsz h hl ho (by simpa [hl, hlt] using h0) ?_ (hob i hlt))
    · rintro a' w' hR
      refine ih _ _ _ (by simp [hl]) ?_ hR
      have hc : ∀ (l : List Nat), l.Nodup → i ∈ l → l.countP (fun j => !listed.getD j true) = l.countP (fun j => !(listed.setIfInBounds i true).getD j true) + 1 := by
        intro l
        induction l with
        | nil => intro _ hm; cases hm
        | cons x l ihl =>
          intro hnd' hm
          obtain ⟨hx, hl'⟩ := List.nodup_cons.1 hnd'
          rw [List.countP_cons, List.countP_cons]
          by_cases e : x = i
          · subst e
            have e1 : (listed.setIfInBounds x true).getD x true = true := by simp [hl, hlt]
            have e2 : l.countP (fun j => !listed.getD j true) = l.countP (fun j => !(listed.setIfInBounds x true).getD j true) :=
              List.countP_congr (fun j hj => by rw [getD_set_ne true (fun (e : x = j) => hx (e ▸ hj))])
            rw [h0, e1, e2]; rfl
          · have hm' : i ∈ l := by rcases List.mem_cons.1 hm with h | h; exact absurd h.symm e; exact h
            rw [ihl hl' hm', getD_set_ne true (Ne.symm e)]
            omega
      have := hc (List.range ops.size) List.nodup_range (List.mem_range.2 hlt)
      omega
    · intro p hp
      unfold px at hp
      rw [ho] at hp
      simp only [List.mem_map, List.mem_filter] at hp
      obtain ⟨e, ⟨he, hb⟩, rfl⟩ := hp
      exact hall e (by simpa using he) hb
/-- All that a program can look up. -/
def okG (ops : Array Oper) (n : Nat) : Bool := decide (dsts ops).Nodup && (szB ops n && backB ops)
theorem wp_rgn {id : Nat} {w0 : World} (I : (Nat → Bool) → (Nat → Value) → World → Prop) (hm : P.follows .mixedOrders = true) (hok : okG ops a0.tmps.size = true)
    (hst : I (fun _ => false) (fun _ => undef) { w0 with drawn := w0.drawn + 1 }) (hob : Obs (Ob P ops Q a0 I) 0 ops.size)
    (hfin : ∀ a w d V, a.tmps.size = a0.tmps.size → a.defers = a0.defers → (∀ t, (dsts ops).contains t = false → a.eval (.tmp t) = a0.eval (.tmp t)) → (∀ i, i < ops.size → d i = true) → I d V w → (∀ (i : Nat) (o : Oper) (t : Tmp), ops[i]? = some o → o.dst = some t → a.eval (.tmp t) = V i) → Q .normal a w) :
    (Code.region id ops true).wp P Q a0 w0 := by
  unfold okG at hok
  simp only [Bool.and_eq_true, decide_eq_true_eq] at hok
  obtain ⟨hnd, hsz, hbk⟩ := hok
  refine wp_region_any hm (rgn_loop (a0 := a0) (I := I) hnd ?_ (fun i hi => hob.get i (Nat.zero_le _) (by omega)) ?_ hfin _ _ _ _ (by simp) ?_ ?_)
  · intro i o d ho hd
    have := List.all_eq_true.1 hsz o (by simpa using Array.mem_of_getElem? ho)
    rw [hd] at this; exact of_decide_eq_true this
  · intro i o ho e he hb
    have := List.all_eq_true.1 hbk i (List.mem_range.2 (Array.getElem?_eq_some_iff.1 ho).1)
    rw [ho] at this
    have := List.all_eq_true.1 this e (by simpa using he)
    rw [hb] at this; exact of_decide_eq_true (by simpa using this)
  · rw [List.countP_eq_length.2 ?_]
    · simp
    · intro i hi
      have := List.mem_range.1 hi
      simp [this]
  · have hno : ∀ i, (Array.replicate ops.size false).getD i false = false := by
      intro i
      simp [Array.getD_eq_getD_getElem?]
      rw [Array.getElem?_replicate]
      split <;> rfl
    refine ⟨fun _ => undef, ?_, rfl, rfl, fun _ _ => rfl, fun _ _ => rfl, fun i hi => ?_, fun i o d ho hd hl => ?_⟩
    · have e : (fun i => (Array.replicate ops.size false).getD i false) = fun _ => false := funext hno
      rw [e]; exact hst
    · rw [hno] at hi; cases hi
    · rw [hno] at hl; cases hl
/-- As 'wp_rgn', the slots laid out anew behind the region. -/
theorem wp_rgn' {id : Nat} {w0 : World} (I : (Nat → Bool) → (Nat → Value) → World → Prop) (hm : P.follows .mixedOrders = true) (hok : okG ops a0.tmps.size = true)
    (hst : I (fun _ => false) (fun _ => undef) { w0 with drawn := w0.drawn + 1 }) (hob : Obs (Ob P ops Q a0 I) 0 ops.size)
    (hfin : ∀ w d V, (∀ i, i < ops.size → d i = true) → I d V w → Q .normal (lay ops.toList 0 V a0) w) : (Code.region id ops true).wp P Q a0 w0 := by
  refine wp_rgn I hm hok hst hob (fun a w d V hs hd hfix hal hO hv => ?_)
  unfold okG at hok
  simp only [Bool.and_eq_true, decide_eq_true_eq] at hok
  obtain ⟨hnd, hsz, -⟩ := hok
  have e : a = lay ops.toList 0 V a0 := by
    have hl := lay_size ops.toList 0 V a0
    refine act_ext (hs.trans hl.1.symm) (hd.trans hl.2.symm) (fun t ht => ?_)
    cases hc : (dsts ops).contains t with
    | false =>
      rw [hfix t hc, lay_not _ _ _ _ _ (by simpa [dsts] using hc)]
    | true =>
      have : t ∈ dsts ops := by simpa using hc
      unfold dsts at this
      obtain ⟨o, ho, hd'⟩ := List.mem_filterMap.1 this
      obtain ⟨j, hj⟩ := List.getElem?_of_mem ho
      rw [lay_mem ops.toList 0 V a0 j o t hnd hj hd' (by rw [hl.1] at ht; exact ht), Nat.zero_add]
      exact hv j o t (by simpa using hj) hd'
  rw [e]
  exact hfin w d V hal hO
end
end Go.Proofs.YtefaohokmhdplaaDoor.RG
