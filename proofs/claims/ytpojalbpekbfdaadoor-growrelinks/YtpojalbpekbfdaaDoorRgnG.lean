/- A region in whatever order, with an invariant of one's own over what is done, what it has yielded, and the world. -/
import Derived.Test.YtpojalbpekbfdaaDoorRgnU
import Derived.Test.YtpojalbpekbfdaaDoorTrrC
import Derived.Test.YtpojalbpekbfdaaDoorTreV
import Derived.Test.YtpojalbpekbfdaaDoorTrsB
namespace Go.Proofs.YtpojalbpekbfdaaDoor.RG
open Go Go.RowKit RU
set_option linter.unusedSimpArgs false
set_option linter.unusedVariables false

def setd (d : Nat → Bool) (i : Nat) : Nat → Bool := fun j => if j = i then true else d j
def updV (V : Nat → Value) (i : Nat) (v : Value) : Nat → Value := fun j => if j = i then v else V j
section
variable {P : Program} {ops : Array Oper} {Q : Exit → Act → World → Prop} {a0 : Act} {I : (Nat → Bool) → (Nat → Value) → World → Prop}
/-- What is owed for one operation. -/
def Ob (P : Program) (ops : Array Oper) (Q : Exit → Act → World → Prop) (a0 : Act) (I : (Nat → Bool) → (Nat → Value) → World → Prop) (i : Nat) : Prop :=
  ∀ a w d V, I d V w → d i = false → (∀ p, (px ops i).contains p = true → d p = true) → (∀ j, (px ops j).contains i = true → d j = false) → (∀ t, RU.early ops i t = true → a.eval (.tmp t) = a0.eval (.tmp t)) → (∀ p t, predB ops i p t = true → a.eval (.tmp t) = V p) →
    wpOp P ops Q i (fun a' w' => ∃ v, a' = a.put ((ops[i]?).bind (·.dst)) v ∧ I (setd d i) (updV V i v) w') a w
structure Rg (ops : Array Oper) (a0 : Act) (I : (Nat → Bool) → (Nat → Value) → World → Prop) (listed : Array Bool) (a : Act) (w : World) (V : Nat → Value) : Prop where
  om : I (fun i => listed.getD i false) V w
  defers : a.defers = a0.defers
  size : a.tmps.size = a0.tmps.size
  fix : ∀ t, (dsts ops).contains t = false → a.eval (.tmp t) = a0.eval (.tmp t)
  unw : ∀ t, (∀ (j : Nat) (o : Oper), ops[j]? = some o → o.dst = some t → listed.getD j false = false) → a.eval (.tmp t) = a0.eval (.tmp t)
  closed : ∀ i, listed.getD i false = true → ∀ p ∈ px ops i, listed.getD p false = true
  done : ∀ i o d, ops[i]? = some o → o.dst = some d → listed.getD i false = true → a.eval (.tmp d) = V i
theorem predB_use {i p t : Nat} (h : predB ops i p t = true) : p ∈ px ops i ∧ ∃ o, ops[p]? = some o ∧ o.dst = some t := by
  unfold predB at h
  cases ho : ops[p]? with
  | none => rw [ho] at h; simp at h
  | some o =>
    rw [ho] at h
    simp only [Bool.and_eq_true, List.contains_iff_mem, beq_iff_eq] at h
    exact ⟨h.1, o, rfl, h.2⟩
theorem step (hnd : (dsts ops).Nodup) (hsz : ∀ (i : Nat) (o : Oper) (d : Tmp), ops[i]? = some o → o.dst = some d → d < a0.tmps.size)
    {listed : Array Bool} {a : Act} {w : World} {V : Nat → Value} {i : Nat} {o : Oper} (h : Rg ops a0 I listed a w V) (hl : listed.size = ops.size) (ho : ops[i]? = some o) (h0 : listed.getD i false = false) (hall : ∀ p ∈ px ops i, listed.getD p false = true)
    (hob : Ob P ops Q a0 I i) : wpOp P ops Q i (fun a' w' => ∃ V', Rg ops a0 I (listed.setIfInBounds i true) a' w' V') a w := by
  have hlt : i < ops.size := (Array.getElem?_eq_some_iff.1 ho).1
  have hback : ∀ j, i ∈ px ops j → listed.getD j false = false := fun j hj => by
    cases hlj : listed.getD j false with
    | false => rfl
    | true => have := h.closed j hlj i hj; rw [h0] at this; cases this
  have hear : ∀ t, RU.early ops i t = true → a.eval (.tmp t) = a0.eval (.tmp t) := by
    intro t ht
    refine h.unw t (fun j oj hj hd => ?_)
    have h1 := List.all_eq_true.1 ht j (List.mem_range.2 (Array.getElem?_eq_some_iff.1 hj).1)
    rw [hj] at h1
    simp only [hd, beq_self_eq_true, Bool.not_true, Bool.false_or] at h1
    exact hback j (by simpa using h1)
  have hq := hob a w _ V h.om h0 (fun p hp => hall p (by simpa using hp)) (fun j hj => hback j (by simpa using hj)) hear (fun p t hp => by
    obtain ⟨h1, o', h2, h3⟩ := predB_use hp
    exact h.done p o' t h2 h3 (hall p h1))
  have hget : ∀ j, (listed.setIfInBounds i true).getD j false = if j = i then true else listed.getD j false := by
    intro j
    split
    · rename_i e; subst e; simp [hl, hlt]
    · rename_i e; exact getD_set_ne false (Ne.symm e)
  refine wpOp_mono ?_ hq
  rintro a' w' ⟨v, rfl, hI⟩
  rw [ho]
  refine ⟨updV V i v, ⟨?_, ?_, ?_, ?_, ?_, ?_, ?_⟩⟩
  · have e : (fun j => (listed.setIfInBounds i true).getD j false) = setd (fun j => listed.getD j false) i := funext hget
    rw [e]; exact hI
  · show (a.put o.dst v).defers = _
    cases hx : o.dst <;> simp [Act.put, h.defers]
  · show (a.put o.dst v).tmps.size = _
    cases hx : o.dst <;> simp [Act.put, h.size]
  · intro t ht
    show (a.put o.dst v).eval (.tmp t) = _
    rw [Act.eval_put (fun d hd e => ?_)]
    · exact h.fix t ht
    · cases e; rw [dst_mem ho hd] at ht; cases ht
  · intro t ht
    have hne : o.dst ≠ some t := fun e => by
      have := ht i o ho e
      rw [hget, if_pos rfl] at this; cases this
    show (a.put o.dst v).eval (.tmp t) = _
    rw [Act.eval_put (fun d hd e => by cases e; exact hne hd)]
    refine h.unw t (fun j oj hj hd => ?_)
    have := ht j oj hj hd
    rw [hget] at this
    split at this
    · cases this
    · exact this
  · intro j hj p hp
    rw [hget] at hj ⊢
    split
    · rfl
    · split at hj
      · rename_i e'; subst e'; exact hall p hp
      · exact h.closed j hj p hp
  · intro j oj d hj hd hlj
    show (a.put o.dst v).eval (.tmp d) = _
    rw [put_eval hnd hsz h.size ho hj hd]
    unfold updV
    split
    · rfl
    · rename_i e
      rw [hget, if_neg e] at hlj
      exact h.done j oj d hj hd hlj
theorem rgn_loop (hnd : (dsts ops).Nodup) (hsz : ∀ (i : Nat) (o : Oper) (d : Tmp), ops[i]? = some o → o.dst = some d → d < a0.tmps.size)
    (hob : ∀ i, i < ops.size → Ob P ops Q a0 I i)
    (hback : ∀ (i : Nat) (o : Oper), ops[i]? = some o → ∀ e ∈ o.after, Region.binds .any e = true → e.on < i)
    (hfin : ∀ a w d V, a.tmps.size = a0.tmps.size → a.defers = a0.defers → (∀ t, (dsts ops).contains t = false → a.eval (.tmp t) = a0.eval (.tmp t)) → (∀ i, i < ops.size → d i = true) → I d V w → (∀ (i : Nat) (o : Oper) (t : Tmp), ops[i]? = some o → o.dst = some t → a.eval (.tmp t) = V i) → Q .normal a w) :
    ∀ (n : Nat) (listed : Array Bool) (a : Act) (w : World), listed.size = ops.size → n = (List.range ops.size).countP (fun i => !listed.getD i true) → (∃ V, Rg ops a0 I listed a w V) → wpAny P .any ops Q n listed a w := by
  have hend : ∀ (listed : Array Bool) (a : Act) (w : World), listed.size = ops.size → (∃ V, Rg ops a0 I listed a w V) → Region.ready .any ops listed = [] → Q .normal a w := by
    intro listed a w hl ⟨V, h⟩ hr
    have hal : ∀ i, i < ops.size → listed.getD i false = true := fun i hi => all_listed hback hl hr (i + 1) i (Nat.lt_succ_self i) hi
    exact hfin a w _ V h.size h.defers h.fix hal h.om (fun i o d ho hd => h.done i o d ho hd (hal i (Array.getElem?_eq_some_iff.1 ho).1))
  intro n
  induction n with
  | zero =>
    intro listed a w hl hn h
    have hr : Region.ready .any ops listed = [] := by
      rw [List.eq_nil_iff_forall_not_mem]
      intro i hi
      obtain ⟨h0, o, ho, _⟩ := mem_ready.1 hi
      have := (List.countP_eq_zero.1 hn.symm) i (List.mem_range.2 (Array.getElem?_eq_some_iff.1 ho).1)
      rw [h0] at this; simp at this
    exact ⟨hr, hend listed a w hl h hr⟩
  | succ n ih =>
    intro listed a w hl hn h
    refine ⟨fun hr => hend listed a w hl h hr, fun i hi => ?_⟩
    obtain ⟨h0, o, ho, hall⟩ := mem_ready.1 hi
    have hlt : i < ops.size := (Array.getElem?_eq_some_iff.1 ho).1
    obtain ⟨V, h⟩ := h
    refine wpOp_mono ?_ (step hnd hsz h hl ho (by simpa [hl, hlt] using h0) ?_ (hob i hlt))
    · rintro a' w' hR
      refine ih _ _ _ (by simp [hl]) ?_ hR
      have hc : ∀ (l : List Nat), l.Nodup → i ∈ l → l.countP (fun j => !listed.getD j true) = l.countP (fun j => !(listed.setIfInBounds i true).getD j true) + 1 := by
        intro l
        induction l with
        | nil => intro _ hm; cases hm
        | cons x l ihl =>
          intro hnd' hm
          obtain ⟨hx, hl'⟩ := List.nodup_cons.1 hnd'
          rw [List.countP_cons, List.countP_cons]
          by_cases e : x = i
          · subst e
            have e1 : (listed.setIfInBounds x true).getD x true = true := by simp [hl, hlt]
            have e2 : l.countP (fun j => !listed.getD j true) = l.countP (fun j => !(listed.setIfInBounds x true).getD j true) :=
              List.countP_congr (fun j hj => by rw [getD_set_ne true (fun (e : x = j) => hx (e ▸ hj))])
            rw [h0, e1, e2]; rfl
          · have hm' : i ∈ l := by rcases List.mem_cons.1 hm with h | h; exact absurd h.symm e; exact h
            rw [ihl hl' hm', getD_set_ne true (Ne.symm e)]
            omega
      have := hc (List.range ops.size) List.nodup_range (List.mem_range.2 hlt)
      omega
    · intro p hp
      unfold px at hp
      rw [ho] at hp
      simp only [List.mem_map, List.mem_filter] at hp
      obtain ⟨e, ⟨he, hb⟩, rfl⟩ := hp
      exact hall e (by simpa using he) hb
/-- All that a program can look up. -/
def okG (ops : Array Oper) (n : Nat) : Bool := decide (dsts ops).Nodup && (szB ops n && backB ops)
theorem wp_rgn {id : Nat} {w0 : World} (I : (Nat → Bool) → (Nat → Value) → World → Prop) (hm : P.follows .mixedOrders = true) (hok : okG ops a0.tmps.size = true)
    (hst : I (fun _ => false) (fun _ => undef) { w0 with drawn := w0.drawn + 1 }) (hob : Obs (Ob P ops Q a0 I) 0 ops.size)
    (hfin : ∀ a w d V, a.tmps.size = a0.tmps.size → a.defers = a0.defers → (∀ t, (dsts ops).contains t = false → a.eval (.tmp t) = a0.eval (.tmp t)) → (∀ i, i < ops.size → d i = true) → I d V w → (∀ (i : Nat) (o : Oper) (t : Tmp), ops[i]? = some o → o.dst = some t → a.eval (.tmp t) = V i) → Q .normal a w) :
    (Code.region id ops true).wp P Q a0 w0 := by
  unfold okG at hok
  simp only [Bool.and_eq_true, decide_eq_true_eq] at hok
  obtain ⟨hnd, hsz, hbk⟩ := hok
  refine wp_region_any hm (rgn_loop (a0 := a0) (I := I) hnd ?_ (fun i hi => hob.get i (Nat.zero_le _) (by omega)) ?_ hfin _ _ _ _ (by simp) ?_ ?_)
  · intro i o d ho hd
    have := List.all_eq_true.1 hsz o (by simpa using Array.mem_of_getElem? ho)
    rw [hd] at this; exact of_decide_eq_true this
  · intro i o ho e he hb
    have := List.all_eq_true.1 hbk i (List.mem_range.2 (Array.getElem?_eq_some_iff.1 ho).1)
    rw [ho] at this
    have := List.all_eq_true.1 this e (by simpa using he)
    rw [hb] at this; exact of_decide_eq_true (by simpa using this)
  · rw [List.countP_eq_length.2 ?_]
    · simp
    · intro i hi
      have := List.mem_range.1 hi
      simp [this]
  · have hno : ∀ i, (Array.replicate ops.size false).getD i false = false := by
      intro i
      simp [Array.getD_eq_getD_getElem?]
      rw [Array.getElem?_replicate]
      split <;> rfl
    refine ⟨fun _ => undef, ?_, rfl, rfl, fun _ _ => rfl, fun _ _ => rfl, fun i hi => ?_, fun i o d ho hd hl => ?_⟩
    · have e : (fun i => (Array.replicate ops.size false).getD i false) = fun _ => false := funext hno
      rw [e]; exact hst
    · rw [hno] at hi; cases hi
    · rw [hno] at hl; cases hl
/-- As 'wp_rgn', the slots laid out anew behind the region. -/
theorem wp_rgn' {id : Nat} {w0 : World} (I : (Nat → Bool) → (Nat → Value) → World → Prop) (hm : P.follows .mixedOrders = true) (hok : okG ops a0.tmps.size = true)
    (hst : I (fun _ => false) (fun _ => undef) { w0 with drawn := w0.drawn + 1 }) (hob : Obs (Ob P ops Q a0 I) 0 ops.size)
    (hfin : ∀ w d V, (∀ i, i < ops.size → d i = true) → I d V w → Q .normal (lay ops.toList 0 V a0) w) : (Code.region id ops true).wp P Q a0 w0 := by
  refine wp_rgn I hm hok hst hob (fun a w d V hs hd hfix hal hO hv => ?_)
  unfold okG at hok
  simp only [Bool.and_eq_true, decide_eq_true_eq] at hok
  obtain ⟨hnd, hsz, -⟩ := hok
  have e : a = lay ops.toList 0 V a0 := by
    have hl := lay_size ops.toList 0 V a0
    refine act_ext (hs.trans hl.1.symm) (hd.trans hl.2.symm) (fun t ht => ?_)
    cases hc : (dsts ops).contains t with
    | false =>
      rw [hfix t hc, lay_not _ _ _ _ _ (by simpa [dsts] using hc)]
    | true =>
      have : t ∈ dsts ops := by simpa using hc
      unfold dsts at this
      obtain ⟨o, ho, hd'⟩ := List.mem_filterMap.1 this
      obtain ⟨j, hj⟩ := List.getElem?_of_mem ho
      rw [lay_mem ops.toList 0 V a0 j o t hnd hj hd' (by rw [hl.1] at ht; exact ht), Nat.zero_add]
      exact hv j o t (by simpa using hj) hd'
  rw [e]
  exact hfin w d V hal hO
end
end Go.Proofs.YtpojalbpekbfdaaDoor.RG
/- The reference: Apart. -/
namespace Go.Proofs.YtpojalbpekbfdaaDoor
open Go Go.RowKit
set_option linter.unusedSimpArgs false
set_option linter.unusedVariables false
set_option maxRecDepth 100000

theorem there_keep {W W' : World} {b o n : Nat} (h : W.there b o n) (e : W'.heap[b]? = W.heap[b]?) : W'.there b o n := fun j hj => by
  obtain ⟨h1, h2⟩ := h j hj
  unfold World.cell? at h1 ⊢
  unfold World.frozen? at h2 ⊢
  rw [e]; exact ⟨h1, h2⟩
theorem range_keep {W W' : World} {b o : Nat} {cs : List Value} (h : W.rangeAt b o cs) (e : W'.heap[b]? = W.heap[b]?) : W'.rangeAt b o cs := fun j v hj => by
  have := h j v hj
  unfold World.cell? at this ⊢
  rw [e]; exact this
/-- Two nodes laid in two new blocks, in whatever order. -/
structure TwI (U : World) (f : Nat → Value) (y x z : List Value) (n : Nat) (i9 i10 i11 i12 : Nat) (d : Nat → Bool) (V : Nat → Value) (W : World) : Prop where
  si : ∀ i, i < i9 → d i = true → V i = f i
  be : Below U.heap.size U W
  p9 : d i9 = true → ∃ b, V i9 = .pointer (some ⟨b, 0, none⟩) ∧ U.heap.size ≤ b ∧ b < W.heap.size ∧ W.there b 0 n ∧ W.rangeAt b 0 (if d i11 = true then y else z)
  p10 : d i10 = true → ∃ b, V i10 = .pointer (some ⟨b, 0, none⟩) ∧ U.heap.size ≤ b ∧ b < W.heap.size ∧ W.there b 0 n ∧ W.rangeAt b 0 (if d i12 = true then x else z)
  ne : d i9 = true → d i10 = true → V i9 ≠ V i10
theorem TwI.silent {U : World} {f : Nat → Value} {y x z : List Value} {n i9 : Nat} {d : Nat → Bool} {V : Nat → Value} {W : World} (h : TwI U f y x z n i9 (i9 + 1) (i9 + 2) (i9 + 3) d V W) {i : Nat} (hi : i < i9) : TwI U f y x z n i9 (i9 + 1) (i9 + 2) (i9 + 3) (RG.setd d i) (RG.updV V i (f i)) W := by
  have e : ∀ j, i9 ≤ j → RG.setd d i j = d j ∧ RG.updV V i (f i) j = V j := fun j hj => by
    unfold RG.setd RG.updV
    rw [if_neg (by omega), if_neg (by omega)]; exact ⟨rfl, rfl⟩
  refine ⟨fun j hj hd => ?_, h.be, ?_, ?_, ?_⟩
  · unfold RG.setd at hd
    unfold RG.updV
    by_cases q : j = i
    · rw [if_pos q, q]
    · rw [if_neg q] at hd ⊢; exact h.si j hj hd
  · rw [(e i9 (Nat.le_refl _)).1, (e i9 (Nat.le_refl _)).2, (e (i9 + 2) (by omega)).1]; exact h.p9
  · rw [(e (i9 + 1) (by omega)).1, (e (i9 + 1) (by omega)).2, (e (i9 + 3) (by omega)).1]; exact h.p10
  · rw [(e i9 (Nat.le_refl _)).1, (e i9 (Nat.le_refl _)).2, (e (i9 + 1) (by omega)).1, (e (i9 + 1) (by omega)).2]; exact h.ne
theorem TwI.alloc1 {U : World} {f : Nat → Value} {y x z : List Value} {n i9 : Nat} {d : Nat → Bool} {V : Nat → Value} {W : World} (h : TwI U f y x z n i9 (i9 + 1) (i9 + 2) (i9 + 3) d V W) (t : TypeId) (hz : z.length = n) (h11 : d (i9 + 2) = false) :
    TwI U f y x z n i9 (i9 + 1) (i9 + 2) (i9 + 3) (RG.setd d i9) (RG.updV V i9 (.pointer (some ⟨W.heap.size, 0, none⟩))) (W.alloc (.cells z.toArray t)) := by
  have e : ∀ j, j ≠ i9 → RG.setd d i9 j = d j ∧ RG.updV V i9 (.pointer (some ⟨W.heap.size, 0, none⟩)) j = V j := fun j hj => by
    unfold RG.setd RG.updV
    rw [if_neg hj, if_neg hj]; exact ⟨rfl, rfl⟩
  have hb : Below W.heap.size W (W.alloc (.cells z.toArray t)) := (Below.refl _ W).alloc (Nat.le_refl _) _
  have hh : (W.alloc (.cells z.toArray t)).heap[W.heap.size]? = some (.cells z.toArray t (0, 0)) := by show (W.heap.push _)[W.heap.size]? = _; simp
  have v9 : RG.updV V i9 (.pointer (some ⟨W.heap.size, 0, none⟩)) i9 = .pointer (some ⟨W.heap.size, 0, none⟩) := by unfold RG.updV; rw [if_pos rfl]
  refine ⟨fun j hj hd => ?_, h.be.alloc h.be.size _, fun _ => ?_, fun hd => ?_, fun _ hd => ?_⟩
  · rw [(e j (by omega)).1] at hd; rw [(e j (by omega)).2]; exact h.si j hj hd
  · refine ⟨W.heap.size, v9, h.be.size, by simp, there_of_row' hh 0 n (by simp [hz]), ?_⟩
    rw [(e (i9 + 2) (by omega)).1, h11, if_neg (by decide)]
    exact range_alloc W z t (0, 0)
  · rw [(e (i9 + 1) (by omega)).1] at hd
    obtain ⟨b, q1, q2, q3, q4, q5⟩ := h.p10 hd
    rw [(e (i9 + 1) (by omega)).2, (e (i9 + 3) (by omega)).1]
    exact ⟨b, q1, q2, Nat.lt_of_lt_of_le q3 hb.size, there_keep q4 (hb.block b q3), range_keep q5 (hb.block b q3)⟩
  · rw [(e (i9 + 1) (by omega)).1] at hd
    obtain ⟨b, q1, q2, q3, q4, q5⟩ := h.p10 hd
    rw [v9, (e (i9 + 1) (by omega)).2, q1]
    intro he
    simp only [Value.pointer.injEq, Option.some.injEq, Addr.mk.injEq, and_true] at he
    omega
theorem TwI.alloc2 {U : World} {f : Nat → Value} {y x z : List Value} {n i9 : Nat} {d : Nat → Bool} {V : Nat → Value} {W : World} (h : TwI U f y x z n i9 (i9 + 1) (i9 + 2) (i9 + 3) d V W) (t : TypeId) (hz : z.length = n) (h12 : d (i9 + 3) = false) :
    TwI U f y x z n i9 (i9 + 1) (i9 + 2) (i9 + 3) (RG.setd d (i9 + 1)) (RG.updV V (i9 + 1) (.pointer (some ⟨W.heap.size, 0, none⟩))) (W.alloc (.cells z.toArray t)) := by
  have e : ∀ j, j ≠ i9 + 1 → RG.setd d (i9 + 1) j = d j ∧ RG.updV V (i9 + 1) (.pointer (some ⟨W.heap.size, 0, none⟩)) j = V j := fun j hj => by
    unfold RG.setd RG.updV
    rw [if_neg hj, if_neg hj]; exact ⟨rfl, rfl⟩
  have hb : Below W.heap.size W (W.alloc (.cells z.toArray t)) := (Below.refl _ W).alloc (Nat.le_refl _) _
  have hh : (W.alloc (.cells z.toArray t)).heap[W.heap.size]? = some (.cells z.toArray t (0, 0)) := by show (W.heap.push _)[W.heap.size]? = _; simp
  have v9 : RG.updV V (i9 + 1) (.pointer (some ⟨W.heap.size, 0, none⟩)) (i9 + 1) = .pointer (some ⟨W.heap.size, 0, none⟩) := by unfold RG.updV; rw [if_pos rfl]
  refine ⟨fun j hj hd => ?_, h.be.alloc h.be.size _, fun hd => ?_, fun _ => ?_, fun hd _ => ?_⟩
  · rw [(e j (by omega)).1] at hd; rw [(e j (by omega)).2]; exact h.si j hj hd
  · rw [(e i9 (by omega)).1] at hd
    obtain ⟨b, q1, q2, q3, q4, q5⟩ := h.p9 hd
    rw [(e i9 (by omega)).2, (e (i9 + 2) (by omega)).1]
    exact ⟨b, q1, q2, Nat.lt_of_lt_of_le q3 hb.size, there_keep q4 (hb.block b q3), range_keep q5 (hb.block b q3)⟩
  · refine ⟨W.heap.size, v9, h.be.size, by simp, there_of_row' hh 0 n (by simp [hz]), ?_⟩
    rw [(e (i9 + 3) (by omega)).1, h12, if_neg (by decide)]
    exact range_alloc W z t (0, 0)
  · rw [(e i9 (by omega)).1] at hd
    obtain ⟨b, q1, q2, q3, q4, q5⟩ := h.p9 hd
    rw [v9, (e i9 (by omega)).2, q1]
    intro he
    simp only [Value.pointer.injEq, Option.some.injEq, Addr.mk.injEq, and_true] at he
    omega
theorem size_setC (b : Nat) : ∀ (vs : List Value) (o : Nat) (w : World), (w.setCells b o vs).heap.size = w.heap.size
  | [], _, _ => rfl
  | v :: r, o, w => by
    rw [World.setCells, size_setC b r (o + 1)]
    simp [World.setCell]
theorem TwI.store1 {U : World} {f : Nat → Value} {y x z : List Value} {n i9 : Nat} {d : Nat → Bool} {V : Nat → Value} {W : World} (h : TwI U f y x z n i9 (i9 + 1) (i9 + 2) (i9 + 3) d V W) (hy : y.length = n) (h9 : d i9 = true) (h10 : d (i9 + 1) = true) {b : Nat} (hb : V i9 = .pointer (some ⟨b, 0, none⟩)) (v : Value) :
    TwI U f y x z n i9 (i9 + 1) (i9 + 2) (i9 + 3) (RG.setd d (i9 + 2)) (RG.updV V (i9 + 2) v) (W.setCells b 0 y) := by
  have e : ∀ j, j ≠ i9 + 2 → RG.setd d (i9 + 2) j = d j ∧ RG.updV V (i9 + 2) v j = V j := fun j hj => by
    unfold RG.setd RG.updV
    rw [if_neg hj, if_neg hj]; exact ⟨rfl, rfl⟩
  have s11 : RG.setd d (i9 + 2) (i9 + 2) = true := by unfold RG.setd; rw [if_pos rfl]
  obtain ⟨b', q1, q2, q3, q4, q5⟩ := h.p9 h9
  obtain rfl : b' = b := by rw [hb] at q1; simp at q1; exact q1.symm
  obtain ⟨c, r1, r2, r3, r4, r5⟩ := h.p10 h10
  have hne : c ≠ b' := fun e => h.ne h9 h10 (by rw [q1, r1, e])
  refine ⟨fun j hj hd => ?_, below_setCells q2 _ _ h.be, fun _ => ?_, fun _ => ?_, fun a1 a2 => ?_⟩
  · rw [(e j (by omega)).1] at hd; rw [(e j (by omega)).2]; exact h.si j hj hd
  · rw [(e i9 (by omega)).2, s11, if_pos rfl]
    exact ⟨b', q1, q2, by rw [size_setC]; exact q3, World.there_setCells q4 _ _ _, World.rangeAt_setCells_same _ _ _ _ (by rw [hy]; exact q4)⟩
  · rw [(e (i9 + 1) (by omega)).2, (e (i9 + 3) (by omega)).1]
    exact ⟨c, r1, r2, by rw [size_setC]; exact r3, World.there_setCells r4 _ _ _, World.rangeAt_setCells_apart r5 _ _ _ (.inl hne)⟩
  · rw [(e i9 (by omega)).2, (e (i9 + 1) (by omega)).2]; exact h.ne h9 h10
theorem TwI.store2 {U : World} {f : Nat → Value} {y x z : List Value} {n i9 : Nat} {d : Nat → Bool} {V : Nat → Value} {W : World} (h : TwI U f y x z n i9 (i9 + 1) (i9 + 2) (i9 + 3) d V W) (hy : x.length = n) (h9 : d i9 = true) (h10 : d (i9 + 1) = true) {b : Nat} (hb : V (i9 + 1) = .pointer (some ⟨b, 0, none⟩)) (v : Value) :
    TwI U f y x z n i9 (i9 + 1) (i9 + 2) (i9 + 3) (RG.setd d (i9 + 3)) (RG.updV V (i9 + 3) v) (W.setCells b 0 x) := by
  have e : ∀ j, j ≠ i9 + 3 → RG.setd d (i9 + 3) j = d j ∧ RG.updV V (i9 + 3) v j = V j := fun j hj => by
    unfold RG.setd RG.updV
    rw [if_neg hj, if_neg hj]; exact ⟨rfl, rfl⟩
  have s11 : RG.setd d (i9 + 3) (i9 + 3) = true := by unfold RG.setd; rw [if_pos rfl]
  obtain ⟨b', q1, q2, q3, q4, q5⟩ := h.p10 h10
  obtain rfl : b' = b := by rw [hb] at q1; simp at q1; exact q1.symm
  obtain ⟨c, r1, r2, r3, r4, r5⟩ := h.p9 h9
  have hne : c ≠ b' := fun e => h.ne h9 h10 (by rw [q1, r1, e])
  refine ⟨fun j hj hd => ?_, below_setCells q2 _ _ h.be, fun _ => ?_, fun _ => ?_, fun a1 a2 => ?_⟩
  · rw [(e j (by omega)).1] at hd; rw [(e j (by omega)).2]; exact h.si j hj hd
  · rw [(e i9 (by omega)).2, (e (i9 + 2) (by omega)).1]
    exact ⟨c, r1, r2, by rw [size_setC]; exact r3, World.there_setCells r4 _ _ _, World.rangeAt_setCells_apart r5 _ _ _ (.inl hne)⟩
  · rw [(e (i9 + 1) (by omega)).2, s11, if_pos rfl]
    exact ⟨b', q1, q2, by rw [size_setC]; exact q3, World.there_setCells q4 _ _ _, World.rangeAt_setCells_same _ _ _ _ (by rw [hy]; exact q4)⟩
  · rw [(e i9 (by omega)).2, (e (i9 + 1) (by omega)).2]; exact h.ne h9 h10
end Go.Proofs.YtpojalbpekbfdaaDoor
/- Nodes of a call's own, written over; a leaf put among others. -/
namespace Go.Proofs.YtpojalbpekbfdaaDoor
open Go Go.RowKit
set_option linter.unusedSimpArgs false
set_option linter.unusedVariables false
set_option maxRecDepth 100000

/-- An array with a row of cells written over. -/
def setL (cur : Array Value) : Nat → List Value → Array Value
  | _, [] => cur
  | o, v :: r => setL (cur.setIfInBounds o v) (o + 1) r
theorem setL_size : ∀ (vs : List Value) (o : Nat) (cur : Array Value), (setL cur o vs).size = cur.size
  | [], _, _ => rfl
  | v :: r, o, cur => by rw [setL, setL_size r]; simp
theorem setL_list : ∀ (vs : List Value) (o : Nat) (cur : Array Value), o + vs.length ≤ cur.size → (setL cur o vs).toList = cur.toList.take o ++ vs ++ cur.toList.drop (o + vs.length)
  | [], o, cur, _ => by simp [setL]
  | v :: r, o, cur, h => by
    simp only [List.length_cons] at h
    rw [setL, setL_list r (o + 1) _ (by simp; omega), Array.toList_setIfInBounds]
    have ho : o < cur.toList.length := by rw [Array.length_toList]; omega
    rw [List.drop_set_of_lt (by omega)]
    have e : (cur.toList.set o v).take (o + 1) = cur.toList.take o ++ [v] := by
      rw [List.take_succ_eq_append_getElem (by rw [List.length_set]; exact ho), List.getElem_set_self, List.take_set_of_le (Nat.le_refl _)]
    rw [e, List.length_cons, show o + 1 + r.length = o + (r.length + 1) by omega]
    simp
theorem heap_setC (g : Nat) : ∀ (vs : List Value) (o : Nat) (w : World) (cur : Array Value) (t : TypeId) (fr : Nat × Nat), w.heap[g]? = some (.cells cur t fr) → (w.setCells g o vs).heap[g]? = some (.cells (setL cur o vs) t fr)
  | [], _, _, _, _, _, h => h
  | v :: r, o, w, cur, t, fr, h => by
    rw [World.setCells, setL]
    refine heap_setC g r (o + 1) _ _ t fr ?_
    show (w.heap.modify g _)[g]? = _
    rw [Array.getElem?_modify, if_pos rfl, h]
    simp
theorem ncs_take {l : List Nd} (hk : ∀ x ∈ l, x.Ok) (i : Nat) (hi : i ≤ l.length) : (ncs l).take (i * 65) = ncs (l.take i) := by
  have e : ncs l = ncs (l.take i) ++ ncs (l.drop i) := by rw [← ncs_app, List.take_append_drop]
  have hl : (ncs (l.take i)).length = i * 65 := by rw [ncs_length (fun x hx => hk x (List.mem_of_mem_take hx)), List.length_take]; congr 1; omega
  rw [e, ← hl, List.take_left]
theorem ncs_drop {l : List Nd} (hk : ∀ x ∈ l, x.Ok) (i : Nat) (hi : i ≤ l.length) : (ncs l).drop (i * 65) = ncs (l.drop i) := by
  have e : ncs l = ncs (l.take i) ++ ncs (l.drop i) := by rw [← ncs_app, List.take_append_drop]
  have hl : (ncs (l.take i)).length = i * 65 := by rw [ncs_length (fun x hx => hk x (List.mem_of_mem_take hx)), List.length_take]; congr 1; omega
  rw [e, ← hl, List.drop_left]
/-- Nodes of the call's own, some written over. -/
theorem NO.set {B : Nat} {w : World} {g n cap : Nat} {l : List Nd} (h : NO B w (.slice (some ⟨g, 0, none⟩) n cap) l) {m : List Nd} (hm : ∀ x ∈ m, x.Ok) {i : Nat} (hi : i + m.length ≤ l.length) :
    NO B (w.setCells g (i * 65) (ncs m)) (.slice (some ⟨g, 0, none⟩) n cap) (l.take i ++ m ++ l.drop (i + m.length)) := by
  obtain ⟨ho, hk, hB⟩ := h
  have hk' : ∀ x ∈ l.take i ++ m ++ l.drop (i + m.length), x.Ok := fun x hx => by
    simp only [List.mem_append] at hx
    rcases hx with (hx | hx) | hx
    · exact hk x (List.mem_of_mem_take hx)
    · exact hm x hx
    · exact hk x (List.mem_of_mem_drop hx)
  have hlen : (l.take i ++ m ++ l.drop (i + m.length)).length = l.length := by simp only [List.length_append, List.length_take, List.length_drop]; omega
  have hml := ncs_length hm
  refine ⟨?_, hk', by rw [size_setC]; exact hB⟩
  obtain ⟨h1, ⟨he, _⟩ | ⟨g', cap', cur, he, hBg, hg, hnc, hcm, hcs, htk⟩⟩ := ho
  · cases he
  · simp only [Value.slice.injEq, Option.some.injEq, Addr.mk.injEq, and_true] at he
    obtain ⟨rfl, rfl, rfl⟩ := he
    have hsz : l.length * 65 ≤ cur.size := by rw [hcs]; exact Nat.mul_le_mul_right 65 hnc
    have hfit : i * 65 + (ncs m).length ≤ l.length * 65 := by rw [hml, ← Nat.add_mul]; exact Nat.mul_le_mul_right 65 hi
    rw [hlen]
    refine ⟨by rw [ncs_length hk', hlen], .inr ⟨g, cap, _, rfl, hBg, heap_setC g _ _ w cur _ _ hg, hnc, hcm, by rw [setL_size]; exact hcs, ?_⟩⟩
    rw [setL_list _ _ _ (by omega)]
    have hct : cur.toList.take (i * 65) = ncs (l.take i) := by
      rw [← ncs_take hk i (by omega), ← htk, List.take_take, Nat.min_eq_left (Nat.mul_le_mul_right 65 (by omega))]
    have hcl : cur.toList.length = cur.size := Array.length_toList
    rw [hct, ncs_app, ncs_app, hml, ← Nat.add_mul]
    have hp : (ncs (l.take i) ++ ncs m).length = (i + m.length) * 65 := by
      rw [List.length_append, hml, ncs_length (fun x hx => hk x (List.mem_of_mem_take hx)), List.length_take, Nat.add_mul]; congr 2; omega
    rw [List.take_append, hp, List.take_of_length_le (by rw [hp]; exact Nat.mul_le_mul_right 65 hi)]
    congr 1
    rw [← ncs_drop hk (i + m.length) hi, ← htk, List.drop_take]
/-- copy of nodes. -/
theorem run_copy_nd (w : World) (ty : TypeId) (b o dLen dCap : Nat) (a : Addr) (sLen sCap : Nat) (cs : List Value) (hn : cs.length = Nat.min sLen dLen * 65)
    (hsrc : ∀ j v, cs[j]? = some v → w.cell? (a.add j) = some v) (hc : ∀ j, j < cs.length → (w.cell? ⟨b, o + j, none⟩).isSome = true) (hf : ∀ j, j < cs.length → w.frozen? ⟨b, o + j, none⟩ = false) (h1 : ∀ v ∈ cs, v.oneCell' = true) :
    (Builtin.copy_ #[24, 24] ty #[.slice (some ⟨b, o, none⟩) dLen dCap, .slice (some a) sLen sCap]).run Tryd.prog w = .ok (goInt (Nat.min sLen dLen)) (w.setCells b o cs) := by
  have hl := run_loadCells_list (P := Tryd.prog) w a cs hsrc
  have hst := run_storeCells_cells (P := Tryd.prog) b o cs 0 w (by simpa using hc) (by simpa using hf) h1
  obtain ⟨i, z, hi, hz, hs, -, -⟩ := info_nd
  rw [hn] at hl
  simp [Builtin.copy_, run_underlying Tryd.underlying24, Builtin.lenOf, Builtin.firstCells, sizeOf, typeInfo, hi, hs, hl, hst]
theorem run_copy_no (w : World) (ty : TypeId) (d a : Option Addr) (dCap sLen sCap : Nat) :
    (Builtin.copy_ #[24, 24] ty #[.slice d 0 dCap, .slice a sLen sCap]).run Tryd.prog w = .ok (goInt 0) w := by
  obtain ⟨i, z, hi, hz, hs, -, -⟩ := info_nd
  have hl : ∀ (x : Addr), (loadCells x 0).run Tryd.prog w = .ok #[] w := fun x => by simpa using run_loadCells_list (P := Tryd.prog) w x [] (by simp)
  cases d <;> cases a <;> simp [Builtin.copy_, run_underlying Tryd.underlying24, Builtin.lenOf, Builtin.firstCells, sizeOf, typeInfo, hi, hs, storeCells, hl]
/-- A node put among nodes that rise. -/
theorem put_perm {s t : List Nd} (h : s.Perm t) (y : Nd) (a : Nat) : (s.take a ++ [y] ++ s.drop a).Perm (t ++ [y]) := by
  have h1 : (s.take a ++ [y] ++ s.drop a).Perm (y :: (s.take a ++ s.drop a)) := by
    rw [List.append_assoc]; exact List.perm_middle
  rw [List.take_append_drop] at h1
  exact h1.trans ((List.Perm.cons y h).trans (List.perm_append_singleton y t).symm)
theorem put_rise {s : List Nd} (hs : s.Pairwise (fun a b => pf a.p 256 < pf b.p 256)) {y : Nd} {a : Nat} (hlo : ∀ (j : Nat) (x : Nd), j < a → s[j]? = some x → pf x.p 256 < pf y.p 256) (hhi : ∀ (j : Nat) (x : Nd), a ≤ j → s[j]? = some x → pf y.p 256 < pf x.p 256) :
    (s.take a ++ [y] ++ s.drop a).Pairwise (fun a b => pf a.p 256 < pf b.p 256) := by
  have lo : ∀ x ∈ s.take a, pf x.p 256 < pf y.p 256 := fun x hx => by
    obtain ⟨i, hi, rfl⟩ := List.getElem_of_mem hx
    have hi' := hi; rw [List.length_take] at hi'
    rw [List.getElem_take]
    exact hlo i _ (by omega) (List.getElem?_eq_getElem (by omega))
  have hi : ∀ x ∈ s.drop a, pf y.p 256 < pf x.p 256 := fun x hx => by
    obtain ⟨i, hi, rfl⟩ := List.getElem_of_mem hx
    have hi' := hi; rw [List.length_drop] at hi'
    rw [List.getElem_drop]
    exact hhi (a + i) _ (by omega) (List.getElem?_eq_getElem (by omega))
  rw [List.append_assoc]
  refine List.pairwise_append.2 ⟨hs.sublist (List.take_sublist _ _), List.pairwise_append.2 ⟨List.pairwise_singleton _ _, hs.sublist (List.drop_sublist _ _), fun x hx z hz => ?_⟩, fun x hx z hz => ?_⟩
  · simp at hx; subst hx; exact hi z hz
  · rcases List.mem_append.1 hz with q | q
    · simp at q; subst q; exact lo x hx
    · exact Nat.lt_trans (lo x hx) (hi z q)
/-- One below the rest is below a place: all ahead of it are. -/
theorem rise_lo {s : List Nd} (hs : s.Pairwise (fun a b => pf a.p 256 < pf b.p 256)) {y : Nd} {a : Nat} {z : Nd} (hz : s[a - 1]? = some z) (ha : 0 < a) (h : pf z.p 256 < pf y.p 256) (j : Nat) (x : Nd) (hj : j < a) (hx : s[j]? = some x) : pf x.p 256 < pf y.p 256 := by
  obtain ⟨h1, rfl⟩ := List.getElem?_eq_some_iff.1 hz
  obtain ⟨h2, rfl⟩ := List.getElem?_eq_some_iff.1 hx
  rcases Nat.lt_or_ge j (a - 1) with q | q
  · exact Nat.lt_trans (List.pairwise_iff_getElem.1 hs j (a - 1) h2 h1 q) h
  · obtain rfl : j = a - 1 := by omega
    exact h
/-- Two of one label: no list of them rises. -/
theorem dup_not {ls : List Lf} (hk : ∀ x ∈ ls, x.Ok) {k : Nat} {x : Lf} (hx : ls[k]? = some x) {s : List Nd} (hs : s.Perm ((ls.take k).map ln)) {z : Nd} (hz : z ∈ s) (e : z.p = x.p) : ¬ okl ls := by
  intro h
  have hn := okl_ne hk h
  obtain ⟨y, hy, rfl⟩ := List.mem_map.1 (hs.mem_iff.1 hz)
  obtain ⟨i, hi, rfl⟩ := List.getElem_of_mem hy
  have hi' := hi; rw [List.length_take] at hi'
  obtain ⟨hkl, rfl⟩ := List.getElem?_eq_some_iff.1 hx
  rw [List.getElem_take] at e
  have := List.pairwise_iff_getElem.1 hn i k (by omega) hkl (by omega)
  exact this (congrArg (fun q => pf q 256) e)
end Go.Proofs.YtpojalbpekbfdaaDoor
