/- As RgnT; a slot that the region writes is known until its operation comes. -/
import Derived.Test.YtefaohokmhdplaaDoorProg
import Derived.WalkKit
import Derived.Orders
namespace Go.Proofs.YtefaohokmhdplaaDoor.RU
open Go Go.RowKit
set_option linter.unusedSimpArgs false
set_option linter.unusedVariables false

def dsts (ops : Array Oper) : List Tmp := ops.toList.filterMap (·.dst)
/-- What an operation comes behind. -/
def px (ops : Array Oper) (i : Nat) : List Nat := match ops[i]? with
  | none => []
  | some o => (o.after.toList.filter (Region.binds .any)).map (·.on)
/-- Whatever writes slot t comes behind operation i. -/
def early (ops : Array Oper) (i t : Nat) : Bool := (List.range ops.size).all fun j => match ops[j]? with | some o => !(o.dst == some t) || (px ops j).contains i | none => true
/-- i is j, or what j comes behind. -/
def reach (ops : Array Oper) : Nat → Nat → Nat → Bool
  | 0, i, j => i == j
  | n + 1, i, j => i == j || (px ops j).any (fun p => reach ops n i p)
/-- The place in the chain. -/
def at' : List Nat → Nat → Option Nat
  | [], _ => none
  | c :: cs, i => if i = c then some 0 else (at' cs i).map (· + 1)
theorem at'_some : ∀ {cs : List Nat} {i k : Nat}, at' cs i = some k → cs[k]? = some i
  | [], _, _, h => by cases h
  | c :: cs, i, k, h => by
    unfold at' at h
    split at h
    · cases h; subst_vars; rfl
    · cases hq : at' cs i with
      | none => rw [hq] at h; cases h
      | some m => rw [hq] at h; cases h; simpa using at'_some hq
theorem at'_none : ∀ {cs : List Nat} {i : Nat}, at' cs i = none → ∀ k : Nat, cs[k]? ≠ some i
  | [], _, _, k => by simp
  | c :: cs, i, h, k => by
    unfold at' at h
    split at h
    · cases h
    · cases hq : at' cs i with
      | some m => rw [hq] at h; cases h
      | none =>
        cases k with
        | zero => simp; intro e; subst e; contradiction
        | succ k => simpa using at'_none hq k
def val (cs : List Nat) (f U : Nat → Value) (i : Nat) : Value := match at' cs i with
  | none => f i
  | some k => U k
def updU (U : Nat → Value) (k : Nat) (v : Value) : Nat → Value := fun i => if i = k then v else U i
section
variable {P : Program} {ops : Array Oper} {Q : Exit → Act → World → Prop} {a0 : Act} {cs : List Nat} {f : Nat → Value} {K : Nat → Nat} {Ω : Nat → (Nat → Value) → World → Prop}
/-- What is owed for one operation. -/
def ObT (P : Program) (ops : Array Oper) (Q : Exit → Act → World → Prop) (a0 : Act) (cs : List Nat) (f : Nat → Value) (K : Nat → Nat) (Ω : Nat → (Nat → Value) → World → Prop) (i : Nat) : Prop :=
  ∀ a w k U, Ω k U w → (∀ t, early ops i t = true → a.eval (.tmp t) = a0.eval (.tmp t)) → (∀ p, p ∈ px ops i → ∀ o d, ops[p]? = some o → o.dst = some d → a.eval (.tmp d) = val cs f U p) → (∀ j c, cs[j]? = some c → c ∈ px ops i → j < k) →
    match at' cs i with
    | none => k ≤ K i → wpOp P ops Q i (fun a' w' => a' = a.put ((ops[i]?).bind (·.dst)) (f i) ∧ Ω k U w') a w
    | some j => k = j → wpOp P ops Q i (fun a' w' => ∃ v, a' = a.put ((ops[i]?).bind (·.dst)) v ∧ Ω (k + 1) (updU U j v) w') a w
structure Rj (ops : Array Oper) (a0 : Act) (cs : List Nat) (f : Nat → Value) (Ω : Nat → (Nat → Value) → World → Prop) (listed : Array Bool) (a : Act) (w : World) (k : Nat) (U : Nat → Value) : Prop where
  om : Ω k U w
  kle : k ≤ cs.length
  defers : a.defers = a0.defers
  size : a.tmps.size = a0.tmps.size
  fix : ∀ t, (dsts ops).contains t = false → a.eval (.tmp t) = a0.eval (.tmp t)
  unw : ∀ t, (∀ (j : Nat) (o : Oper), ops[j]? = some o → o.dst = some t → listed.getD j false = false) → a.eval (.tmp t) = a0.eval (.tmp t)
  stage : ∀ j c, cs[j]? = some c → (listed.getD c false = true ↔ j < k)
  closed : ∀ i, listed.getD i false = true → ∀ p ∈ px ops i, listed.getD p false = true
  done : ∀ i o d, ops[i]? = some o → o.dst = some d → listed.getD i false = true → a.eval (.tmp d) = val cs f U i
theorem reach_listed {listed : Array Bool} (hc : ∀ i, listed.getD i false = true → ∀ p ∈ px ops i, listed.getD p false = true) : ∀ (n i j : Nat), reach ops n i j = true → listed.getD j false = true → listed.getD i false = true
  | 0, i, j, h, hj => by have : i = j := by simpa [reach] using h
                         subst this; exact hj
  | n + 1, i, j, h, hj => by
    unfold reach at h
    rcases Bool.or_eq_true _ _ ▸ h with h | h
    · have : i = j := by simpa using h
      subst this; exact hj
    · obtain ⟨p, hp, hr⟩ := List.any_eq_true.1 h
      exact reach_listed hc n i p hr (hc j hj p hp)
theorem nodup_dst (h : (dsts ops).Nodup) {i j : Nat} {o o' : Oper} {d : Tmp} (ho : ops[i]? = some o) (ho' : ops[j]? = some o') (hd : o.dst = some d) (hd' : o'.dst = some d) : i = j := by
  have key : ∀ (l : List Oper), (l.filterMap (·.dst)).Nodup → ∀ i j : Nat, l[i]? = some o → l[j]? = some o' → i = j := by
    intro l
    induction l with
    | nil => intro _ i j hi; simp at hi
    | cons x l ih =>
      intro hn i j hi hj
      have mem : ∀ (k : Nat) (q : Oper), l[k]? = some q → q.dst = some d → d ∈ l.filterMap (·.dst) := fun k q hk hq => List.mem_filterMap.2 ⟨q, List.mem_of_getElem? hk, hq⟩
      have hn' : (l.filterMap (·.dst)).Nodup ∧ (x.dst = some d → d ∉ l.filterMap (·.dst)) := by
        cases hx : x.dst with
        | none => rw [List.filterMap_cons_none hx] at hn; exact ⟨hn, fun e => by cases e⟩
        | some y =>
          rw [List.filterMap_cons_some hx] at hn
          obtain ⟨h1, h2⟩ := List.nodup_cons.1 hn
          exact ⟨h2, fun e => by cases e; exact h1⟩
      cases i with
      | zero =>
        cases j with
        | zero => rfl
        | succ j =>
          simp at hi hj; subst hi
          exact absurd (mem j o' hj hd') (hn'.2 hd)
      | succ i =>
        cases j with
        | zero =>
          simp at hi hj; subst hj
          exact absurd (mem i o hi hd) (hn'.2 hd')
        | succ j => simp at hi hj; exact congrArg (· + 1) (ih hn'.1 i j hi hj)
  exact key ops.toList h i j (by simpa using ho) (by simpa using ho')
theorem dst_mem {i : Nat} {o : Oper} {d : Tmp} (ho : ops[i]? = some o) (hd : o.dst = some d) : (dsts ops).contains d = true := by
  simp only [dsts, List.contains_iff_mem, List.mem_filterMap]
  exact ⟨o, by simpa using Array.mem_of_getElem? ho, hd⟩
/-- The frame behind an operation. -/
theorem put_eval (hnd : (dsts ops).Nodup) (hsz : ∀ (i : Nat) (o : Oper) (d : Tmp), ops[i]? = some o → o.dst = some d → d < a0.tmps.size) {a : Act} (hs : a.tmps.size = a0.tmps.size) {i j : Nat} {o oj : Oper} {v : Value} (ho : ops[i]? = some o) (hj : ops[j]? = some oj) {d : Tmp} (hd : oj.dst = some d) :
    (a.put o.dst v).eval (.tmp d) = if j = i then v else a.eval (.tmp d) := by
  split
  · rename_i e; subst e
    rw [ho] at hj; cases hj
    have hlt : d < a.tmps.size := by rw [hs]; exact hsz j o d ho hd
    rw [hd]; simp [Act.put, Act.eval, hlt]
  · rename_i e
    rw [Act.eval_put (fun d' hd' e' => ?_)]
    cases e'
    exact e (nodup_dst hnd hj ho hd hd')
theorem val_upd {U : Nat → Value} {k : Nat} {v : Value} {i j : Nat} (hi : at' cs i = some k) (hcs : cs.Nodup) (hj : j ≠ i) : val cs f (updU U k v) j = val cs f U j := by
  unfold val
  cases hq : at' cs j with
  | none => rfl
  | some m =>
    have h1 := at'_some hi
    have h2 := at'_some hq
    have : m ≠ k := by intro e; subst e; rw [h1] at h2; cases h2; exact hj rfl
    simp [updU, this]
theorem step (hnd : (dsts ops).Nodup) (hcs : cs.Nodup) (hsz : ∀ (i : Nat) (o : Oper) (d : Tmp), ops[i]? = some o → o.dst = some d → d < a0.tmps.size) (hchain : ∀ j, j + 1 < cs.length → ∀ c c', cs[j]? = some c → cs[j + 1]? = some c' → reach ops ops.size c c' = true)
    (hK : ∀ i, i < ops.size → at' cs i = none → ∀ c, cs[K i]? = some c → reach ops ops.size i c = true)
    {listed : Array Bool} {a : Act} {w : World} {k : Nat} {U : Nat → Value} {i : Nat} {o : Oper} (h : Rj ops a0 cs f Ω listed a w k U) (hl : listed.size = ops.size) (ho : ops[i]? = some o) (h0 : listed.getD i false = false) (hall : ∀ p ∈ px ops i, listed.getD p false = true)
    (hob : ObT P ops Q a0 cs f K Ω i) : wpOp P ops Q i (fun a' w' => ∃ k' U', Rj ops a0 cs f Ω (listed.setIfInBounds i true) a' w' k' U') a w := by
  have hlt : i < ops.size := (Array.getElem?_eq_some_iff.1 ho).1
  have hear : ∀ t, early ops i t = true → a.eval (.tmp t) = a0.eval (.tmp t) := by
    intro t ht
    refine h.unw t (fun j oj hj hd => ?_)
    have h1 := List.all_eq_true.1 ht j (List.mem_range.2 (Array.getElem?_eq_some_iff.1 hj).1)
    rw [hj] at h1
    simp only [hd, beq_self_eq_true, Bool.not_true, Bool.false_or] at h1
    cases hlj : listed.getD j false with
    | false => rfl
    | true =>
      have := h.closed j hlj i (by simpa using h1)
      rw [h0] at this; cases this
  have hq := hob a w k U h.om hear (fun p hp o d ho hd => h.done p o d ho hd (hall p hp)) (fun j c hj hc => (h.stage j c hj).1 (hall c hc))
  have hget : ∀ j, (listed.setIfInBounds i true).getD j false = if j = i then true else listed.getD j false := by
    intro j
    split
    · rename_i e; subst e; simp [hl, hlt]
    · rename_i e; exact getD_set_ne false (Ne.symm e)
  have hclosed : ∀ j, (listed.setIfInBounds i true).getD j false = true → ∀ p ∈ px ops j, (listed.setIfInBounds i true).getD p false = true := by
    intro j hj p hp
    rw [hget] at hj ⊢
    split
    · rfl
    · rename_i e
      split at hj
      · rename_i e'; subst e'; exact hall p hp
      · exact h.closed j hj p hp
  have hfix : ∀ v t, (dsts ops).contains t = false → (a.put o.dst v).eval (.tmp t) = a0.eval (.tmp t) := by
    intro v t ht
    rw [Act.eval_put (fun d hd e => ?_)]
    · exact h.fix t ht
    · cases e; rw [dst_mem ho hd] at ht; cases ht
  have hunw : ∀ v t, (∀ (j : Nat) (oj : Oper), ops[j]? = some oj → oj.dst = some t → (listed.setIfInBounds i true).getD j false = false) → (a.put o.dst v).eval (.tmp t) = a0.eval (.tmp t) := by
    intro v t ht
    have hne : o.dst ≠ some t := fun e => by
      have := ht i o ho e
      rw [hget, if_pos rfl] at this; cases this
    rw [Act.eval_put (fun d hd e => by cases e; exact hne hd)]
    refine h.unw t (fun j oj hj hd => ?_)
    have := ht j oj hj hd
    rw [hget] at this
    split at this
    · cases this
    · exact this
  have hdf : ∀ v, (a.put o.dst v).defers = a0.defers := by intro v; cases hx : o.dst <;> simp [Act.put, h.defers]
  have hsz' : ∀ v, (a.put o.dst v).tmps.size = a0.tmps.size := by intro v; cases hx : o.dst <;> simp [Act.put, h.size]
  cases hat : at' cs i with
  | none =>
    rw [hat] at hq
    have hkK : k ≤ K i := by
      rcases Nat.lt_or_ge (K i) k with hlt' | hge
      · exfalso
        have hkl := h.kle
        obtain ⟨c, hc⟩ : ∃ c, cs[K i]? = some c := ⟨cs[K i], List.getElem?_eq_getElem (by omega)⟩
        have h1 := (h.stage (K i) c hc).2 hlt'
        have := reach_listed h.closed _ _ _ (hK i hlt hat c hc) h1
        rw [h0] at this; cases this
      · exact hge
    refine wpOp_mono ?_ (hq hkK)
    rintro a' w' ⟨rfl, hO⟩
    rw [ho]
    refine ⟨k, U, ⟨hO, h.kle, hdf _, hsz' _, hfix _, hunw _, fun j c hc => ?_, hclosed, fun j oj d hj hd hlj => ?_⟩⟩
    · rw [hget, if_neg (fun e => at'_none hat j (by rw [← e]; exact hc))]
      exact h.stage j c hc
    · show (a.put o.dst (f i)).eval (.tmp d) = _
      rw [put_eval hnd hsz h.size ho hj hd]
      split
      · rename_i e; subst e; simp [val, hat]
      · rename_i e
        rw [hget, if_neg e] at hlj
        exact h.done j oj d hj hd hlj
  | some m =>
    rw [hat] at hq
    have hcm := at'_some hat
    have hkm : k = m := by
      have h1 : ¬ m < k := fun e => by have := (h.stage m i hcm).2 e; rw [h0] at this; cases this
      rcases Nat.lt_or_ge k m with hlt' | hge
      · exfalso
        have hm := (List.getElem?_eq_some_iff.1 hcm).1
        obtain ⟨c, hc⟩ : ∃ c, cs[m - 1]? = some c := ⟨cs[m - 1], List.getElem?_eq_getElem (by omega)⟩
        have hr := hchain (m - 1) (by omega) c i hc (by rw [show m - 1 + 1 = m by omega]; exact hcm)
        cases hos : ops.size with
        | zero => omega
        | succ n =>
          rw [hos] at hr
          unfold reach at hr
          rcases Bool.or_eq_true _ _ ▸ hr with hr | hr
          · have e : c = i := by simpa using hr
            subst e
            have := List.pairwise_iff_getElem.1 hcs (m - 1) m (by omega) hm (by omega)
            apply this
            rw [(List.getElem?_eq_some_iff.1 hc).2, (List.getElem?_eq_some_iff.1 hcm).2]
          · obtain ⟨p, hp, hr⟩ := List.any_eq_true.1 hr
            have := reach_listed h.closed n c p hr (hall p hp)
            have := (h.stage (m - 1) c hc).1 this
            omega
      · omega
    subst hkm
    refine wpOp_mono ?_ (hq rfl)
    rintro a' w' ⟨v, rfl, hO⟩
    rw [ho]
    refine ⟨k + 1, updU U k v, ⟨hO, (List.getElem?_eq_some_iff.1 hcm).1, hdf _, hsz' _, hfix _, hunw _, fun j c hc => ?_, hclosed, fun j oj d hj hd hlj => ?_⟩⟩
    · rw [hget]
      split
      · rename_i e; subst e
        have : j = k := by
          rcases Nat.lt_trichotomy j k with hl' | hl' | hl'
          · exact absurd ((List.getElem?_eq_some_iff.1 hc).2.trans (List.getElem?_eq_some_iff.1 hcm).2.symm) (List.pairwise_iff_getElem.1 hcs j k (List.getElem?_eq_some_iff.1 hc).1 (List.getElem?_eq_some_iff.1 hcm).1 hl')
          · exact hl'
          · exact absurd ((List.getElem?_eq_some_iff.1 hcm).2.trans (List.getElem?_eq_some_iff.1 hc).2.symm) (List.pairwise_iff_getElem.1 hcs k j (List.getElem?_eq_some_iff.1 hcm).1 (List.getElem?_eq_some_iff.1 hc).1 hl')
        subst this
        simp
      · rename_i e
        rw [h.stage j c hc]
        have : j ≠ k := fun e' => by subst e'; rw [hcm] at hc; cases hc; exact e rfl
        omega
    · show (a.put o.dst v).eval (.tmp d) = _
      rw [put_eval hnd hsz h.size ho hj hd]
      split
      · rename_i e; subst e; simp [val, hat, updU]
      · rename_i e
        rw [hget, if_neg e] at hlj
        rw [val_upd hat hcs e]
        exact h.done j oj d hj hd hlj
theorem all_listed (hback : ∀ (i : Nat) (o : Oper), ops[i]? = some o → ∀ e ∈ o.after, Region.binds .any e = true → e.on < i) {listed : Array Bool} (hl : listed.size = ops.size) (hr : Region.ready .any ops listed = []) :
    ∀ (n i : Nat), i < n → i < ops.size → listed.getD i false = true := by
  intro n
  induction n with
  | zero => intro i hi; omega
  | succ n ih =>
    intro i hi hlt
    cases hb : listed.getD i true with
    | true => simpa [hl, hlt] using hb
    | false =>
      have : i ∈ Region.ready .any ops listed := mem_ready.2 ⟨hb, ops[i], by simp [hlt], fun e he hbe => by
        have := hback i ops[i] (by simp [hlt]) e he hbe
        exact ih e.on (by omega) (by omega)⟩
      rw [hr] at this; cases this
theorem rgn_loop (hnd : (dsts ops).Nodup) (hcs : cs.Nodup) (hcl : ∀ c ∈ cs, c < ops.size) (hsz : ∀ (i : Nat) (o : Oper) (d : Tmp), ops[i]? = some o → o.dst = some d → d < a0.tmps.size) (hchain : ∀ j, j + 1 < cs.length → ∀ c c', cs[j]? = some c → cs[j + 1]? = some c' → reach ops ops.size c c' = true)
    (hK : ∀ i, i < ops.size → at' cs i = none → ∀ c, cs[K i]? = some c → reach ops ops.size i c = true)
    (hob : ∀ i, i < ops.size → ObT P ops Q a0 cs f K Ω i)
    (hback : ∀ (i : Nat) (o : Oper), ops[i]? = some o → ∀ e ∈ o.after, Region.binds .any e = true → e.on < i)
    (hfin : ∀ a w U, a.tmps.size = a0.tmps.size → a.defers = a0.defers → (∀ t, (dsts ops).contains t = false → a.eval (.tmp t) = a0.eval (.tmp t)) → Ω cs.length U w → (∀ (i : Nat) (o : Oper) (d : Tmp), ops[i]? = some o → o.dst = some d → a.eval (.tmp d) = val cs f U i) → Q .normal a w) :
    ∀ (n : Nat) (listed : Array Bool) (a : Act) (w : World), listed.size = ops.size → n = (List.range ops.size).countP (fun i => !listed.getD i true) → (∃ k U, Rj ops a0 cs f Ω listed a w k U) → wpAny P .any ops Q n listed a w := by
  have hend : ∀ (listed : Array Bool) (a : Act) (w : World), listed.size = ops.size → (∃ k U, Rj ops a0 cs f Ω listed a w k U) → Region.ready .any ops listed = [] → Q .normal a w := by
    intro listed a w hl ⟨k, U, h⟩ hr
    have hal : ∀ i, i < ops.size → listed.getD i false = true := fun i hi => all_listed hback hl hr (i + 1) i (Nat.lt_succ_self i) hi
    have hk : k = cs.length := by
      rcases Nat.lt_or_ge k cs.length with hlt | hge
      · have := (h.stage k cs[k] (List.getElem?_eq_getElem hlt)).1 (hal _ (hcl _ (List.getElem_mem _)))
        omega
      · exact Nat.le_antisymm h.kle hge
    subst hk
    exact hfin a w U h.size h.defers h.fix h.om (fun i o d ho hd => h.done i o d ho hd (hal i (Array.getElem?_eq_some_iff.1 ho).1))
  intro n
  induction n with
  | zero =>
    intro listed a w hl hn h
    have hr : Region.ready .any ops listed = [] := by
      rw [List.eq_nil_iff_forall_not_mem]
      intro i hi
      obtain ⟨h0, o, ho, _⟩ := mem_ready.1 hi
      have := (List.countP_eq_zero.1 hn.symm) i (List.mem_range.2 (Array.getElem?_eq_some_iff.1 ho).1)
      rw [h0] at this; simp at this
    exact ⟨hr, hend listed a w hl h hr⟩
  | succ n ih =>
    intro listed a w hl hn h
    refine ⟨fun hr => hend listed a w hl h hr, fun i hi => ?_⟩
    obtain ⟨h0, o, ho, hall⟩ := mem_ready.1 hi
    have hlt : i < ops.size := (Array.getElem?_eq_some_iff.1 ho).1
    obtain ⟨k, U, h⟩ := h
    refine wpOp_mono ?_ (step hnd hcs hsz hchain hK h hl ho (by simpa [hl, hlt] using h0) ?_ (hob i hlt))
    · rintro a' w' hR
      refine ih _ _ _ (by simp [hl]) ?_ hR
      have hc : ∀ (l : List Nat), l.Nodup → i ∈ l → l.countP (fun j => !listed.getD j true) = l.countP (fun j => !(listed.setIfInBounds i true).getD j true) + 1 := by
        intro l
        induction l with
        | nil => intro _ hm; cases hm
        | cons x l ihl =>
          intro hnd' hm
          obtain ⟨hx, hl'⟩ := List.nodup_cons.1 hnd'
          rw [List.countP_cons, List.countP_cons]
          by_cases e : x = i
          · subst e
            have e1 : (listed.setIfInBounds x true).getD x true = true := by simp [hl, hlt]
            have e2 : l.countP (fun j => !listed.getD j true) = l.countP (fun j => !(listed.setIfInBounds x true).getD j true) :=
              List.countP_congr (fun j hj => by rw [getD_set_ne true (fun (e : x = j) => hx (e ▸ hj))])
            rw [h0, e1, e2]; rfl
          · have hm' : i ∈ l := by rcases List.mem_cons.1 hm with h | h; exact absurd h.symm e; exact h
            rw [ihl hl' hm', getD_set_ne true (Ne.symm e)]
            omega
      have := hc (List.range ops.size) List.nodup_range (List.mem_range.2 hlt)
      omega
    · intro p hp
      unfold px at hp
      rw [ho] at hp
      simp only [List.mem_map, List.mem_filter] at hp
      obtain ⟨e, ⟨he, hb⟩, rfl⟩ := hp
      exact hall e (by simpa using he) hb
/-- The obligations, one behind the other. -/
def Obs (f : Nat → Prop) : Nat → Nat → Prop
  | _, 0 => True
  | k, n + 1 => f k ∧ Obs f (k + 1) n
theorem Obs.get {f : Nat → Prop} : ∀ {n k : Nat}, Obs f k n → ∀ i, k ≤ i → i < k + n → f i
  | 0, k, _, i, h1, h2 => by omega
  | n + 1, k, h, i, h1, h2 => by
    by_cases e : i = k
    · subst e; exact h.1
    · exact Obs.get h.2 i (by omega) (by omega)
def szB (ops : Array Oper) (n : Nat) : Bool := ops.toList.all fun o => match o.dst with | some d => decide (d < n) | none => true
def backB (ops : Array Oper) : Bool := (List.range ops.size).all fun i => match ops[i]? with | some o => o.after.toList.all (fun e => !Region.binds .any e || decide (e.on < i)) | none => true
def chainB (ops : Array Oper) : List Nat → Bool
  | c :: c' :: cs => reach ops ops.size c c' && chainB ops (c' :: cs)
  | _ => true
theorem chainB_get {cs : List Nat} (h : chainB ops cs = true) : ∀ j, j + 1 < cs.length → ∀ c c', cs[j]? = some c → cs[j + 1]? = some c' → reach ops ops.size c c' = true := by
  induction cs with
  | nil => intro j hj; simp at hj
  | cons x cs ih =>
    cases cs with
    | nil => intro j hj; simp at hj
    | cons y cs =>
      unfold chainB at h
      rw [Bool.and_eq_true] at h
      intro j hj c c' h1 h2
      cases j with
      | zero => simp at h1 h2; subst h1; subst h2; exact h.1
      | succ j => exact ih h.2 j (by simpa using hj) c c' (by simpa using h1) (by simpa using h2)
def kB (ops : Array Oper) (cs : List Nat) (K : Nat → Nat) : Bool := (List.range ops.size).all fun i => match at' cs i with | some _ => true | none => match cs[K i]? with | some c => reach ops ops.size i c | none => true
/-- All that a program can look up. -/
def okB (ops : Array Oper) (cs : List Nat) (K : Nat → Nat) (n : Nat) : Bool := decide (dsts ops).Nodup && (decide cs.Nodup && (cs.all (fun c => decide (c < ops.size)) && (szB ops n && (backB ops && (chainB ops cs && kB ops cs K)))))
theorem wp_rgn {id : Nat} {w0 : World} (cs : List Nat) (f : Nat → Value) (K : Nat → Nat) (Ω : Nat → (Nat → Value) → World → Prop) (hm : P.follows .mixedOrders = true) (hok : okB ops cs K a0.tmps.size = true)
    (hst : Ω 0 (fun _ => undef) { w0 with drawn := w0.drawn + 1 }) (hob : Obs (ObT P ops Q a0 cs f K Ω) 0 ops.size)
    (hfin : ∀ a w U, a.tmps.size = a0.tmps.size → a.defers = a0.defers → (∀ t, (dsts ops).contains t = false → a.eval (.tmp t) = a0.eval (.tmp t)) → Ω cs.length U w → (∀ (i : Nat) (o : Oper) (d : Tmp), ops[i]? = some o → o.dst = some d → a.eval (.tmp d) = val cs f U i) → Q .normal a w) :
    (Code.region id ops true).wp P Q a0 w0 := by
  unfold okB at hok
  simp only [Bool.and_eq_true, decide_eq_true_eq] at hok
  obtain ⟨hnd, hcs, hcl, hsz, hbk, hch, hkk⟩ := hok
  refine wp_region_any hm (rgn_loop (a0 := a0) (K := K) hnd hcs ?_ ?_ (chainB_get hch) ?_ (fun i hi => hob.get i (Nat.zero_le _) (by omega)) ?_ hfin _ _ _ _ (by simp) ?_ ?_)
  · intro c hc
    exact of_decide_eq_true (List.all_eq_true.1 hcl c hc)
  · intro i o d ho hd
    have := List.all_eq_true.1 hsz o (by simpa using Array.mem_of_getElem? ho)
    rw [hd] at this; exact of_decide_eq_true this
  · intro i hi hn c hc
    have := List.all_eq_true.1 hkk i (List.mem_range.2 hi)
    rw [hn] at this
    simp only [hc] at this
    exact this
  · intro i o ho e he hb
    have := List.all_eq_true.1 hbk i (List.mem_range.2 (Array.getElem?_eq_some_iff.1 ho).1)
    rw [ho] at this
    have := List.all_eq_true.1 this e (by simpa using he)
    rw [hb] at this; exact of_decide_eq_true (by simpa using this)
  · rw [List.countP_eq_length.2 ?_]
    · simp
    · intro i hi
      have := List.mem_range.1 hi
      simp [this]
  · have hno : ∀ i, (Array.replicate ops.size false).getD i false = false := by
      intro i
      simp [Array.getD_eq_getD_getElem?]
      rw [Array.getElem?_replicate]
      split <;> rfl
    refine ⟨0, fun _ => undef, hst, Nat.zero_le _, rfl, rfl, fun _ _ => rfl, fun _ _ => rfl, fun j c hc => ?_, fun i hi => ?_, fun i o d ho hd hl => ?_⟩
    · rw [hno]; simp
    · rw [hno] at hi; cases hi
    · rw [hno] at hl; cases hl
/-- The slots behind the region. -/
def lay : List Oper → Nat → (Nat → Value) → Act → Act
  | [], _, _, a => a
  | o :: os, i, V, a => lay os (i + 1) V (a.put o.dst (V i))
theorem put_size (a : Act) (d : Option Tmp) (v : Value) : (a.put d v).tmps.size = a.tmps.size ∧ (a.put d v).defers = a.defers := by
  cases d <;> simp [Act.put]
theorem lay_size : ∀ (os : List Oper) (i : Nat) (V : Nat → Value) (a : Act), (lay os i V a).tmps.size = a.tmps.size ∧ (lay os i V a).defers = a.defers
  | [], _, _, a => ⟨rfl, rfl⟩
  | o :: os, i, V, a => by
    have h := lay_size os (i + 1) V (a.put o.dst (V i))
    have k := put_size a o.dst (V i)
    exact ⟨h.1.trans k.1, h.2.trans k.2⟩
theorem lay_not : ∀ (os : List Oper) (i : Nat) (V : Nat → Value) (a : Act) (t : Tmp), t ∉ os.filterMap (·.dst) → (lay os i V a).eval (.tmp t) = a.eval (.tmp t)
  | [], _, _, a, t, _ => rfl
  | o :: os, i, V, a, t, h => by
    have h' : t ∉ os.filterMap (·.dst) ∧ o.dst ≠ some t := by
      cases hx : o.dst with
      | none => rw [List.filterMap_cons_none hx] at h; exact ⟨h, by simp⟩
      | some y => rw [List.filterMap_cons_some hx] at h; simp at h; exact ⟨by simpa using h.2, by intro e; cases e; exact h.1 rfl⟩
    rw [lay, lay_not os (i + 1) V _ t h'.1, Act.eval_put (fun d hd e => ?_)]
    cases e; exact h'.2 hd
theorem lay_mem : ∀ (os : List Oper) (i : Nat) (V : Nat → Value) (a : Act) (j : Nat) (o : Oper) (d : Tmp), (os.filterMap (·.dst)).Nodup → os[j]? = some o → o.dst = some d → d < a.tmps.size → (lay os i V a).eval (.tmp d) = V (i + j)
  | [], _, _, _, j, o, d, _, h, _, _ => by simp at h
  | x :: os, i, V, a, j, o, d, hn, h, hd, hlt => by
    have hn' : (os.filterMap (·.dst)).Nodup ∧ (x.dst = some d → d ∉ os.filterMap (·.dst)) := by
      cases hx : x.dst with
      | none => rw [List.filterMap_cons_none hx] at hn; exact ⟨hn, fun e => by cases e⟩
      | some y =>
        rw [List.filterMap_cons_some hx] at hn
        obtain ⟨h1, h2⟩ := List.nodup_cons.1 hn
        exact ⟨h2, fun e => by cases e; exact h1⟩
    cases j with
    | zero =>
      simp at h; subst h
      rw [lay, lay_not _ _ _ _ _ (hn'.2 hd), hd]
      simp [Act.put, Act.eval, hlt]
    | succ j =>
      simp at h
      rw [lay, lay_mem os (i + 1) V _ j o d hn'.1 h hd (by rw [(put_size _ _ _).1]; exact hlt), show i + 1 + j = i + (j + 1) by omega]
theorem act_ext {a b : Act} (hs : a.tmps.size = b.tmps.size) (hd : a.defers = b.defers) (h : ∀ t, t < b.tmps.size → a.eval (.tmp t) = b.eval (.tmp t)) : a = b := by
  obtain ⟨ta, da⟩ := a
  obtain ⟨tb, db⟩ := b
  simp only at hs hd h
  subst hd
  congr 1
  apply Array.ext hs
  intro i h1 h2
  have := h i h2
  simpa [Act.eval, h1, h2] using this
/-- As 'wp_rgn', the slots laid out anew behind the region. -/
theorem wp_rgn' {id : Nat} {w0 : World} (cs : List Nat) (f : Nat → Value) (K : Nat → Nat) (Ω : Nat → (Nat → Value) → World → Prop) (hm : P.follows .mixedOrders = true) (hok : okB ops cs K a0.tmps.size = true)
    (hst : Ω 0 (fun _ => undef) { w0 with drawn := w0.drawn + 1 }) (hob : Obs (ObT P ops Q a0 cs f K Ω) 0 ops.size)
    (hfin : ∀ w U, Ω cs.length U w → Q .normal (lay ops.toList 0 (val cs f U) a0) w) : (Code.region id ops true).wp P Q a0 w0 := by
  refine wp_rgn cs f K Ω hm hok hst hob (fun a w U hs hd hfix hO hv => ?_)
  unfold okB at hok
  simp only [Bool.and_eq_true, decide_eq_true_eq] at hok
  obtain ⟨hnd, -, -, hsz, -⟩ := hok
  have e : a = lay ops.toList 0 (val cs f U) a0 := by
    have hl := lay_size ops.toList 0 (val cs f U) a0
    refine act_ext (hs.trans hl.1.symm) (hd.trans hl.2.symm) (fun t ht => ?_)
    cases hc : (dsts ops).contains t with
    | false =>
      rw [hfix t hc, lay_not _ _ _ _ _ (by simpa [dsts] using hc)]
    | true =>
      have : t ∈ dsts ops := by simpa using hc
      unfold dsts at this
      obtain ⟨o, ho, hd'⟩ := List.mem_filterMap.1 this
      obtain ⟨j, hj⟩ := List.getElem?_of_mem ho
      rw [lay_mem ops.toList 0 (val cs f U) a0 j o t hnd hj hd' (by rw [hl.1] at ht; exact ht), Nat.zero_add]
      exact hv j o t (by simpa using hj) hd'
  rw [e]
  exact hfin w U hO
/-- A silent operation. -/
theorem ob_val {Y : Act → World → Prop} {i : Nat} {o : Oper} {v : Value} {a : Act} {w : World} (ho : ops[i]? = some o) (hw : Region.wanted o (yielded ops a.tmps) = true) (hr : ∀ ev : Operand → Value, (∀ x, ev x = a.eval x) → (∀ c, ev (.const c) = c) → (execOp ev o).run P w = .ok (.value v) w) (hv : Y (a.put o.dst v) w) :
    wpOp P ops Q i Y a w := by
  unfold wpOp
  simp only [ho, hw, if_true]
  refine .inl ?_
  unfold Oper.wp
  rw [hr a.eval (fun _ => rfl) (fun _ => rfl)]
  exact hv
/-- An operation that makes or writes memory. -/
theorem ob_run {Y : Act → World → Prop} {i : Nat} {o : Oper} {v : Value} {a : Act} {w w' : World} (ho : ops[i]? = some o) (hw : Region.wanted o (yielded ops a.tmps) = true) (hr : ∀ ev : Operand → Value, (∀ x, ev x = a.eval x) → (∀ c, ev (.const c) = c) → (execOp ev o).run P w = .ok (.value v) w') (hv : Y (a.put o.dst v) w') :
    wpOp P ops Q i Y a w := by
  unfold wpOp
  simp only [ho, hw, if_true]
  refine .inl ?_
  unfold Oper.wp
  rw [hr a.eval (fun _ => rfl) (fun _ => rfl)]
  exact hv
/-- An operation that yields nothing. -/
theorem ob_skip {Y : Act → World → Prop} {i : Nat} {o : Oper} {a : Act} {w w' : World} (ho : ops[i]? = some o) (hw : Region.wanted o (yielded ops a.tmps) = true) (hr : ∀ ev : Operand → Value, (∀ x, ev x = a.eval x) → (∀ c, ev (.const c) = c) → (execOp ev o).run P w = .ok .skip w') (hv : Y (a.put o.dst undef) w') :
    wpOp P ops Q i Y a w := by
  unfold wpOp
  simp only [ho, hw, if_true]
  refine .inl ?_
  unfold Oper.wp
  rw [hr a.eval (fun _ => rfl) (fun _ => rfl)]
  exact hv
/-- A call. -/
theorem ob_call {Y : Act → World → Prop} {i : Nat} {o : Oper} {a : Act} {w : World} {g : FuncId} {args : Array Value} (ho : ops[i]? = some o) (hw : Region.wanted o (yielded ops a.tmps) = true) (hr : ∀ ev : Operand → Value, (∀ x, ev x = a.eval x) → (∀ c, ev (.const c) = c) → (execOp ev o).run P w = .ok (.enter g args) w)
    (hc : Calls P g args w fun e w' => ∃ v, e = .returned v ∧ Y (a.put o.dst v) w') : wpOp P ops Q i Y a w := by
  unfold wpOp
  simp only [ho, hw, if_true]
  refine .inl ?_
  unfold Oper.wp
  rw [hr a.eval (fun _ => rfl) (fun _ => rfl)]
  refine Calls.mono hc fun e w' ⟨v, he, h1⟩ => ?_
  subst he
  exact h1
/-- Any operation, by its own law. -/
theorem ob_op {Y : Act → World → Prop} {i : Nat} {o : Oper} {a : Act} {w : World} (ho : ops[i]? = some o) (hw : Region.wanted o (yielded ops a.tmps) = true) (h : Oper.wp P o a w Y Q) : wpOp P ops Q i Y a w := by
  unfold wpOp
  simp only [ho, hw, if_true]
  exact .inl h
theorem wanted_none {o : Oper} {a : Act} (h : o.guard = none) : Region.wanted o (yielded ops a.tmps) = true := by
  unfold Region.wanted; rw [h]
theorem wanted_some {o og : Oper} {a : Act} {g d : Nat} {b : Bool} (h : o.guard = some (g, b)) (hg : ops[g]? = some og) (hd : og.dst = some d) (he : a.eval (.tmp d) = .bool b) : Region.wanted o (yielded ops a.tmps) = true := by
  have hy : yielded ops a.tmps g = some b := by
    unfold yielded
    rw [hg]
    simp only [Option.bind_some, hd]
    simp only [Act.eval, Array.getD_eq_getD_getElem?] at he
    cases hx : a.tmps[d]? with
    | none => rw [hx] at he; simp [undef] at he
    | some x => rw [hx] at he; simp at he; rw [he]
  unfold Region.wanted
  rw [h]
  simp [hy]
/-- Operation p, whose slot is d, comes ahead of operation i. -/
def predB (ops : Array Oper) (i p d : Nat) : Bool := (px ops i).contains p && (match ops[p]? with | some o => o.dst == some d | none => false)
theorem pred_use {i : Nat} {a : Act} {U : Nat → Value} (h : ∀ p, p ∈ px ops i → ∀ o d, ops[p]? = some o → o.dst = some d → a.eval (.tmp d) = val cs f U p) (p d : Nat) (hb : predB ops i p d = true) : a.eval (.tmp d) = val cs f U p := by
  unfold predB at hb
  rw [Bool.and_eq_true] at hb
  obtain ⟨h1, h2⟩ := hb
  cases ho : ops[p]? with
  | none => rw [ho] at h2; cases h2
  | some o => rw [ho] at h2; exact h p (by simpa using h1) o d ho (by simpa using h2)
theorem ObT.silent {i : Nat} (hat : at' cs i = none) (h : ∀ a w k U, Ω k U w → (∀ t, early ops i t = true → a.eval (.tmp t) = a0.eval (.tmp t)) → (∀ p d, predB ops i p d = true → a.eval (.tmp d) = val cs f U p) → k ≤ K i → wpOp P ops Q i (fun a' w' => a' = a.put ((ops[i]?).bind (·.dst)) (f i) ∧ Ω k U w') a w) : ObT P ops Q a0 cs f K Ω i := by
  intro a w k U h1 h2 h3 h4
  rw [hat]
  exact h a w k U h1 h2 (pred_use h3)
/-- As 'silent', with what is known of the stage from below. -/
def lowB (ops : Array Oper) (cs : List Nat) (i j : Nat) : Bool := match cs[j]? with | some c => (px ops i).contains c | none => false
theorem ObT.silent' {i : Nat} (hat : at' cs i = none) (h : ∀ a w k U, Ω k U w → (∀ t, early ops i t = true → a.eval (.tmp t) = a0.eval (.tmp t)) → (∀ p d, predB ops i p d = true → a.eval (.tmp d) = val cs f U p) → (∀ j, lowB ops cs i j = true → j < k) → k ≤ K i → wpOp P ops Q i (fun a' w' => a' = a.put ((ops[i]?).bind (·.dst)) (f i) ∧ Ω k U w') a w) : ObT P ops Q a0 cs f K Ω i := by
  intro a w k U h1 h2 h3 h4
  rw [hat]
  refine h a w k U h1 h2 (pred_use h3) (fun j hj => ?_)
  unfold lowB at hj
  cases hc : cs[j]? with
  | none => rw [hc] at hj; cases hj
  | some c => rw [hc] at hj; exact h4 j c hc (by simpa using hj)
/-- A silent operation that looks at no memory. -/
theorem ObT.pure {i : Nat} {o : Oper} (hat : at' cs i = none) (ho : ops[i]? = some o) (hg : o.guard = none) (h : ∀ (a : Act) (U : Nat → Value), (∀ t, early ops i t = true → a.eval (.tmp t) = a0.eval (.tmp t)) → (∀ p d, predB ops i p d = true → a.eval (.tmp d) = val cs f U p) → ∀ (ev : Operand → Value), (∀ x, ev x = a.eval x) → (∀ c, ev (.const c) = c) → ∀ w, (execOp ev o).run P w = .ok (.value (f i)) w) : ObT P ops Q a0 cs f K Ω i := by
  refine ObT.silent hat (fun a w k U h1 h2 h3 hk => ?_)
  refine ob_val ho (wanted_none hg) (fun ev he hc => h a U h2 h3 ev he hc w) ⟨?_, h1⟩
  rw [ho]; rfl
theorem ObT.loud {i j : Nat} (hat : at' cs i = some j) (h : ∀ a w U, Ω j U w → (∀ t, early ops i t = true → a.eval (.tmp t) = a0.eval (.tmp t)) → (∀ p d, predB ops i p d = true → a.eval (.tmp d) = val cs f U p) → wpOp P ops Q i (fun a' w' => ∃ v, a' = a.put ((ops[i]?).bind (·.dst)) v ∧ Ω (j + 1) (updU U j v) w') a w) : ObT P ops Q a0 cs f K Ω i := by
  intro a w k U h1 h2 h3 h4
  rw [hat]
  intro e; subst e
  exact h a w U h1 h2 (pred_use h3)
end
end Go.Proofs.YtefaohokmhdplaaDoor.RU
