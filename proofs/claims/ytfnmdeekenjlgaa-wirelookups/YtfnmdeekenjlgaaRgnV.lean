/- A region in whatever order, as RgnU has it, in a round of a range over a function. -/
import Derived.Test.YtfnmdeekenjlgaaRgnU
import Derived.OrdersIn
import Derived.RangeFuncCalls
namespace Go.Proofs.Ytfnmdeekenjlgaa.RU
open Go Go.RowKit
set_option linter.unusedSimpArgs false
set_option linter.unusedVariables false

theorem rows_wide {n l : Nat} {P : Program} {row : String} {args : Array Value} {w : World} {R : Value → World → Prop} (h : Rows P row args w R) : RowsIn (Fence.wide.inRound l) n P row args w R :=
  fun c cs _ => let ⟨v, w', r, s⟩ := h c cs; ⟨v, w', r, (stepsIn_wide (P := P)).2 s⟩
theorem oper_in {l n : Nat} {P : Program} {o : Oper} {a : Act} {w : World} {K : Act → World → Prop} {Q : Exit → Act → World → Prop} (hd : ∀ c, o.op ≠ .defer c) (h : o.wp P a w K Q) : o.wpIn (Fence.wide.inRound l) n P a w K Q := by
  unfold Oper.wp at h
  unfold Oper.wpIn
  refine ⟨fun _ _ => trivial, ?_⟩
  rw [Oper.semAt_eq _ _ _ hd]
  generalize (execOp a.eval o).run P w = r at *
  cases r with
  | ok x w' =>
    cases x with
    | enter f args => exact ⟨(fun e => by cases e), CallsIn.inRound l (callsIn_wide.2 h)⟩
    | row r args => exact ⟨(fun e => by cases e), rows_wide h⟩
    | round l f tmps assign body => exact absurd h (by simp [Oper.upon])
    | _ => exact h
  | halt x w' => cases x <;> exact h
theorem op_in {l n : Nat} {P : Program} {ops : Array Oper} {Q : Exit → Act → World → Prop} {i : Nat} {K : Act → World → Prop} {a : Act} {w : World} (hd : ∀ o ∈ ops.toList, ∀ c, o.op ≠ .defer c) (hq : ¬ LetsOut Q) (h : wpOp P ops Q i K a w) : wpOpIn (Fence.wide.inRound l) n P ops Q i K a w := by
  unfold wpOp at h
  unfold wpOpIn
  cases ho : ops[i]? with
  | none => rw [ho] at h; exact h
  | some o =>
    rw [ho] at h
    simp only at h ⊢
    split
    · rename_i hw
      rw [if_pos hw] at h
      rcases h with h | h
      · exact oper_in (hd o (by simpa using Array.mem_of_getElem? ho)) h
      · exact absurd h.2 hq
    · rename_i hw
      rw [if_neg hw] at h
      exact ⟨fun _ _ => trivial, h⟩
theorem any_in {l n : Nat} {P : Program} {ops : Array Oper} {Q : Exit → Act → World → Prop} (hd : ∀ o ∈ ops.toList, ∀ c, o.op ≠ .defer c) (hq : ¬ LetsOut Q) : ∀ (fuel : Nat) (listed : Array Bool) (a : Act) (w : World), wpAny P .any ops Q fuel listed a w → wpAnyIn (Fence.wide.inRound l) n P .any ops Q fuel listed a w
  | 0, _, _, _, h => h
  | fuel + 1, listed, a, w, h => ⟨h.1, fun i hi => op_in hd hq (wpOp_mono (fun a w hh => any_in hd hq fuel _ a w hh) (h.2 i hi))⟩
def noDefer (ops : Array Oper) : Bool := ops.toList.all fun o => match o.op with | .defer _ => false | _ => true
theorem noDefer_get {ops : Array Oper} (h : noDefer ops = true) : ∀ o ∈ ops.toList, ∀ c, o.op ≠ .defer c := fun o ho c e => by
  have := List.all_eq_true.1 h o ho
  rw [e] at this; cases this
section
variable {P : Program} {ops : Array Oper} {Q : Exit → Act → World → Prop} {a0 : Act}
theorem wpIn_rgn {id l n : Nat} {w0 : World} (cs : List Nat) (f : Nat → Value) (K : Nat → Nat) (Ω : Nat → (Nat → Value) → World → Prop) (hdf : noDefer ops = true) (hlo : ¬ LetsOut Q) (hm : P.follows .mixedOrders = true) (hok : okB ops cs K a0.tmps.size = true)
    (hst : Ω 0 (fun _ => undef) { w0 with drawn := w0.drawn + 1 }) (hob : Obs (ObT P ops Q a0 cs f K Ω) 0 ops.size)
    (hfin : ∀ a w U, a.tmps.size = a0.tmps.size → a.defers = a0.defers → (∀ t, (dsts ops).contains t = false → a.eval (.tmp t) = a0.eval (.tmp t)) → Ω cs.length U w → (∀ (i : Nat) (o : Oper) (d : Tmp), ops[i]? = some o → o.dst = some d → a.eval (.tmp d) = val cs f U i) → Q .normal a w) :
    (Code.region id ops true).wpIn (Fence.wide.inRound l) n P Q a0 w0 := by
  unfold okB at hok
  simp only [Bool.and_eq_true, decide_eq_true_eq] at hok
  obtain ⟨hnd, hcs, hcl, hsz, hbk, hch, hkk⟩ := hok
  refine wpIn_region_any hm (any_in (noDefer_get hdf) hlo _ _ _ _ (rgn_loop (a0 := a0) (K := K) hnd hcs ?_ ?_ (chainB_get hch) ?_ (fun i hi => hob.get i (Nat.zero_le _) (by omega)) ?_ hfin _ _ _ _ (by simp) ?_ ?_))
  · intro c hc
    exact of_decide_eq_true (List.all_eq_true.1 hcl c hc)
  · intro i o d ho hd
    have := List.all_eq_true.1 hsz o (by simpa using Array.mem_of_getElem? ho)
    rw [hd] at this; exact of_decide_eq_true this
  · intro i hi hn c hc
    have := List.all_eq_true.1 hkk i (List.mem_range.2 hi)
    rw [hn] at this
    simp only [hc] at this
    exact this
  · intro i o ho e he hb
    have := List.all_eq_true.1 hbk i (List.mem_range.2 (Array.getElem?_eq_some_iff.1 ho).1)
    rw [ho] at this
    have := List.all_eq_true.1 this e (by simpa using he)
    rw [hb] at this; exact of_decide_eq_true (by simpa using this)
  · rw [List.countP_eq_length.2 ?_]
    · simp
    · intro i hi
      have := List.mem_range.1 hi
      simp [this]
  · have hno : ∀ i, (Array.replicate ops.size false).getD i false = false := by
      intro i
      simp [Array.getD_eq_getD_getElem?]
      rw [Array.getElem?_replicate]
      split <;> rfl
    refine ⟨0, fun _ => undef, hst, Nat.zero_le _, rfl, rfl, fun _ _ => rfl, fun _ _ => rfl, fun j c hc => ?_, fun i hi => ?_, fun i o d ho hd hl => ?_⟩
    · rw [hno]; simp
    · rw [hno] at hi; cases hi
    · rw [hno] at hl; cases hl
theorem wpIn_rgn' {id l n : Nat} {w0 : World} (cs : List Nat) (f : Nat → Value) (K : Nat → Nat) (Ω : Nat → (Nat → Value) → World → Prop) (hdf : noDefer ops = true) (hlo : ¬ LetsOut Q) (hm : P.follows .mixedOrders = true) (hok : okB ops cs K a0.tmps.size = true)
    (hst : Ω 0 (fun _ => undef) { w0 with drawn := w0.drawn + 1 }) (hob : Obs (ObT P ops Q a0 cs f K Ω) 0 ops.size)
    (hfin : ∀ w U, Ω cs.length U w → Q .normal (lay ops.toList 0 (val cs f U) a0) w) : (Code.region id ops true).wpIn (Fence.wide.inRound l) n P Q a0 w0 := by
  refine wpIn_rgn cs f K Ω hdf hlo hm hok hst hob (fun a w U hs hd hfix hO hv => ?_)
  unfold okB at hok
  simp only [Bool.and_eq_true, decide_eq_true_eq] at hok
  obtain ⟨hnd, -, -, hsz, -⟩ := hok
  have e : a = lay ops.toList 0 (val cs f U) a0 := by
    have hl := lay_size ops.toList 0 (val cs f U) a0
    refine act_ext (hs.trans hl.1.symm) (hd.trans hl.2.symm) (fun t ht => ?_)
    cases hc : (dsts ops).contains t with
    | false =>
      rw [hfix t hc, lay_not _ _ _ _ _ (by simpa [dsts] using hc)]
    | true =>
      have : t ∈ dsts ops := by simpa using hc
      unfold dsts at this
      obtain ⟨o, ho, hd'⟩ := List.mem_filterMap.1 this
      obtain ⟨j, hj⟩ := List.getElem?_of_mem ho
      rw [lay_mem ops.toList 0 (val cs f U) a0 j o t hnd hj hd' (by rw [hl.1] at ht; exact ht), Nat.zero_add]
      exact hv j o t (by simpa using hj) hd'
  rw [e]
  exact hfin w U hO
end
end Go.Proofs.Ytfnmdeekenjlgaa.RU
