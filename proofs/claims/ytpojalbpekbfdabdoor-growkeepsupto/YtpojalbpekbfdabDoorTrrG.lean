/- The reference: Top. -/
import Derived.Test.YtpojalbpekbfdabDoorTrrE
import Derived.Test.YtpojalbpekbfdabDoorRgnU
import Derived.Test.YtpojalbpekbfdabDoorShaP
import Derived.Deep.AppendLies
import Derived.Laws.AppendOwnNone
namespace Go.Proofs.YtpojalbpekbfdabDoor
open Go Go.RowKit
set_option linter.unusedSimpArgs false
set_option linter.unusedVariables false
set_option maxRecDepth 100000

/-- Two slices in a new row. -/
theorem ll_two {W : World} {u1 u2 : Value} {p1 p2 : List Int} (T : TypeId) (h1 : Sl W u1 p1) (h2 : Sl W u2 p2) : LL (W.alloc (.cells #[u1, u2] T)) (.slice (some ⟨W.heap.size, 0, none⟩) 2 2) [p1, p2] := by
  have hb : Below W.heap.size W (W.alloc (.cells #[u1, u2] T)) := (Below.refl _ W).alloc (Nat.le_refl _) _
  refine ⟨_, 2, rfl, by simp, .inr ⟨W.heap.size, 0, rfl, by simp, fun i hi => ?_⟩⟩
  match i, hi with
  | 0, _ => exact ⟨u1, cell_alloc W #[u1, u2] T _ 0, h1.below hb (Nat.le_refl _)⟩
  | 1, _ => exact ⟨u2, cell_alloc W #[u1, u2] T _ 1, h2.below hb (Nat.le_refl _)⟩
end Go.Proofs.YtpojalbpekbfdabDoor
/- A region in whatever order, with an invariant of one's own over what is done, what it has yielded, and the world. -/
namespace Go.Proofs.YtpojalbpekbfdabDoor.RG
open Go Go.RowKit RU
set_option linter.unusedSimpArgs false
set_option linter.unusedVariables false

def setd (d : Nat → Bool) (i : Nat) : Nat → Bool := fun j => if j = i then true else d j
def updV (V : Nat → Value) (i : Nat) (v : Value) : Nat → Value := fun j => if j = i then v else V j
section
variable {P : Program} {ops : Array Oper} {Q : Exit → Act → World → Prop} {a0 : Act} {I : (Nat → Bool) → (Nat → Value) → World → Prop}
/-- What is owed for one operation. -/
def Ob (P : Program) (ops : Array Oper) (Q : Exit → Act → World → Prop) (a0 : Act) (I : (Nat → Bool) → (Nat → Value) → World → Prop) (i : Nat) : Prop :=
  ∀ a w d V, I d V w → d i = false → (∀ p, (px ops i).contains p = true → d p = true) → (∀ j, (px ops j).contains i = true → d j = false) → (∀ t, RU.early ops i t = true → a.eval (.tmp t) = a0.eval (.tmp t)) → (∀ p t, predB ops i p t = true → a.eval (.tmp t) = V p) →
    wpOp P ops Q i (fun a' w' => ∃ v, a' = a.put ((ops[i]?).bind (·.dst)) v ∧ I (setd d i) (updV V i v) w') a w
structure Rg (ops : Array Oper) (a0 : Act) (I : (Nat → Bool) → (Nat → Value) → World → Prop) (listed : Array Bool) (a : Act) (w : World) (V : Nat → Value) : Prop where
  om : I (fun i => listed.getD i false) V w
  defers : a.defers = a0.defers
  size : a.tmps.size = a0.tmps.size
  fix : ∀ t, (dsts ops).contains t = false → a.eval (.tmp t) = a0.eval (.tmp t)
  unw : ∀ t, (∀ (j : Nat) (o : Oper), ops[j]? = some o → o.dst = some t → listed.getD j false = false) → a.eval (.tmp t) = a0.eval (.tmp t)
  closed : ∀ i, listed.getD i false = true → ∀ p ∈ px ops i, listed.getD p false = true
  done : ∀ i o d, ops[i]? = some o → o.dst = some d → listed.getD i false = true → a.eval (.tmp d) = V i
theorem predB_use {i p t : Nat} (h : predB ops i p t = true) : p ∈ px ops i ∧ ∃ o, ops[p]? = some o ∧ o.dst = some t := by
  unfold predB at h
  cases ho : ops[p]? with
  | none => rw [ho] at h; simp at h
  | some o =>
    rw [ho] at h
    simp only [Bool.and_eq_true, List.contains_iff_mem, beq_iff_eq] at h
    exact ⟨h.1, o, rfl, h.2⟩
theorem step (hnd : (dsts ops).Nodup) (hsz : ∀ (i : Nat) (o : Oper) (d : Tmp), ops[i]? = some o → o.dst = some d → d < a0.tmps.size)
    {listed : Array Bool} {a : Act} {w : World} {V : Nat → Value} {i : Nat} {o : Oper} (h : Rg ops a0 I listed a w V) (hl : listed.size = ops.size) (ho : ops[i]? = some o) (h0 : listed.getD i false = false) (hall : ∀ p ∈ px ops i, listed.getD p false = true)
    (hob : Ob P ops Q a0 I i) : wpOp P ops Q i (fun a' w' => ∃ V', Rg ops a0 I (listed.setIfInBounds i true) a' w' V') a w := by
  have hlt : i < ops.size := (Array.getElem?_eq_some_iff.1 ho).1
  have hback : ∀ j, i ∈ px ops j → listed.getD j false = false := fun j hj => by
    cases hlj : listed.getD j false with
    | false => rfl
    | true => have := h.closed j hlj i hj; rw [h0] at this; cases this
  have hear : ∀ t, RU.early ops i t = true → a.eval (.tmp t) = a0.eval (.tmp t) := by
    intro t ht
    refine h.unw t (fun j oj hj hd => ?_)
    have h1 := List.all_eq_true.1 ht j (List.mem_range.2 (Array.getElem?_eq_some_iff.1 hj).1)
    rw [hj] at h1
    simp only [hd, beq_self_eq_true, Bool.not_true, Bool.false_or] at h1
    exact hback j (by simpa using h1)
  have hq := hob a w _ V h.om h0 (fun p hp => hall p (by simpa using hp)) (fun j hj => hback j (by simpa using hj)) hear (fun p t hp => by
    obtain ⟨h1, o', h2, h3⟩ := predB_use hp
    exact h.done p o' t h2 h3 (hall p h1))
  have hget : ∀ j, (listed.setIfInBounds i true).getD j false = if j = i then true else listed.getD j false := by
    intro j
    split
    · rename_i e; subst e; simp [hl, hlt]
    · rename_i e; exact getD_set_ne false (Ne.symm e)
  refine wpOp_mono ?_ hq
  rintro a' w' ⟨v, rfl, hI⟩
  rw [ho]
  refine ⟨updV V i v, ⟨?_, ?_, ?_, ?_, ?_, ?_, ?_⟩⟩
  · have e : (fun j => (listed.setIfInBounds i true).getD j false) = setd (fun j => listed.getD j false) i := funext hget
    rw [e]; exact hI
  · show (a.put o.dst v).defers = _
    cases hx : o.dst <;> simp [Act.put, h.defers]
  · show (a.put o.dst v).tmps.size = _
    cases hx : o.dst <;> simp [Act.put, h.size]
  · intro t ht
    show (a.put o.dst v).eval (.tmp t) = _
    rw [Act.eval_put (fun d hd e => ?_)]
    · exact h.fix t ht
    · cases e; rw [dst_mem ho hd] at ht; cases ht
  · intro t ht
    have hne : o.dst ≠ some t := fun e => by
      have := ht i o ho e
      rw [hget, if_pos rfl] at this; cases this
    show (a.put o.dst v).eval (.tmp t) = _
    rw [Act.eval_put (fun d hd e => by cases e; exact hne hd)]
    refine h.unw t (fun j oj hj hd => ?_)
    have := ht j oj hj hd
    rw [hget] at this
    split at this
    · cases this
    · exact this
  · intro j hj p hp
    rw [hget] at hj ⊢
    split
    · rfl
    · split at hj
      · rename_i e'; subst e'; exact hall p hp
      · exact h.closed j hj p hp
  · intro j oj d hj hd hlj
    show (a.put o.dst v).eval (.tmp d) = _
    rw [put_eval hnd hsz h.size ho hj hd]
    unfold updV
    split
    · rfl
    · rename_i e
      rw [hget, if_neg e] at hlj
      exact h.done j oj d hj hd hlj
theorem rgn_loop (hnd : (dsts ops).Nodup) (hsz : ∀ (i : Nat) (o : Oper) (d : Tmp), ops[i]? = some o → o.dst = some d → d < a0.tmps.size)
    (hob : ∀ i, i < ops.size → Ob P ops Q a0 I i)
    (hback : ∀ (i : Nat) (o : Oper), ops[i]? = some o → ∀ e ∈ o.after, Region.binds .any e = true → e.on < i)
    (hfin : ∀ a w d V, a.tmps.size = a0.tmps.size → a.defers = a0.defers → (∀ t, (dsts ops).contains t = false → a.eval (.tmp t) = a0.eval (.tmp t)) → (∀ i, i < ops.size → d i = true) → I d V w → (∀ (i : Nat) (o : Oper) (t : Tmp), ops[i]? = some o → o.dst = some t → a.eval (.tmp t) = V i) → Q .normal a w) :
    ∀ (n : Nat) (listed : Array Bool) (a : Act) (w : World), listed.size = ops.size → n = (List.range ops.size).countP (fun i => !listed.getD i true) → (∃ V, Rg ops a0 I listed a w V) → wpAny P .any ops Q n listed a w := by
  have hend : ∀ (listed : Array Bool) (a : Act) (w : World), listed.size = ops.size → (∃ V, Rg ops a0 I listed a w V) → Region.ready .any ops listed = [] → Q .normal a w := by
    intro listed a w hl ⟨V, h⟩ hr
    have hal : ∀ i, i < ops.size → listed.getD i false = true := fun i hi => all_listed hback hl hr (i + 1) i (Nat.lt_succ_self i) hi
    exact hfin a w _ V h.size h.defers h.fix hal h.om (fun i o d ho hd => h.done i o d ho hd (hal i (Array.getElem?_eq_some_iff.1 ho).1))
  intro n
  induction n with
  | zero =>
    intro listed a w hl hn h
    have hr : Region.ready .any ops listed = [] := by
      rw [List.eq_nil_iff_forall_not_mem]
      intro i hi
      obtain ⟨h0, o, ho, _⟩ := mem_ready.1 hi
      have := (List.countP_eq_zero.1 hn.symm) i (List.mem_range.2 (Array.getElem?_eq_some_iff.1 ho).1)
      rw [h0] at this; simp at this
    exact ⟨hr, hend listed a w hl h hr⟩
  | succ n ih =>
    intro listed a w hl hn h
    refine ⟨fun hr => hend listed a w hl h hr, fun i hi => ?_⟩
    obtain ⟨h0, o, ho, hall⟩ := mem_ready.1 hi
    have hlt : i < ops.size := (Array.getElem?_eq_some_iff.1 ho).1
    obtain ⟨V, h⟩ := h
    refine wpOp_mono ?_ (step hnd hsz h hl ho (by simpa [hl, hlt] using h0) ?_ (hob i hlt))
    · rintro a' w' hR
      refine ih _ _ _ (by simp [hl]) ?_ hR
      have hc : ∀ (l : List Nat), l.Nodup → i ∈ l → l.countP (fun j => !listed.getD j true) = l.countP (fun j => !(listed.setIfInBounds i true).getD j true) + 1 := by
        intro l
        induction l with
        | nil => intro _ hm; cases hm
        | cons x l ihl =>
          intro hnd' hm
          obtain ⟨hx, hl'⟩ := List.nodup_cons.1 hnd'
          rw [List.countP_cons, List.countP_cons]
          by_cases e : x = i
          · subst e
            have e1 : (listed.setIfInBounds x true).getD x true = true := by simp [hl, hlt]
            have e2 : l.countP (fun j => !listed.getD j true) = l.countP (fun j => !(listed.setIfInBounds x true).getD j true) :=
              List.countP_congr (fun j hj => by rw [getD_set_ne true (fun (e : x = j) => hx (e ▸ hj))])
            rw [h0, e1, e2]; rfl
          · have hm' : i ∈ l := by rcases List.mem_cons.1 hm with h | h; exact absurd h.symm e; exact h
            rw [ihl hl' hm', getD_set_ne true (Ne.symm e)]
            omega
      have := hc (List.range ops.size) List.nodup_range (List.mem_range.2 hlt)
      omega
    · intro p hp
      unfold px at hp
      rw [ho] at hp
      simp only [List.mem_map, List.mem_filter] at hp
      obtain ⟨e, ⟨he, hb⟩, rfl⟩ := hp
      exact hall e (by simpa using he) hb
/-- All that a program can look up. -/
def okG (ops : Array Oper) (n : Nat) : Bool := decide (dsts ops).Nodup && (szB ops n && backB ops)
theorem wp_rgn {id : Nat} {w0 : World} (I : (Nat → Bool) → (Nat → Value) → World → Prop) (hm : P.follows .mixedOrders = true) (hok : okG ops a0.tmps.size = true)
    (hst : I (fun _ => false) (fun _ => undef) { w0 with drawn := w0.drawn + 1 }) (hob : Obs (Ob P ops Q a0 I) 0 ops.size)
    (hfin : ∀ a w d V, a.tmps.size = a0.tmps.size → a.defers = a0.defers → (∀ t, (dsts ops).contains t = false → a.eval (.tmp t) = a0.eval (.tmp t)) → (∀ i, i < ops.size → d i = true) → I d V w → (∀ (i : Nat) (o : Oper) (t : Tmp), ops[i]? = some o → o.dst = some t → a.eval (.tmp t) = V i) → Q .normal a w) :
    (Code.region id ops true).wp P Q a0 w0 := by
  unfold okG at hok
  simp only [Bool.and_eq_true, decide_eq_true_eq] at hok
  obtain ⟨hnd, hsz, hbk⟩ := hok
  refine wp_region_any hm (rgn_loop (a0 := a0) (I := I) hnd ?_ (fun i hi => hob.get i (Nat.zero_le _) (by omega)) ?_ hfin _ _ _ _ (by simp) ?_ ?_)
  · intro i o d ho hd
    have := List.all_eq_true.1 hsz o (by simpa using Array.mem_of_getElem? ho)
    rw [hd] at this; exact of_decide_eq_true this
  · intro i o ho e he hb
    have := List.all_eq_true.1 hbk i (List.mem_range.2 (Array.getElem?_eq_some_iff.1 ho).1)
    rw [ho] at this
    have := List.all_eq_true.1 this e (by simpa using he)
    rw [hb] at this; exact of_decide_eq_true (by simpa using this)
  · rw [List.countP_eq_length.2 ?_]
    · simp
    · intro i hi
      have := List.mem_range.1 hi
      simp [this]
  · have hno : ∀ i, (Array.replicate ops.size false).getD i false = false := by
      intro i
      simp [Array.getD_eq_getD_getElem?]
      rw [Array.getElem?_replicate]
      split <;> rfl
    refine ⟨fun _ => undef, ?_, rfl, rfl, fun _ _ => rfl, fun _ _ => rfl, fun i hi => ?_, fun i o d ho hd hl => ?_⟩
    · have e : (fun i => (Array.replicate ops.size false).getD i false) = fun _ => false := funext hno
      rw [e]; exact hst
    · rw [hno] at hi; cases hi
    · rw [hno] at hl; cases hl
/-- As 'wp_rgn', the slots laid out anew behind the region. -/
theorem wp_rgn' {id : Nat} {w0 : World} (I : (Nat → Bool) → (Nat → Value) → World → Prop) (hm : P.follows .mixedOrders = true) (hok : okG ops a0.tmps.size = true)
    (hst : I (fun _ => false) (fun _ => undef) { w0 with drawn := w0.drawn + 1 }) (hob : Obs (Ob P ops Q a0 I) 0 ops.size)
    (hfin : ∀ w d V, (∀ i, i < ops.size → d i = true) → I d V w → Q .normal (lay ops.toList 0 V a0) w) : (Code.region id ops true).wp P Q a0 w0 := by
  refine wp_rgn I hm hok hst hob (fun a w d V hs hd hfix hal hO hv => ?_)
  unfold okG at hok
  simp only [Bool.and_eq_true, decide_eq_true_eq] at hok
  obtain ⟨hnd, hsz, -⟩ := hok
  have e : a = lay ops.toList 0 V a0 := by
    have hl := lay_size ops.toList 0 V a0
    refine act_ext (hs.trans hl.1.symm) (hd.trans hl.2.symm) (fun t ht => ?_)
    cases hc : (dsts ops).contains t with
    | false =>
      rw [hfix t hc, lay_not _ _ _ _ _ (by simpa [dsts] using hc)]
    | true =>
      have : t ∈ dsts ops := by simpa using hc
      unfold dsts at this
      obtain ⟨o, ho, hd'⟩ := List.mem_filterMap.1 this
      obtain ⟨j, hj⟩ := List.getElem?_of_mem ho
      rw [lay_mem ops.toList 0 V a0 j o t hnd hj hd' (by rw [hl.1] at ht; exact ht), Nat.zero_add]
      exact hv j o t (by simpa using hj) hd'
  rw [e]
  exact hfin w d V hal hO
end
end Go.Proofs.YtpojalbpekbfdabDoor.RG
/- The reference's own small functions: 'rotr32', 'k256', and a message with what is laid behind it: 'padded'. -/
namespace Go.Proofs.YtpojalbpekbfdabDoor.Sh
open Go Go.RowKit
attribute [local go_sem] u_xor u_and u_or u_add u_shl u_shr

theorem or_comm32 (a b : BitVec 32) : a ||| b = b ||| a := BitVec.or_comm a b
set_option maxHeartbeats 400000 in
theorem rrotr (x : BitVec 32) (k : Int) (h1 : 1 ≤ k) (h2 : k ≤ 31) (w : World) :
    Calls Tryd.prog 70 #[U x, .int .u64 k] w fun e w' => e = .returned (U (rotr x k.toNat)) ∧ w' = w := by
  obtain ⟨n, rfl⟩ := Int.eq_ofNat_of_zero_le (show 0 ≤ k by omega)
  have hw : IntKind.u64.wrap (32 - (n : Int)) = ((32 - n : Nat) : Int) := by rw [IntKind.wrap_u64]; omega
  have m1 : min n 32 = n := by omega
  have m2 : min (32 - n) 32 = 32 - n := by omega
  have HE : Hid (x >>> n ||| x <<< (32 - n) = rotr x n) := by unfold rotr; exact or_comm32 _ _
  go_enter Tryd.func70, Tryd.ntmps70
  go_wp2
  go_ret
  exact ⟨congrArg (fun y => Ending.returned (U y)) HE.out, rfl⟩

/-- The first k bytes of f. -/
def bl (f : Nat → BitVec 8) (k : Nat) : List Value := (List.range k).map fun i => B (f i)
theorem bl_length (f : Nat → BitVec 8) (k : Nat) : (bl f k).length = k := by simp [bl]
theorem bl_succ (f : Nat → BitVec 8) (k : Nat) : bl f (k + 1) = bl f k ++ [B (f k)] := by simp [bl, List.range_succ]
theorem bl_congr (f g : Nat → BitVec 8) (k : Nat) (h : ∀ i, i < k → f i = g i) : bl f k = bl g k := by
  unfold bl
  exact List.map_congr_left fun i hi => by rw [h i (by simpa using hi)]
theorem bl_one (f : Nat → BitVec 8) (k : Nat) : ∀ v ∈ bl f k, v.oneCell' = true := bytes_one k f
theorem bl_zero (f : Nat → BitVec 8) : bl f 0 = [] := rfl
/-- A row of the call's own: what has been gathered. -/
structure Own (w wr : World) (v : Value) (k : Nat) (f : Nat → BitVec 8) : Prop where
  below : Below w.heap.size w wr
  own : wr.ownsRow w.heap.size 5 1 v k (bl f k)
theorem Own.blk {w wr : World} {v : Value} {k : Nat} {f : Nat → BitVec 8} (h : Own w wr v k f) : ∀ b, v.ownBlock = some b → w.heap.size ≤ b := by
  intro b hb
  rcases h.own.2 with ⟨rfl, _⟩ | ⟨g, cap, cur, rfl, hg, _⟩
  · simp [Value.ownBlock] at hb
  · simp [Value.ownBlock] at hb; omega
theorem info_u8 : ∃ i, Tryd.prog.info? 5 = some i ∧ i.zero = some (.int .u8 0) ∧ i.size = 1 ∧ i.bytes = 1 := by
  have h1 : (Tryd.prog.info? 5).map (·.size) = some 1 := by kernel_rfl
  have h2 : (Tryd.prog.info? 5).map (·.bytes) = some 1 := by kernel_rfl
  have h3 : (Tryd.prog.info? 5).map (·.zero) = some (some (.int .u8 0)) := by kernel_rfl
  cases hq : Tryd.prog.info? 5 with
  | none => rw [hq] at h1; cases h1
  | some i =>
    rw [hq] at h1 h2 h3
    exact ⟨i, rfl, Option.some.inj h3, Option.some.inj h1, Option.some.inj h2⟩
theorem Own.alloc {w wr : World} {v : Value} {k : Nat} {f : Nat → BitVec 8} (h : Own w wr v k f) (o : Obj) : Own w (wr.alloc o) v k f :=
  ⟨h.below.alloc (by have := h.below.size; omega) o, h.own.alloc o⟩
theorem Own.drewN {w wr : World} {v : Value} {k : Nat} {f : Nat → BitVec 8} (h : Own w wr v k f) (n : Nat) : Own w (wr.drewN n) v k f :=
  ⟨below_drewN h.below n, h.own⟩
theorem Own.congr {w wr : World} {v : Value} {k : Nat} {f g : Nat → BitVec 8} (h : Own w wr v k f) (hg : ∀ i, i < k → f i = g i) : Own w wr v k g :=
  ⟨h.below, by rw [← bl_congr f g k hg]; exact h.own⟩
/-- append of bytes onto a row of the call's own. -/
theorem app_own {ops : Array Oper} {rest : List Oper} {o : Oper} {a : Act} {Q : Exit → Act → World → Prop} {w wr : World} (hgd : o.guard = none) (s x : Operand) (ho : o.op = .call { callee := .builtin .append, args := #[s, x], argTypes := #[51, 51] })
    (v : Value) (k : Nat) (f : Nat → BitVec 8) (hs : a.eval s = v) (h0 : Own w wr v k f) (ad : Addr) (m c : Nat) (hx : a.eval x = .slice (some ad) m c) (f' : Nat → BitVec 8) (hf : ∀ i, i < k → f i = f' i)
    (hg : ∀ i, i < m → wr.cell? (ad.add i) = some (B (f' (k + i)))) (hk : k + m ≤ 140737488355328)
    (h : ∀ v' w', Own w w' v' (k + m) f' → wr.heap.size ≤ w'.heap.size → wpList Tryd.prog ops Q rest (a.put o.dst v') w') : wpList Tryd.prog ops Q (o :: rest) a wr := by
  obtain ⟨i, hi, hz, hsz, hby⟩ := info_u8
  have hb := h0.below.size
  refine wpList_append_own_at wr hgd s x 51 ho w.heap.size 5 i (.int .u8 0) 1 1 Tryd.underlying51 hi hz hsz hby rfl (by decide) v k (bl f k) hs h0.own ad m c (bl (fun j => f' (k + j)) m) hx (by rw [bl_length]; omega) ?_ (bl_one _ _) (by unfold maxLen; omega) (by omega) hb ?_
  · intro j u hu
    obtain ⟨hj, hv⟩ := List.getElem?_eq_some_iff.1 hu
    rw [bl_length] at hj
    rw [hg j hj, ← hv]
    simp [bl]
  · intro v' w' h1 h2 h3 h4
    refine h v' w' ⟨h0.below.grown h2 hb (fun b hb' => h0.blk b hb'), ?_⟩ h2.size
    have e : bl f k ++ bl (fun j => f' (k + j)) m = bl f' (k + m) := by
      rw [bl_congr f f' k hf]
      apply List.ext_getElem?
      intro j
      by_cases hj : j < k
      · rw [List.getElem?_append_left (by rw [bl_length]; exact hj)]
        simp [bl, hj, show j < k + m by omega]
      · rw [List.getElem?_append_right (by rw [bl_length]; omega), bl_length]
        by_cases hj2 : j < k + m
        · simp [bl, show j - k < m by omega, hj2, show k + (j - k) = j by omega]
        · rw [List.getElem?_eq_none (by rw [bl_length]; omega), List.getElem?_eq_none (by rw [bl_length]; omega)]
    rw [← e]; exact h1
/-- n bytes behind a slice, nil or not. -/
def Src (w : World) (ad : Option Addr) (n cap : Nat) (m : Nat → BitVec 8) : Prop :=
  (n = 0 ∧ cap = 0) ∨ ∃ b off, ad = some ⟨b, off, none⟩ ∧ b < w.heap.size ∧ ∀ i, i < n → w.cell? ⟨b, off + i, none⟩ = some (B (m i))
theorem Src.below {w w' : World} {ad : Option Addr} {n cap B0 : Nat} {m : Nat → BitVec 8} (h : Src w ad n cap m) (hb : Below B0 w w') (hB : w.heap.size ≤ B0) : Src w' ad n cap m := by
  rcases h with h | ⟨b, off, rfl, hlt, hm⟩
  · exact .inl h
  · exact .inr ⟨b, off, rfl, Nat.lt_of_lt_of_le hlt hb.size, fun i hi => (hb.cell (p := ⟨b, off + i, none⟩) (Nat.lt_of_lt_of_le hlt hB)).trans (hm i hi)⟩
theorem Src.congr {w : World} {ad : Option Addr} {n cap : Nat} {m m' : Nat → BitVec 8} (h : Src w ad n cap m) (he : ∀ i, i < n → m i = m' i) : Src w ad n cap m' := by
  rcases h with h | ⟨b, off, rfl, hlt, hm⟩
  · exact .inl h
  · exact .inr ⟨b, off, rfl, hlt, fun i hi => (he i hi) ▸ hm i hi⟩
theorem Bytes.src {w : World} {v : Value} {n hb : Nat} {m : Nat → BitVec 8} (h : Bytes w v n m hb) : ∃ ad cap, v = .slice ad n cap ∧ Src w ad n cap m := by
  rcases h with ⟨⟨ad, rfl⟩, rfl⟩ | ⟨b, off, cap, rfl, _, hlt, _, hm⟩
  · exact ⟨ad, 0, rfl, .inl ⟨rfl, rfl⟩⟩
  · exact ⟨_, cap, rfl, .inr ⟨b, off, rfl, hlt, hm⟩⟩
/-- append of whatever bytes onto a row of the call's own. -/
theorem app_src {ops : Array Oper} {rest : List Oper} {o : Oper} {a : Act} {Q : Exit → Act → World → Prop} {w wr : World} (hgd : o.guard = none) (s x : Operand) (ho : o.op = .call { callee := .builtin .append, args := #[s, x], argTypes := #[51, 51] })
    (v : Value) (k : Nat) (f : Nat → BitVec 8) (hs : a.eval s = v) (h0 : Own w wr v k f) (ad : Option Addr) (m c : Nat) (hx : a.eval x = .slice ad m c) (f' : Nat → BitVec 8) (hf : ∀ i, i < k → f i = f' i)
    (hg : Src wr ad m c (fun i => f' (k + i))) (hk : k + m ≤ 140737488355328)
    (h : ∀ v' w', Own w w' v' (k + m) f' → wr.heap.size ≤ w'.heap.size → wpList Tryd.prog ops Q rest (a.put o.dst v') w') : wpList Tryd.prog ops Q (o :: rest) a wr := by
  rcases hg with ⟨rfl, rfl⟩ | ⟨b, off, rfl, _, hm⟩
  · cases ad with
    | some A => exact app_own hgd s x ho v k f hs h0 A 0 0 hx f' hf (fun i hi => absurd hi (Nat.not_lt_zero i)) hk h
    | none =>
    obtain ⟨i, hi, _⟩ := info_u8
    exact wpList_append_own_none hgd s x 51 ho w.heap.size 5 i 1 Tryd.underlying51 hi v k (bl f k) hs h0.own hx (h v wr (h0.congr hf) (Nat.le_refl _))
  · exact app_own hgd s x ho v k f hs h0 ⟨b, off, none⟩ m c hx f' hf (fun i hi => by rw [addr_add0]; exact hm i hi) hk h
end Go.Proofs.YtpojalbpekbfdabDoor.Sh
