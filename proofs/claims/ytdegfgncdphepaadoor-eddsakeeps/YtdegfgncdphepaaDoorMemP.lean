/- Runs beneath H, with contracts that hold of the worlds that come of the beginning; regions of any order, operation by operation. -/
import Derived.Test.YtdegfgncdphepaaDoorMemO
namespace Go.Proofs.YtdegfgncdphepaaDoor
open Go Go.RowKit
set_option linter.unusedSimpArgs false
set_option linter.unusedVariables false
variable {H : Ren → World → Prop} {gl : List Nat} {r₀ r : Ren} {w₀ w : World} {P : Program} {X : Cx} {Q : Exit → Act × Mem → Prop}
/-- The contracts hold beneath H. -/
def OkH (X : Cx) (P : Program) (H : Ren → World → Prop) : Prop := ∀ r₀ w₀, H r₀ w₀ → X.OkF P r₀ w₀
theorem Cx.Ok.h (h : X.Ok P) : OkH X P H := fun _ _ _ => h.f
theorem OkH.terms (h : OkH X P H) : OkH X.terms P H := fun r₀ w₀ hH => ⟨(h r₀ w₀ hH).wcall, (h r₀ w₀ hH).call, (h r₀ w₀ hH).pure, (h r₀ w₀ hH).more⟩
theorem OkH.tell (h : OkH X P H) (d : List (Nat × Bool)) : OkH (X.tell d) P H := fun r₀ w₀ hH => ⟨(h r₀ w₀ hH).wcall, (h r₀ w₀ hH).call, (h r₀ w₀ hH).pure, (h r₀ w₀ hH).more⟩
theorem OkH.read (hX : OkH X P H) {f : FuncId} {g : List Value → Mem → Option (List Prop × Value)}
    (h : ∀ r₀ w₀, H r₀ w₀ → ∀ args m ps v, g args m = some (ps, v) → (∀ p ∈ ps, p) → ∀ r w args', Rel r m w → Fr r₀ w₀ w → (∀ b c, r b = some c → r₀ b = some c ∨ w₀.heap.size ≤ c) → (∀ g ∈ X.gl, r g = some g) → trL (tr r) args = some args' → CallOK P f args'.toArray w fun v' w' => tr r v = some v' ∧ Below w.heap.size w w')
    (hmore : ∀ args (m : Mem) q i B, m[i]? = some none → g args m = some q → g args (m.set i (some B)) = some q) : OkH (X.read f g) P H := by
  intro r₀ w₀ hH
  have hX := hX r₀ w₀ hH
  refine ⟨hX.wcall, fun k args m ps v hc hp r w args' hr hf he hgl ha => ?_, fun k hk args m m' => ?_, fun k args m q i B hi hc => ?_⟩
  · simp only [Cx.read] at hc
    split at hc
    · rename_i e; subst e; exact h r₀ w₀ hH args m ps v hc hp r w args' hr hf he hgl ha
    · exact hX.call k args m ps v hc hp r w args' hr hf he hgl ha
  · simp only [Cx.read, Bool.and_eq_true, Bool.not_eq_true', beq_eq_false_iff_ne] at hk ⊢
    rw [if_neg hk.1, if_neg hk.1]
    exact hX.pure k hk.2 args m m'
  · simp only [Cx.read] at hc ⊢
    split at hc
    · rename_i e; rw [if_pos e]; exact hmore _ _ _ _ _ hi hc
    · rename_i e; rw [if_neg e]; exact hX.more k args m q i B hi hc
theorem SWn.regionH (hX : OkH X P H) (hm : P.follows .mixedOrders = true) {id : Nat} {ops : Array Oper} {draw : Bool} {rs : List Prop} {s out : Act × Mem} (h : sregion P X ops draw s = some (rs, out)) (hrs : ∀ p ∈ rs, p) (hq : Q .normal out) : SWn H P X.gl (.region id ops draw) s Q :=
  fun r₀ w₀ _ _ _ hH S => region_wp (hX r₀ w₀ hH) hm h hrs S fun A w r S' => ⟨out, r, hq, S'⟩
theorem sexec_soundH (hX : OkH X P H) (hm : P.follows .mixedOrders = true) {rs : List Prop} (hrs : ∀ p ∈ rs, p) : ∀ (n : Nat) (c : Code) (qs ts : List Prop) (s : Act × Mem) (e : Exit) (s' : Act × Mem), sexec P X n c qs s = some (ts, e, s') → (∀ p ∈ ts, p ∈ rs) → SWn H P X.gl c s (fun e' s'' => e' = e ∧ s'' = s') := by
  intro n
  induction n using Nat.strongRecOn with
  | _ n ih =>
    intro c qs ts s e s' h hts
    cases n with
    | zero => simp [sexec] at h
    | succ n =>
      unfold sexec at h
      split at h
      · simp only [Option.some.injEq, Prod.mk.injEq] at h; obtain ⟨_, rfl, rfl⟩ := h; exact SW.n (SW.skip ⟨rfl, rfl⟩)
      · simp only [Option.some.injEq, Prod.mk.injEq] at h; obtain ⟨_, rfl, rfl⟩ := h; exact SW.n (SW.label ⟨rfl, rfl⟩)
      · split at h
        · rename_i hr
          simp only [Option.some.injEq, Prod.mk.injEq] at h; obtain ⟨rfl, rfl, rfl⟩ := h; exact SWn.regionH hX hm hr (fun p hp => hrs p (hts p (by simp [hp]))) ⟨rfl, rfl⟩
        · simp at h
      · split at h
        · rename_i q1 s1 h1
          refine SWn.seq ((ih n (by omega) _ _ _ s _ _ h1 (fun p hp => hts p (sexec_ob _ _ _ _ _ _ _ h p hp))).mono ?_)
          rintro e1 s2 ⟨rfl, rfl⟩
          exact ih n (by omega) _ _ _ _ _ _ h hts
        · rename_i hn
          refine SWn.seq ((ih n (by omega) _ _ _ s _ _ h hts).mono ?_)
          rintro e1 s2 ⟨rfl, rfl⟩
          cases e1 with
          | normal => exact absurd h (hn _ _)
          | _ => exact ⟨rfl, rfl⟩
      · split at h
        · rename_i hok
          split at h
          · rename_i he; exact SWn.cond hok he (ih n (by omega) _ _ _ s _ _ h hts)
          · rename_i he; exact SWn.cond hok he (ih n (by omega) _ _ _ s _ _ h hts)
          · simp at h
        · simp at h
      · split at h
        · rename_i q1 k s1 h1
          have hq1 : ∀ p ∈ q1, p ∈ rs := by
            intro p hp
            split at h
            · simp only [Option.some.injEq, Prod.mk.injEq] at h; exact hts p (by rw [← h.1]; exact hp)
            · simp only [Option.some.injEq, Prod.mk.injEq] at h; exact hts p (by rw [← h.1]; exact hp)
          refine SWn.block ((ih n (by omega) _ _ _ s _ _ h1 hq1).mono ?_)
          rintro e1 s2 ⟨rfl, rfl⟩
          simp only [blockS]
          split at h
          · rename_i hk; rw [if_pos hk]; simp only [Option.some.injEq, Prod.mk.injEq] at h; exact ⟨h.2.1, h.2.2⟩
          · rename_i hk; rw [if_neg hk]; simp only [Option.some.injEq, Prod.mk.injEq] at h; exact ⟨h.2.1, h.2.2⟩
        · rename_i hn
          refine SWn.block ((ih n (by omega) _ _ _ s _ _ h hts).mono ?_)
          rintro e1 s2 ⟨rfl, rfl⟩
          cases e1 with
          | exit k => exact absurd h (hn _ _ _)
          | _ => exact ⟨rfl, rfl⟩
      · rename_i b
        have h' : sexec P X (n + 1) (.loop b) qs s = some (ts, e, s') := by unfold sexec; exact h
        refine SWn.loop (fun k s => k ≤ n + 1 ∧ ∃ qs, sexec P X k (.loop b) qs s = some (ts, e, s')) (n + 1) ⟨Nat.le_refl _, qs, h'⟩ ?_
        rintro k s ⟨hk, qs, hs⟩
        cases k with
        | zero => simp [sexec] at hs
        | succ k =>
          unfold sexec at hs
          simp only at hs
          split at hs
          · rename_i q1 s1 h1
            refine (ih k (by omega) _ _ _ s _ _ h1 (fun p hp => hts p (sexec_ob _ _ _ _ _ _ _ hs p hp))).mono ?_
            rintro e1 s2 ⟨rfl, rfl⟩
            exact ⟨k, by omega, by omega, _, hs⟩
          · rename_i hn
            refine (ih k (by omega) _ _ _ s _ _ hs hts).mono ?_
            rintro e1 s2 ⟨rfl, rfl⟩
            cases e1 with
            | normal => exact absurd hs (hn _ _)
            | _ => exact ⟨rfl, rfl⟩
      · simp only [Option.some.injEq, Prod.mk.injEq] at h; obtain ⟨_, rfl, rfl⟩ := h; exact SW.n (SW.exit ⟨rfl, rfl⟩)
      · simp only [Option.some.injEq, Prod.mk.injEq] at h; obtain ⟨_, rfl, rfl⟩ := h; exact SW.n (SW.ret ⟨rfl, rfl⟩)
      · simp at h
theorem SWn.runH (hX : OkH X P H) (hm : P.follows .mixedOrders = true) (hg : X.gl = gl) {c : Code} {s s' : Act × Mem} {e : Exit} {ps : List Prop} (n : Nat) (h : sexec P X n c [] s = some (ps, e, s')) (hp : ∀ p ∈ ps, p) (hq : Q e s') : SWn H P gl c s Q := by
  subst hg
  exact (sexec_soundH hX hm hp n c [] ps s e s' h (fun _ h => h)).mono (by rintro e1 s1 ⟨rfl, rfl⟩; exact hq)
theorem sexecLH_sound (hX : OkH X P H) (hm : P.follows .mixedOrders = true) {n : Nat} {rest : Code} {rs : List Prop} (hrs : ∀ p ∈ rs, p) : ∀ (cs : List Code) (qs : List Prop) (s s' : Act × Mem), sexecL P X n cs qs s = some (rs, s') → SWn H P X.gl rest s' Q → SWn H P X.gl (seqs cs rest) s Q
  | [], qs, s, s', h, hq => by simp only [sexecL, Option.some.injEq, Prod.mk.injEq] at h; rw [h.2]; exact hq
  | c :: cs, qs, s, s', h, hq => by
    simp only [sexecL] at h
    split at h
    · rename_i q1 s1 h1
      refine SWn.seq ((sexec_soundH hX hm hrs n c qs _ s _ _ h1 (sexecL_ob cs _ _ _ _ h)).mono ?_)
      rintro e s2 ⟨rfl, rfl⟩
      exact sexecLH_sound hX hm hrs cs _ _ _ h hq
    · simp at h
theorem SWn.preH (hX : OkH X P H) (hm : P.follows .mixedOrders = true) (hg : X.gl = gl) {n : Nat} {c rest : Code} {cs : List Code} {s s' : Act × Mem} {ps : List Prop} (hc : c = seqs cs rest) (h : sexecL P X n cs [] s = some (ps, s')) (hp : ∀ p ∈ ps, p) (hq : SWn H P gl rest s' Q) : SWn H P gl c s Q := by
  subst hg; rw [hc]; exact sexecLH_sound hX hm hp cs [] s s' h hq
/-- A region's operations in whatever order, from some state on. -/
def SWA (H : Ren → World → Prop) (P : Program) (gl : List Nat) (ops : Array Oper) (n : Nat) (listed : Array Bool) (s : Act × Mem) (Q : Exit → Act × Mem → Prop) : Prop :=
  ∀ r₀ w₀ A w r, H r₀ w₀ → Sim gl r₀ w₀ s.1 s.2 A w r → wpAny P .any ops (fun e A' w' => ∃ s' r', Q e s' ∧ Sim gl r₀ w₀ s'.1 s'.2 A' w' r') n listed A w
variable {ops : Array Oper} {s : Act × Mem} {n : Nat} {listed : Array Bool}
theorem SWn.regionA (hm : P.follows .mixedOrders = true) {id : Nat} (h : SWA H P gl ops ops.size (Array.replicate ops.size false) (s.1, s.2 ++ List.replicate (ops.toList.filter makes).length none) Q) : SWn H P gl (.region id ops true) s Q :=
  fun r₀ w₀ A w r hH S => wp_region_any hm (h r₀ w₀ A _ r hH ((S.reserve _).draw))
theorem SWA.nil (hr : Region.ready .any ops listed = []) (h : Q .normal s) : SWA H P gl ops 0 listed s Q := fun r₀ w₀ A w r _ S => ⟨hr, s, r, h, S⟩
/-- What one of the operations that may come up does. -/
def SWO (H : Ren → World → Prop) (P : Program) (gl : List Nat) (ops : Array Oper) (n : Nat) (listed : Array Bool) (i : Nat) (s : Act × Mem) (Q : Exit → Act × Mem → Prop) : Prop :=
  ∀ r₀ w₀ A w r, H r₀ w₀ → Sim gl r₀ w₀ s.1 s.2 A w r → wpOp P ops (fun e A' w' => ∃ s' r', Q e s' ∧ Sim gl r₀ w₀ s'.1 s'.2 A' w' r') i (wpAny P .any ops (fun e A' w' => ∃ s' r', Q e s' ∧ Sim gl r₀ w₀ s'.1 s'.2 A' w' r') n (listed.setIfInBounds i true)) A w
theorem SWA.one {i : Nat} (hr : Region.ready .any ops listed = [i]) (h : SWO H P gl ops n listed i s Q) : SWA H P gl ops (n + 1) listed s Q :=
  fun r₀ w₀ A w r hH S => ⟨fun e => (by rw [hr] at e; cases e), fun j hj => by rw [hr] at hj; rw [List.mem_singleton.1 hj]; exact h r₀ w₀ A w r hH S⟩
theorem SWA.two {i j : Nat} (hr : Region.ready .any ops listed = [i, j]) (h : SWO H P gl ops n listed i s Q) (h' : SWO H P gl ops n listed j s Q) : SWA H P gl ops (n + 1) listed s Q :=
  fun r₀ w₀ A w r hH S => ⟨fun e => (by rw [hr] at e; cases e), fun k hk => by
    rw [hr] at hk
    simp only [List.mem_cons, List.not_mem_nil, or_false] at hk
    rcases hk with rfl | rfl
    · exact h r₀ w₀ A w r hH S
    · exact h' r₀ w₀ A w r hH S⟩
theorem SWO.step (hX : OkH X P H) (hg : X.gl = gl) {h0 i : Nat} {ps : List Prop} {s' : Act × Mem} (h : sstep P X ops h0 i s = some (ps, s')) (hp : ∀ p ∈ ps, p) (hq : SWA H P gl ops n (listed.setIfInBounds i true) s' Q) : SWO H P gl ops n listed i s Q := by
  subst hg
  intro r₀ w₀ A w r hH S
  exact step_wp (hX r₀ w₀ hH) h hp S (fun A' w' r' S' => hq r₀ w₀ A' w' r' hH S')
theorem SWO.callN {i d : Nat} {f : FuncId} {args : Array Operand} {ts : Array TypeId} {k : Nat} {e : TypeId} {R : Nat → List Value → Prop}
    (ho : (ops[i]?).map (fun o => (o.guard, o.op, o.dst)) = some (none, .call ⟨.value (.func f), args, ts⟩, some d))
    (hcall : ∀ r₀ w₀ A w r, H r₀ w₀ → Sim gl r₀ w₀ s.1 s.2 A w r → CallOK P f (args.map A.eval) w fun v' w' => ∃ c cap q, v' = .slice (some ⟨c, 0, none⟩) k cap ∧ w.heap.size ≤ c ∧ w'.heap[c]? = some (.cells q.toArray e (0, 0)) ∧ q.all flat1 = true ∧ R cap q ∧ Below w.heap.size w w')
    (h : ∀ cap q, q.all flat1 = true → R cap q → SWA H P gl ops n (listed.setIfInBounds i true) (s.1.put (some d) (.slice (some ⟨s.2.length, 0, none⟩) k cap), s.2 ++ [some ⟨q, ⟨e, (0, 0)⟩⟩]) Q) : SWO H P gl ops n listed i s Q := by
  intro r₀ w₀ A w r hH S
  cases hoi : ops[i]? with
  | none => rw [hoi] at ho; simp at ho
  | some o =>
    rw [hoi] at ho
    simp only [Option.map_some, Option.some.injEq, Prod.mk.injEq] at ho
    obtain ⟨o1, o2, o3⟩ := ho
    unfold wpOp
    simp only [hoi]
    have hw : Region.wanted o (yielded ops A.tmps) = true := by unfold Region.wanted; rw [o1]
    rw [if_pos hw]
    refine .inl ?_
    have hrun : (execOp A.eval o).run P w = (callFunc f (args.map A.eval)).run P w := by
      simp [execOp, o2, resolve, Act.eval, Deferred.ofValue, invoke]
    have key : ∀ v' w', (∃ c cap q, v' = .slice (some ⟨c, 0, none⟩) k cap ∧ w.heap.size ≤ c ∧ w'.heap[c]? = some (.cells q.toArray e (0, 0)) ∧ q.all flat1 = true ∧ R cap q ∧ Below w.heap.size w w') → wpAny P .any ops (fun e A' w' => ∃ s' r', Q e s' ∧ Sim gl r₀ w₀ s'.1 s'.2 A' w' r') n (listed.setIfInBounds i true) (A.put o.dst v') w' := by
      rintro v' w' ⟨c, cap, q, rfl, hc, hcell, hq, hR, hbel⟩
      have hR1 := S.rel.below hbel
      have hn : r s.2.length = none := by
        cases hr : r s.2.length with
        | none => rfl
        | some x =>
          obtain ⟨B, hB⟩ := S.rel.full _ _ hr
          have := getB_lt hB
          omega
      have hle := le_upd (c := c) hn
      have hrel : Rel (upd r s.2.length c) (s.2 ++ [some ⟨q, ⟨e, (0, 0)⟩⟩]) w' := by
        refine ⟨fun b B hB => ?_, fun b x hx => ?_, fun b b' x h1 h2 => ?_⟩
        · rw [getB_snoc] at hB
          split at hB
          · rename_i eb
            cases hB
            exact ⟨c, q, by simp [upd, eb], trL_all (tr1_flat _) hq, hcell⟩
          · obtain ⟨c', cs, p1, p2, p3⟩ := hR1.cells b B hB
            exact ⟨c', cs, hle _ _ p1, trL_mono (tr1_more hle) p2, p3⟩
        · rw [getB_snoc]
          unfold upd at hx
          split at hx
          · rename_i eb; rw [if_pos eb]; exact ⟨_, rfl⟩
          · rename_i eb; rw [if_neg eb]; exact hR1.full b x hx
        · unfold upd at h1 h2
          split at h1 <;> split at h2
          · rename_i e1 e2; rw [e1, e2]
          · cases h1; have := S.rel.lt h2; omega
          · cases h2; have := S.rel.lt h1; omega
          · exact S.rel.inj b b' x h1 h2
      have S' := S.put (v := .slice (some ⟨s.2.length, 0, none⟩) k cap) hrel hle (fun b x hx => by
        unfold upd at hx
        split at hx
        · cases hx; exact .inr (by have := S.fr.size; omega)
        · exact .inl hx) (fr_below S.fr hbel) (v' := .slice (some ⟨c, 0, none⟩) k cap) (tr_of_slice (by simp [upd])) o.dst
      rw [o3] at S' ⊢
      exact h cap q hq hR r₀ w₀ _ _ _ hH S'
    unfold Oper.wp
    rw [hrun]
    rcases hcall r₀ w₀ A w r hH S with ⟨v', w', h1, h2⟩ | ⟨h1, h2⟩
    · rw [h1]; exact key v' w' h2
    · rw [h1]
      refine Calls.mono h2 ?_
      rintro e' w' ⟨v', rfl, h3⟩
      exact key v' w' h3
theorem SWL.stepsH (hX : OkH X P H) (hg : X.gl = gl) {h0 : Nat} {ps : List Prop} {s' : Act × Mem} (hp : ∀ p ∈ ps, p) {l2 : List Nat} (hq : SWL H P gl ops l2 s' Q) : ∀ (l : List Nat) (qs : List Prop) (s : Act × Mem), sseq P X ops h0 l qs s = some (ps, s') → SWL H P gl ops (l ++ l2) s Q := by
  subst hg
  intro l
  induction l with
  | nil =>
    intro qs s h
    simp only [sseq, Option.some.injEq, Prod.mk.injEq] at h
    obtain ⟨_, rfl⟩ := h
    exact hq
  | cons i l ih =>
    intro qs s h r₀ w₀ A w r hH S
    rw [List.cons_append, wpOps_cons]
    simp only [sseq] at h
    split at h
    · rename_i ps1 s1 hs
      exact step_wp (hX r₀ w₀ hH) hs (fun p hq => hp p (sseq_ob l _ _ h p (by simp [hq]))) S (fun A' w' r' S' => ih _ s1 h r₀ w₀ A' w' r' hH S')
    · simp at h
end Go.Proofs.YtdegfgncdphepaaDoor
