/- Beginnings of which something is told; operations one by one; append. -/
import Derived.Test.YtdegfgncdphepaaDoorShfD
import Derived.Deep.AppendSrc
import Derived.Laws.AppendOwn
namespace Go.Proofs.YtdegfgncdphepaaDoor
open Go Go.RowKit
set_option linter.unusedSimpArgs false
set_option linter.unusedVariables false
variable {H : Ren → World → Prop} {gl : List Nat} {r₀ r : Ren} {w₀ w : World} {a A : Act} {m : Mem} {P : Program} {X : Cx}
/-- SW, where H tells of the beginning. -/
def SWn (H : Ren → World → Prop) (P : Program) (gl : List Nat) (c : Code) (s : Act × Mem) (Q : Exit → Act × Mem → Prop) : Prop :=
  ∀ r₀ w₀ A w r, H r₀ w₀ → Sim gl r₀ w₀ s.1 s.2 A w r → c.wp P (fun e A' w' => ∃ s' r', Q e s' ∧ Sim gl r₀ w₀ s'.1 s'.2 A' w' r') A w
theorem SW.n {c : Code} {s : Act × Mem} {Q : Exit → Act × Mem → Prop} (h : SW P gl c s Q) : SWn H P gl c s Q := fun r₀ w₀ A w r _ S => h r₀ w₀ A w r S
theorem SWn.mono {c : Code} {s : Act × Mem} {Q Q' : Exit → Act × Mem → Prop} (h : SWn H P gl c s Q) (hq : ∀ e s, Q e s → Q' e s) : SWn H P gl c s Q' :=
  fun r₀ w₀ A w r hH S => wp_mono (h r₀ w₀ A w r hH S) fun e A' w' ⟨s', r', h1, h2⟩ => ⟨s', r', hq _ _ h1, h2⟩
theorem SWn.seq {x y : Code} {s : Act × Mem} {Q : Exit → Act × Mem → Prop} (h : SWn H P gl x s (thenS (fun s' => SWn H P gl y s' Q) Q)) : SWn H P gl (.seq x y) s Q := by
  intro r₀ w₀ A w r hH S
  refine wp_seq (wp_mono (h r₀ w₀ A w r hH S) ?_)
  rintro e A' w' ⟨s', r', h1, h2⟩
  cases e with
  | normal => exact h1 r₀ w₀ A' w' r' hH h2
  | _ => exact ⟨s', r', h1, h2⟩
theorem SWn.block {id : Nat} {c : Code} {s : Act × Mem} {Q : Exit → Act × Mem → Prop} (h : SWn H P gl c s (blockS id Q)) : SWn H P gl (.block id c) s Q := by
  intro r₀ w₀ A w r hH S
  refine wp_block (wp_mono (h r₀ w₀ A w r hH S) ?_)
  rintro e A' w' ⟨s', r', h1, h2⟩
  cases e with
  | exit k =>
    simp only [blockS] at h1
    simp only [Exit.inBlock]
    split at h1
    · rename_i hk; rw [if_pos hk]; exact ⟨s', r', h1, h2⟩
    · rename_i hk; rw [if_neg hk]; exact ⟨s', r', h1, h2⟩
  | _ => exact ⟨s', r', h1, h2⟩
theorem SWn.cond {c : Operand} {x y : Code} {s : Act × Mem} {Q : Exit → Act × Mem → Prop} {t : Bool} (hok : okX gl s.1.eval c = true) (hc : s.1.eval c = .bool t) (h : SWn H P gl (if t then x else y) s Q) : SWn H P gl (.cond c x y) s Q := by
  intro r₀ w₀ A w r hH S
  have h1 := S.eval hok
  rw [hc] at h1
  have h2 : A.eval c = .bool t := by simp [tr, tr2, tr1, flat1] at h1; exact h1.symm
  exact wp_cond h2 (h r₀ w₀ A w r hH S)
open Classical in
theorem SWn.loop {c : Code} {s : Act × Mem} {Q : Exit → Act × Mem → Prop} (I : Nat → Act × Mem → Prop) (n : Nat) (h0 : I n s)
    (round : ∀ n s, I n s → SWn H P gl c s (thenS (fun s' => ∃ k, k < n ∧ I k s') Q)) : SWn H P gl (.loop c) s Q := by
  intro r₀ w₀ A w r hH S
  let p (A : Act) (w : World) (n : Nat) : Prop := ∃ s r, I n s ∧ Sim gl r₀ w₀ s.1 s.2 A w r
  let mu (A : Act) (w : World) : Nat := if h : ∃ n, p A w n then Classical.choose (least (p := p A w) (Classical.choose h) (Classical.choose_spec h)) else 0
  have hmu : ∀ A w n, p A w n → p A w (mu A w) ∧ mu A w ≤ n := by
    intro A w n hn
    have h : ∃ n, p A w n := ⟨n, hn⟩
    have := Classical.choose_spec (least (p := p A w) (Classical.choose h) (Classical.choose_spec h))
    have e : mu A w = Classical.choose (least (p := p A w) (Classical.choose h) (Classical.choose_spec h)) := dif_pos h
    rw [e]
    exact ⟨this.1, this.2.2 n hn⟩
  refine wp_loop (fun A w => ∃ n, p A w n) mu ⟨n, s, r, h0, S⟩ ?_
  rintro A w ⟨n, hn⟩
  obtain ⟨⟨s, r, hI, S⟩, _⟩ := hmu A w n hn
  refine wp_mono (round _ s hI r₀ w₀ A w r hH S) ?_
  rintro e A' w' ⟨s', r', h1, h2⟩
  cases e with
  | normal =>
    obtain ⟨k, hk, hI'⟩ := h1
    have := (hmu A' w' k ⟨s', r', hI', h2⟩).2
    exact ⟨⟨k, s', r', hI', h2⟩, by omega⟩
  | _ => exact ⟨s', r', h1, h2⟩
theorem SWn.loopK {c b : Code} {s : Act × Mem} {Q : Exit → Act × Mem → Prop} (hc : c = .loop b) (hd : Nat → Act × Mem → Prop) (k0 n : Nat) (h0 : hd k0 s) (hk : k0 ≤ n)
    (round : ∀ k s, k0 ≤ k → k < n → hd k s → SWn H P gl b s (thenS (fun s' => hd (k + 1) s') Q))
    (last : ∀ s, hd n s → SWn H P gl b s (thenS (fun _ => False) Q)) : SWn H P gl c s Q := by
  rw [hc]
  refine SWn.loop (fun j s => ∃ k, k0 ≤ k ∧ k ≤ n ∧ j = n - k ∧ hd k s) (n - k0) ⟨k0, Nat.le_refl _, hk, rfl, h0⟩ ?_
  rintro j s ⟨k, h1, h2, rfl, h3⟩
  rcases Nat.lt_or_ge k n with h | h
  · refine (round k s h1 h h3).mono ?_
    rintro (_ | _ | _ | _) s' hs
    · exact ⟨n - (k + 1), by omega, k + 1, by omega, by omega, rfl, hs⟩
    all_goals exact hs
  · have : k = n := by omega
    subst this
    refine (last s h3).mono ?_
    rintro (_ | _ | _ | _) s' hs
    · exact hs.elim
    all_goals exact hs
/-- The operations of a region in the text's order, from some place on. -/
def SWL (H : Ren → World → Prop) (P : Program) (gl : List Nat) (ops : Array Oper) (l : List Nat) (s : Act × Mem) (Q : Exit → Act × Mem → Prop) : Prop :=
  ∀ r₀ w₀ A w r, H r₀ w₀ → Sim gl r₀ w₀ s.1 s.2 A w r → wpOps P ops (fun e A' w' => ∃ s' r', Q e s' ∧ Sim gl r₀ w₀ s'.1 s'.2 A' w' r') l A w
variable {ops : Array Oper} {Q : Exit → Act × Mem → Prop} {s : Act × Mem} {l : List Nat}
theorem SWL.nil (h : Q .normal s) : SWL H P gl ops [] s Q := fun r₀ w₀ A w r _ S => ⟨s, r, h, S⟩
theorem SWn.region {id : Nat} (h : SWL H P gl ops (List.range ops.size) (s.1, s.2 ++ List.replicate (ops.toList.filter makes).length none) Q) : SWn H P gl (.region id ops false) s Q :=
  fun r₀ w₀ A w r hH S => wp_region (h r₀ w₀ A w r hH (S.reserve _))
theorem SWL.steps (hX : X.Ok P) (hg : X.gl = gl) {h0 : Nat} {ps : List Prop} {s' : Act × Mem} (hp : ∀ p ∈ ps, p) {l2 : List Nat} (hq : SWL H P gl ops l2 s' Q) : ∀ (l : List Nat) (qs : List Prop) (s : Act × Mem), sseq P X ops h0 l qs s = some (ps, s') → SWL H P gl ops (l ++ l2) s Q := by
  subst hg
  intro l
  induction l with
  | nil =>
    intro qs s h
    simp only [sseq, Option.some.injEq, Prod.mk.injEq] at h
    obtain ⟨_, rfl⟩ := h
    exact hq
  | cons i l ih =>
    intro qs s h r₀ w₀ A w r hH S
    rw [List.cons_append, wpOps_cons]
    simp only [sseq] at h
    split at h
    · rename_i ps1 s1 hs
      exact step_wp hX.f hs (fun p hq => hp p (sseq_ob l _ _ h p (by simp [hq]))) S (fun A' w' r' S' => ih _ s1 h r₀ w₀ A' w' r' hH S')
    · simp at h
theorem SWL.op {i : Nat} {o : Oper} (ho : ops[i]? = some o) (hg : o.guard = none) (h : ∀ r₀ w₀ A w r, H r₀ w₀ → Sim gl r₀ w₀ s.1 s.2 A w r → ∃ v w' s' r', (execOp A.eval o).run P w = .ok (.value v) w' ∧ Sim gl r₀ w₀ s'.1 s'.2 (A.put o.dst v) w' r' ∧ SWL H P gl ops l s' Q) : SWL H P gl ops (i :: l) s Q := by
  intro r₀ w₀ A w r hH S
  rw [wpOps_cons]
  unfold wpOp
  simp only [ho]
  have hw : Region.wanted o (yielded ops A.tmps) = true := by unfold Region.wanted; rw [hg]
  rw [if_pos hw]
  obtain ⟨v, w', s', r', h1, h2, h3⟩ := h r₀ w₀ A w r hH S
  exact .inl (wp_of_run h1 (h3 r₀ w₀ _ _ _ hH h2))
/-- A call, by what is known of it in the world. -/
theorem SWL.call {i : Nat} {o : Oper} {f : FuncId} {args : Array Operand} {ts : Array TypeId} (ho : ops[i]? = some o) (hg : o.guard = none) (hop : o.op = .call ⟨.value (.func f), args, ts⟩)
    (h : ∀ r₀ w₀ A w r, H r₀ w₀ → Sim gl r₀ w₀ s.1 s.2 A w r → CallOK P f (args.map A.eval) w fun v' w' => ∃ s' r', Sim gl r₀ w₀ s'.1 s'.2 (A.put o.dst v') w' r' ∧ SWL H P gl ops l s' Q) : SWL H P gl ops (i :: l) s Q := by
  intro r₀ w₀ A w r hH S
  rw [wpOps_cons]
  unfold wpOp
  simp only [ho]
  have hw : Region.wanted o (yielded ops A.tmps) = true := by unfold Region.wanted; rw [hg]
  rw [if_pos hw]
  refine .inl ?_
  have hrun : (execOp A.eval o).run P w = (callFunc f (args.map A.eval)).run P w := by
    simp [execOp, hop, resolve, Act.eval, Deferred.ofValue, invoke]
  unfold Oper.wp
  rw [hrun]
  rcases h r₀ w₀ A w r hH S with ⟨v', w', h1, s', r', h2, h3⟩ | ⟨h1, h2⟩
  · rw [h1]
    exact h3 r₀ w₀ _ _ _ hH h2
  · rw [h1]
    refine Calls.mono h2 ?_
    rintro e w' ⟨v', rfl, s', r', h3, h4⟩
    exact h4 r₀ w₀ _ _ _ hH h3
/-- A call that gives back a slice of a new block. -/
theorem SWL.callN {i : Nat} {o : Oper} {f : FuncId} {args : Array Operand} {ts : Array TypeId} {n : Nat} {e : TypeId} {R : Nat → List Value → Prop} (ho : ops[i]? = some o) (hg : o.guard = none) (hop : o.op = .call ⟨.value (.func f), args, ts⟩)
    (hcall : ∀ r₀ w₀ A w r, H r₀ w₀ → Sim gl r₀ w₀ s.1 s.2 A w r → CallOK P f (args.map A.eval) w fun v' w' => ∃ c cap q, v' = .slice (some ⟨c, 0, none⟩) n cap ∧ w.heap.size ≤ c ∧ w'.heap[c]? = some (.cells q.toArray e (0, 0)) ∧ q.all flat1 = true ∧ R cap q ∧ Below w.heap.size w w')
    (h : ∀ cap q, q.all flat1 = true → R cap q → SWL H P gl ops l (s.1.put o.dst (.slice (some ⟨s.2.length, 0, none⟩) n cap), s.2 ++ [some ⟨q, ⟨e, (0, 0)⟩⟩]) Q) : SWL H P gl ops (i :: l) s Q := by
  refine SWL.call ho hg hop fun r₀ w₀ A w r hH S => ?_
  have key : ∀ v' w', (∃ c cap q, v' = .slice (some ⟨c, 0, none⟩) n cap ∧ w.heap.size ≤ c ∧ w'.heap[c]? = some (.cells q.toArray e (0, 0)) ∧ q.all flat1 = true ∧ R cap q ∧ Below w.heap.size w w') → ∃ s' r', Sim gl r₀ w₀ s'.1 s'.2 (A.put o.dst v') w' r' ∧ SWL H P gl ops l s' Q := by
    rintro v' w' ⟨c, cap, q, rfl, hc, hcell, hq, hR, hbel⟩
    have hR1 := S.rel.below hbel
    have hn : r s.2.length = none := by
      cases hr : r s.2.length with
      | none => rfl
      | some x =>
        obtain ⟨B, hB⟩ := S.rel.full _ _ hr
        have := getB_lt hB
        omega
    have hle := le_upd (c := c) hn
    have hrel : Rel (upd r s.2.length c) (s.2 ++ [some ⟨q, ⟨e, (0, 0)⟩⟩]) w' := by
      refine ⟨fun b B hB => ?_, fun b x hx => ?_, fun b b' x h1 h2 => ?_⟩
      · rw [getB_snoc] at hB
        split at hB
        · rename_i eb
          cases hB
          exact ⟨c, q, by simp [upd, eb], trL_all (tr1_flat _) hq, hcell⟩
        · obtain ⟨c', cs, p1, p2, p3⟩ := hR1.cells b B hB
          exact ⟨c', cs, hle _ _ p1, trL_mono (tr1_more hle) p2, p3⟩
      · rw [getB_snoc]
        unfold upd at hx
        split at hx
        · rename_i eb; rw [if_pos eb]; exact ⟨_, rfl⟩
        · rename_i eb; rw [if_neg eb]; exact hR1.full b x hx
      · unfold upd at h1 h2
        split at h1 <;> split at h2
        · rename_i e1 e2; rw [e1, e2]
        · cases h1; have := S.rel.lt h2; omega
        · cases h2; have := S.rel.lt h1; omega
        · exact S.rel.inj b b' x h1 h2
    refine ⟨_, upd r s.2.length c, S.put (v := .slice (some ⟨s.2.length, 0, none⟩) n cap) hrel hle (fun b x hx => ?_) (fr_below S.fr hbel) (tr_of_slice (by simp [upd])) o.dst, h cap q hq hR⟩
    unfold upd at hx
    split at hx
    · cases hx; exact .inr (by have := S.fr.size; omega)
    · exact .inl hx
  rcases hcall r₀ w₀ A w r hH S with ⟨v', w', h1, h2⟩ | ⟨h1, h2⟩
  · exact .inl ⟨v', w', h1, key v' w' h2⟩
  · refine .inr ⟨h1, h2.mono ?_⟩
    rintro e' w' ⟨v', rfl, h3⟩
    exact ⟨v', rfl, key v' w' h3⟩
/-- A slice of the call's own, from the beginning of its block on. -/
inductive OwnS (m : Mem) : Value → Nat → Nat → List Value → TypeId → Option Nat → Prop
  | nil (ty : TypeId) : OwnS m (.slice none 0 0) 0 0 [] ty none
  | row (b k cap : Nat) (cells : List Value) (ty : TypeId) (hb : getB m b = some ⟨cells, ty⟩) (hc : cells.length = cap) (hk : k ≤ cap) : OwnS m (.slice (some ⟨b, 0, none⟩) k cap) k cap cells ty (some b)
/-- What is appended. -/
def SrcS (H : Ren → World → Prop) (P : Program) (tx : TypeId) (m : Mem) (v : Value) (n : Nat) (news : List Value) : Prop :=
  news.all flat1 = true ∧ ∀ r₀ w₀ w r, H r₀ w₀ → Fr r₀ w₀ w → Rel r m w → ∀ v', tr r v = some v' → Go.Src P 1 tx v' n news w
theorem flat1_one {v : Value} (h : flat1 v = true) : v.oneCell' = true := by cases v <;> simp_all [flat1, Value.oneCell']
theorem SrcS.row {tx e' : TypeId} (hk : P.underlying tx = some (.slice e')) {b o n c : Nat} {B : Blk} (hB : getB m b = some B) (hl : o + n ≤ B.cells.length) (hf : ((B.cells.drop o).take n).all flat1 = true) :
    SrcS H P tx m (.slice (some ⟨b, o, none⟩) n c) n ((B.cells.drop o).take n) := by
  refine ⟨hf, fun r₀ w₀ w r _ _ hr v' hv => ?_⟩
  obtain ⟨c', hc', rfl⟩ := tr_slice hv
  obtain ⟨c2, cs, p1, p2, p3⟩ := hr.cells b B hB
  rw [hc'] at p1; cases p1
  have e := trL_take n (trL_drop o p2)
  rw [trL_all (tr1_flat r) hf] at e
  have hlen := trL_len p2
  refine Go.Src.ofSlice w hk ⟨c', o, none⟩ n c _ (by rw [List.length_take, List.length_drop]; omega) (fun j u hj => ?_) (fun u hu => flat1_one (List.all_eq_true.1 hf u hu))
  simp only [Option.some.injEq] at e
  rw [e, List.getElem?_take] at hj
  split at hj
  · rw [List.getElem?_drop] at hj
    rw [Addr.add_mid]
    simp [World.cell?, p3, hj]
  · simp at hj
theorem SrcS.nil {tx e' : TypeId} (hk : P.underlying tx = some (.slice e')) (c : Nat) : SrcS H P tx m (.slice none 0 c) 0 [] := by
  refine ⟨rfl, fun r₀ w₀ w r _ _ hr v' hv => ?_⟩
  have : v' = .slice none 0 c := by simp [tr, tr2, tr1, flat1] at hv; exact hv.symm
  subst this
  exact Go.Src.ofNil w hk c
theorem zeroCells_one (z : Value) (hz : z.cells = #[z]) (n : Nat) : (Builtin.zeroCells z.cells n).toList = List.replicate n z := by
  rw [hz]
  unfold Builtin.zeroCells
  simp only [List.size_toArray, List.length_singleton, Nat.mul_one, Array.toList_map, Array.toList_range]
  apply List.ext_getElem?
  intro i
  by_cases hi : i < n
  · simp [hi, Nat.mod_one]
  · simp [hi]
theorem trL_rep1 (f : Value → Option Value) (z : Value) (h : f z = some z) : ∀ n, trL f (List.replicate n z) = some (List.replicate n z)
  | 0 => rfl
  | n + 1 => trL_mk h (trL_rep1 f z h n)
/-- append: in place, or in a new row. -/
theorem SWL.append {i : Nat} {o : Oper} {sx xx : Operand} {t tx e : TypeId} {info : TypeInfo} {z : Value} (ho : ops[i]? = some o) (hg : o.guard = none) (hop : o.op = .call { callee := .builtin .append, args := #[sx, xx], argTypes := #[t, tx] })
    (ht : P.underlying t = some (.slice e)) (hi : P.info? e = some info) (hz : info.zero = some z) (hsz : info.size = 1) (hby : info.bytes = 1) (hzc : z.cells = #[z]) (hzf : flat1 z = true)
    {k cap n : Nat} {cells news : List Value} {ty : TypeId} {bo : Option Nat}
    (hsx : okX gl s.1.eval sx = true) (hxx : okX gl s.1.eval xx = true) (hown : OwnS s.2 (s.1.eval sx) k cap cells ty bo) (hsrc : SrcS H P tx s.2 (s.1.eval xx) n news) (hsize : k + n ≤ 140737488355328)
    (hA : bo = none → n = 0 → SWL H P gl ops l (s.1.put o.dst (.slice none 0 0), s.2) Q)
    (hB : ∀ b, bo = some b → k + n ≤ cap → SWL H P gl ops l (s.1.put o.dst (.slice (some ⟨b, 0, none⟩) (k + n) cap), s.2.set b (some ⟨putL cells k news, ty⟩)) Q)
    (hC : cap < k + n → ∀ c, k + n ≤ c → SWL H P gl ops l (s.1.put o.dst (.slice (some ⟨s.2.length, 0, none⟩) (k + n) c), s.2 ++ [some ⟨cells.take k ++ news ++ List.replicate (c - (k + n)) z, e⟩]) Q) :
    SWL H P gl ops (i :: l) s Q := by
  refine SWL.op ho hg fun r₀ w₀ A w r hH S => ?_
  obtain ⟨a, m⟩ := s
  simp only at *
  have vs := S.eval hsx
  have vx := S.eval hxx
  have src := hsrc.2 r₀ w₀ w r hH S.fr S.rel _ vx
  have hx : ∀ s' x' : Value, A.eval sx = s' → A.eval xx = x' → (execOp A.eval o).run P w = ((Builtin.append_ #[t, tx] o.type #[s', x']).run P w).andThen (fun v w' => .ok (.value v) w') := by
    intro s' x' h1 h2
    subst h1; subst h2
    simp only [execOp, hop, resolve, invoke, builtin, Sem.run_bind, Sem.run_pure, Result.andThen_ok]
    first | rfl | (simp [Sem.run_bind]; done)
  generalize hsv : a.eval sx = sv at *
  by_cases hroom : k + n ≤ cap
  · cases hown with
    | nil =>
      have hn : n = 0 := by omega
      subst hn
      have hs' : A.eval sx = .slice none 0 0 := by simp [tr, tr2, tr1, flat1] at vs; exact vs.symm
      refine ⟨.slice none 0 0, w, _, r, ?_, S.put0 (v := .slice none 0 0) (tr_flat r _ rfl) o.dst, hA rfl rfl⟩
      rw [hx _ _ hs' rfl]
      rcases src.kind with ⟨e', hk⟩ | hk <;> simp [Builtin.append_, run_underlying ht, run_underlying hk, sizeOf, typeInfo, hi, src.len, src.cells, hsz]
    | row b _ _ _ _ hb hc hk =>
      obtain ⟨c0, hc0, hs'⟩ := tr_slice vs
      obtain ⟨c1, cs, p1, p2, p3⟩ := S.rel.cells b _ hb
      rw [hc0] at p1; cases p1
      have hlen := trL_len p2
      simp only at hlen
      have hnl : news.length = n := by have := src.newsLen; omega
      have hput : putL cells k news = setL cells k news := (setL_put _ _ _ (by omega)).symm
      have hrel := S.rel.store hb hc0 k (trL_all (tr1_flat r) hsrc.1)
      refine ⟨.slice (some ⟨c0, 0, none⟩) (k + n) cap, w.setCells c0 k news, _, r, ?_, S.put (v := .slice (some ⟨b, 0, none⟩) (k + n) cap) (by rw [hput]; exact hrel) (Le.refl _) (fun _ _ h => .inl h) (fr_setCells S.fr (S.home hc0) _ _) (tr_of_slice hc0) o.dst, hB b rfl hroom⟩
      rw [hx _ _ hs' rfl]
      have h := run_append_room_src (P := P) w t tx o.type e info ht hi c0 0 k cap (A.eval xx) n news (by rw [hsz]; exact src) hroom
        (fun j hj => by
          rw [hsz]
          have : k + j < cs.length := by omega
          simp only [World.cell?, p3, Option.isSome_none, Bool.false_eq_true, if_false, Nat.zero_add, Nat.mul_one]
          simp only [List.getElem?_toArray, List.getElem?_eq_getElem this, Option.isSome_some])
        (fun j hj => by simp [World.frozen?, p3])
      rw [h, hsz]
      simp
  · have hgrow : cap < k + n := by omega
    have hnl : news.length = n := by have := src.newsLen; omega
    have key : ∃ (base : Option Addr) (olds : List Value), A.eval sx = .slice base k cap ∧ (Builtin.firstCells info.size k (.slice base k cap)).run P w.drew = .ok olds.toArray w.drew ∧ trL (tr1 r) (cells.take k) = some olds := by
      cases hown with
      | nil =>
        refine ⟨none, [], by simp [tr, tr2, tr1, flat1] at vs; exact vs.symm, rfl, rfl⟩
      | row b _ _ _ _ hb hc hk =>
        obtain ⟨c0, hc0, hs'⟩ := tr_slice vs
        obtain ⟨c1, cs, p1, p2, p3⟩ := S.rel.cells b _ hb
        rw [hc0] at p1; cases p1
        have hlen := trL_len p2
        simp only at hlen
        refine ⟨some ⟨c0, 0, none⟩, cs.take k, hs', ?_, trL_take k p2⟩
        refine run_firstCells_some w.drew info.size k ⟨c0, 0, none⟩ k cap _ (by rw [hsz, List.length_take]; omega) (fun j u hj => ?_)
        rw [List.getElem?_take] at hj
        split at hj
        · rw [Addr.add_mid]
          show w.cell? _ = _
          simp [World.cell?, p3, hj]
        · simp at hj
    obtain ⟨base, olds, hs', hfirst, holds⟩ := key
    have h := run_append_grow_src (P := P) w t tx o.type e info z ht hi hz base k cap olds hfirst (A.eval xx) n news (by rw [hsz]; exact src) hgrow (by omega) (growslice_fits hgrow (by rw [hby]; omega))
    have hcap := grownCap_ge w (k + n) cap e
    generalize grownCap w (k + n) cap e = c at *
    have S2 := (S.draw).reserve 1
    have hhole : (m ++ List.replicate 1 none)[m.length]? = some (none : Option Blk) := by simp
    have hcells : trL (tr1 r) (cells.take k ++ news ++ List.replicate (c - (k + n)) z) = some (olds ++ news ++ List.replicate (c - (k + n)) z) := trL_append (trL_append holds (trL_all (tr1_flat r) hsrc.1)) (trL_rep1 _ _ (tr1_flat r z hzf) _)
    have hrel := S2.rel.alloc hhole e hcells
    have hm : (m ++ List.replicate 1 none).set m.length (some ⟨cells.take k ++ news ++ List.replicate (c - (k + n)) z, e⟩) = m ++ [some ⟨cells.take k ++ news ++ List.replicate (c - (k + n)) z, e⟩] := by
      simp [List.replicate_one, List.set_append]
    rw [hm] at hrel
    have hn0 := S2.rel.hole hhole
    refine ⟨.slice (some ⟨w.heap.size, 0, none⟩) (k + n) c, _, _, upd r m.length w.heap.size, ?_, S2.put (v := .slice (some ⟨m.length, 0, none⟩) (k + n) c) (v' := .slice (some ⟨w.heap.size, 0, none⟩) (k + n) c) hrel (le_upd hn0) (fun b c' hc' => ?_) (fr_alloc S2.fr _) (tr_of_slice (by simp [upd])) o.dst, hC hgrow c hcap⟩
    · rw [hx _ _ hs' rfl, h]
      simp only [Result.andThen_ok]
      have : (olds ++ news).toArray ++ Builtin.zeroCells z.cells (c - (k + n)) = (olds ++ news ++ List.replicate (c - (k + n)) z).toArray := by
        apply Array.ext'
        simp [zeroCells_one z hzc]
      rw [this]; rfl
    · unfold upd at hc'
      split at hc'
      · cases hc'; exact .inr S.fr.size
      · exact .inl hc'
end Go.Proofs.YtdegfgncdphepaaDoor
