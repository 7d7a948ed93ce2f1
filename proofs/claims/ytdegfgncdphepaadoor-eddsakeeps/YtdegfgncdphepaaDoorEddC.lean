/- eddsa: Sign. -/
import Derived.Test.YtdegfgncdphepaaDoorEddA
namespace Go.Proofs.YtdegfgncdphepaaDoor.Edd
open Go Go.RowKit Shf
open Cat (Parts catC catM catY catN catH catOK cat_calls catY_succ)
set_option linter.unusedSimpArgs false
set_option linter.unusedVariables false
variable {r₀ r : Ren} {w₀ w : World} {m : Mem}
/-- What Sign reckons, as the run has it. -/
def gA (F : Fs) (s : Nat) : Nat := (F.hlv (bnum (bv s))).1
def gP (F : Fs) (s : Nat) : Nat := (F.hlv (bnum (bv s))).2
def gY1 (F : Fs) (s : Nat) (y : List Value) : List Value := ((bl (gP F s)).drop 0).take 32 ++ (y ++ [])
def gR (F : Fs) (s : Nat) (y : List Value) : Nat := F.hsh (gY1 F s y)
def gC (F : Fs) (s : Nat) (y : List Value) : Nat := F.bas (bnum (bv (gR F s y)))
def gK (F : Fs) (s : Nat) : Nat := F.bas (bnum (bv (gA F s)))
def gY2 (F : Fs) (s : Nat) (y : List Value) : List Value := ((bl (gC F s y)).drop 0).take 32 ++ (((bl (gK F s)).drop 0).take 32 ++ (y ++ []))
def gH (F : Fs) (s : Nat) (y : List Value) : Nat := F.hsh (gY2 F s y)
def gS (F : Fs) (s : Nat) (y : List Value) : Nat := F.mu (Sc.bnum (bv (gH F s y))) (Sc.bnum (bv (gA F s))) (Sc.bnum (bv (gR F s y)))
def p32 (n : Nat) : Prop := 0 + 32 ≤ (bl n).length ∧ (((bl n).drop 0).take 32).all (isInt .u8) = true
def pM (v : Sv) : Prop := v.x = v.x ∧ v.n = v.n ∧ v.c = v.c
def pZ (l : List Value) : Prop := 0 < l.length ∧ l.length ≤ 140737488355328
def sgT (F : Fs) (v : Sv) (y : List Value) (s : Nat) : List Prop :=
  [IsB (bv s), p32 (gP F s), pM v, pZ (gY1 F s y), IsB (bv (gR F s y)), IsB (bv (gA F s)), p32 (gC F s y), p32 (gK F s), pM v, pZ (gY2 F s y), Sc.IsB (bv (gH F s y)) ∧ Sc.IsB (bv (gA F s)) ∧ Sc.IsB (bv (gR F s y))]
def sgP (c : Code) : List Code := [cL c, cL (cR c), cL (cR (cR c)), cL (cR (cR (cR c))), cL (cR (cR (cR (cR c)))), cL (cR (cR (cR (cR (cR c))))), cL (cR (cR (cR (cR (cR (cR c))))))]
def sgE (c : Code) : Code := cL (cR (cR (cR (cR (cR (cR (cR c)))))))
theorem sg_code : bodyOf Tryd.f5 = seqs (sgP (bodyOf Tryd.f5)) (.seq (sgE (bodyOf Tryd.f5)) .ret) := by kernel_rfl
def sg0 (fn : Func) (v : Sv) (s : Nat) : Act × Mem := (sinit fn [bv s, raw v.val], MA)
def sg1 (P : Program) (F : Fs) (fn : Func) (v : Sv) (y : List Value) (s : Nat) : Act × Mem := runL P (EH F v y) 60 (sgP (bodyOf fn)) (sg0 fn v s)
theorem sg_1 (F : Fs) (v : Sv) (y : List Value) (s : Nat) : sexecL Tryd.prog (EH F v y) 60 (sgP (bodyOf Tryd.f5)) [] (sg0 Tryd.f5 v s) = some (sgT F v y s, sg1 Tryd.prog F Tryd.f5 v y s) := by kernel_rfl
theorem SWO.load {H : Ren → World → Prop} {gl : List Nat} {P : Program} {Q : Exit → Act × Mem → Prop} {ops : Array Oper} {s : Act × Mem} {n : Nat} {listed : Array Bool} {i d : Nat} {t : TypeId} {x : Operand} {b k : Nat} {u : Value}
    (ho : (ops[i]?).map (fun o => (o.guard, o.op, o.dst)) = some (none, .load t x, some d)) (hx : okX gl s.1.eval x = true) (he : s.1.eval x = .pointer (some ⟨b, k, none⟩)) (hl : sload P t b k s.2 = some u)
    (h : SWA H P gl ops n (listed.setIfInBounds i true) (s.1.put (some d) u, s.2) Q) : SWO H P gl ops n listed i s Q := by
  intro r₀ w₀ A w r hH S
  cases hoi : ops[i]? with
  | none => rw [hoi] at ho; simp at ho
  | some o =>
    rw [hoi] at ho
    simp only [Option.map_some, Option.some.injEq, Prod.mk.injEq] at ho
    obtain ⟨o1, o2, o3⟩ := ho
    unfold wpOp
    simp only [hoi]
    have hw : Region.wanted o (yielded ops A.tmps) = true := by unfold Region.wanted; rw [o1]
    rw [if_pos hw]
    refine .inl ?_
    have h1 := S.eval hx
    rw [he] at h1
    obtain ⟨c, hc, e⟩ := tr_ptr h1
    obtain ⟨v', h2, h3⟩ := load_run S.rel hc hl
    refine wp_of_run (v := v') (w' := w) (by simp [execOp, o2, e, Instr.loadAt, Instr.sureAddr, h3]) ?_
    have S' := S.put0 h2 o.dst
    rw [o3] at S' ⊢
    exact h r₀ w₀ _ _ _ hH S'
/-- Concat of pieces, some of them the message. -/
theorem concat_msg {v : Sv} {y : List Value} (hy : MsgOK v y) {s : Act × Mem} {L p : Nat} {x : Operand} {B : Blk} {ts : List Prop} {bs : List Value} (hx : okX glA s.1.eval x = true) (he : s.1.eval x = .slice (some ⟨L, 0, none⟩) p p) (hB : getB s.2 L = some B) (hp : B.cells.length = p) (hp2 : p ≤ 1000) (hg : gHas MA s.2 = true) (hL : (getB MA L).isNone = true) (hpo : piecesOf v y s.2 L B.cells = some (ts, bs)) (ht : ∀ p ∈ ts, p) (hz : pZ bs) :
    ∀ r₀ w₀ A w r, msgH v y r₀ w₀ → Sim glA r₀ w₀ s.1 s.2 A w r → CallOK Tryd.prog 12 ((#[x] : Array Operand).map A.eval) w fun v' w' => ∃ c cap q, v' = .slice (some ⟨c, 0, none⟩) bs.length cap ∧ w.heap.size ≤ c ∧ w'.heap[c]? = some (.cells q.toArray 5 (0, 0)) ∧ q.all flat1 = true ∧ OwnRow bs cap q ∧ Below w.heap.size w w' := by
  intro r₀ w₀ A w r hH S
  have hr := S.rel
  have hG : Glo MA w := hr.glo hg MA_flat fun g hg => S.glob g (coversG_get MA_cov hg)
  have hmsg := msg_now hH S.fr hG
  obtain ⟨cL, cs, q1, q2, q3⟩ := hr.cells L B hB
  have hnew : w₀.heap.size ≤ cL := by
    rcases S.ext.2 L cL q1 with h | h
    · rw [hH.1] at h
      have := glR_dom h
      rw [Option.isNone_iff_eq_none] at hL
      rw [hL] at this; cases this
    · exact h
  have hna : Cat.notAt cL v.val := by
    obtain ⟨_, ⟨c, hv, h0⟩ | ⟨c, o, cap, hv, hcl, _⟩⟩ := hH.2.2
    · rw [hv]; trivial
    · rw [hv]
      right
      show c ≠ cL
      omega
  obtain ⟨ps, e1, e2, e3, e4⟩ := parts_of hy hr q1 hmsg hna B.cells cs ts bs q2 hpo ht
  have hcat : catY ps ps.length = bs := by unfold catY; rw [List.take_length]; exact e2
  have hcn : catN ps ps.length = bs.length := by unfold catN; rw [hcat]
  have hlen : ps.length = p := by omega
  have ev := S.eval hx
  rw [he] at ev
  obtain ⟨c', hc', e5⟩ := tr_slice ev
  rw [q1] at hc'; cases hc'
  have h := cat_calls ps (fun q hq => ⟨u8_flat (e4 q hq).2.1, (e4 q hq).1⟩) (by omega) (by rw [hcn]; exact hz.1) (by rw [hcn]; exact hz.2) (c := cL) (ty := B.ty) (by rw [q3, e1]) (fun q hq => ⟨(e4 q hq).2.2.1, (e4 q hq).2.2.2⟩)
  rw [hcn, hcat, hlen] at h
  rw [show (#[x] : Array Operand).map A.eval = #[A.eval x] by simp, e5]
  exact h
/-- A signature: its two halves. -/
def sgv (R S : Nat) : Value := .agg (bl R ++ bl S).toArray
theorem sg_reg : sgE (bodyOf Tryd.f5) = .region (rId (sgE (bodyOf Tryd.f5))) (rOps (sgE (bodyOf Tryd.f5))) true := by kernel_rfl
theorem rd0 : Region.ready .any (rOps (sgE (bodyOf Tryd.f5))) (Array.replicate (rOps (sgE (bodyOf Tryd.f5))).size false) = [0, 1] := by kernel_rfl
theorem rd1 : Region.ready .any (rOps (sgE (bodyOf Tryd.f5))) ((Array.replicate (rOps (sgE (bodyOf Tryd.f5))).size false).setIfInBounds 0 true) = [1] := by kernel_rfl
theorem rd2 : Region.ready .any (rOps (sgE (bodyOf Tryd.f5))) ((Array.replicate (rOps (sgE (bodyOf Tryd.f5))).size false).setIfInBounds 1 true) = [0] := by kernel_rfl
def l2 (P : Program) (ops : Array Oper) : Array Bool := ((Array.replicate ops.size false).setIfInBounds 0 true).setIfInBounds 1 true
def l3 (P : Program) (ops : Array Oper) : Array Bool := (l2 P ops).setIfInBounds 2 true
def l4 (P : Program) (ops : Array Oper) : Array Bool := (l3 P ops).setIfInBounds 3 true
def l5 (P : Program) (ops : Array Oper) : Array Bool := (l4 P ops).setIfInBounds 4 true
def l6 (P : Program) (ops : Array Oper) : Array Bool := (l5 P ops).setIfInBounds 5 true
def l7 (P : Program) (ops : Array Oper) : Array Bool := (l6 P ops).setIfInBounds 6 true
theorem rd3 : Region.ready .any (rOps (sgE (bodyOf Tryd.f5))) (l2 Tryd.prog (rOps (sgE (bodyOf Tryd.f5)))) = [2] := by kernel_rfl
theorem rd4 : Region.ready .any (rOps (sgE (bodyOf Tryd.f5))) (l3 Tryd.prog (rOps (sgE (bodyOf Tryd.f5)))) = [3] := by kernel_rfl
theorem rd5 : Region.ready .any (rOps (sgE (bodyOf Tryd.f5))) (l4 Tryd.prog (rOps (sgE (bodyOf Tryd.f5)))) = [4] := by kernel_rfl
theorem rd6 : Region.ready .any (rOps (sgE (bodyOf Tryd.f5))) (l5 Tryd.prog (rOps (sgE (bodyOf Tryd.f5)))) = [5] := by kernel_rfl
theorem rd7 : Region.ready .any (rOps (sgE (bodyOf Tryd.f5))) (l6 Tryd.prog (rOps (sgE (bodyOf Tryd.f5)))) = [6] := by kernel_rfl
theorem rd8 : Region.ready .any (rOps (sgE (bodyOf Tryd.f5))) (l7 Tryd.prog (rOps (sgE (bodyOf Tryd.f5)))) = [] := by kernel_rfl
theorem l2' : ((Array.replicate (rOps (sgE (bodyOf Tryd.f5))).size false).setIfInBounds 1 true).setIfInBounds 0 true = l2 Tryd.prog (rOps (sgE (bodyOf Tryd.f5))) := by kernel_rfl
def sstS (P : Program) (X : Cx) (ops : Array Oper) (h0 i : Nat) (s : Act × Mem) : Act × Mem :=
  match sstep P X ops h0 i s with
  | some (_, s') => s'
  | none => s
def sg2 (P : Program) (F : Fs) (fn : Func) (v : Sv) (y : List Value) (s : Nat) : Act × Mem := ((sg1 P F fn v y s).1, (sg1 P F fn v y s).2 ++ List.replicate ((rOps (sgE (bodyOf fn))).toList.filter makes).length none)
def sgn (P : Program) (F : Fs) (fn : Func) (v : Sv) (y : List Value) (s i : Nat) (t : Act × Mem) : Act × Mem := sstS P (EH F v y) (rOps (sgE (bodyOf fn))) (nA + 11) i t
theorem st0 (F : Fs) (v : Sv) (y : List Value) (s : Nat) : sstep Tryd.prog (EH F v y) (rOps (sgE (bodyOf Tryd.f5))) (nA + 11) 0 (sg2 Tryd.prog F Tryd.f5 v y s) = some ([], sgn Tryd.prog F Tryd.f5 v y s 0 (sg2 Tryd.prog F Tryd.f5 v y s)) := by kernel_rfl
theorem st1 (F : Fs) (v : Sv) (y : List Value) (s : Nat) : sstep Tryd.prog (EH F v y) (rOps (sgE (bodyOf Tryd.f5))) (nA + 11) 1 (sg2 Tryd.prog F Tryd.f5 v y s) = some ([], sgn Tryd.prog F Tryd.f5 v y s 1 (sg2 Tryd.prog F Tryd.f5 v y s)) := by kernel_rfl
theorem st01 (F : Fs) (v : Sv) (y : List Value) (s : Nat) : sstep Tryd.prog (EH F v y) (rOps (sgE (bodyOf Tryd.f5))) (nA + 11) 1 (sgn Tryd.prog F Tryd.f5 v y s 0 (sg2 Tryd.prog F Tryd.f5 v y s)) = some ([], sgn Tryd.prog F Tryd.f5 v y s 1 (sgn Tryd.prog F Tryd.f5 v y s 0 (sg2 Tryd.prog F Tryd.f5 v y s))) := by kernel_rfl
theorem st10 (F : Fs) (v : Sv) (y : List Value) (s : Nat) : sstep Tryd.prog (EH F v y) (rOps (sgE (bodyOf Tryd.f5))) (nA + 11) 0 (sgn Tryd.prog F Tryd.f5 v y s 1 (sg2 Tryd.prog F Tryd.f5 v y s)) = some ([], sgn Tryd.prog F Tryd.f5 v y s 1 (sgn Tryd.prog F Tryd.f5 v y s 0 (sg2 Tryd.prog F Tryd.f5 v y s))) := by kernel_rfl
def sg3 (P : Program) (F : Fs) (fn : Func) (v : Sv) (y : List Value) (s : Nat) : Act × Mem := sgn P F fn v y s 2 (sgn P F fn v y s 1 (sgn P F fn v y s 0 (sg2 P F fn v y s)))
theorem st2 (F : Fs) (v : Sv) (y : List Value) (s : Nat) : sstep Tryd.prog (EH F v y) (rOps (sgE (bodyOf Tryd.f5))) (nA + 11) 2 (sgn Tryd.prog F Tryd.f5 v y s 1 (sgn Tryd.prog F Tryd.f5 v y s 0 (sg2 Tryd.prog F Tryd.f5 v y s))) = some ([], sg3 Tryd.prog F Tryd.f5 v y s) := by kernel_rfl
theorem sg3_ok (F : Fs) (v : Sv) (y : List Value) (s : Nat) : okX glA (sg3 Tryd.prog F Tryd.f5 v y s).1.eval (.tmp 36) = true := by kernel_rfl
theorem sg3_e (F : Fs) (v : Sv) (y : List Value) (s : Nat) : (sg3 Tryd.prog F Tryd.f5 v y s).1.eval (.tmp 36) = .slice (some ⟨nA + 11, 0, none⟩) 2 2 := by kernel_rfl
def sgL : List Value := [.slice (some ⟨nA + 6, 0, none⟩) 32 32, .slice (some ⟨nA + 10, 0, none⟩) 32 32]
theorem sg3_b (F : Fs) (v : Sv) (y : List Value) (s : Nat) : getB (sg3 Tryd.prog F Tryd.f5 v y s).2 (nA + 11) = some ⟨sgL, 23⟩ := by kernel_rfl
theorem sg3_g (F : Fs) (v : Sv) (y : List Value) (s : Nat) : gHas MA (sg3 Tryd.prog F Tryd.f5 v y s).2 = true := by kernel_rfl
theorem sg3_n : (getB MA (nA + 11)).isNone = true := by kernel_rfl
theorem sg3_l (F : Fs) (v : Sv) (y : List Value) (s : Nat) : (sg3 Tryd.prog F Tryd.f5 v y s).2.length = nA + 12 := by kernel_rfl
def sgB (F : Fs) (s : Nat) (y : List Value) : List Value := ((bl (gC F s y)).drop 0).take 32 ++ (((bl (gS F s y)).drop 0).take 32 ++ [])
theorem sg3_p (F : Fs) (v : Sv) (y : List Value) (s : Nat) : piecesOf v y (sg3 Tryd.prog F Tryd.f5 v y s).2 (nA + 11) sgL = some ([p32 (gC F s y), p32 (gS F s y)], sgB F s y) := by kernel_rfl
theorem sgB_len (F : Fs) (s : Nat) (y : List Value) : (sgB F s y).length = 64 := by kernel_rfl
def sg4 (P : Program) (F : Fs) (fn : Func) (v : Sv) (y : List Value) (s cap : Nat) (q : List Value) : Act × Mem := ((sg3 P F fn v y s).1.put (some 37) (.slice (some ⟨nA + 12, 0, none⟩) 64 cap), (sg3 P F fn v y s).2 ++ [some ⟨q, ⟨5, (0, 0)⟩⟩])
def sg5 (P : Program) (F : Fs) (fn : Func) (v : Sv) (y : List Value) (s cap : Nat) (q : List Value) : Act × Mem := sgn P F fn v y s 4 (sg4 P F fn v y s cap q)
theorem st4 (F : Fs) (v : Sv) (y : List Value) (s cap : Nat) (q : List Value) : sstep Tryd.prog (EH F v y) (rOps (sgE (bodyOf Tryd.f5))) (nA + 11) 4 (sg4 Tryd.prog F Tryd.f5 v y s cap q) = some ([], sg5 Tryd.prog F Tryd.f5 v y s cap q) := by kernel_rfl
theorem sg5_ok (F : Fs) (v : Sv) (y : List Value) (s cap : Nat) (q : List Value) : okX glA (sg5 Tryd.prog F Tryd.f5 v y s cap q).1.eval (.tmp 38) = true := by kernel_rfl
theorem sg5_e (F : Fs) (v : Sv) (y : List Value) (s cap : Nat) (q : List Value) : (sg5 Tryd.prog F Tryd.f5 v y s cap q).1.eval (.tmp 38) = .pointer (some ⟨nA + 12, 0, none⟩) := by kernel_rfl
theorem sg5_m (F : Fs) (v : Sv) (y : List Value) (s cap : Nat) (q : List Value) : getB (sg5 Tryd.prog F Tryd.f5 v y s cap q).2 (nA + 12) = some ⟨q, ⟨5, (0, 0)⟩⟩ := by kernel_rfl
theorem row64 : rowT Tryd.prog 25 = some (true, 64) := by kernel_rfl
def sg6 (P : Program) (F : Fs) (fn : Func) (v : Sv) (y : List Value) (s cap : Nat) (q : List Value) : Act × Mem := ((sg5 P F fn v y s cap q).1.put (some 39) (.agg (sgB F s y).toArray), (sg5 P F fn v y s cap q).2)
def sg7 (P : Program) (F : Fs) (fn : Func) (v : Sv) (y : List Value) (s cap : Nat) (q : List Value) : Act × Mem := sgn P F fn v y s 6 (sg6 P F fn v y s cap q)
theorem st6 (F : Fs) (v : Sv) (y : List Value) (s cap : Nat) (q : List Value) : sstep Tryd.prog (EH F v y) (rOps (sgE (bodyOf Tryd.f5))) (nA + 11) 6 (sg6 Tryd.prog F Tryd.f5 v y s cap q) = some ([], sg7 Tryd.prog F Tryd.f5 v y s cap q) := by kernel_rfl
theorem sg7_r (F : Fs) (v : Sv) (y : List Value) (s cap : Nat) (q : List Value) : sres Tryd.prog Tryd.f5 (sg7 Tryd.prog F Tryd.f5 v y s cap q) = some (sgv (gC F s y) (gS F s y)) := by kernel_rfl
theorem sg7_d (F : Fs) (v : Sv) (y : List Value) (s cap : Nat) (q : List Value) : (sg7 Tryd.prog F Tryd.f5 v y s cap q).1.defers = [] := by kernel_rfl
theorem sg7_m (F : Fs) (v : Sv) (y : List Value) (s cap : Nat) (q : List Value) : (sg7 Tryd.prog F Tryd.f5 v y s cap q).2 = MA ++ (sg7 Tryd.prog F Tryd.f5 v y s cap q).2.drop nA := by kernel_rfl
end Go.Proofs.YtdegfgncdphepaaDoor.Edd
