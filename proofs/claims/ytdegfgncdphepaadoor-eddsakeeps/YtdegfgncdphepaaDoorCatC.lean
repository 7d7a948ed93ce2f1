/- slices.Concat: its second loop, and its contract. -/
import Derived.Test.YtdegfgncdphepaaDoorCatA
namespace Go.Proofs.YtdegfgncdphepaaDoor.Cat
open Go Go.RowKit
set_option linter.unusedSimpArgs false
set_option linter.unusedVariables false
variable {H : Ren → World → Prop} {gl : List Nat} {P : Program} {Q : Exit → Act × Mem → Prop}
/-- A call within a region that gives back a slice of a new block. -/
theorem SWL.callR {c : Code} {s : Act × Mem} {l : List Nat} {i d : Nat} {f : FuncId} {args : Array Operand} {ts : Array TypeId} {n : Nat} {e : TypeId} {R : Nat → List Value → Prop}
    (ho : ((rOps c)[i]?).map (fun o => (o.guard, o.op, o.dst)) = some (none, .call ⟨.value (.func f), args, ts⟩, some d))
    (hcall : ∀ r₀ w₀ A w r, H r₀ w₀ → Sim gl r₀ w₀ s.1 s.2 A w r → CallOK P f (args.map A.eval) w fun v' w' => ∃ c cap q, v' = .slice (some ⟨c, 0, none⟩) n cap ∧ w.heap.size ≤ c ∧ w'.heap[c]? = some (.cells q.toArray e (0, 0)) ∧ q.all flat1 = true ∧ R cap q ∧ Below w.heap.size w w')
    (h : ∀ cap q, q.all flat1 = true → R cap q → SWL H P gl (rOps c) l (s.1.put (some d) (.slice (some ⟨s.2.length, 0, none⟩) n cap), s.2 ++ [some ⟨q, ⟨e, (0, 0)⟩⟩]) Q) : SWL H P gl (rOps c) (i :: l) s Q := by
  cases hoi : (rOps c)[i]? with
  | none => rw [hoi] at ho; simp at ho
  | some o =>
    rw [hoi] at ho
    simp only [Option.map_some, Option.some.injEq, Prod.mk.injEq] at ho
    obtain ⟨o1, o2, o3⟩ := ho
    exact SWL.callN hoi o1 o2 hcall (fun cap q h1 h2 => by rw [o3]; exact h cap q h1 h2)
/-- The call of Grow. -/
def ct9 (P : Program) (fn : Func) (ps : Parts) (ty : BT) (p : Nat) (size t : Int) : Act × Mem := ahead P Nt (k9 (bodyOf fn)) [0] (c1A p size poison t, catM ps ty)
theorem ct_9 (ps : Parts) (ty : BT) (p : Nat) (size t : Int) : sseq Tryd.prog Nt (rOps (k9 (bodyOf Tryd.f12))) (c1A p size poison t, catM ps ty).2.length [0] [] ((c1A p size poison t, catM ps ty).1, (c1A p size poison t, catM ps ty).2 ++ List.replicate ((rOps (k9 (bodyOf Tryd.f12))).toList.filter makes).length none) = some ([], ct9 Tryd.prog Tryd.f12 ps ty p size t) := by kernel_rfl
theorem ct_9o (ps : Parts) (ty : BT) (p : Nat) (size t : Int) : okX [] (ct9 Tryd.prog Tryd.f12 ps ty p size t).1.eval (.tmp 23) = true := by kernel_rfl
theorem ct_9e (ps : Parts) (ty : BT) (p : Nat) (size t : Int) : (ct9 Tryd.prog Tryd.f12 ps ty p size t).1.eval (.tmp 23) = .int .i64 size := by kernel_rfl
theorem ct_9m (ps : Parts) (ty : BT) (p : Nat) (size t : Int) : (ct9 Tryd.prog Tryd.f12 ps ty p size t).2 = catM ps ty := by kernel_rfl
/-- The second loop. -/
def c2A (p : Nat) (x6 x8 : Value) (t : Int) : Act := ⟨#[sl0 p, poison, poison, poison, poison, poison, x6, poison, x8] ++ Array.replicate 16 poison ++ #[sl0 p, .int .i64 (p : Int), .int .i64 t] ++ Array.replicate 8 poison, []⟩
def cF2 : List Nat := [1, 2, 3, 4, 5, 7, 8] ++ (List.range 16).map (· + 9) ++ (List.range 8).map (· + 28)
def cF2b : List Nat := [1, 2, 3, 4, 5, 7] ++ (List.range 16).map (· + 9) ++ (List.range 8).map (· + 28)
def cK2 (s : Act × Mem) : Act × Mem := (forgetL s.1 cF2, s.2)
def own1 (k cap : Nat) : Value := .slice (some ⟨1, 0, none⟩) k cap
def cM2 (ps : Parts) (ty : BT) (cells : List Value) : Mem := catM ps ty ++ [some ⟨cells, ⟨5, (0, 0)⟩⟩]
def ct10 (P : Program) (fn : Func) (ps : Parts) (ty : BT) (p : Nat) (size t : Int) (cap : Nat) (cells : List Value) : Act × Mem := seqS P Nt (rOps (k9 (bodyOf fn))) 1 [2] ((ct9 P fn ps ty p size t).1.put (some 24) (own1 0 cap), cM2 ps ty cells)
theorem ct_10 (ps : Parts) (ty : BT) (p : Nat) (size t : Int) (cap : Nat) (cells : List Value) : sseq Tryd.prog Nt (rOps (k9 (bodyOf Tryd.f12))) 1 [2] [] ((ct9 Tryd.prog Tryd.f12 ps ty p size t).1.put (some 24) (own1 0 cap), cM2 ps ty cells) = some ([], ct10 Tryd.prog Tryd.f12 ps ty p size t cap cells) := by kernel_rfl
def ct11 (P : Program) (fn : Func) (ps : Parts) (ty : BT) (p : Nat) (size t : Int) (cap : Nat) (cells : List Value) : Act × Mem := runL P Nt 20 [k10 (bodyOf fn)] (ct10 P fn ps ty p size t cap cells)
theorem ct_11 (ps : Parts) (ty : BT) (p : Nat) (size t : Int) (cap : Nat) (cells : List Value) : sexecL Tryd.prog Nt 20 [k10 (bodyOf Tryd.f12)] [] (ct10 Tryd.prog Tryd.f12 ps ty p size t cap cells) = some ([], ct11 Tryd.prog Tryd.f12 ps ty p size t cap cells) := by kernel_rfl
theorem ct_11k (ps : Parts) (ty : BT) (p : Nat) (size t : Int) (cap : Nat) (cells : List Value) : cK2 (ct11 Tryd.prog Tryd.f12 ps ty p size t cap cells) = (c2A p (own1 0 cap) poison 0, cM2 ps ty cells) := by kernel_rfl
def ct12 (P : Program) (fn : Func) (ps : Parts) (ty : BT) (p k cap : Nat) (cells : List Value) (t : Int) : Act × Mem := runL P (Ntt [(28, true)]) 20 (k11 (bodyOf fn)) (c2A p (own1 k cap) poison t, cM2 ps ty cells)
theorem ct_12 (ps : Parts) (ty : BT) (p k cap : Nat) (cells : List Value) (t : Int) : sexecL Tryd.prog (Ntt [(28, true)]) 20 (k11 (bodyOf Tryd.f12)) [] (c2A p (own1 k cap) poison t, cM2 ps ty cells) = some ([decide (t < (p : Int)) = true], ct12 Tryd.prog Tryd.f12 ps ty p k cap cells t) := by kernel_rfl
theorem ct_12k (ps : Parts) (ty : BT) (p k cap : Nat) (cells : List Value) (t : Int) : cK2 (ct12 Tryd.prog Tryd.f12 ps ty p k cap cells t) = (c2A p (own1 k cap) poison t, cM2 ps ty cells) := by kernel_rfl
def ctY (P : Program) (fn : Func) (ps : Parts) (ty : BT) (p k cap : Nat) (cells : List Value) (t : Int) : Act × Mem := runS P (Ntt [(28, false)]) 20 (kM (bodyOf fn)) (c2A p (own1 k cap) poison t, cM2 ps ty cells)
theorem ct_y (ps : Parts) (ty : BT) (p k cap : Nat) (cells : List Value) (t : Int) : sexec Tryd.prog (Ntt [(28, false)]) 20 (kM (bodyOf Tryd.f12)) [] (c2A p (own1 k cap) poison t, cM2 ps ty cells) = some ([decide (t < (p : Int)) = false], .exit 2, ctY Tryd.prog Tryd.f12 ps ty p k cap cells t) := by kernel_rfl
theorem ct_yk (ps : Parts) (ty : BT) (p k cap : Nat) (cells : List Value) (t : Int) : cK2 (ctY Tryd.prog Tryd.f12 ps ty p k cap cells t) = (c2A p (own1 k cap) poison t, cM2 ps ty cells) := by kernel_rfl
def ct13 (P : Program) (fn : Func) (ps : Parts) (ty : BT) (p k cap : Nat) (cells : List Value) (t : Int) : Act × Mem := ahead P Nt (k12 (bodyOf fn)) [0] (c2A p (own1 k cap) poison t, cM2 ps ty cells)
theorem ct_13 (ps : Parts) (ty : BT) (p k cap : Nat) (cells : List Value) (t : Int) : sseq Tryd.prog Nt (rOps (k12 (bodyOf Tryd.f12))) (c2A p (own1 k cap) poison t, cM2 ps ty cells).2.length [0] [] ((c2A p (own1 k cap) poison t, cM2 ps ty cells).1, (c2A p (own1 k cap) poison t, cM2 ps ty cells).2 ++ List.replicate ((rOps (k12 (bodyOf Tryd.f12))).toList.filter makes).length none) = some ([0 ≤ t ∧ t < (p : Int)], ct13 Tryd.prog Tryd.f12 ps ty p k cap cells t) := by kernel_rfl
theorem ct_13o (ps : Parts) (ty : BT) (p k cap : Nat) (cells : List Value) (t : Int) : okX [] (ct13 Tryd.prog Tryd.f12 ps ty p k cap cells t).1.eval (.tmp 29) = true := by kernel_rfl
theorem ct_13e (ps : Parts) (ty : BT) (p k cap : Nat) (cells : List Value) (t : Int) : (ct13 Tryd.prog Tryd.f12 ps ty p k cap cells t).1.eval (.tmp 29) = .pointer (some ⟨0, at0 t, none⟩) := by kernel_rfl
theorem ct_13m (ps : Parts) (ty : BT) (p k cap : Nat) (cells : List Value) (t : Int) : (ct13 Tryd.prog Tryd.f12 ps ty p k cap cells t).2 = cM2 ps ty cells := by kernel_rfl
def ct14 (P : Program) (fn : Func) (ps : Parts) (ty : BT) (p k cap : Nat) (cells : List Value) (t : Int) (v : Sv) : Act × Mem := seqS P Nt (rOps (k12 (bodyOf fn))) 2 [2] ((ct13 P fn ps ty p k cap cells t).1.put (some 30) (raw v.val), cM2 ps ty cells)
theorem ct_14 (ps : Parts) (ty : BT) (p k cap : Nat) (cells : List Value) (t : Int) (v : Sv) : sseq Tryd.prog Nt (rOps (k12 (bodyOf Tryd.f12))) 2 [2] [] ((ct13 Tryd.prog Tryd.f12 ps ty p k cap cells t).1.put (some 30) (raw v.val), cM2 ps ty cells) = some ([], ct14 Tryd.prog Tryd.f12 ps ty p k cap cells t v) := by kernel_rfl
theorem ct_14k (ps : Parts) (ty : BT) (p k cap : Nat) (cells : List Value) (t : Int) (v : Sv) : (forgetL (ct14 Tryd.prog Tryd.f12 ps ty p k cap cells t v).1 cF2b, (ct14 Tryd.prog Tryd.f12 ps ty p k cap cells t v).2) = (c2A p (own1 k cap) (raw v.val) t, cM2 ps ty cells) := by kernel_rfl
theorem ct_ld2 (ps : Parts) (ty : BT) (p k cap : Nat) (cells : List Value) (t : Nat) {q : Sv × List Value} (hq : ps[t]? = some q) (ht : t < p) :
    SWn H Tryd.prog [] (k12 (bodyOf Tryd.f12)) (c2A p (own1 k cap) poison (t : Int), cM2 ps ty cells) (thenS (fun s' => Into H Tryd.prog [] (c2A p (own1 k cap) (raw q.1.val) (t : Int), cM2 ps ty cells) s') Q) := by
  rw [show k12 (bodyOf Tryd.f12) = .region (rId (k12 (bodyOf Tryd.f12))) (rOps (k12 (bodyOf Tryd.f12))) false from (by kernel_rfl)]
  refine SWn.region ?_
  rw [show List.range (rOps (k12 (bodyOf Tryd.f12))).size = [0] ++ (1 :: ([2] ++ [])) from (by kernel_rfl)]
  refine SWL.steps Nt_ok Nt_gl (fun p hp => by rw [List.mem_singleton.1 hp]; omega) ?_ [0] [] _ (ct_13 ps ty p k cap cells (t : Int))
  refine SWL.loadR (c := k12 (bodyOf Tryd.f12)) (d := 30) (t := 23) (x := .tmp 29) (by kernel_rfl) (ct_13o ps ty p k cap cells _) (ct_13e ps ty p k cap cells _) (v := raw q.1.val) ?_ ?_
  · rw [ct_13m, at0_nat]
    exact sload_one (B := ⟨catC ps, ty⟩) rfl row_t (catC_get hq)
  · rw [ct_13m]
    exact SWL.steps Nt_ok Nt_gl (by simp) (SWL.nil (forget_into cF2b (ct_14k ps ty p k cap cells _ q.1))) [2] [] _ (ct_14 ps ty p k cap cells _ q.1)
def C2Q (H : Ren → World → Prop) (ps : Parts) (ty : BT) (p k : Nat) (y : List Value) (t : Int) (s' : Act × Mem) : Prop := ∃ cap' cells', OwnRow y cap' cells' ∧ Into H Tryd.prog [] (c2A p (own1 k cap') poison t, cM2 ps ty cells') s'
theorem ct_ap (ps : Parts) (ty : BT) (p : Nat) (t : Int) (hlow : ∀ r₀ w₀, H r₀ w₀ → Low 1 r₀) {y cells : List Value} {k cap : Nat} {q : Sv × List Value} (hk : y.length = k) (hrow : OwnRow y cap cells) (hf : q.2.all flat1 = true) (hl : q.2.length = q.1.n) (hH : ∀ r₀ w₀, H r₀ w₀ → WSrc q.1.val q.1.n q.2 w₀ ∧ apart r₀ q.1.val) (hsize : k + q.1.n ≤ 140737488355328) :
    SWn H Tryd.prog [] (k13 (bodyOf Tryd.f12)) (c2A p (own1 k cap) (raw q.1.val) t, cM2 ps ty cells) (thenS (C2Q H ps ty p (k + q.1.n) (y ++ q.2) t) Q) := by
  have hx : (ahead Tryd.prog Nt (k13 (bodyOf Tryd.f12)) [0, 1] (c2A p (own1 k cap) (raw q.1.val) t, cM2 ps ty cells)).1.eval (.tmp 32) = raw q.1.val := by kernel_rfl
  have hs : SrcS H Tryd.prog 23 (ahead Tryd.prog Nt (k13 (bodyOf Tryd.f12)) [0, 1] (c2A p (own1 k cap) (raw q.1.val) t, cM2 ps ty cells)).2 ((ahead Tryd.prog Nt (k13 (bodyOf Tryd.f12)) [0, 1] (c2A p (own1 k cap) (raw q.1.val) t, cM2 ps ty cells)).1.eval (.tmp 32)) q.1.n q.2 := by
    rw [hx]
    exact SrcS.raw byteT.ht hf hH
  exact SWn.appR (n0 := 1) (j := 1) (d := 6) (F := cF2) (A1 := fun cap' => c2A p (own1 (k + q.1.n) cap') poison t) (mb := catM ps ty) (pre := [0, 1]) (post := [3]) (i := 2) (ds := 33) (sx := .tmp 31) (xx := .tmp 32) Nt_ok Nt_gl byteT (by kernel_rfl) (by kernel_rfl) (by kernel_rfl)
    (ps := []) (by kernel_rfl) (by simp) hk (by kernel_rfl) (by kernel_rfl) (by kernel_rfl) hrow (by kernel_rfl) hs hl hsize (fun _ _ _ => by kernel_rfl) (fun _ _ => by kernel_rfl) (fun _ _ => by kernel_rfl) (fun _ _ => by kernel_rfl) (fun _ _ => by kernel_rfl) (by kernel_rfl) (catM_R ps ty) hlow (Nat.le_refl _) (fun g hg => by cases hg)
theorem ct_15 (ps : Parts) (ty : BT) (p k cap : Nat) (cells : List Value) (t : Int) : proj cK2 (sexec Tryd.prog Nt 20 (k14 (bodyOf Tryd.f12)) [] (c2A p (own1 k cap) poison t, cM2 ps ty cells)) = some ([], (c2A p (own1 k cap) poison (IntKind.i64.wrap (t + 1)), cM2 ps ty cells)) := by kernel_rfl
theorem ct_r2 (ps : Parts) (hps : catOK ps) (hH : ∀ r₀ w₀, H r₀ w₀ → catH ps r₀ w₀) (ty : BT) (p : Nat) (hp : p = ps.length) (hp2 : p ≤ 1000) (hs : catN ps p ≤ 140737488355328) (t : Nat) (ht : t < p) {s : Act × Mem} (hin : C2Q H ps ty p (catN ps t) (catY ps t) (t : Int) s) :
    SWn H Tryd.prog [] (kM (bodyOf Tryd.f12)) s (thenS (C2Q H ps ty p (catN ps (t + 1)) (catY ps (t + 1)) ((t + 1 : Nat) : Int)) Q) := by
  obtain ⟨q, hq⟩ : ∃ q, ps[t]? = some q := ⟨ps[t], by rw [List.getElem?_eq_getElem (by omega)]⟩
  have hqm := List.mem_of_getElem? hq
  have hn : catN ps (t + 1) = catN ps t + q.1.n := by
    unfold catN; rw [catY_succ ps hq, List.length_append, (hps q hqm).2]
  have hm := catY_mono ps (show t + 1 ≤ p from ht)
  obtain ⟨cap, cells, hrow, hin⟩ := hin
  refine hin _ _ ?_
  rw [ct_l2]
  refine SWn.preG (Ntt_ok _) mixed (Ntt_gl _) rfl (ct_12 ps ty p _ cap cells _) (fun p hp => by rw [List.mem_singleton.1 hp]; exact decide_eq_true (by omega)) ?_
  refine forget_into cF2 (ct_12k ps ty p _ cap cells _) _ _ (SWn.seq (SWn.block (SWn.seq ((ct_ld2 (Q := fun _ _ => False) ps ty p _ cap cells t hq ht).mono ?_))))
  intro e s1 hs1
  obtain ⟨rfl, hin1⟩ := thenS_only hs1
  refine hin1 _ _ ((ct_ap (Q := fun _ _ => False) ps ty p (t : Int) (fun r₀ w₀ h => (hH r₀ w₀ h).1) rfl hrow (hps q hqm).1 (hps q hqm).2 (fun r₀ w₀ h => (hH r₀ w₀ h).2 q hqm) (by show catN ps t + q.1.n ≤ _; omega)).mono ?_)
  intro e s2 hs2
  obtain ⟨rfl, cap', cells', hrow', hin2⟩ := thenS_only hs2
  refine hin2 _ _ ?_
  obtain ⟨z, hz, he⟩ := proj_some (ct_15 ps ty p ((catY ps t).length + q.1.n) cap' cells' (t : Int))
  refine SWn.runG Nt_ok mixed Nt_gl 20 hz (by simp) (thenS_norm ⟨cap', cells', by rw [catY_succ ps hq]; exact hrow', forget_into cF2 ?_⟩)
  rw [hn]
  rw [wrap64 (by omega) (by omega)] at he
  exact he
def ctE (P : Program) (fn : Func) (ps : Parts) (ty : BT) (p k cap : Nat) (cells : List Value) (t : Int) : Act × Mem := runS P Nt 20 (k15 (bodyOf fn)) (c2A p (own1 k cap) poison t, cM2 ps ty cells)
theorem ct_e (ps : Parts) (ty : BT) (p k cap : Nat) (cells : List Value) (t : Int) : sexec Tryd.prog Nt 20 (k15 (bodyOf Tryd.f12)) [] (c2A p (own1 k cap) poison t, cM2 ps ty cells) = some ([], .ret, ctE Tryd.prog Tryd.f12 ps ty p k cap cells t) := by kernel_rfl
theorem ct_er (ps : Parts) (ty : BT) (p k cap : Nat) (cells : List Value) (t : Int) : sres Tryd.prog Tryd.f12 (ctE Tryd.prog Tryd.f12 ps ty p k cap cells t) = some (own1 k cap) := by kernel_rfl
theorem ct_ed (ps : Parts) (ty : BT) (p k cap : Nat) (cells : List Value) (t : Int) : (ctE Tryd.prog Tryd.f12 ps ty p k cap cells t).1.defers = [] := by kernel_rfl
theorem ct_em (ps : Parts) (ty : BT) (p k cap : Nat) (cells : List Value) (t : Int) : (ctE Tryd.prog Tryd.f12 ps ty p k cap cells t).2 = cM2 ps ty cells := by kernel_rfl
theorem catM_get {ps : Parts} {ty : BT} {cells : List Value} {i : Nat} {B : Blk} (h : getB (catM ps ty) i = some B) : getB (cM2 ps ty cells) i = some B := by
  have hl := getB_lt h
  unfold cM2 getB at *
  rw [List.getElem?_append_left hl]; exact h
theorem ct_body (ps : Parts) (hps : catOK ps) (hH : ∀ r₀ w₀, H r₀ w₀ → catH ps r₀ w₀) (ty : BT) (p : Nat) (hp : p = ps.length) (hp2 : p ≤ 1000) (h0 : 0 < catN ps p) (hs : catN ps p ≤ 140737488355328) :
    SWn H Tryd.prog [] (bodyOf Tryd.f12) (ct0 Tryd.f12 ps ty p) fun ex s => (ex = .normal ∨ ex = .ret) ∧ s.1.defers = [] ∧ ∃ b cap q, sres Tryd.prog Tryd.f12 s = some (.slice (some ⟨b, 0, none⟩) (catN ps p) cap) ∧ getB s.2 b = some ⟨q, ⟨5, (0, 0)⟩⟩ ∧ (catM ps ty).length ≤ b ∧ q.all flat1 = true ∧ OwnRow (catY ps p) cap q ∧ ∀ i B, getB (catM ps ty) i = some B → getB s.2 i = some B := by
  rw [ct_code]
  refine SWn.preG Nt_ok mixed Nt_gl rfl (ct_1 ps ty p) (by simp) (SWn.seq ?_)
  refine SWn.preG Nt_ok mixed Nt_gl (cs := [k2 (bodyOf Tryd.f12)]) rfl (ct_2 ps ty p) (by simp) (SWn.block ?_)
  have i0 : Into H Tryd.prog [] (c1A p (catN ps 0 : Int) poison ((0 : Nat) : Int), catM ps ty) (ct2 Tryd.prog Tryd.f12 ps ty p) := forget_into cF1 (ct_2k ps ty p)
  refine SWn.loopK rfl (fun t s => Into H Tryd.prog [] (c1A p (catN ps t : Int) poison (t : Int), catM ps ty) s) 0 p i0 (Nat.zero_le _) (fun t s _ ht hin => ct_r1 ps hps ty p hp hp2 hs t ht hin) (fun s hin => ?_)
  refine hin _ _ (SWn.runG (Ntt_ok _) mixed (Ntt_gl _) 20 (ct_x ps ty p _ _) (fun p hp => by rw [List.mem_singleton.1 hp]; exact decide_eq_false (by omega)) (thenS_exit (blockS_exit (thenS_norm ?_))))
  refine forget_into cF1 (ct_xk ps ty p _ _) _ _ (SWn.seq ?_)
  rw [show k9 (bodyOf Tryd.f12) = .region (rId (k9 (bodyOf Tryd.f12))) (rOps (k9 (bodyOf Tryd.f12))) false from (by kernel_rfl)]
  refine SWn.region ?_
  rw [show List.range (rOps (k9 (bodyOf Tryd.f12))).size = [0] ++ (1 :: ([2] ++ [])) from (by kernel_rfl)]
  refine SWL.steps Nt_ok Nt_gl (by simp) ?_ [0] [] _ (ct_9 ps ty p _ _)
  refine SWL.callR (c := k9 (bodyOf Tryd.f12)) (d := 24) (f := 25) (args := #[.const (.slice none 0 0), .tmp 23]) (ts := #[23, 3]) (n := 0) (e := 5) (R := fun cap q => OwnRow [] cap q) (by kernel_rfl) ?_ ?_
  · intro r₀ w₀ A w r hH' S
    have e1 := S.eval (ct_9o ps ty p (catN ps p : Int) (p : Int))
    rw [ct_9e] at e1
    have e2 := tr_int e1
    have := gr_calls (catN ps p) h0 hs w
    rw [show (#[Operand.const (.slice none 0 0), Operand.tmp 23] : Array Operand).map A.eval = #[A.eval (.const (.slice none 0 0)), A.eval (.tmp 23)] by simp, e2]
    exact this
  · intro cap cells hf hrow
    rw [ct_9m]
    refine SWL.steps Nt_ok Nt_gl (by simp) (SWL.nil ?_) [2] [] _ (ct_10 ps ty p _ _ cap cells)
    refine SWn.seq ?_
    refine SWn.preG Nt_ok mixed Nt_gl (cs := [k10 (bodyOf Tryd.f12)]) rfl (ct_11 ps ty p _ _ cap cells) (by simp) (SWn.block ?_)
    have i1 : C2Q H ps ty p (catN ps 0) (catY ps 0) ((0 : Nat) : Int) (ct11 Tryd.prog Tryd.f12 ps ty p (catN ps p : Int) (p : Int) cap cells) := ⟨cap, cells, hrow, forget_into cF2 (ct_11k ps ty p _ _ cap cells)⟩
    refine SWn.loopK rfl (fun t s => C2Q H ps ty p (catN ps t) (catY ps t) (t : Int) s) 0 p i1 (Nat.zero_le _) (fun t s _ ht hin => ct_r2 ps hps hH ty p hp hp2 hs t ht hin) (fun s hin2 => ?_)
    clear hin hrow i0 i1
    obtain ⟨cap, cells, hrow, hin⟩ := hin2
    refine hin _ _ (SWn.runG (Ntt_ok _) mixed (Ntt_gl _) 20 (ct_y ps ty p _ cap cells _) (fun p hp => by rw [List.mem_singleton.1 hp]; exact decide_eq_false (by omega)) (thenS_exit (blockS_exit (thenS_norm ?_))))
    refine forget_into cF2 (ct_yk ps ty p _ cap cells _) _ _ ?_
    refine SWn.runG Nt_ok mixed Nt_gl 20 (ct_e ps ty p _ cap cells _) (by simp) ⟨.inr rfl, ct_ed ps ty p _ cap cells _, 1, cap, cells, ct_er ps ty p _ cap cells _, by rw [ct_em]; rfl, Nat.le_refl _, hrow.flat, hrow, fun i B h => by rw [ct_em]; exact catM_get h⟩
theorem catC_tr (r : Ren) : ∀ ps : Parts, trL (tr1 r) (catC ps) = some (ps.map fun q => q.1.val)
  | [] => rfl
  | q :: ps => trL_mk rfl (catC_tr r ps)
/-- The contract, in the world. -/
theorem cat_rel {w : World} {ps : Parts} {c : Nat} {ty : BT} (hw : w.heap[c]? = some (.cells (ps.map fun q => q.1.val).toArray ty.id ty.fz)) : Rel (oneR0 c) (catM ps ty) w := by
  refine ⟨fun b B hB => ?_, fun b c' hc => ?_, fun b b' c' h1 h2 => ?_⟩
  · have hb : b = 0 := by have := getB_lt hB; simp [catM] at this; exact this
    subst hb
    simp [catM, getB] at hB
    subst hB
    exact ⟨c, _, rfl, catC_tr _ ps, hw⟩
  · unfold oneR0 at hc
    split at hc
    · rename_i e; subst e; exact ⟨_, rfl⟩
    · cases hc
  · unfold oneR0 at h1 h2
    split at h1 <;> split at h2
    · rename_i e1 e2; rw [e1, e2]
    · cases h2
    · cases h1
    · cases h1
theorem cat_low (c : Nat) : Low 1 (oneR0 c) := fun b c' h => by
  unfold oneR0 at h
  split at h
  · omega
  · cases h
def notAt (c : Nat) : Value → Prop
  | .slice (some a) n _ => n = 0 ∨ a.block ≠ c
  | _ => True
theorem notAt_apart {c : Nat} {v : Value} (h : notAt c v) : apart (oneR0 c) v := by
  unfold apart
  split
  · rename_i a n k
    refine h.imp id fun h b hb => ?_
    unfold oneR0 at hb
    split at hb
    · simp only [Option.some.injEq] at hb
      exact h hb.symm
    · cases hb
  · trivial
theorem cat_calls (ps : Parts) (hps : catOK ps) (hp2 : ps.length ≤ 1000) (h0 : 0 < catN ps ps.length) (hs : catN ps ps.length ≤ 140737488355328) {w : World} {c : Nat} {ty : BT} (hw : w.heap[c]? = some (.cells (ps.map fun q => q.1.val).toArray ty.id ty.fz)) (hsrc : ∀ q ∈ ps, WSrc q.1.val q.1.n q.2 w ∧ notAt c q.1.val) :
    CallOK Tryd.prog 12 #[.slice (some ⟨c, 0, none⟩) ps.length ps.length] w fun v' w' => ∃ c cap q, v' = .slice (some ⟨c, 0, none⟩) (catN ps ps.length) cap ∧ w.heap.size ≤ c ∧ w'.heap[c]? = some (.cells q.toArray 5 (0, 0)) ∧ q.all flat1 = true ∧ OwnRow (catY ps ps.length) cap q ∧ Below w.heap.size w w' := by
  refine call_enter Tryd.func12 (by kernel_rfl) (show _ = some (bodyOf Tryd.f12) from (by kernel_rfl)) ?_
  exact callsN_of_SWn (H := catH ps) (gl := []) (m := catM ps ty) (args := [sl0 ps.length]) (R := fun cap q => OwnRow (catY ps ps.length) cap q) Tryd.func12 (by kernel_rfl) (ct_body ps hps (fun _ _ h => h) ty ps.length rfl hp2 h0 hs) (cat_rel hw) ⟨cat_low c, fun q hq => ⟨(hsrc q hq).1, notAt_apart (hsrc q hq).2⟩⟩ (fun g hg => by cases hg) rfl
end Go.Proofs.YtdegfgncdphepaaDoor.Cat
