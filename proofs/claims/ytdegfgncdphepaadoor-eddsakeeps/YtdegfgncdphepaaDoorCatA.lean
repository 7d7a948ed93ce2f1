/- slices.Grow of nil, and slices.Concat: byte strings one behind the other. -/
import Derived.Test.YtdegfgncdphepaaDoorMemO
import Derived.Lib.AppendZeros
namespace Go.Proofs.YtdegfgncdphepaaDoor.Cat
open Go Go.RowKit
set_option linter.unusedSimpArgs false
set_option linter.unusedVariables false
variable {H : Ren → World → Prop} {gl : List Nat} {P : Program} {Q : Exit → Act × Mem → Prop}
theorem byteT : ByteT Tryd.prog 23 5 (.int .u8 0) := ⟨by kernel_rfl, by kernel_rfl, by kernel_rfl, by kernel_rfl⟩
def Nt : Cx := Cx.none.terms
theorem Nt_ok : Nt.Ok Tryd.prog := Cx.terms_ok Cx.none_ok
theorem Nt_gl : Nt.gl = [] := by kernel_rfl
def Ntt (d : List (Nat × Bool)) : Cx := Nt.tell d
theorem Ntt_ok (d : List (Nat × Bool)) : (Ntt d).Ok Tryd.prog := Cx.tell_ok Nt_ok d
theorem Ntt_gl (d : List (Nat × Bool)) : (Ntt d).gl = [] := by kernel_rfl
theorem wrap64 {i : Int} (h0 : -9223372036854775808 ≤ i) (h1 : i < 9223372036854775808) : IntKind.i64.wrap i = i := by
  have e : IntKind.i64.wrap i = if i % 18446744073709551616 ≥ 9223372036854775808 then i % 18446744073709551616 - 18446744073709551616 else i % 18446744073709551616 := by
    simp [IntKind.wrap, IntKind.bits, IntKind.signed]
  rw [e]; split <;> omega
/-- append of noughts to nil. -/
theorem SWL.appZ {c : Code} {s : Act × Mem} {l : List Nat} {i d : Nat} {sx xx : Operand} {t tn e : TypeId} {z : Value} {kn : IntKind} (hT : ByteT P t e z) (htn : P.underlying tn = some (.int kn))
    (ho : ((rOps c)[i]?).map (fun o => (o.guard, o.op, o.dst)) = some (none, .call { callee := .builtin .append, args := #[sx, xx], argTypes := #[t, tn] }, some d))
    (hsx : okX gl s.1.eval sx = true) (hxx : okX gl s.1.eval xx = true) (hs : s.1.eval sx = .slice none 0 0) {n : Nat} (hx : s.1.eval xx = .int .i64 (n : Int)) (h0 : 0 < n) (hn : n ≤ 140737488355328)
    (h : ∀ c', n ≤ c' + 1 → SWL H P gl (rOps c) l (s.1.put (some d) (.slice (some ⟨s.2.length, 0, none⟩) n (c' + 1)), s.2 ++ [some ⟨List.replicate (c' + 1) z, ⟨e, (0, 0)⟩⟩]) Q) : SWL H P gl (rOps c) (i :: l) s Q := by
  obtain ⟨info, hi, hz, hsz, hby⟩ := hT.info
  cases hoi : (rOps c)[i]? with
  | none => rw [hoi] at ho; simp at ho
  | some o =>
    rw [hoi] at ho
    simp only [Option.map_some, Option.some.injEq, Prod.mk.injEq] at ho
    obtain ⟨o1, o2, o3⟩ := ho
    refine SWL.op hoi o1 fun r₀ w₀ A w r hH S => ?_
    obtain ⟨a, m⟩ := s
    simp only at *
    have vs := S.eval hsx
    have vx := S.eval hxx
    rw [hs] at vs
    rw [hx] at vx
    have es : A.eval sx = .slice none 0 0 := by simp [tr, tr2, tr1, flat1] at vs; exact vs.symm
    have ex := tr_int vx
    have hrun := Lib.run_append_nil_zeros (P := P) w t tn o.type e info z .i64 kn hT.ht htn hi hz n h0 (by omega) (by omega) (by rw [hby]; omega)
    have hcap := grownCap_ge w n 0 e
    generalize grownCap w n 0 e = cap at *
    obtain ⟨c', rfl⟩ : ∃ c', cap = c' + 1 := ⟨cap - 1, by omega⟩
    have S2 := (S.draw).reserve 1
    have hhole : (m ++ List.replicate 1 none)[m.length]? = some (none : Option Blk) := by simp
    have hcells : trL (tr1 r) (List.replicate (c' + 1) z) = some (List.replicate (c' + 1) z) := trL_rep1 _ _ (tr1_flat r z hT.hzf) _
    have hrel := S2.rel.alloc hhole e hcells
    have hm : (m ++ List.replicate 1 none).set m.length (some ⟨List.replicate (c' + 1) z, e⟩) = m ++ [some ⟨List.replicate (c' + 1) z, e⟩] := by
      simp [List.replicate_one, List.set_append]
    rw [hm] at hrel
    have hn0 := S2.rel.hole hhole
    have hq := h c' hcap
    rw [← o3] at hq
    refine ⟨.slice (some ⟨w.heap.size, 0, none⟩) n (c' + 1), _, (a.put o.dst (.slice (some ⟨m.length, 0, none⟩) n (c' + 1)), m ++ [some ⟨List.replicate (c' + 1) z, ⟨e, (0, 0)⟩⟩]), upd r m.length w.heap.size, ?_, S2.put (v := .slice (some ⟨m.length, 0, none⟩) n (c' + 1)) (v' := .slice (some ⟨w.heap.size, 0, none⟩) n (c' + 1)) hrel (le_upd hn0) (fun b c'' hc'' => ?_) (fr_alloc S2.fr _) (tr_of_slice (by simp [upd])) o.dst, hq⟩
    · have e0 : (execOp A.eval o).run P w = ((Builtin.append_ #[t, tn] o.type #[.slice none 0 0, .int .i64 (n : Int)]).run P w).andThen (fun v w' => .ok (.value v) w') := by
        rw [← es, ← ex]
        simp only [execOp, o2, resolve, invoke, builtin, Sem.run_bind, Sem.run_pure, Result.andThen_ok]
        first | rfl | (simp [Sem.run_bind]; done)
      rw [e0, hrun]
      simp only [Result.andThen_ok]
      have : Builtin.zeroCells z.cells n ++ Builtin.zeroCells z.cells (c' + 1 - n) = (List.replicate (c' + 1) z).toArray := by
        apply Array.ext'
        rw [Array.toList_append, zeroCells_one z hT.hzc, zeroCells_one z hT.hzc, List.replicate_append_replicate]
        congr 1; omega
      rw [this]; rfl
    · unfold upd at hc''
      split at hc''
      · cases hc''; exact .inr S.fr.size
      · exact .inl hc''
/-- Grow. -/
def g1 (c : Code) : Code := cL (cR c)
def g3 (c : Code) : Code := cL (cL (cR (cR c)))
def g4 (c : Code) : Code := cL (cR (cL (cR (cR c))))
def g5 (c : Code) : Code := cL (cR (cR (cL (cR (cR c)))))
def g6 (c : Code) : Code := cR (cR (cR c))
theorem gr_code : bodyOf Tryd.f25 = seqs [cL (bodyOf Tryd.f25), g1 (bodyOf Tryd.f25)] (.seq (.seq (g3 (bodyOf Tryd.f25)) (.seq (g4 (bodyOf Tryd.f25)) (.cond (.tmp 16) (g5 (bodyOf Tryd.f25)) .skip))) (g6 (bodyOf Tryd.f25))) := by kernel_rfl
def gr0 (fn : Func) (n : Nat) : Act × Mem := (sinit fn [.slice none 0 0, .int .i64 (n : Int)], [])
def gr1 (P : Program) (fn : Func) (n : Nat) : Act × Mem := runL P (Ntt [(6, false)]) 20 [cL (bodyOf fn), g1 (bodyOf fn)] (gr0 fn n)
theorem gr_1 (n : Nat) : sexecL Tryd.prog (Ntt [(6, false)]) 20 [cL (bodyOf Tryd.f25), g1 (bodyOf Tryd.f25)] [] (gr0 Tryd.f25 n) = some ([decide ((n : Int) < 0) = false], gr1 Tryd.prog Tryd.f25 n) := by kernel_rfl
/-- What n is less the room of nil. -/
def lessN (n : Nat) : Int := IntKind.i64.wrap ((n : Int) - 0)
def gr2 (P : Program) (fn : Func) (n : Nat) : Act × Mem := runL P (Ntt [(16, true)]) 20 [g3 (bodyOf fn), g4 (bodyOf fn)] (gr1 P fn n)
theorem gr_2 (n : Nat) : sexecL Tryd.prog (Ntt [(16, true)]) 20 [g3 (bodyOf Tryd.f25), g4 (bodyOf Tryd.f25)] [] (gr1 Tryd.prog Tryd.f25 n) = some ([decide (lessN n > 0) = true], gr2 Tryd.prog Tryd.f25 n) := by kernel_rfl
theorem gr_2o (n : Nat) : okX [] (gr2 Tryd.prog Tryd.f25 n).1.eval (.tmp 16) = true := by kernel_rfl
theorem gr_2v (n : Nat) : (gr2 Tryd.prog Tryd.f25 n).1.eval (.tmp 16) = .bool true := by kernel_rfl
/-- Ahead of the append. -/
def gr3 (P : Program) (fn : Func) (n : Nat) : Act × Mem := ahead P Nt (g5 (bodyOf fn)) [0, 1, 2, 3, 4] (gr2 P fn n)
theorem gr_3 (n : Nat) : sseq Tryd.prog Nt (rOps (g5 (bodyOf Tryd.f25))) (gr2 Tryd.prog Tryd.f25 n).2.length [0, 1, 2, 3, 4] [] ((gr2 Tryd.prog Tryd.f25 n).1, (gr2 Tryd.prog Tryd.f25 n).2 ++ List.replicate ((rOps (g5 (bodyOf Tryd.f25))).toList.filter makes).length none) = some ([(0 : Int) ≤ 0 ∧ (0 : Int) ≤ ((0 : Nat) : Int)], gr3 Tryd.prog Tryd.f25 n) := by kernel_rfl
theorem gr_3s (n : Nat) : okX [] (gr3 Tryd.prog Tryd.f25 n).1.eval (.tmp 20) = true := by kernel_rfl
theorem gr_3x (n : Nat) : okX [] (gr3 Tryd.prog Tryd.f25 n).1.eval (.tmp 21) = true := by kernel_rfl
theorem gr_3e (n : Nat) : (gr3 Tryd.prog Tryd.f25 n).1.eval (.tmp 20) = .slice none 0 0 := by kernel_rfl
theorem gr_3n (n : Nat) : (gr3 Tryd.prog Tryd.f25 n).1.eval (.tmp 21) = .int .i64 (lessN n) := by kernel_rfl
theorem gr_3m (n : Nat) : (gr3 Tryd.prog Tryd.f25 n).2 = [] := by kernel_rfl
def gr4 (P : Program) (fn : Func) (n c : Nat) (q : List Value) : Act × Mem := seqS P Nt (rOps (g5 (bodyOf fn))) 0 [6, 7, 8, 9] ((gr3 P fn n).1.put (some 22) (.slice (some ⟨0, 0, none⟩) n (c + 1)), [some ⟨q, ⟨5, (0, 0)⟩⟩])
theorem gr_4 (n c : Nat) (q : List Value) : sseq Tryd.prog Nt (rOps (g5 (bodyOf Tryd.f25))) 0 [6, 7, 8, 9] [] ((gr3 Tryd.prog Tryd.f25 n).1.put (some 22) (.slice (some ⟨0, 0, none⟩) n (c + 1)), [some ⟨q, ⟨5, (0, 0)⟩⟩]) = some ([(0 : Int) ≤ 0 ∧ (0 : Int) ≤ ((c + 1 : Nat) : Int)], gr4 Tryd.prog Tryd.f25 n c q) := by kernel_rfl
def gr5 (P : Program) (fn : Func) (n c : Nat) (q : List Value) : Act × Mem := runS P Nt 20 (g6 (bodyOf fn)) (gr4 P fn n c q)
theorem gr_5 (n c : Nat) (q : List Value) : sexec Tryd.prog Nt 20 (g6 (bodyOf Tryd.f25)) [] (gr4 Tryd.prog Tryd.f25 n c q) = some ([], .ret, gr5 Tryd.prog Tryd.f25 n c q) := by kernel_rfl
theorem gr_5r (n c : Nat) (q : List Value) : sres Tryd.prog Tryd.f25 (gr5 Tryd.prog Tryd.f25 n c q) = some (.slice (some ⟨0, 0, none⟩) 0 (c + 1)) := by kernel_rfl
theorem gr_5d (n c : Nat) (q : List Value) : (gr5 Tryd.prog Tryd.f25 n c q).1.defers = [] := by kernel_rfl
theorem gr_5m (n c : Nat) (q : List Value) : (gr5 Tryd.prog Tryd.f25 n c q).2 = [some ⟨q, ⟨5, (0, 0)⟩⟩] := by kernel_rfl
theorem gr_body (n : Nat) (h0 : 0 < n) (hn : n ≤ 140737488355328) : SWn H Tryd.prog [] (bodyOf Tryd.f25) (gr0 Tryd.f25 n) fun ex s => (ex = .normal ∨ ex = .ret) ∧ s.1.defers = [] ∧ ∃ b cap q, sres Tryd.prog Tryd.f25 s = some (.slice (some ⟨b, 0, none⟩) 0 cap) ∧ getB s.2 b = some ⟨q, ⟨5, (0, 0)⟩⟩ ∧ ([] : Mem).length ≤ b ∧ q.all flat1 = true ∧ OwnRow [] cap q ∧ ∀ i B, getB ([] : Mem) i = some B → getB s.2 i = some B := by
  have hl : lessN n = (n : Int) := by unfold lessN; rw [wrap64 (by omega) (by omega)]; omega
  rw [gr_code]
  refine SWn.preG (Ntt_ok _) mixed (Ntt_gl _) rfl (gr_1 n) (fun p hp => by rw [List.mem_singleton.1 hp]; exact decide_eq_false (by omega)) (SWn.seq ?_)
  refine SWn.preG (Ntt_ok _) mixed (Ntt_gl _) (cs := [g3 (bodyOf Tryd.f25), g4 (bodyOf Tryd.f25)]) rfl (gr_2 n) (fun p hp => by rw [List.mem_singleton.1 hp, hl]; exact decide_eq_true (by omega)) ?_
  refine SWn.cond (gr_2o n) (gr_2v n) ?_
  rw [if_pos rfl, show g5 (bodyOf Tryd.f25) = .region (rId (g5 (bodyOf Tryd.f25))) (rOps (g5 (bodyOf Tryd.f25))) false from (by kernel_rfl)]
  refine SWn.region ?_
  rw [show List.range (rOps (g5 (bodyOf Tryd.f25))).size = [0, 1, 2, 3, 4] ++ (5 :: ([6, 7, 8, 9] ++ [])) from (by kernel_rfl)]
  refine SWL.steps Nt_ok Nt_gl (fun p hp => ?_) ?_ [0, 1, 2, 3, 4] [] _ (gr_3 n)
  · rw [List.mem_singleton.1 hp]; omega
  refine SWL.appZ (c := g5 (bodyOf Tryd.f25)) (kn := .i64) (n := n) (sx := .tmp 20) (xx := .tmp 21) (tn := 3) (d := 22) byteT (by kernel_rfl) (by kernel_rfl) (gr_3s n) (gr_3x n) (gr_3e n) (by rw [gr_3n, hl]) h0 hn fun c hc => ?_
  rw [gr_3m]
  refine SWL.steps Nt_ok Nt_gl (fun p hp => ?_) (SWL.nil ?_) [6, 7, 8, 9] [] _ (gr_4 n c _)
  · rw [List.mem_singleton.1 hp]; omega
  refine SWn.runG Nt_ok mixed Nt_gl 20 (gr_5 n c _) (by simp) ⟨.inr rfl, gr_5d n c _, 0, c + 1, List.replicate (c + 1) (.int .u8 0), gr_5r n c _, by rw [gr_5m]; rfl, Nat.zero_le _, ?_, ⟨by simp, Nat.zero_le _, rfl, ?_⟩, fun i B h => by simp [getB] at h⟩ <;> simp [flat1]
theorem gr_calls (n : Nat) (h0 : 0 < n) (hn : n ≤ 140737488355328) (w : World) :
    CallOK Tryd.prog 25 #[.slice none 0 0, .int .i64 (n : Int)] w fun v' w' => ∃ c cap q, v' = .slice (some ⟨c, 0, none⟩) 0 cap ∧ w.heap.size ≤ c ∧ w'.heap[c]? = some (.cells q.toArray 5 (0, 0)) ∧ q.all flat1 = true ∧ OwnRow [] cap q ∧ Below w.heap.size w w' := by
  refine call_enter Tryd.func25 (by kernel_rfl) (show _ = some (bodyOf Tryd.f25) from (by kernel_rfl)) ?_
  exact callsN_of_SWn (H := fun _ _ => True) (gl := []) (m := []) (args := [.slice none 0 0, .int .i64 (n : Int)]) (R := fun cap q => OwnRow [] cap q) Tryd.func25 (by kernel_rfl) (gr_body n h0 hn) (Rel.nil w) trivial (fun g hg => by cases hg) rfl
end Go.Proofs.YtdegfgncdphepaaDoor.Cat
/- slices.Concat: byte strings one behind the other. -/
namespace Go.Proofs.YtdegfgncdphepaaDoor.Cat
open Go Go.RowKit
set_option linter.unusedSimpArgs false
set_option linter.unusedVariables false
variable {H : Ren → World → Prop} {gl : List Nat} {P : Program} {Q : Exit → Act × Mem → Prop}
/-- What is joined: slices of the world's own, and what they hold. -/
abbrev Parts := List (Sv × List Value)
def catC (ps : Parts) : List Value := ps.map fun q => raw q.1.val
def catM (ps : Parts) (ty : BT) : Mem := [some ⟨catC ps, ty⟩]
def catY (ps : Parts) (t : Nat) : List Value := ((ps.take t).map Prod.snd).flatten
def catN (ps : Parts) (t : Nat) : Nat := (catY ps t).length
def catH (ps : Parts) (r₀ : Ren) (w₀ : World) : Prop := Low 1 r₀ ∧ ∀ q ∈ ps, WSrc q.1.val q.1.n q.2 w₀ ∧ apart r₀ q.1.val
def catOK (ps : Parts) : Prop := ∀ q ∈ ps, q.2.all flat1 = true ∧ q.2.length = q.1.n
theorem catY_succ (ps : Parts) {t : Nat} {q : Sv × List Value} (h : ps[t]? = some q) : catY ps (t + 1) = catY ps t ++ q.2 := by
  unfold catY
  rw [List.take_add_one, h]
  simp
theorem catY_mono (ps : Parts) : ∀ {t u : Nat}, t ≤ u → catN ps t ≤ catN ps u := by
  intro t u h
  induction u with
  | zero => rw [Nat.le_zero.1 h]; exact Nat.le_refl _
  | succ u ih =>
    rcases Nat.lt_or_ge t (u + 1) with h1 | h1
    · refine Nat.le_trans (ih (by omega)) ?_
      unfold catN
      cases hq : ps[u]? with
      | none =>
        have : ps.take (u + 1) = ps.take u := by rw [List.take_add_one, hq]; simp
        unfold catY; rw [this]; exact Nat.le_refl _
      | some q => rw [catY_succ ps hq, List.length_append]; omega
    · rw [show t = u + 1 by omega]; exact Nat.le_refl _
theorem catC_get {ps : Parts} {t : Nat} {q : Sv × List Value} (h : ps[t]? = some q) : (catC ps)[t]? = some (raw q.1.val) := by
  unfold catC; rw [List.getElem?_map, h]; rfl
theorem catC_R (ps : Parts) : (catC ps).all flatR = true := List.all_eq_true.2 fun v hv => by
  obtain ⟨q, _, rfl⟩ := List.mem_map.1 hv
  rfl
theorem catM_R (ps : Parts) (ty : BT) : memR (catM ps ty) = true := memR_one (catC_R ps)
def sl0 (p : Nat) : Value := .slice (some ⟨0, 0, none⟩) p p
def at0 (i : Int) : Nat := 0 + i.toNat * 1
theorem at0_nat (t : Nat) : at0 (t : Int) = t := by unfold at0; omega
/-- The codes. -/
def k0 (c : Code) : List Code := [cL c, cL (cR c)]
def k2 (c : Code) : Code := cL (cL (cR (cR c)))
def kL (c : Code) : Code := cL (cL (cR (cL (cR (cR c)))))
def k3 (c : Code) : List Code := [cL (kL c), cL (cR (kL c))]
def k4 (c : Code) : Code := cL (cL (cL (cR (cR (kL c)))))
def k5 (c : Code) : Code := cR (cL (cL (cR (cR (kL c)))))
def k8 (c : Code) : Code := cR (cR (cR (kL c)))
def k9 (c : Code) : Code := cL (cR (cR (cR c)))
def k10 (c : Code) : Code := cL (cL (cR (cR (cR (cR c)))))
def kM (c : Code) : Code := cL (cL (cR (cL (cR (cR (cR (cR c)))))))
def k11 (c : Code) : List Code := [cL (kM c), cL (cR (kM c))]
def k12 (c : Code) : Code := cL (cL (cL (cR (cR (kM c)))))
def k13 (c : Code) : Code := cR (cL (cL (cR (cR (kM c)))))
def k14 (c : Code) : Code := cR (cR (cR (kM c)))
def k15 (c : Code) : Code := cR (cR (cR (cR (cR c))))
theorem ct_code : bodyOf Tryd.f12 = seqs (k0 (bodyOf Tryd.f12)) (.seq (.seq (k2 (bodyOf Tryd.f12)) (.block 0 (.loop (kL (bodyOf Tryd.f12))))) (.seq (k9 (bodyOf Tryd.f12)) (.seq (.seq (k10 (bodyOf Tryd.f12)) (.block 2 (.loop (kM (bodyOf Tryd.f12))))) (k15 (bodyOf Tryd.f12))))) := by kernel_rfl
theorem ct_l1 : kL (bodyOf Tryd.f12) = seqs (k3 (bodyOf Tryd.f12)) (.seq (.block 1 (.seq (k4 (bodyOf Tryd.f12)) (k5 (bodyOf Tryd.f12)))) (k8 (bodyOf Tryd.f12))) := by kernel_rfl
theorem ct_l2 : kM (bodyOf Tryd.f12) = seqs (k11 (bodyOf Tryd.f12)) (.seq (.block 3 (.seq (k12 (bodyOf Tryd.f12)) (k13 (bodyOf Tryd.f12)))) (k14 (bodyOf Tryd.f12))) := by kernel_rfl
/-- The first loop. -/
def c1A (p : Nat) (size : Int) (x5 : Value) (t : Int) : Act := ⟨#[sl0 p, poison, poison, .int .i64 size, poison, x5, poison, poison, poison, sl0 p, .int .i64 (p : Int), .int .i64 t] ++ Array.replicate 24 poison, []⟩
def cF1 : List Nat := [1, 2, 4, 5, 6, 7, 8] ++ (List.range 24).map (· + 12)
def cF1b : List Nat := [1, 2, 4, 6, 7, 8] ++ (List.range 24).map (· + 12)
def cK1 (s : Act × Mem) : Act × Mem := (forgetL s.1 cF1, s.2)
def ct0 (fn : Func) (ps : Parts) (ty : BT) (p : Nat) : Act × Mem := (sinit fn [sl0 p], catM ps ty)
def ct1 (P : Program) (fn : Func) (ps : Parts) (ty : BT) (p : Nat) : Act × Mem := runL P Nt 20 (k0 (bodyOf fn)) (ct0 fn ps ty p)
theorem ct_1 (ps : Parts) (ty : BT) (p : Nat) : sexecL Tryd.prog Nt 20 (k0 (bodyOf Tryd.f12)) [] (ct0 Tryd.f12 ps ty p) = some ([], ct1 Tryd.prog Tryd.f12 ps ty p) := by kernel_rfl
def ct2 (P : Program) (fn : Func) (ps : Parts) (ty : BT) (p : Nat) : Act × Mem := runL P Nt 20 [k2 (bodyOf fn)] (ct1 P fn ps ty p)
theorem ct_2 (ps : Parts) (ty : BT) (p : Nat) : sexecL Tryd.prog Nt 20 [k2 (bodyOf Tryd.f12)] [] (ct1 Tryd.prog Tryd.f12 ps ty p) = some ([], ct2 Tryd.prog Tryd.f12 ps ty p) := by kernel_rfl
theorem ct_2k (ps : Parts) (ty : BT) (p : Nat) : cK1 (ct2 Tryd.prog Tryd.f12 ps ty p) = (c1A p 0 poison 0, catM ps ty) := by kernel_rfl
def ct3 (P : Program) (fn : Func) (ps : Parts) (ty : BT) (p : Nat) (size t : Int) : Act × Mem := runL P (Ntt [(12, true)]) 20 (k3 (bodyOf fn)) (c1A p size poison t, catM ps ty)
theorem ct_3 (ps : Parts) (ty : BT) (p : Nat) (size t : Int) : sexecL Tryd.prog (Ntt [(12, true)]) 20 (k3 (bodyOf Tryd.f12)) [] (c1A p size poison t, catM ps ty) = some ([decide (t < (p : Int)) = true], ct3 Tryd.prog Tryd.f12 ps ty p size t) := by kernel_rfl
theorem ct_3k (ps : Parts) (ty : BT) (p : Nat) (size t : Int) : cK1 (ct3 Tryd.prog Tryd.f12 ps ty p size t) = (c1A p size poison t, catM ps ty) := by kernel_rfl
def ctX (P : Program) (fn : Func) (ps : Parts) (ty : BT) (p : Nat) (size t : Int) : Act × Mem := runS P (Ntt [(12, false)]) 20 (kL (bodyOf fn)) (c1A p size poison t, catM ps ty)
theorem ct_x (ps : Parts) (ty : BT) (p : Nat) (size t : Int) : sexec Tryd.prog (Ntt [(12, false)]) 20 (kL (bodyOf Tryd.f12)) [] (c1A p size poison t, catM ps ty) = some ([decide (t < (p : Int)) = false], .exit 0, ctX Tryd.prog Tryd.f12 ps ty p size t) := by kernel_rfl
theorem ct_xk (ps : Parts) (ty : BT) (p : Nat) (size t : Int) : cK1 (ctX Tryd.prog Tryd.f12 ps ty p size t) = (c1A p size poison t, catM ps ty) := by kernel_rfl
/-- The load of a part. -/
def ct4 (P : Program) (fn : Func) (ps : Parts) (ty : BT) (p : Nat) (size t : Int) : Act × Mem := ahead P Nt (k4 (bodyOf fn)) [0] (c1A p size poison t, catM ps ty)
theorem ct_4 (ps : Parts) (ty : BT) (p : Nat) (size t : Int) : sseq Tryd.prog Nt (rOps (k4 (bodyOf Tryd.f12))) (c1A p size poison t, catM ps ty).2.length [0] [] ((c1A p size poison t, catM ps ty).1, (c1A p size poison t, catM ps ty).2 ++ List.replicate ((rOps (k4 (bodyOf Tryd.f12))).toList.filter makes).length none) = some ([0 ≤ t ∧ t < (p : Int)], ct4 Tryd.prog Tryd.f12 ps ty p size t) := by kernel_rfl
theorem ct_4o (ps : Parts) (ty : BT) (p : Nat) (size t : Int) : okX [] (ct4 Tryd.prog Tryd.f12 ps ty p size t).1.eval (.tmp 13) = true := by kernel_rfl
theorem ct_4e (ps : Parts) (ty : BT) (p : Nat) (size t : Int) : (ct4 Tryd.prog Tryd.f12 ps ty p size t).1.eval (.tmp 13) = .pointer (some ⟨0, at0 t, none⟩) := by kernel_rfl
theorem ct_4m (ps : Parts) (ty : BT) (p : Nat) (size t : Int) : (ct4 Tryd.prog Tryd.f12 ps ty p size t).2 = catM ps ty := by kernel_rfl
def ct5 (P : Program) (fn : Func) (ps : Parts) (ty : BT) (p : Nat) (size t : Int) (v : Sv) : Act × Mem := seqS P Nt (rOps (k4 (bodyOf fn))) 1 [2] ((ct4 P fn ps ty p size t).1.put (some 14) (raw v.val), catM ps ty)
theorem ct_5 (ps : Parts) (ty : BT) (p : Nat) (size t : Int) (v : Sv) : sseq Tryd.prog Nt (rOps (k4 (bodyOf Tryd.f12))) 1 [2] [] ((ct4 Tryd.prog Tryd.f12 ps ty p size t).1.put (some 14) (raw v.val), catM ps ty) = some ([], ct5 Tryd.prog Tryd.f12 ps ty p size t v) := by kernel_rfl
theorem ct_5k (ps : Parts) (ty : BT) (p : Nat) (size t : Int) (v : Sv) : (forgetL (ct5 Tryd.prog Tryd.f12 ps ty p size t v).1 cF1b, (ct5 Tryd.prog Tryd.f12 ps ty p size t v).2) = (c1A p size (raw v.val) t, catM ps ty) := by kernel_rfl
theorem row_t : (rowT Tryd.prog 23).map Prod.fst = some false := by kernel_rfl
theorem ct_ld (ps : Parts) (ty : BT) (p : Nat) (size : Int) (t : Nat) {q : Sv × List Value} (hq : ps[t]? = some q) (ht : t < p) :
    SWn H Tryd.prog [] (k4 (bodyOf Tryd.f12)) (c1A p size poison (t : Int), catM ps ty) (thenS (fun s' => Into H Tryd.prog [] (c1A p size (raw q.1.val) (t : Int), catM ps ty) s') Q) := by
  rw [show k4 (bodyOf Tryd.f12) = .region (rId (k4 (bodyOf Tryd.f12))) (rOps (k4 (bodyOf Tryd.f12))) false from (by kernel_rfl)]
  refine SWn.region ?_
  rw [show List.range (rOps (k4 (bodyOf Tryd.f12))).size = [0] ++ (1 :: ([2] ++ [])) from (by kernel_rfl)]
  refine SWL.steps Nt_ok Nt_gl (fun p hp => by rw [List.mem_singleton.1 hp]; omega) ?_ [0] [] _ (ct_4 ps ty p size (t : Int))
  refine SWL.loadR (c := k4 (bodyOf Tryd.f12)) (d := 14) (t := 23) (x := .tmp 13) (by kernel_rfl) (ct_4o ps ty p size _) (ct_4e ps ty p size _) (v := raw q.1.val) ?_ ?_
  · rw [ct_4m, at0_nat]
    exact sload_one (B := ⟨catC ps, ty⟩) rfl row_t (catC_get hq)
  · rw [ct_4m]
    exact SWL.steps Nt_ok Nt_gl (by simp) (SWL.nil (forget_into cF1b (ct_5k ps ty p size _ q.1))) [2] [] _ (ct_5 ps ty p size _ q.1)
def ct6 (P : Program) (fn : Func) (ps : Parts) (ty : BT) (p : Nat) (size t : Int) (v : Sv) : Act × Mem := runS P (Ntt [(20, false)]) 20 (k5 (bodyOf fn)) (c1A p size (raw v.val) t, catM ps ty)
theorem ct_6 (ps : Parts) (ty : BT) (p : Nat) (size t : Int) (v : Sv) : sexec Tryd.prog (Ntt [(20, false)]) 20 (k5 (bodyOf Tryd.f12)) [] (c1A p size (raw v.val) t, catM ps ty) = some ([decide (IntKind.i64.wrap (size + (v.n : Int)) < 0) = false], .normal, ct6 Tryd.prog Tryd.f12 ps ty p size t v) := by kernel_rfl
theorem ct_6k (ps : Parts) (ty : BT) (p : Nat) (size t : Int) (v : Sv) : cK1 (ct6 Tryd.prog Tryd.f12 ps ty p size t v) = (c1A p (IntKind.i64.wrap (size + (v.n : Int))) poison t, catM ps ty) := by kernel_rfl
theorem ct_8 (ps : Parts) (ty : BT) (p : Nat) (size t : Int) : proj cK1 (sexec Tryd.prog Nt 20 (k8 (bodyOf Tryd.f12)) [] (c1A p size poison t, catM ps ty)) = some ([], (c1A p size poison (IntKind.i64.wrap (t + 1)), catM ps ty)) := by kernel_rfl
theorem ct_r1 (ps : Parts) (hps : catOK ps) (ty : BT) (p : Nat) (hp : p = ps.length) (hp2 : p ≤ 1000) (hs : catN ps p ≤ 140737488355328) (t : Nat) (ht : t < p) {s : Act × Mem} (hin : Into H Tryd.prog [] (c1A p (catN ps t : Int) poison (t : Int), catM ps ty) s) :
    SWn H Tryd.prog [] (kL (bodyOf Tryd.f12)) s (thenS (fun s' => Into H Tryd.prog [] (c1A p (catN ps (t + 1) : Int) poison ((t + 1 : Nat) : Int), catM ps ty) s') Q) := by
  obtain ⟨q, hq⟩ : ∃ q, ps[t]? = some q := ⟨ps[t], by rw [List.getElem?_eq_getElem (by omega)]⟩
  have hn : catN ps (t + 1) = catN ps t + q.1.n := by
    unfold catN; rw [catY_succ ps hq, List.length_append, (hps q (List.mem_of_getElem? hq)).2]
  have hm := catY_mono ps (show t + 1 ≤ p from ht)
  refine hin _ _ ?_
  rw [ct_l1]
  refine SWn.preG (Ntt_ok _) mixed (Ntt_gl _) rfl (ct_3 ps ty p _ _) (fun p hp => by rw [List.mem_singleton.1 hp]; exact decide_eq_true (by omega)) ?_
  refine forget_into cF1 (ct_3k ps ty p _ _) _ _ (SWn.seq (SWn.block (SWn.seq ((ct_ld (Q := fun _ _ => False) ps ty p _ t hq ht).mono ?_))))
  intro e s1 hs1
  obtain ⟨rfl, hin1⟩ := thenS_only hs1
  refine hin1 _ _ (SWn.runG (Ntt_ok _) mixed (Ntt_gl _) 20 (ct_6 ps ty p _ _ q.1) (fun p hp => ?_) ?_)
  · rw [List.mem_singleton.1 hp, wrap64 (by omega) (by omega)]; exact decide_eq_false (by omega)
  · refine forget_into cF1 (ct_6k ps ty p _ _ q.1) _ _ ?_
    rw [wrap64 (by omega) (by omega)]
    obtain ⟨z, hz, he⟩ := proj_some (ct_8 ps ty p ((catN ps t : Int) + (q.1.n : Int)) (t : Int))
    refine SWn.runG Nt_ok mixed Nt_gl 20 hz (by simp) (thenS_norm (forget_into cF1 ?_))
    rw [hn, show ((catN ps t + q.1.n : Nat) : Int) = (catN ps t : Int) + (q.1.n : Int) by omega]
    rw [wrap64 (by omega) (by omega)] at he
    exact he
end Go.Proofs.YtdegfgncdphepaaDoor.Cat
