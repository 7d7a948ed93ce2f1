/- Package tree: the law's awake. -/
import Derived.Test.YtpojalbpekbfdaaDoorTrcB
import Derived.Test.YtpojalbpekbfdaaDoorRows
import Derived.ProofKit
import Derived.OpenShut
import Derived.ChangeOld
import Derived.SizedLaws
import Derived.ChangeArms
namespace Go.Proofs.YtpojalbpekbfdaaDoor
open Go Go.RowKit
set_option linter.unusedSimpArgs false
set_option linter.unusedVariables false
set_option maxRecDepth 100000

/-- The label that is 1 and noughts. -/
def o32 : List Int := 1 :: List.replicate 31 0
theorem o32_l32 : L32 o32 := ⟨by simp [o32], fun z hz => by
  rcases List.mem_cons.1 hz with rfl | hz
  · omega
  · have := List.eq_of_mem_replicate hz; omega⟩
theorem build_o32 (w : World) : (Instr.build 31 #[(0, .int .u8 1)]).run Tryd.prog w = .ok (.agg (bv o32).toArray) w := by kernel_rfl
theorem build_lf (w : World) : (Instr.build 46 #[(0, .agg (bv o32).toArray)]).run Tryd.prog w = .ok (.agg (lf o32 z32).toArray) w := by kernel_rfl
/-- A value of one field built. -/
theorem wp_build1 {P : Program} {ops : Array Oper} {rest : List Oper} {o : Oper} {a : Act} {w : World} {Q : Exit → Act → World → Prop} (t : TypeId) (x0 : Operand) (ho : o.op = .build t #[(0, x0)]) (hgd : o.guard = none) (v0 : Value) (h0 : a.eval x0 = v0) (cells : Array Value)
    (hr : (Instr.build t #[(0, v0)]).run P w = .ok (.agg cells) w) (h : wpList P ops Q rest (a.put o.dst (.agg cells)) w) : wpList P ops Q (o :: rest) a w := by
  refine wpList_plain hgd fun K hK => ?_
  unfold Oper.wp execOp
  simp only [ho, Sem.run_bind, List.map_toArray, List.map_cons, List.map_nil, h0, hr, Result.andThen_ok, Sem.run_pure]
  exact hK _ _ h
/-- A row laid in a new block. -/
theorem there_new (w : World) {Z : Array Value} {t : TypeId} {n : Nat} (hn : n = Z.size) : (w.alloc (.cells Z t)).there w.heap.size 0 n := by
  have : (w.alloc (.cells Z t)).heap[w.heap.size]? = some (.cells Z t (0, 0)) := by show (w.heap.push _)[w.heap.size]? = _; simp
  exact there_of_row' this 0 n (by omega)
theorem laid_row {w U : World} {Z : Array Value} {cs : List Value} (hz : cs.length = Z.size) (h0 : 0 < cs.length) {t : TypeId} (e : (w.alloc (.cells Z t)).setCells w.heap.size 0 cs = U) : U.rangeAt w.heap.size 0 cs ∧ Below w.heap.size w U ∧ w.heap.size < U.heap.size := by
  have h1 : U.rangeAt w.heap.size 0 cs := by rw [← e]; exact World.rangeAt_setCells_same _ _ _ _ (there_new w hz)
  have h2 : Below w.heap.size w U := by rw [← e]; exact below_setCells (Nat.le_refl _) _ _ ((Below.refl _ w).alloc (Nat.le_refl _) _)
  refine ⟨h1, h2, ?_⟩
  have := h1 0 _ (List.getElem?_eq_getElem h0)
  unfold World.cell? at this
  cases hh : U.heap[w.heap.size]? with
  | none => rw [show ((⟨w.heap.size, 0 + 0, none⟩ : Addr).block) = w.heap.size from rfl, hh] at this; cases this
  | some X => exact (Array.getElem?_eq_some_iff.1 hh).1
end Go.Proofs.YtpojalbpekbfdaaDoor
/- Package tree: a node equals itself. -/
namespace Go.Proofs.YtpojalbpekbfdaaDoor
open Go Go.RowKit
set_option linter.unusedSimpArgs false
set_option linter.unusedVariables false
set_option maxRecDepth 100000

theorem eq_32' {x : List Int} (hx : L32 x) (w : World) : (Op.equalIn 9999 31 (.agg (bv x).toArray) (.agg (bv x).toArray)).run Tryd.prog w = .ok true w := by
  obtain ⟨i, hi⟩ : ∃ i, Tryd.prog.info? 5 = some i := by
    cases h : Tryd.prog.info? 5 with
    | none => have := size_u8'; rw [h] at this; cases this
    | some i => exact ⟨i, rfl⟩
  have := run_equalIn_array (P := Tryd.prog) w 9998 (bv x).toArray (bv x).toArray Tryd.underlying31 hi
  rw [cmp_items x x hx.len hx.len 9997 w _ (fun i hi => List.mem_range.1 hi), all_gi hx.len hx.len] at this
  simpa using this
theorem part32 (w : World) (xs : Array Value) (off : Nat) : (part 31 xs off).run Tryd.prog w = .ok (.agg (xs.extract off (off + 32))) w := by
  obtain ⟨i, hi, hs⟩ : ∃ i, Tryd.prog.info? 31 = some i ∧ i.size = 32 := by
    have h1 : (Tryd.prog.info? 31).map (·.size) = some 32 := by kernel_rfl
    cases h : Tryd.prog.info? 31 with
    | none => rw [h] at h1; cases h1
    | some i => rw [h] at h1; exact ⟨i, rfl, Option.some.inj h1⟩
  simp [part, run_underlying Tryd.underlying31, sizeOf, typeInfo, hi, hs]
theorem ext_p {x : Nd} (h : x.Ok) : (nc x).toArray.extract 1 (1 + 32) = (bv x.p).toArray := by
  rw [List.extract_toArray]; congr 1
  simp [nc, List.extract, bv_length, h.p.len, List.take_append]
theorem ext_h {x : Nd} (h : x.Ok) : (nc x).toArray.extract 33 (33 + 32) = (bv x.h).toArray := by
  rw [List.extract_toArray]; congr 1
  simp [nc, List.extract, bv_length, h.p.len, h.h.len, List.drop_append]
  exact List.take_of_length_le (by rw [bv_length, h.h.len]; omega)
set_option maxHeartbeats 1000000 in
theorem eq_nd {x : Nd} (h : x.Ok) (w : World) : (Op.equalIn 10000 44 (.agg (nc x).toArray) (.agg (nc x).toArray)).run Tryd.prog w = .ok true w := by
  have hf := run_equalIn_struct (P := Tryd.prog) w 9999 44 (nc x).toArray (nc x).toArray (by kernel_rfl) (by kernel_rfl)
  refine hf.trans ?_
  have hp : Tryd.prog.plainKey 3 = true := by kernel_rfl
  have a0 := run_part_plain (P := Tryd.prog) w hp (xs := (nc x).toArray) (off := 0) (v := .int .i64 x.n) rfl
  have i64 : ∀ z : Int, (Op.equalIn 9999 3 (.int .i64 z) (.int .i64 z)).run Tryd.prog w = .ok true w := fun z => by
    refine (run_equalIn_int (P := Tryd.prog) w 9998 3 .i64 .i64 z z Tryd.underlying3).trans ?_; simp
  have p1 := part32 w (nc x).toArray 1
  have p2 := part32 w (nc x).toArray 33
  rw [ext_p h] at p1
  rw [ext_h h] at p2
  have hfs : (Tryd.prog.fieldsOf 44).toList.map (fun f => (f.name == "_", f.type, f.offset)) = [(false, 3, 0), (false, 31, 1), (false, 31, 33)] := by kernel_rfl
  obtain ⟨C, hC⟩ : ∃ C, (nc x).toArray = C := ⟨_, rfl⟩
  rw [hC] at a0 p1 p2 ⊢
  have key : ∀ (fs : List Field) (l : List (Bool × TypeId × Nat)), fs.map (fun f => (f.name == "_", f.type, f.offset)) = l → (∀ q ∈ l, q.1 = false ∧ ∃ v, (part q.2.1 C q.2.2).run Tryd.prog w = .ok v w ∧ (Op.equalIn 9999 q.2.1 v v).run Tryd.prog w = .ok true w) → (Op.eqFields 9999 C C fs).run Tryd.prog w = .ok true w := by
    intro fs
    induction fs with
    | nil => intro l _ _; simp [Op.eqFields]
    | cons f fs ih =>
      intro l hl hq
      subst hl
      obtain ⟨hn, v, hv, he⟩ := hq (f.name == "_", f.type, f.offset) (by simp)
      have hn' : f.name ≠ "_" := by simpa using hn
      have := ih _ rfl (fun q hq' => hq q (by simp only [List.map_cons]; exact List.mem_cons_of_mem _ hq'))
      unfold Op.eqFields
      rw [if_pos hn']
      simp only [Sem.run_bind, hv, he, Result.andThen_ok, Bool.not_true, Bool.false_eq_true, if_false]
      exact this
  refine key _ _ hfs (fun q hq => ?_)
  simp only [List.mem_cons, List.not_mem_nil, or_false] at hq
  rcases hq with rfl | rfl | rfl
  · exact ⟨rfl, _, a0, i64 _⟩
  · exact ⟨rfl, _, p1, eq_32' h.p w⟩
  · exact ⟨rfl, _, p2, eq_32' h.h w⟩
theorem eql_nd {x : Nd} (h : x.Ok) (w : World) : (binOp .eql 44 (.agg (nc x).toArray) (.agg (nc x).toArray)).run Tryd.prog w = .ok (.bool true) w := by
  have h : (Op.equalIn Op.maxDepth 44 (.agg (nc x).toArray) (.agg (nc x).toArray)).run Tryd.prog w = .ok true w := eq_nd h w
  simp [binOp, h, Op.equal, go_sem]
theorem eqg_nd (op : BinOp) (x y : Operand) (a b : Array Value) (w : World) : (eqGuard op 44 x y (.agg a) (.agg b)).run Tryd.prog w = .ok () w := by
  have h : Tryd.prog.eqGuardType Tryd.prog.depth 44 = false := by kernel_rfl
  unfold eqGuard
  cases op <;> first | (simp [h, Result.andThen]; done) | kernel_rfl
/-- An equality whose run is known. -/
theorem wp_eq_run {P : Program} {ops : Array Oper} {rest : List Oper} {o : Oper} {a : Act} {w : World} {Q : Exit → Act → World → Prop} (t t' : TypeId) (x y : Operand) (ho : o.op = .binOp .eql t x y t') (hw : Region.wanted o (yielded ops a.tmps) = true) (v u r : Value) (hx : a.eval x = v) (hy : a.eval y = u)
    (hg : (eqGuard .eql t x y v u).run P w = .ok () w) (hr : (binOp .eql t v u).run P w = .ok r w) (h : wpList P ops Q rest (a.put o.dst r) w) : wpList P ops Q (o :: rest) a w := by
  unfold wpList
  rw [if_pos hw]
  refine .inl ?_
  unfold Oper.wp execOp
  simp only [ho, hx, hy, Sem.run_bind, hg, hr, Result.andThen_ok, Sem.run_pure]
  exact h
end Go.Proofs.YtpojalbpekbfdaaDoor
/- What comes in as nodes and as a label. -/
namespace Go.Proofs.YtpojalbpekbfdaaDoor
open Go Go.ChangeShapes Go.WideShapes Go.ChangeAt Go.RowKit
set_option linter.unusedVariables false
set_option maxRecDepth 100000

theorem byte_wf {n : Int} (h : (Lit.int .u8 n).wf = true) : 0 ≤ n ∧ n ≤ 255 := by
  simp only [Lit.wf, Bool.and_eq_true, decide_eq_true_eq] at h
  exact h
theorem addr_of_cell {W : World} {x : Addr} {v : Value} (h : W.cell? x = some v) : x.spot = none ∧ x.block < W.heap.size := by
  unfold World.cell? at h
  split at h
  · rename_i hg
    split at h
    · cases h
    · rename_i hs
      exact ⟨by simpa using hs, (Array.getElem?_eq_some_iff.1 hg).1⟩
  · cases h
theorem open_arr {H : Type} {enc : TypeId × Value → H} {W : World} {t : TypeId} {n fuel : Nat} {cs : List Value} {y : DataW H × List MemPlace} (ht : Tryd.prog.underlying t = some (.array n 5)) (hc : Tryd.prog.cellsOf t = n)
    (h : DataW.trod enc Tryd.prog W 0 (fun _ => true) true fuel t cs = some y) : ∃ xs, cs = bv xs ∧ xs.length = n ∧ Byt xs := by
  obtain ⟨xs, m, _, _, hl, hlen, hf⟩ := DataW.trod_array ht h
  rw [hc] at hl
  have h1 : Tryd.prog.cellsOf 5 = 1 := by kernel_rfl
  have each : ∀ i, ∃ z : Int, i < n → cs[i]? = some (.int .u8 z) ∧ (0 ≤ z ∧ z ≤ 255) := by
    intro i
    by_cases hi : i < n
    · have := hf i hi
      have hx : xs[i]? = some xs[i] := List.getElem?_eq_getElem (by omega)
      rw [hx, h1, Nat.mul_one] at this
      obtain ⟨z, hz, -, hw⟩ := DataW.trod_int Tryd.underlying5 this
      refine ⟨z, fun _ => ⟨?_, byte_wf hw⟩⟩
      have e : ((cs.drop i).take 1)[0]? = some (.int .u8 z) := by rw [hz]; rfl
      rw [List.getElem?_take, if_pos (by omega), List.getElem?_drop] at e
      simpa using e
    · exact ⟨0, fun h => absurd h hi⟩
  obtain ⟨f, hf'⟩ := Classical.axiomOfChoice each
  refine ⟨(List.range n).map f, ?_, by simp, fun z hz => ?_⟩
  · apply List.ext_getElem?
    intro i
    by_cases hi : i < n
    · rw [(hf' i hi).1]; simp [bv, hi]
    · rw [List.getElem?_eq_none (by omega), List.getElem?_eq_none (by simp [bv]; omega)]
  · obtain ⟨i, hi, rfl⟩ := List.mem_map.1 hz
    exact (hf' i (List.mem_range.1 hi)).2
theorem take1 {cs : List Value} {o : Nat} {v : Value} (h : (cs.drop o).take 1 = [v]) : cs.drop o = v :: cs.drop (o + 1) := by
  cases hd : cs.drop o with
  | nil => rw [hd] at h; simp at h
  | cons x r =>
    rw [hd] at h
    simp at h
    subst h
    have : (cs.drop o).drop 1 = r := by rw [hd]; rfl
    rw [List.drop_drop] at this
    rw [this]
theorem taken {cs xs : List Value} {o n : Nat} (h : (cs.drop o).take n = xs) : cs.drop o = xs ++ cs.drop (o + n) := by
  rw [← h, ← List.drop_drop, List.take_append_drop]
theorem open_label {H : Type} {enc : TypeId × Value → H} {W : World} {v : Value} {d : DataW H} {p : List MemPlace} (h : DataW.Trod enc Tryd.prog W 0 (fun _ => true) true 31 v d p) : ∃ y, L32 y ∧ v = .agg (bv y).toArray := by
  obtain ⟨fuel, hf⟩ := h
  obtain ⟨x, c, l, b⟩ := open_arr Tryd.underlying31 (by kernel_rfl) hf
  refine ⟨x, ⟨l, b⟩, ?_⟩
  cases v with
  | agg cs => simp only [Value.cells] at c; rw [← c]
  | _ =>
    exfalso
    have := congrArg List.length c
    rw [bv_length, l] at this
    simp [Value.cells] at this
theorem item {H : Type} {enc : TypeId × Value → H} {W : World} {fuel : Nat} {cs : List Value} {y : DataW H × List MemPlace} (h : DataW.trod enc Tryd.prog W 0 (fun _ => true) true fuel 44 cs = some y) :
    ∃ x : Nd, cs = nc x ∧ x.Ok := by
  obtain ⟨xs, n, _, _, hl, hlen, hx⟩ := DataW.trod_struct Tryd.underlying44 h
  rw [show Tryd.prog.cellsOf 44 = 65 by kernel_rfl] at hl
  have g : ∀ i, i < 3 → ∃ y, xs[i]? = some y := fun i hi => ⟨xs[i]'(by rw [hlen]; exact hi), List.getElem?_eq_getElem _⟩
  obtain ⟨y0, e0⟩ := g 0 (by omega)
  obtain ⟨y1, e1⟩ := g 1 (by omega)
  obtain ⟨y2, e2⟩ := g 2 (by omega)
  have k0 : DataW.trod enc Tryd.prog W 0 (fun _ => true) true n 3 ((cs.drop 0).take (Tryd.prog.cellsOf 3)) = some y0 := (hx 0 _ rfl).trans e0
  have k1 : DataW.trod enc Tryd.prog W 0 (fun _ => true) true n 31 ((cs.drop 1).take (Tryd.prog.cellsOf 31)) = some y1 := (hx 1 _ rfl).trans e1
  have k2 : DataW.trod enc Tryd.prog W 0 (fun _ => true) true n 31 ((cs.drop 33).take (Tryd.prog.cellsOf 31)) = some y2 := (hx 2 _ rfl).trans e2
  obtain ⟨n0, c0, -, w0⟩ := DataW.trod_int Tryd.underlying3 k0
  obtain ⟨x1, c1, l1, b1⟩ := open_arr Tryd.underlying31 (by kernel_rfl) k1
  obtain ⟨x2, c2, l2, b2⟩ := open_arr Tryd.underlying31 (by kernel_rfl) k2
  have q32 : Tryd.prog.cellsOf 31 = 32 := by kernel_rfl
  have q1 : Tryd.prog.cellsOf 3 = 1 := by kernel_rfl
  have d0 : (cs.drop 0).take 1 = [.int .i64 n0] := by rw [q1] at c0; exact c0
  have d1 : (cs.drop 1).take 32 = bv x1 := by rw [q32] at c1; exact c1
  have d2 : (cs.drop 33).take 32 = bv x2 := by rw [q32] at c2; exact c2
  refine ⟨⟨n0, x1, x2⟩, ?_, ⟨⟨l1, b1⟩, ⟨l2, b2⟩⟩⟩
  have s0 := take1 d0
  rw [List.drop_zero] at s0
  rw [s0, taken d1, taken d2, List.drop_of_length_le (by omega)]
  simp [nc]
theorem open_nodes {H : Type} {enc : TypeId × Value → H} {W : World} {a : Option Addr} {l c : Nat} {d : DataW H} {p : List MemPlace}
    (h : DataW.Trod enc Tryd.prog W 0 (fun _ => true) true 24 (.slice a l c) d p) (hw : ∀ n ∈ d.weights Tryd.prog 24, n ≤ reachBytes) :
    ∃ m : List Nd, NS W (.slice a l c) m ∧ (∀ x ∈ m, x.Ok) ∧ m.length ≤ 3000000000000 := by
  obtain ⟨fuel, hf⟩ := h
  rcases DataW.trod_slice Tryd.underlying24 hf with ⟨hcs, hx⟩ | ⟨a', l', c', elems, rest, n, _, hcs, hx, hb, hl, hm, hlen, hel, hsp, _⟩
  · simp [Value.cells] at hcs
    obtain ⟨rfl, rfl, rfl⟩ := hcs
    exact ⟨[], ⟨none, 0, rfl, Nat.le_refl _, .inl ⟨rfl, fun _ => rfl⟩⟩, (fun x hx => by cases hx), by simp⟩
  · simp [Value.cells] at hcs
    obtain ⟨rfl, rfl, rfl⟩ := hcs
    have hce : Tryd.prog.cellsOf 44 = 65 := by kernel_rfl
    have hd : d = .slice (elems.map (·.1)) (rest.map (·.1)) := congrArg Prod.fst hx
    have hlen72 : l * 72 ≤ 140737488351232 := by
      have := hw (((elems.map (·.1)).length + (rest.map (·.1)).length) * Tryd.prog.bytesOf 44) (by
        rw [hd]
        simp only [DataW.weights, Tryd.underlying24]
        exact List.mem_cons_self)
      rw [show Tryd.prog.bytesOf 44 = 72 by kernel_rfl, List.length_map, List.length_map] at this
      have hr : reachBytes = 140737488351232 := rfl
      omega
    have each : ∀ i, ∃ o : Nd, i < l → (∀ j, j < 65 → W.cell? ((a'.add (i * 65)).add j) = (nc o)[j]?) ∧ o.Ok := by
      intro i
      by_cases hi : i < l
      · have he := hel i hi
        have hge : elems[i]? = some elems[i] := List.getElem?_eq_getElem (by omega)
        rw [hge, hce, Option.bind_eq_some_iff] at he
        obtain ⟨cs, h1, h2⟩ := he
        obtain ⟨o, rfl, hok⟩ := item h2
        exact ⟨o, fun _ => ⟨(World.cells?_some h1).2.2, hok⟩⟩
      · exact ⟨ndz, fun h => absurd h hi⟩
    obtain ⟨f, hf⟩ := Classical.axiomOfChoice each
    have hml : ((List.range l).map f).length = l := by simp
    refine ⟨(List.range l).map f, ⟨some a', c, by rw [hml], by rw [hml]; exact hl, ?_⟩, fun x hx => ?_, by rw [hml]; omega⟩
    · by_cases h0 : l = 0
      · exact .inl ⟨by subst h0; rfl, fun h => by cases h⟩
      · have hc0 := (hf 0 (by omega)).1 0 (by omega)
        have hc1 : W.cell? ((a'.add (0 * 65)).add 0) = some (.int .i64 (f 0).n) := hc0
        obtain ⟨hs, hlt⟩ := addr_of_cell hc1
        obtain ⟨b, off, sp⟩ := a'
        have hs' : sp = none := by
          cases sp with
          | none => rfl
          | some q => simp [Addr.add] at hs
        subst hs'
        refine .inr ⟨b, off, rfl, by simpa [Addr.add] using hlt, fun i x hi j u hu => ?_⟩
        rw [List.getElem?_map] at hi
        obtain ⟨q, hq, rfl⟩ := Option.map_eq_some_iff.1 hi
        obtain ⟨hil, rfl⟩ := List.getElem?_eq_some_iff.1 hq
        rw [List.getElem_range] at hu
        have hil' : i < l := by simpa using hil
        have hj : j < 65 := by have := (List.getElem?_eq_some_iff.1 hu).1; rw [nc_length (hf i hil').2] at this; exact this
        have := (hf i hil').1 j hj
        rw [addr_add0, addr_add0, hu] at this
        exact this
    · obtain ⟨i, hi, rfl⟩ := List.mem_map.1 hx
      exact (hf i (List.mem_range.1 hi)).2
end Go.Proofs.YtpojalbpekbfdaaDoor
