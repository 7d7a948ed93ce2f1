/- Package tree: the law's awake. -/
import Derived.Test.YtkeobajlikhghaaDoorTrcB
namespace Go.Proofs.YtkeobajlikhghaaDoor
open Go Go.RowKit
set_option linter.unusedSimpArgs false
set_option linter.unusedVariables false
set_option maxRecDepth 100000

/-- The label that is 1 and noughts. -/
def o32 : List Int := 1 :: List.replicate 31 0
theorem o32_l32 : L32 o32 := ⟨by simp [o32], fun z hz => by
  rcases List.mem_cons.1 hz with rfl | hz
  · omega
  · have := List.eq_of_mem_replicate hz; omega⟩
theorem build_o32 (w : World) : (Instr.build 23 #[(0, .int .u8 1)]).run Tryd.prog w = .ok (.agg (bv o32).toArray) w := by kernel_rfl
theorem build_lf (w : World) : (Instr.build 41 #[(0, .agg (bv o32).toArray)]).run Tryd.prog w = .ok (.agg (lf o32 z32).toArray) w := by kernel_rfl
/-- A value of one field built. -/
theorem wp_build1 {P : Program} {ops : Array Oper} {rest : List Oper} {o : Oper} {a : Act} {w : World} {Q : Exit → Act → World → Prop} (t : TypeId) (x0 : Operand) (ho : o.op = .build t #[(0, x0)]) (hgd : o.guard = none) (v0 : Value) (h0 : a.eval x0 = v0) (cells : Array Value)
    (hr : (Instr.build t #[(0, v0)]).run P w = .ok (.agg cells) w) (h : wpList P ops Q rest (a.put o.dst (.agg cells)) w) : wpList P ops Q (o :: rest) a w := by
  refine wpList_plain hgd fun K hK => ?_
  unfold Oper.wp execOp
  simp only [ho, Sem.run_bind, List.map_toArray, List.map_cons, List.map_nil, h0, hr, Result.andThen_ok, Sem.run_pure]
  exact hK _ _ h
/-- A row laid in a new block. -/
theorem there_new (w : World) {Z : Array Value} {t : TypeId} {n : Nat} (hn : n = Z.size) : (w.alloc (.cells Z t)).there w.heap.size 0 n := by
  have : (w.alloc (.cells Z t)).heap[w.heap.size]? = some (.cells Z t (0, 0)) := by show (w.heap.push _)[w.heap.size]? = _; simp
  exact there_of_row' this 0 n (by omega)
theorem laid_row {w U : World} {Z : Array Value} {cs : List Value} (hz : cs.length = Z.size) (h0 : 0 < cs.length) {t : TypeId} (e : (w.alloc (.cells Z t)).setCells w.heap.size 0 cs = U) : U.rangeAt w.heap.size 0 cs ∧ Below w.heap.size w U ∧ w.heap.size < U.heap.size := by
  have h1 : U.rangeAt w.heap.size 0 cs := by rw [← e]; exact World.rangeAt_setCells_same _ _ _ _ (there_new w hz)
  have h2 : Below w.heap.size w U := by rw [← e]; exact below_setCells (Nat.le_refl _) _ _ ((Below.refl _ w).alloc (Nat.le_refl _) _)
  refine ⟨h1, h2, ?_⟩
  have := h1 0 _ (List.getElem?_eq_getElem h0)
  unfold World.cell? at this
  cases hh : U.heap[w.heap.size]? with
  | none => rw [show ((⟨w.heap.size, 0 + 0, none⟩ : Addr).block) = w.heap.size from rfl, hh] at this; cases this
  | some X => exact (Array.getElem?_eq_some_iff.1 hh).1
set_option maxHeartbeats 2000000 in
theorem awake_any (w : World) (hT : Tb w) : Calls Tryd.prog 9 #[] w fun e w' => e = .returned (.bool true) ∧ Below w.heap.size w w' := by
  have hz := zero_32
  rw [show List.replicate 32 (0 : Int) = z32 from rfl] at hz
  have hy := zero_nd
  have HRO := RootOf_none w hT
  have HLN : Hid (∀ W : World, Tb W → Calls Tryd.prog 24 #[.agg (lf o32 z32).toArray] W fun e w' => e = .returned (.agg (nc (lnd o32 z32)).toArray) ∧ Below W.heap.size W w') := fun W q => leafNode_any o32 z32 o32_l32 z32_l32 W q
  obtain ⟨H, hH⟩ : ∃ H, hs [0] = H := ⟨_, rfl⟩
  have HL : Hid (L32 H) := by rw [← hH]; exact hs_l32 _
  have HG : Hid (gi H 0 = 110 ∧ gi H 1 = 52) := by rw [← hH]; exact hs_zero
  rw [hH] at HRO
  obtain ⟨x, hx⟩ : ∃ x, lnd o32 z32 = x := ⟨_, rfl⟩
  have HX : Hid x.Ok := by rw [← hx]; exact ⟨o32_l32, hs_l32 _⟩
  have HXN : Hid (x.n = 256 ∧ gi x.p 0 = 1) := by rw [← hx]; exact ⟨rfl, rfl⟩
  rw [hx] at HLN
  obtain ⟨Z, hZ⟩ : ∃ Z, (bv z32).toArray = Z := ⟨_, rfl⟩
  have hZs : Z.size = 32 := by rw [← hZ]; simp [bv, z32]
  rw [hZ] at hz
  obtain ⟨Y, hY⟩ : ∃ Y, (nc ndz).toArray = Y := ⟨_, rfl⟩
  have hYs : Y.size = 65 := by rw [← hY]; exact nc_size ndz_ok
  rw [hY] at hy
  have HR : Hid (Calls Tryd.prog 22 #[.slice none 0 0] w fun e w' => e = .returned (.tuple #[.agg (bv H).toArray, .int .i64 0]) ∧ Below w.heap.size w w') := HRO
  have HT : Hid (Tb w) := hT
  have HZS : Hid (Z.size = 32) := hZs
  have HYS : Hid (Y.size = 65) := hYs
  clear HRO hH hx hZ hY hT hZs hYs
  go_enter Tryd.func9, Tryd.ntmps9
  go_upto_region 2 with (first
    | (go_at_call 22; refine HR.out.mono ?_; rintro e w1 ⟨rfl, g1⟩; have B1 : Hid (Below w.heap.size w w1) := g1; clear g1)
    | (refine wpList_store_mid rfl 23 (.tmp 1) (.tmp 6) rfl w1.heap.size 0 (bv H).toArray rfl rfl (there_new w1 (by rw [List.size_toArray, bv_length, HL.out.len, HZS.out])) (by rw [List.size_toArray]; exact size_l32 HL.out) (bv_one' _) ?_; simp only [List.toList_toArray]))
  obtain ⟨w2, hw2⟩ : ∃ w2, (w1.alloc (.cells Z 23)).setCells w1.heap.size 0 (bv H) = w2 := ⟨_, rfl⟩
  rw [hw2]
  obtain ⟨r1, r2, r3⟩ := laid_row (by rw [bv_length, HL.out.len, HZS.out]) (by rw [bv_length, HL.out.len]; omega) hw2
  have R2 : Hid (w2.rangeAt w1.heap.size 0 (bv H)) := r1
  have B2 : Hid (Below w.heap.size w w2) := B1.out.trans (r2.mono B1.out.size)
  have Z2 : Hid (w1.heap.size < w2.heap.size) := r3
  clear r1 r2 r3 hw2
  refine wp_region_list ?_
  refine wp_build1 23 (.const (.int .u8 1)) rfl rfl (.int .u8 1) rfl _ (build_o32 w2) ?_
  refine wp_build1 41 (.tmp 8) rfl rfl (.agg (bv o32).toArray) rfl _ (build_lf w2) ?_
  go_upto_region 3 with (first
    | (go_at_call 24; refine (HLN.out w2 (HT.out.below B2.out)).mono ?_; rintro e w3 ⟨rfl, g1⟩; have B3 : Hid (Below w2.heap.size w2 w3) := g1; clear g1)
    | (refine wpList_store_mid rfl 27 (.tmp 3) (.tmp 10) rfl w3.heap.size 0 (nc x).toArray rfl rfl (there_new w3 (by rw [nc_size HX.out, HYS.out])) (by rw [List.size_toArray]; exact size_nc HX.out) (nc_one _) ?_; simp only [List.toList_toArray]))
  obtain ⟨w4, hw4⟩ : ∃ w4, (w3.alloc (.cells Y 27)).setCells w3.heap.size 0 (nc x) = w4 := ⟨_, rfl⟩
  rw [hw4]
  obtain ⟨r1, r2, r3⟩ := laid_row (by rw [nc_length HX.out, HYS.out]) (by rw [nc_length HX.out]; omega) hw4
  have B4 : Hid (Below w.heap.size w w4) := B2.out.trans ((B3.out.mono B2.out.size).trans (r2.mono (Nat.le_trans B2.out.size B3.out.size)))
  have q1 : w4.rangeAt w1.heap.size 0 (bv H) := range_below (range_below R2.out B3.out Z2.out) r2 (Nat.lt_of_lt_of_le Z2.out B3.out.size)
  have c0 : w4.cell? ⟨w1.heap.size, 0, none⟩ = some (.int .u8 110) := by rw [q1 0 _ (bv_get H (by rw [HL.out.len]; omega)), HG.out.1]
  have c1 : w4.cell? ⟨w1.heap.size, 1, none⟩ = some (.int .u8 52) := by have := q1 1 _ (bv_get H (by rw [HL.out.len]; omega)); rw [Nat.zero_add, HG.out.2] at this; exact this
  have c2 : w4.cell? ⟨w3.heap.size, 0, none⟩ = some (.int .i64 256) := by rw [nc_n r1, HXN.out.1]
  have c3 : w4.cell? ⟨w3.heap.size, 1, none⟩ = some (.int .u8 1) := by have := nc_p r1 0 _ (bv_get x.p (by rw [HX.out.p.len]; omega)); rw [HXN.out.2] at this; exact this
  clear r1 r2 r3 hw4 q1 hz hy
  go_wp2_with fail
  go_ret
  exact ⟨rfl, B4.out⟩
end Go.Proofs.YtkeobajlikhghaaDoor
/- Package tree: a node equals itself. -/
namespace Go.Proofs.YtkeobajlikhghaaDoor
open Go Go.RowKit
set_option linter.unusedSimpArgs false
set_option linter.unusedVariables false
set_option maxRecDepth 100000

theorem eq_32' {x : List Int} (hx : L32 x) (w : World) : (Op.equalIn 9999 23 (.agg (bv x).toArray) (.agg (bv x).toArray)).run Tryd.prog w = .ok true w := by
  obtain ⟨i, hi⟩ : ∃ i, Tryd.prog.info? 5 = some i := by
    cases h : Tryd.prog.info? 5 with
    | none => have := size_u8'; rw [h] at this; cases this
    | some i => exact ⟨i, rfl⟩
  have := run_equalIn_array (P := Tryd.prog) w 9998 (bv x).toArray (bv x).toArray Tryd.underlying23 hi
  rw [cmp_items x x hx.len hx.len 9997 w _ (fun i hi => List.mem_range.1 hi), all_gi hx.len hx.len] at this
  simpa using this
theorem part32 (w : World) (xs : Array Value) (off : Nat) : (part 23 xs off).run Tryd.prog w = .ok (.agg (xs.extract off (off + 32))) w := by
  obtain ⟨i, hi, hs⟩ : ∃ i, Tryd.prog.info? 23 = some i ∧ i.size = 32 := by
    have h1 : (Tryd.prog.info? 23).map (·.size) = some 32 := by kernel_rfl
    cases h : Tryd.prog.info? 23 with
    | none => rw [h] at h1; cases h1
    | some i => rw [h] at h1; exact ⟨i, rfl, Option.some.inj h1⟩
  simp [part, run_underlying Tryd.underlying23, sizeOf, typeInfo, hi, hs]
theorem ext_p {x : Nd} (h : x.Ok) : (nc x).toArray.extract 1 (1 + 32) = (bv x.p).toArray := by
  rw [List.extract_toArray]; congr 1
  simp [nc, List.extract, bv_length, h.p.len, List.take_append]
theorem ext_h {x : Nd} (h : x.Ok) : (nc x).toArray.extract 33 (33 + 32) = (bv x.h).toArray := by
  rw [List.extract_toArray]; congr 1
  simp [nc, List.extract, bv_length, h.p.len, h.h.len, List.drop_append]
  exact List.take_of_length_le (by rw [bv_length, h.h.len]; omega)
set_option maxHeartbeats 1000000 in
theorem eq_nd {x : Nd} (h : x.Ok) (w : World) : (Op.equalIn 10000 27 (.agg (nc x).toArray) (.agg (nc x).toArray)).run Tryd.prog w = .ok true w := by
  have hf := run_equalIn_struct (P := Tryd.prog) w 9999 27 (nc x).toArray (nc x).toArray (by kernel_rfl) (by kernel_rfl)
  refine hf.trans ?_
  have hp : Tryd.prog.plainKey 3 = true := by kernel_rfl
  have a0 := run_part_plain (P := Tryd.prog) w hp (xs := (nc x).toArray) (off := 0) (v := .int .i64 x.n) rfl
  have i64 : ∀ z : Int, (Op.equalIn 9999 3 (.int .i64 z) (.int .i64 z)).run Tryd.prog w = .ok true w := fun z => by
    refine (run_equalIn_int (P := Tryd.prog) w 9998 3 .i64 .i64 z z Tryd.underlying3).trans ?_; simp
  have p1 := part32 w (nc x).toArray 1
  have p2 := part32 w (nc x).toArray 33
  rw [ext_p h] at p1
  rw [ext_h h] at p2
  have hfs : (Tryd.prog.fieldsOf 27).toList.map (fun f => (f.name == "_", f.type, f.offset)) = [(false, 3, 0), (false, 23, 1), (false, 23, 33)] := by kernel_rfl
  obtain ⟨C, hC⟩ : ∃ C, (nc x).toArray = C := ⟨_, rfl⟩
  rw [hC] at a0 p1 p2 ⊢
  have key : ∀ (fs : List Field) (l : List (Bool × TypeId × Nat)), fs.map (fun f => (f.name == "_", f.type, f.offset)) = l → (∀ q ∈ l, q.1 = false ∧ ∃ v, (part q.2.1 C q.2.2).run Tryd.prog w = .ok v w ∧ (Op.equalIn 9999 q.2.1 v v).run Tryd.prog w = .ok true w) → (Op.eqFields 9999 C C fs).run Tryd.prog w = .ok true w := by
    intro fs
    induction fs with
    | nil => intro l _ _; simp [Op.eqFields]
    | cons f fs ih =>
      intro l hl hq
      subst hl
      obtain ⟨hn, v, hv, he⟩ := hq (f.name == "_", f.type, f.offset) (by simp)
      have hn' : f.name ≠ "_" := by simpa using hn
      have := ih _ rfl (fun q hq' => hq q (by simp only [List.map_cons]; exact List.mem_cons_of_mem _ hq'))
      unfold Op.eqFields
      rw [if_pos hn']
      simp only [Sem.run_bind, hv, he, Result.andThen_ok, Bool.not_true, Bool.false_eq_true, if_false]
      exact this
  refine key _ _ hfs (fun q hq => ?_)
  simp only [List.mem_cons, List.not_mem_nil, or_false] at hq
  rcases hq with rfl | rfl | rfl
  · exact ⟨rfl, _, a0, i64 _⟩
  · exact ⟨rfl, _, p1, eq_32' h.p w⟩
  · exact ⟨rfl, _, p2, eq_32' h.h w⟩
theorem eql_nd {x : Nd} (h : x.Ok) (w : World) : (binOp .eql 27 (.agg (nc x).toArray) (.agg (nc x).toArray)).run Tryd.prog w = .ok (.bool true) w := by
  have h : (Op.equalIn Op.maxDepth 27 (.agg (nc x).toArray) (.agg (nc x).toArray)).run Tryd.prog w = .ok true w := eq_nd h w
  simp [binOp, h, Op.equal, go_sem]
theorem eqg_nd (op : BinOp) (x y : Operand) (a b : Array Value) (w : World) : (eqGuard op 27 x y (.agg a) (.agg b)).run Tryd.prog w = .ok () w := by
  have h : Tryd.prog.eqGuardType Tryd.prog.depth 27 = false := by kernel_rfl
  unfold eqGuard
  cases op <;> first | (simp [h, Result.andThen]; done) | kernel_rfl
/-- An equality whose run is known. -/
theorem wp_eq_run {P : Program} {ops : Array Oper} {rest : List Oper} {o : Oper} {a : Act} {w : World} {Q : Exit → Act → World → Prop} (t t' : TypeId) (x y : Operand) (ho : o.op = .binOp .eql t x y t') (hw : Region.wanted o (yielded ops a.tmps) = true) (v u r : Value) (hx : a.eval x = v) (hy : a.eval y = u)
    (hg : (eqGuard .eql t x y v u).run P w = .ok () w) (hr : (binOp .eql t v u).run P w = .ok r w) (h : wpList P ops Q rest (a.put o.dst r) w) : wpList P ops Q (o :: rest) a w := by
  unfold wpList
  rw [if_pos hw]
  refine .inl ?_
  unfold Oper.wp execOp
  simp only [ho, hx, hy, Sem.run_bind, hg, hr, Result.andThen_ok, Sem.run_pure]
  exact h
end Go.Proofs.YtkeobajlikhghaaDoor
