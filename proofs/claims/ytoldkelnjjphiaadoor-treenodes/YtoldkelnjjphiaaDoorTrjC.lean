/- Package tree: join. -/
import Derived.Test.YtoldkelnjjphiaaDoorTreZ
namespace Go.Proofs.YtoldkelnjjphiaaDoor
open Go Go.RowKit
set_option linter.unusedSimpArgs false
set_option linter.unusedVariables false
set_option maxRecDepth 100000

/-- A load of a row, the operation asked first. -/
theorem ld {P : Program} {ops : Array Oper} {rest : List Oper} {op : Oper} {a : Act} {w : World} {Q : Exit → Act → World → Prop} (ty : TypeId) (x : Operand) (ho : op.op = .load ty x) (hw : Region.wanted op (yielded ops a.tmps) = true)
    (b o : Nat) (hx : a.eval x = .pointer (some ⟨b, o, none⟩)) (cs : List Value) (d : TypeDesc) (hc : w.rangeAt b o cs)
    (hu : P.underlying ty = some d) (hd : d.isRow = true) (hi : (P.info? ty).map (·.size) = some cs.length)
    (h : wpList P ops Q rest (a.put op.dst (.agg cs.toArray)) w) : wpList P ops Q (op :: rest) a w := load_g hw ty x ho b o hx cs d hc hu hd hi h
/-- A struct of three fields built. -/
theorem wp_build3 {P : Program} {ops : Array Oper} {rest : List Oper} {o : Oper} {a : Act} {w : World} {Q : Exit → Act → World → Prop} (t : TypeId) (x0 x1 x2 : Operand) (ho : o.op = .build t #[(0, x0), (1, x1), (2, x2)]) (hgd : o.guard = none) (v0 v1 v2 : Value) (h0 : a.eval x0 = v0) (h1 : a.eval x1 = v1) (h2 : a.eval x2 = v2) (cells : Array Value)
    (hr : (Instr.build t #[(0, v0), (1, v1), (2, v2)]).run P w = .ok (.agg cells) w) (h : wpList P ops Q rest (a.put o.dst (.agg cells)) w) : wpList P ops Q (o :: rest) a w := by
  refine wpList_plain hgd fun K hK => ?_
  unfold Oper.wp execOp
  simp only [ho, Sem.run_bind, List.map_toArray, List.map_cons, List.map_nil, h0, h1, h2, hr, Result.andThen_ok, Sem.run_pure]
  exact hK _ _ h
set_option maxHeartbeats 4000000 in
theorem join_any (a b : Nd) (ha : a.Ok) (hb : b.Ok) (ha0 : 0 ≤ a.n) (ha1 : a.n ≤ 256) (hb0 : 0 ≤ b.n) (hb1 : b.n ≤ 256) (w : World) (hT : Tb w) :
    Calls Tryd.prog 54 #[.agg (nc a).toArray, .agg (nc b).toArray] w fun e w' => e = .returned (.agg (nc (jnd (cm a.p b.p 256) a.p a b)).toArray) ∧ Below w.heap.size w w' := by
  have s1 := nc_size ha
  have s2 := nc_size hb
  obtain ⟨ra, rb, rz, rs, rl⟩ := three_rows w (nc a) (nc b) (nc ndz) 27 27 27
  obtain ⟨A, hA⟩ : ∃ A, (nc a).toArray = A := ⟨_, rfl⟩
  obtain ⟨B, hB⟩ : ∃ B, (nc b).toArray = B := ⟨_, rfl⟩
  have hz := zero_nd
  obtain ⟨Z, hZ⟩ : ∃ Z, (nc ndz).toArray = Z := ⟨_, rfl⟩
  have hZs : Z.size = 65 := by rw [← hZ]; exact nc_size ndz_ok
  rw [hA, hB, hZ] at ra rb rz rs rl
  rw [hA] at s1 ⊢
  rw [hB] at s2 ⊢
  rw [hZ] at hz
  obtain ⟨U, hU⟩ : ∃ U, ((w.alloc (.cells A 27)).alloc (.cells B 27)).alloc (.cells Z 27) = U := ⟨_, rfl⟩
  rw [hU] at ra rb rz rs rl
  obtain ⟨c, hc⟩ : ∃ c, cm a.p b.p 256 = c := ⟨_, rfl⟩
  have hc2 : c ≤ 256 := by rw [← hc]; exact cm_le _ _ _
  rw [hc]
  obtain ⟨q, hq⟩ : ∃ q, fb a.p c = q := ⟨_, rfl⟩
  obtain ⟨H, hH⟩ : ∃ H, hs ([2] ++ nbs a ++ nbs b) = H := ⟨_, rfl⟩
  have HJ : Hid (jnd c a.p a b = ⟨(c : Int), q, H⟩) := by show jnd c a.p a b = _; unfold jnd; rw [hq, hH]
  have HQ : Hid (L32 q) := by rw [← hq]; exact fb_l32 ha.p c
  have HHL : Hid (L32 H) := by rw [← hH]; exact hs_l32 _
  have HBN : Hid (∀ W : World, (Instr.build 27 #[(0, .int .i64 (c : Int)), (1, .agg (bv q).toArray), (2, .agg (bv H).toArray)]).run Tryd.prog W = .ok (.agg (nc ⟨(c : Int), q, H⟩).toArray) W) := build_nd (c : Int) HQ.out HHL.out
  have HCM : Hid (∀ W : World, Calls Tryd.prog 35 #[.agg (bv a.p).toArray, .agg (bv b.p).toArray] W fun e w' => e = .returned (.int .i64 (c : Int)) ∧ Below W.heap.size W w') := fun W => by rw [← hc]; exact common_any a.p b.p W ha.p hb.p
  have HFB : Hid (∀ W : World, Calls Tryd.prog 34 #[.agg (bv a.p).toArray, .int .i64 (c : Int)] W fun e w' => e = .returned (.agg (bv q).toArray) ∧ Below W.heap.size W w') := fun W => by rw [← hq]; exact firstBits_any a.p ha.p c hc2 W
  have HAA : Hid (∀ (B0 : Nat) (v : Value) (xs : List Int) (W : World), Ow B0 W v xs → B0 ≤ W.heap.size → xs.length ≤ 1000000 → Calls Tryd.prog 57 #[v, .agg (nc a).toArray] W fun e w' => ∃ v', e = .returned v' ∧ Ow B0 w' v' (xs ++ nbs a) ∧ Below B0 W w') := fun B0 v xs W h1 h2 h3 => appendNode_any v xs a ha ha0 ha1 W h1 h2 h3
  have HAB : Hid (∀ (B0 : Nat) (v : Value) (xs : List Int) (W : World), Ow B0 W v xs → B0 ≤ W.heap.size → xs.length ≤ 1000000 → Calls Tryd.prog 57 #[v, .agg (nc b).toArray] W fun e w' => ∃ v', e = .returned v' ∧ Ow B0 w' v' (xs ++ nbs b) ∧ Below B0 W w') := fun B0 v xs W h1 h2 h3 => appendNode_any v xs b hb hb0 hb1 W h1 h2 h3
  have HSU : Hid (∀ (v : Value) (W : World), Tb W → Sq W v ([2] ++ nbs a ++ nbs b) → Calls Tryd.prog 45 #[v] W fun e w' => e = .returned (.agg (bv H).toArray) ∧ Below W.heap.size W w') := fun v W h1 h2 => sum256_sl _ H v hH (by rw [List.length_append, List.length_append, nbs_length ha, nbs_length hb]; simp) W h1 (Byt.append (Byt.append (fun z hz => by simp at hz; omega) (nbs_byt ha ha0 ha1)) (nbs_byt hb hb0 hb1)) h2
  have HLA : Hid ((nbs a).length = 66) := nbs_length ha
  have HA : Hid a.Ok := ha
  have HB : Hid b.Ok := hb
  have HT : Hid (Tb w) := hT
  have BU : Hid (Below w.heap.size w U) := rl
  obtain ⟨D, hD⟩ : ∃ D, w.heap.size = D := ⟨_, rfl⟩
  have HD : Hid (w.heap.size = D) := hD
  rw [hD] at ra rb rz rs
  have RA : Hid (U.rangeAt D 0 (nc a)) := ra
  have RB : Hid (U.rangeAt (D + 1) 0 (nc b)) := rb
  have RZ : Hid (U.heap[D + 2]? = some (.cells Z 27 (0, 0))) := rz
  have SU : Hid (U.heap.size = D + 3) := rs
  clear ra rb rz rs rl hA hB hZ hc hq hH ha hb hT ha0 ha1 hb0 hb1
  go_enter Tryd.func54, Tryd.ntmps54
  go_upto_region 1 with (fail)
  try rw [hU]
  try rw [hD]
  clear hU hD hz
  go_wp2_with (first
    | (refine ld 23 (.tmp 7) rfl rfl D 1 rfl (bv a.p) _ (nc_p RA.out) Tryd.underlying23 rfl (size_l32 HA.out.p) ?_)
    | (refine ld 23 (.tmp 9) rfl rfl (D + 1) 1 rfl (bv b.p) _ (nc_p RB.out) Tryd.underlying23 rfl (size_l32 HB.out.p) ?_)
    | (go_at_call 35; refine (HCM.out U).mono ?_; rintro e w1 ⟨rfl, h1⟩; have B1 : Hid (Below U.heap.size U w1) := h1; clear h1)
    | (at_make; refine make_u8 w1 rfl _ _ rfl .i64 .i64 _ 133 rfl rfl rfl (by omega) ?_; intro w2 h1 h2; have O2 : Hid (Ow w1.heap.size w2 (.slice (some ⟨w1.heap.size, 0, none⟩) 0 133) []) := h1; have B2 : Hid (Below w1.heap.size w1 w2) := h2; clear h1 h2)
    | (at_builtin; refine app_u8 (B0 := w1.heap.size) rfl _ _ rfl (by rw [size_al]; have := B2.out.size; omega) _ [] rfl (O2.out.alloc _) _ rfl [2] (Sl.one w2 2 _) (by simp) ?_; intro v3 w3 h1 h2 h3 h4; have O3 : Hid (Ow w1.heap.size w3 v3 [2]) := h1; have B3 : Hid (Below w1.heap.size w1 w3) := (B2.out.alloc B2.out.size _).trans h3; clear h1 h2 h3 h4)
    | (refine ld 27 (.tmp 2) rfl rfl D 0 rfl (nc a) _ (range_below (range_below RA.out B1.out (by have := SU.out; omega)) B3.out (by have := SU.out; have := B1.out.size; omega)) Tryd.underlying27 rfl (size_nc HA.out) ?_)
    | (go_at_call 57; refine (HAB.out w1.heap.size v4 ([2] ++ nbs a) w4 O4.out B4.out.size (by have := HLA.out; simp; omega)).mono ?_; rintro e w5 ⟨v5, rfl, h1, h2⟩; have O5 : Hid (Ow w1.heap.size w5 v5 ([2] ++ nbs a ++ nbs b)) := h1; have B5 : Hid (Below w1.heap.size w1 w5) := B4.out.trans h2; clear h1 h2)
    | (go_at_call 57; refine (HAA.out w1.heap.size v3 [2] w3 O3.out B3.out.size (by simp)).mono ?_; rintro e w4 ⟨v4, rfl, h1, h2⟩; have O4 : Hid (Ow w1.heap.size w4 v4 ([2] ++ nbs a)) := h1; have B4 : Hid (Below w1.heap.size w1 w4) := B3.out.trans h2; clear h1 h2)
    | (refine ld 27 (.tmp 3) rfl rfl (D + 1) 0 rfl (nc b) _ (range_below (range_below RB.out B1.out (by have := SU.out; omega)) B4.out (by have := SU.out; have := B1.out.size; omega)) Tryd.underlying27 rfl (size_nc HB.out) ?_)
    | (refine ld 23 (.tmp 23) rfl rfl D 1 rfl (bv a.p) _ (nc_p (range_below (range_below RA.out B1.out (by have := SU.out; omega)) B5.out (by have := SU.out; have := B1.out.size; omega))) Tryd.underlying23 rfl (size_l32 HA.out.p) ?_)
    | (go_at_call 34; refine (HFB.out w5).mono ?_; rintro e w6 ⟨rfl, h1⟩; have B6 : Hid (Below w5.heap.size w5 w6) := h1; clear h1))
  refine (HSU.out v5 w6 (HT.out.below (BU.out.trans ((B1.out.trans ((B5.out.mono B1.out.size).trans (B6.out.mono (Nat.le_trans B1.out.size B5.out.size)))).mono BU.out.size))) (O5.out.sq.below B6.out)).mono ?_
  rintro e w7 ⟨rfl, h1⟩
  have B7 : Hid (Below w1.heap.size w1 w7) := B5.out.trans ((B6.out.mono B5.out.size).trans (h1.mono (Nat.le_trans B5.out.size B6.out.size)))
  clear h1
  dsimp only
  refine ‹∀ (a : Act) (w : World), wpList Tryd.prog _ _ _ a w → _› _ _ ?_
  refine wp_build3 27 (.tmp 22) (.tmp 26) (.tmp 28) rfl rfl (.int .i64 (c : Int)) (.agg (bv q).toArray) (.agg (bv H).toArray) rfl rfl rfl (nc ⟨(c : Int), q, H⟩).toArray (HBN.out w7) ?_
  refine wpList_store_mid rfl 27 (.tmp 4) (.tmp 29) rfl (D + 2) 0 (nc ⟨(c : Int), q, H⟩).toArray rfl rfl (by rw [nc_size ⟨HQ.out, HHL.out⟩]; exact there_of_row' ((B7.out.block _ (by have := SU.out; have := B1.out.size; omega)).trans ((B1.out.block _ (by have := SU.out; omega)).trans RZ.out)) 0 65 (by omega)) (by rw [List.size_toArray]; exact size_nc ⟨HQ.out, HHL.out⟩) (nc_one _) ?_
  simp only [List.toList_toArray]
  go_wp2_with fail
  have hth : w7.there (D + 2) 0 65 := there_of_row' ((B7.out.block _ (by have := SU.out; have := B1.out.size; omega)).trans ((B1.out.block _ (by have := SU.out; omega)).trans RZ.out)) 0 65 (by omega)
  have qq : (w7.setCells (D + 2) 0 (nc ⟨(c : Int), q, H⟩)).rangeAt (D + 2) 0 (nc ⟨(c : Int), q, H⟩) := World.rangeAt_setCells_same _ _ _ _ (by rw [nc_length ⟨HQ.out, HHL.out⟩]; exact hth)
  have hbl : Below w.heap.size w (w7.setCells (D + 2) 0 (nc ⟨(c : Int), q, H⟩)) := below_setCells (by rw [HD.out]; omega) _ _ (BU.out.trans ((B1.out.trans (B7.out.mono B1.out.size)).mono BU.out.size))
  refine bodyPost_ret (v := .agg (nc ⟨(c : Int), q, H⟩).toArray) ?_ rfl ⟨by rw [HJ.out], hbl⟩
  simp only [results, Tryd.results54]
  simp [Act.put, asAddr, run_loadVar_mid _ (D + 2) 0 27 (nc ⟨(c : Int), q, H⟩) _ qq Tryd.underlying27 rfl (size_nc ⟨HQ.out, HHL.out⟩)]
end Go.Proofs.YtoldkelnjjphiaaDoor
