/- The reference: SameLookup; package wire: readOpening. -/
import Derived.Test.YtfnmdeekenjlgaaWsX
namespace Go.Proofs.Ytfnmdeekenjlgaa
open Go Go.RowKit
set_option linter.unusedSimpArgs false
set_option linter.unusedVariables false
set_option maxRecDepth 100000

theorem lat_fp {w : World} {b : Nat} {L : Lp} {dv nv mv : Value} (hL : L.Le) (h : LAt L dv nv mv (fun j => w.cell? ⟨b, j, none⟩)) : w.rangeAt b 166 (oc L.fp nv) ∧ w.rangeAt b 247 (oc L.sp mv) := by
  have key : ∀ (o : Nat) (p : List Int) (v : Value), p.length = 80 → (∀ j, j < 80 → w.cell? ⟨b, o + j, none⟩ = some (.int .u8 (gi p j))) → w.cell? ⟨b, o + 80, none⟩ = some v → w.rangeAt b o (oc p v) := fun o p v hp h1 h2 j u hu => by
    have hl : (bv p).length = 80 := by rw [bv_length, hp]
    unfold oc at hu
    by_cases hj : j < 80
    · rw [List.getElem?_append_left (by omega), bv_get _ (by omega)] at hu
      rw [h1 j hj]; exact hu
    · rw [List.getElem?_append_right (by omega), hl] at hu
      have : j = 80 := by
        have := (List.getElem?_eq_some_iff.1 hu).1
        simp at this; omega
      subst this
      rw [h2]; exact hu
  exact ⟨key 166 _ _ hL.fp h.fp h.nv, key 247 _ _ hL.sp h.sp h.mv⟩
set_option maxHeartbeats 8000000 in
theorem rsameLookup_any (L : Lp) (hS : L.Ok) (A B' : List Value) (w : World) (hA : LV w A L) (hB : LV w B' L) :
    Calls Try.prog 10 #[.agg A.toArray, .agg B'.toArray] w fun e w' => e = .returned (.bool true) ∧ Below w.heap.size w w' := by
  have HS : Hid L.Ok := hS
  obtain ⟨dv, nv, mv, rfl, h1, h2, h3⟩ := hA
  obtain ⟨dv2, nv2, mv2, rfl, h4, h5, h6⟩ := hB
  have HV0 : Hid (YS w dv L.ds ∧ NS w nv L.fn ∧ NS w mv L.sn) := ⟨h1, h2, h3⟩
  have HU0 : Hid (YS w dv2 L.ds ∧ NS w nv2 L.fn ∧ NS w mv2 L.sn) := ⟨h4, h5, h6⟩
  have hsz : (lc L dv nv mv).toArray.size = 328 := by rw [List.size_toArray]; exact lc_length hS.le _ _ _
  have hsz2 : (lc L dv2 nv2 mv2).toArray.size = 328 := by rw [List.size_toArray]; exact lc_length hS.le _ _ _
  obtain ⟨A, hA⟩ : ∃ A, (lc L dv nv mv).toArray = A := ⟨_, rfl⟩
  obtain ⟨A2, hA2⟩ : ∃ A, (lc L dv2 nv2 mv2).toArray = A := ⟨_, rfl⟩
  have HA : Hid (∀ j, A[j]? = (lc L dv nv mv)[j]?) := fun j => by rw [← hA, List.getElem?_toArray]
  have HA2 : Hid (∀ j, A2[j]? = (lc L dv2 nv2 mv2)[j]?) := fun j => by rw [← hA2, List.getElem?_toArray]
  rw [hA] at hsz ⊢
  rw [hA2] at hsz2 ⊢
  clear hA hA2 hS h1 h2 h3 h4 h5 h6
  go_enter Try.func10, Try.ntmps10
  go_upto_region 1 with (fail)
  obtain ⟨w1, hw1⟩ : ∃ w1, (w.alloc (Obj.cells A 33)).alloc (Obj.cells A2 33) = w1 := ⟨_, rfl⟩
  rw [hw1]
  have b1 : Below w.heap.size w w1 := by rw [← hw1]; exact ((Below.refl _ w).alloc (Nat.le_refl _) _).alloc (by simp) _
  have c1 : ∀ j, w1.cell? ⟨w.heap.size, j, none⟩ = (lc L dv nv mv)[j]? := fun j => by
    rw [← hw1]
    exact (((Below.refl _ (w.alloc (Obj.cells A 33))).alloc (Nat.le_refl _) _).cell (p := ⟨w.heap.size, j, none⟩) (by simp)).trans ((cell_alloc w A _ _ j).trans (HA.out j))
  have c2 : ∀ j, w1.cell? ⟨w.heap.size + 1, j, none⟩ = (lc L dv2 nv2 mv2)[j]? := fun j => by
    rw [← hw1]
    have := cell_alloc (w.alloc (Obj.cells A 33)) A2 33 (0, 0) j
    rw [World.size_alloc] at this
    exact this.trans (HA2.out j)
  have s1 : w1.heap.size = w.heap.size + 2 := by rw [← hw1]; simp
  have BE : Hid (Below w.heap.size w w1) := b1
  have HL : Hid (∀ W, Below w1.heap.size w1 W → LAt L dv nv mv (fun j => W.cell? ⟨w.heap.size, j, none⟩) ∧ LAt L dv2 nv2 mv2 (fun j => W.cell? ⟨w.heap.size + 1, j, none⟩)) := fun W m =>
    ⟨lat_of HS.out.le (fun j => (m.cell (p := ⟨w.heap.size, j, none⟩) (show w.heap.size < w1.heap.size by omega)).trans (c1 j)), lat_of HS.out.le (fun j => (m.cell (p := ⟨w.heap.size + 1, j, none⟩) (show w.heap.size + 1 < w1.heap.size by omega)).trans (c2 j))⟩
  have HV1 : Hid (∀ W, Below w1.heap.size w1 W → (YS W dv L.ds ∧ NS W nv L.fn ∧ NS W mv L.sn) ∧ (YS W dv2 L.ds ∧ NS W nv2 L.fn ∧ NS W mv2 L.sn)) := fun W m => by
    have mm := b1.trans (m.mono b1.size)
    exact ⟨⟨HV0.out.1.below' mm, HV0.out.2.1.below mm, HV0.out.2.2.below mm⟩, ⟨HU0.out.1.below' mm, HU0.out.2.1.below mm, HU0.out.2.2.below mm⟩⟩
  obtain ⟨h, hh⟩ : ∃ h, w.heap.size = h := ⟨_, rfl⟩
  have HH : Hid (w.heap.size = h) := hh
  rw [hh] at HL ⊢
  clear b1 c1 c2 s1 hw1 hh
  have l1 := (HL.out w1 (Below.refl _ _)).1
  have l2 := (HL.out w1 (Below.refl _ _)).2
  have a1 := l1.ac
  have a2 := l2.ac
  have v1 := l1.ve
  have v2 := l2.ve
  have d1 := l1.dv
  have d2 := l2.dv
  have R1 : Hid (w1.rangeAt h 0 L.R.cells ∧ w1.rangeAt (h + 1) 0 L.R.cells) := ⟨lc_root l1, lc_root l2⟩
  clear l1 l2
  go_wp2_with (first
    | (refine load_g rfl 26 (.tmp 5) rfl h 0 rfl L.R.cells _ R1.out.1 Try.underlying26 rfl (by rw [Rt.size HS.out.R]; exact root_size) ?_)
    | (refine load_g rfl 26 (.tmp 7) rfl (h + 1) 0 rfl L.R.cells _ R1.out.2 Try.underlying26 rfl (by rw [Rt.size HS.out.R]; exact root_size) ?_)
    | (refine wp_eq_run 26 _ (.tmp 6) (.tmp 8) rfl rfl (.agg L.R.cells.toArray) (.agg L.R.cells.toArray) (.bool true) rfl rfl (eqg_root _ _ _ _ _ _) (eql_root HS.out.R _) ?_))
  refine (sameHashes_any L.ds HS.out.ds (by have := HS.out.dl; omega) dv dv2 w1 (HV1.out w1 (Below.refl _ _)).1.1 (HV1.out w1 (Below.refl _ _)).2.1).mono ?_
  rintro e w2 ⟨rfl, g2⟩
  have B2 : Hid (Below w1.heap.size w1 w2) := g2
  have R2 : Hid (w2.rangeAt h 166 (oc L.fp nv) ∧ w2.rangeAt (h + 1) 166 (oc L.fp nv2)) := ⟨(lat_fp HS.out.le (HL.out w2 g2).1).1, (lat_fp HS.out.le (HL.out w2 g2).2).1⟩
  have L80 : Hid (∀ (p : List Int) (v : Value), p.length = 80 → (Try.prog.info? 31).map (·.size) = some (oc p v).length) := fun p v hp => by rw [oc_length hp]; exact opn_size
  clear g2 a1 a2 v1 v2 d1 d2
  go_wp2_with (first
    | (refine load_g rfl 31 (.tmp 32) rfl h 166 rfl (oc L.fp nv) _ R2.out.1 Try.underlying31 rfl (L80.out _ _ HS.out.fp.1) ?_)
    | (refine load_g rfl 31 (.tmp 34) rfl (h + 1) 166 rfl (oc L.fp nv2) _ R2.out.2 Try.underlying31 rfl (L80.out _ _ HS.out.fp.1) ?_))
  refine (rsameOpening_any L.fp HS.out.fp.1 L.fn HS.out.fn (by have := HS.out.fl; omega) nv nv2 w2 (HV1.out w2 B2.out).1.2.1 (HV1.out w2 B2.out).2.2.1).mono ?_
  rintro e w3 ⟨rfl, g3⟩
  have B3 : Hid (Below w1.heap.size w1 w3) := B2.out.trans (g3.mono B2.out.size)
  have R3 : Hid (w3.rangeAt h 247 (oc L.sp mv) ∧ w3.rangeAt (h + 1) 247 (oc L.sp mv2)) := ⟨(lat_fp HS.out.le (HL.out w3 B3.out).1).2, (lat_fp HS.out.le (HL.out w3 B3.out).2).2⟩
  clear g3 R2
  go_wp2_with (first
    | (refine load_g rfl 31 (.tmp 39) rfl h 247 rfl (oc L.sp mv) _ R3.out.1 Try.underlying31 rfl (L80.out _ _ HS.out.sp.1) ?_)
    | (refine load_g rfl 31 (.tmp 41) rfl (h + 1) 247 rfl (oc L.sp mv2) _ R3.out.2 Try.underlying31 rfl (L80.out _ _ HS.out.sp.1) ?_))
  refine (rsameOpening_any L.sp HS.out.sp.1 L.sn HS.out.sn (by have := HS.out.sl; omega) mv mv2 w3 (HV1.out w3 B3.out).1.2.2 (HV1.out w3 B3.out).2.2.2).mono ?_
  rintro e w4 ⟨rfl, g4⟩
  have B4 : Hid (Below w.heap.size w w4) := BE.out.trans ((B3.out.trans (g4.mono B3.out.size)).mono BE.out.size)
  clear g4
  go_wp2_with fail
  go_ret
  exact ⟨rfl, B4.out⟩
theorem list16 {l : List Int} (h : l.length = 16) : ∃ a0 a1 a2 a3 a4 a5 a6 a7 a8 a9 a10 a11 a12 a13 a14 a15, l = [a0, a1, a2, a3, a4, a5, a6, a7, a8, a9, a10, a11, a12, a13, a14, a15] := by
  match l, h with
  | [a0, a1, a2, a3, a4, a5, a6, a7, a8, a9, a10, a11, a12, a13, a14, a15], _ => exact ⟨a0, a1, a2, a3, a4, a5, a6, a7, a8, a9, a10, a11, a12, a13, a14, a15, rfl⟩
theorem list80 {l : List Int} (h : l.length = 80) : ∃ a b c : List Int, a.length = 32 ∧ b.length = 32 ∧ c.length = 16 ∧ l = a ++ (b ++ c) := ⟨l.take 32, (l.drop 32).take 32, (l.drop 32).drop 32, by simp [h], by simp [h], by simp [h], by rw [List.take_append_drop, List.take_append_drop]⟩
theorem built_opn {p : List Int} (hp : p.length = 80) (a : Option Addr) (l c : Nat) : Try.prog.built 31 [(0, .agg (bv p).toArray), (1, .slice a l c)] = some (oc p (.slice a l c)).toArray := by
  obtain ⟨xa, xb, xc, h1, h2, h3, rfl⟩ := list80 hp
  obtain ⟨p0, p1, p2, p3, p4, p5, p6, p7, p8, p9, p10, p11, p12, p13, p14, p15, p16, p17, p18, p19, p20, p21, p22, p23, p24, p25, p26, p27, p28, p29, p30, p31, rfl⟩ := list32 h1
  obtain ⟨q0, q1, q2, q3, q4, q5, q6, q7, q8, q9, q10, q11, q12, q13, q14, q15, q16, q17, q18, q19, q20, q21, q22, q23, q24, q25, q26, q27, q28, q29, q30, q31, rfl⟩ := list32 h2
  obtain ⟨r0, r1, r2, r3, r4, r5, r6, r7, r8, r9, r10, r11, r12, r13, r14, r15, rfl⟩ := list16 h3
  kernel_rfl
theorem build_opn {p : List Int} (hp : p.length = 80) (a : Option Addr) (l c : Nat) (w : World) : (Instr.build 31 #[(0, .agg (bv p).toArray), (1, .slice a l c)]).run Try.prog w = .ok (.agg (oc p (.slice a l c)).toArray) w := run_build w _ _ _ (built_opn hp a l c)
def z80 : List Int := List.replicate 80 0
def z81 : List Value := oc z80 (.slice none 0 0)
theorem z81_length : z81.length = 81 := by kernel_rfl
theorem z81_one : z81.toArray.all (·.oneCell') = true := by kernel_rfl
theorem zero_opn (w : World) : (zeroValue 31).run Try.prog w = .ok (.agg z81.toArray) w := by kernel_rfl
theorem build_z81 (w : World) : (Instr.build 31 #[]).run Try.prog w = .ok (.agg z81.toArray) w := run_build w _ _ _ (by kernel_rfl)
theorem arr80 (b o c : Nat) (W : World) : (Instr.arrayAt 28 (.slice (some ⟨b, o, none⟩) 80 c)).run Try.prog W = .ok (.pointer (some ⟨b, o, none⟩)) W := by kernel_rfl
theorem oc_one (p : List Int) (a : Option Addr) (l c : Nat) : (oc p (.slice a l c)).toArray.all (·.oneCell') = true := all_oneCell_toArray (fun u hu => by
  unfold oc at hu
  rcases List.mem_append.1 hu with hu | hu
  · exact bv_one _ u hu
  · simp at hu; subst hu; rfl)
theorem wp_build2o {P : Program} {ops : Array Oper} {rest : List Oper} {o : Oper} {a : Act} {w : World} {Q : Exit → Act → World → Prop} (t : TypeId) (x0 x1 : Operand) (ho : o.op = .build t #[(0, x0), (1, x1)]) (hgd : o.guard = none) (v0 v1 : Value) (h0 : a.eval x0 = v0) (h1 : a.eval x1 = v1) (cells : Array Value)
    (hr : (Instr.build t #[(0, v0), (1, v1)]).run P w = .ok (.agg cells) w) (h : wpList P ops Q rest (a.put o.dst (.agg cells)) w) : wpList P ops Q (o :: rest) a w := by
  refine wpList_plain hgd fun K hK => ?_
  unfold Oper.wp execOp
  simp only [ho, Sem.run_bind, List.map_toArray, List.map_cons, List.map_nil, h0, h1, hr, Result.andThen_ok, Sem.run_pure]
  exact hK _ _ h
def oOk (ps xs : List Int) : Bool := rnb xs && decide (ps.length = 80)
def oP (ps xs : List Int) : List Int := match oOk ps xs with | true => ps | false => z80
def oN (ps xs : List Int) : List Nd := match oOk ps xs with | true => rdn xs | false => []
theorem o_yes {ps xs : List Int} (h : oOk ps xs = true) : oP ps xs = ps ∧ oN ps xs = rdn xs := by unfold oP oN; rw [h]; exact ⟨rfl, rfl⟩
theorem o_no {ps xs : List Int} (h : oOk ps xs = false) : oP ps xs = z80 ∧ oN ps xs = [] := by unfold oP oN; rw [h]; exact ⟨rfl, rfl⟩
theorem NO.setcO {B C b : Nat} {w : World} {v : Value} {l : List Nd} {A : List Value} (h : NO B w v l) (hb : b < B) (hC : C ≤ B) : NO C (w.setCells b 0 A) v l := by
  refine ⟨row_mono (h.1.kept (w' := w.setCells b 0 A) (row := some b) ⟨(below_setCells (B := 0) (Nat.zero_le _) A 0 (Below.refl 0 w)).os, (below_setCells (B := 0) (Nat.zero_le _) A 0 (Below.refl 0 w)).tape, (below_setCells (B := 0) (Nat.zero_le _) A 0 (Below.refl 0 w)).output, Nat.le_of_eq (size_setCells b A 0 w).symm, fun j _ hj => setc_other (fun e => hj (by rw [e]))⟩ ?_) hC, h.2.1, by rw [size_setCells]; exact Nat.le_trans hC h.2.2⟩
  rcases h.1.2 with ⟨rfl, _⟩ | ⟨g, c, cur, rfl, hg, _⟩
  · exact .inl rfl
  · exact .inr (fun e => Nat.lt_irrefl _ (Nat.lt_of_lt_of_le hb (by have e9 : g = b := (by simpa [Value.ownBlock] using e); rw [← e9]; exact hg)))
set_option maxHeartbeats 8000000 in
theorem readOpening_any (ps xs : List Int) (v u : Value) (w : World) (hb : Byt xs) (hp : Sl w v ps) (hs : Sl w u xs) (hl : xs.length ≤ 1048576) (hlp : ps.length ≤ 1048576) :
    Calls Try.prog 32 #[v, u] w fun e w' => ∃ a l c, e = .returned (.tuple #[.agg (oc (oP ps xs) (.slice a l c)).toArray, .bool (oOk ps xs)]) ∧ NO w.heap.size w' (.slice a l c) (oN ps xs) ∧ Below w.heap.size w w' := by
  have HP : Hid (Sl w v ps) := hp
  have HS : Hid (Sl w u xs) := hs
  have HB : Hid (Byt xs ∧ xs.length ≤ 1048576) := ⟨hb, hl⟩
  clear hb hs hp
  have hz := zero_opn
  go_enter Try.func32, Try.ntmps32
  go_wp2_with fail
  generalize hW : w.alloc _ = w0
  have H0 : Hid (Hd w w0 81) := by rw [← hW]; exact Hd.new w z81_length
  clear hW
  refine (readNodes_any xs u w0 HB.out.1 (HS.out.below H0.out.bel (Nat.le_refl _)) HB.out.2).mono ?_
  rintro e w1 ⟨nv, rfl, g1, g2⟩
  have H1 : Hid (Hd w w1 81) := H0.out.step g2
  have N1 : Hid (NO (w.heap.size + 1) w1 nv (rdn xs)) := g1.mono H0.out.size
  have P1 : Hid (Sl w1 v ps) := (HP.out.below H0.out.bel (Nat.le_refl _)).below g2 (Nat.le_refl _)
  obtain ⟨a1, n1, c1, rfl⟩ := NS.sl g1.ns
  clear g1 g2
  obtain ⟨b1, hb1⟩ : ∃ b, rnb xs = b := ⟨_, rfl⟩
  have HB1 : Hid (rnb xs = b1) := hb1
  rw [hb1]
  clear hb1
  obtain ⟨pa, pc, rfl, hpc, hpx⟩ := P1.out
  have HPX : Hid ((ps = [] ∧ (pa = none → pc = 0)) ∨ ∃ b o, pa = some ⟨b, o, none⟩ ∧ b < w1.heap.size ∧ ∀ i, i < ps.length → w1.cell? ⟨b, o + i, none⟩ = some (.int .u8 (gi ps i))) := hpx
  obtain ⟨N, hN⟩ : ∃ N, ps.length = N := ⟨_, rfl⟩
  have HN : Hid (ps.length = N) := hN
  rw [hN] at hpc hlp ⊢
  clear hpx hN
  cases b1 with
  | false =>
    have hno : oOk ps xs = false := by unfold oOk; rw [HB1.out]; rfl
    have E0 : Hid (oP ps xs = z80 ∧ oN ps xs = [] ∧ oOk ps xs = false) := ⟨(o_no hno).1, (o_no hno).2, hno⟩
    clear hno
    go_wp2_with (first
      | (refine wp_build0s 31 rfl rfl z81.toArray (build_z81 w1) ?_)
      | (refine wpList_store_mid rfl 31 _ _ rfl w.heap.size 0 z81.toArray rfl rfl (there_of H1.out.there z81_length) (size_opn z81_length) z81_one ?_))
    refine bodyPost_ret (v := .tuple #[.agg z81.toArray, .bool false]) ?_ rfl ⟨none, 0, 0, by rw [E0.out.1, E0.out.2.2]; rfl, by rw [E0.out.2.1]; exact NO.nil' (H1.out.put z81_length).1.size, (H1.out.put z81_length).1⟩
    have q := (H1.out.put z81_length).2
    simp only [results, Try.results32]
    simp [asAddr, run_loadVar_mid _ w.heap.size 0 31 z81 _ q Try.underlying31 rfl (by rw [z81_length]; exact opn_size)]
  | true =>
    by_cases h8 : N = 80
    · subst h8
      have hyes : oOk ps xs = true := by unfold oOk; rw [HB1.out, HN.out]; rfl
      have E0 : Hid (oP ps xs = ps ∧ oN ps xs = rdn xs ∧ oOk ps xs = true) := ⟨(o_yes hyes).1, (o_yes hyes).2, hyes⟩
      obtain ⟨b, o, rfl, hlb, hcl⟩ : ∃ b o, pa = some ⟨b, o, none⟩ ∧ b < w1.heap.size ∧ ∀ i, i < ps.length → w1.cell? ⟨b, o + i, none⟩ = some (.int .u8 (gi ps i)) := by
        rcases HPX.out with ⟨h0, _⟩ | h
        · have := HN.out; rw [h0] at this; cases this
        · exact h
      have RP : Hid (w1.rangeAt b o (bv ps)) := fun j q hq => by
        have hj : j < ps.length := by have := (List.getElem?_eq_some_iff.1 hq).1; rwa [bv_length] at this
        rw [hcl j hj, ← bv_get ps hj]; exact hq
      have hat := arr80 b o pc
      clear hcl hyes
      go_wp2_with (first
        | (refine wpList_load_mid rfl 28 _ rfl b o rfl (bv ps) _ RP.out Try.underlying28 rfl (by rw [bv_length, HN.out]; exact size80) ?_)
        | (refine wp_build2o 31 _ _ rfl rfl (.agg (bv ps).toArray) (.slice a1 n1 c1) rfl rfl _ (build_opn HN.out a1 n1 c1 w1) ?_)
        | (refine wpList_store_mid rfl 31 _ _ rfl w.heap.size 0 (oc ps (.slice a1 n1 c1)).toArray rfl rfl (there_of H1.out.there (oc_length HN.out _)) (size_opn (oc_length HN.out _)) (oc_one _ _ _ _) ?_))
      refine bodyPost_ret (v := .tuple #[.agg (oc ps (.slice a1 n1 c1)).toArray, .bool true]) ?_ rfl ⟨a1, n1, c1, by rw [E0.out.1, E0.out.2.2], by rw [E0.out.2.1]; exact NO.setcO N1.out (by omega) (by omega), (H1.out.put (oc_length HN.out _)).1⟩
      have q := (H1.out.put (A := oc ps (.slice a1 n1 c1)) (oc_length HN.out _)).2
      simp only [results, Try.results32]
      simp [asAddr, run_loadVar_mid _ w.heap.size 0 31 (oc ps (.slice a1 n1 c1)) _ q Try.underlying31 rfl (by rw [oc_length HN.out]; exact opn_size)]
    · have hno : oOk ps xs = false := by unfold oOk; rw [decide_eq_false (by rw [HN.out]; exact h8), Bool.and_false]
      have h9 : ¬ (N : Int) = 80 := by omega
      have E0 : Hid (oP ps xs = z80 ∧ oN ps xs = [] ∧ oOk ps xs = false) := ⟨(o_no hno).1, (o_no hno).2, hno⟩
      clear hno
      go_wp2_with (first
        | (refine wp_build0s 31 rfl rfl z81.toArray (build_z81 w1) ?_)
        | (refine wpList_store_mid rfl 31 _ _ rfl w.heap.size 0 z81.toArray rfl rfl (there_of H1.out.there z81_length) (size_opn z81_length) z81_one ?_))
      refine bodyPost_ret (v := .tuple #[.agg z81.toArray, .bool false]) ?_ rfl ⟨none, 0, 0, by rw [E0.out.1, E0.out.2.2]; rfl, by rw [E0.out.2.1]; exact NO.nil' (H1.out.put z81_length).1.size, (H1.out.put z81_length).1⟩
      have q := (H1.out.put z81_length).2
      simp only [results, Try.results32]
      simp [asAddr, run_loadVar_mid _ w.heap.size 0 31 z81 _ q Try.underlying31 rfl (by rw [z81_length]; exact opn_size)]
end Go.Proofs.Ytfnmdeekenjlgaa
