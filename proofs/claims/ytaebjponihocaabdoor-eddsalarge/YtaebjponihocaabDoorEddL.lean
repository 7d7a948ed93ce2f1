/- EddsaLarge: its loop adds L to the second half. -/
import Derived.Test.YtaebjponihocaabDoorEddK
namespace Go.Proofs.YtaebjponihocaabDoor.Edd
open Go Go.RowKit Shf
set_option linter.unusedSimpArgs false
set_option linter.unusedVariables false
def XT (F : Fs) (v : Sv) (y : List Value) (d : List (Nat × Bool)) : Cx := (XL F v y).terms.tell d
theorem XT_gl (F : Fs) (v : Sv) (y : List Value) (d : List (Nat × Bool)) : (XT F v y d).gl = glA := rfl
theorem XT_ok {F : Fs} {v : Sv} {y : List Value} (h : OkH (XL F v y) Tryd.prog (msgH v y)) (d : List (Nat × Bool)) : OkH (XT F v y d) Tryd.prog (msgH v y) := OkH.tell (OkH.terms h) d
def lgP (c : Code) : List Code := [cL c, cL (cR c), cL (cR (cR c)), cL (cR (cR (cR c))), cL (cR (cR (cR (cR c))))]
def lgQ (c : Code) : List Code := [cL (cL (cR (cR (cR (cR (cR c))))))]
def lgB (c : Code) : Code := cL (cL (cR (cL (cR (cR (cR (cR (cR c))))))))
def lgE (c : Code) : Code := cR (cR (cR (cR (cR (cR c)))))
theorem lg_code : bodyOf Tryd.f4 = seqs (lgP (bodyOf Tryd.f4)) (.seq (seqs (lgQ (bodyOf Tryd.f4)) (.block 0 (.loop (lgB (bodyOf Tryd.f4))))) (lgE (bodyOf Tryd.f4))) := by kernel_rfl
def lg0 (fn : Func) (v : Sv) (s : Nat) : Act × Mem := (sinit fn [bv s, raw v.val], MA)
def lgM (s : Nat) (q : List Value) : Mem := MA ++ [some ⟨bl s, 22⟩, some ⟨q, 28⟩, some ⟨bl Sc.LN, 22⟩]
def lghd (v : Sv) (s : Nat) (q : List Value) (c i : Int) : Act × Mem :=
  (⟨#[poison, raw v.val, ptr nA, poison, poison, ptr (nA + 1), ptr (nA + 2), .int .i64 c, poison, poison, poison, poison, poison, poison, poison, poison, .int .i64 i] ++ Array.replicate 28 poison, []⟩, lgM s q)
def lgF : List Nat := [0, 3, 4, 8, 9, 10, 11, 12, 13, 14, 15] ++ (List.range 28).map (· + 17)
def lgK (s : Act × Mem) : Act × Mem := (forgetL s.1 lgF, s.2)
def lgS1 (P : Program) (F : Fs) (fn : Func) (v : Sv) (y : List Value) (s : Nat) : Act × Mem := runL P (XL F v y) 60 (lgP (bodyOf fn)) (lg0 fn v s)
theorem lg_1 (F : Fs) (v : Sv) (y : List Value) (s : Nat) : sexecL Tryd.prog (XL F v y) 60 (lgP (bodyOf Tryd.f4)) [] (lg0 Tryd.f4 v s) = some ([IsB (bv s), pM v], lgS1 Tryd.prog F Tryd.f4 v y s) := by kernel_rfl
def lgS2 (P : Program) (F : Fs) (fn : Func) (v : Sv) (y : List Value) (s : Nat) : Act × Mem := runL P (XL F v y) 60 (lgQ (bodyOf fn)) (lgS1 P F fn v y s)
theorem lg_2 (F : Fs) (v : Sv) (y : List Value) (s : Nat) : sexecL Tryd.prog (XL F v y) 60 (lgQ (bodyOf Tryd.f4)) [] (lgS1 Tryd.prog F Tryd.f4 v y s) = some ([], lgS2 Tryd.prog F Tryd.f4 v y s) := by kernel_rfl
theorem lg_k (F : Fs) (v : Sv) (y : List Value) (s : Nat) : lgK (lgS2 Tryd.prog F Tryd.f4 v y s) = lghd v s (bl (gC F (bnum (bv s)) y) ++ bl (gS F (bnum (bv s)) y)) 0 0 := by kernel_rfl
/-- One round. -/
def w32i (i : Int) : Int := IntKind.i64.wrap (32 + i)
def nI (q : List Value) (c i : Int) : Int := IntKind.i64.wrap (IntKind.i64.wrap (IntKind.i64.wrap (intL q (at0 (w32i i))) + IntKind.i64.wrap (intL (bl Sc.LN) (at0 i))) + c)
def lgT (q : List Value) (i : Int) : List Prop := [decide (i < 32) = true, 0 ≤ w32i i ∧ w32i i < ((64 : Nat) : Int), q[at0 (w32i i)]? = some (.int .u8 (intL q (at0 (w32i i)))), 0 ≤ i ∧ i < ((32 : Nat) : Int), (bl Sc.LN)[at0 i]? = some (.int .u8 (intL (bl Sc.LN) (at0 i))), 0 ≤ w32i i ∧ w32i i < ((64 : Nat) : Int), 1 = 1 ∧ at0 (w32i i) + 1 ≤ q.length, (0 : Int) ≤ 8]
theorem lg_r (F : Fs) (v : Sv) (y : List Value) (s : Nat) (q : List Value) (c i : Int) : proj lgK (sexec Tryd.prog (XT F v y [(17, true), (999999, true)]) 40 (lgB (bodyOf Tryd.f4)) [] (lghd v s q c i)) = some (lgT q i, lghd v s (putL q (at0 (w32i i)) [.int .u8 (IntKind.u8.wrap (nI q c i))]) (Int.fdiv (nI q c i) (2 ^ 8)) (IntKind.i64.wrap (i + 1))) := by kernel_rfl
/-- The end. -/
def lgX (P : Program) (F : Fs) (fn : Func) (v : Sv) (y : List Value) (s : Nat) (q : List Value) (c : Int) : Act × Mem := runS P (XL F v y) 40 (lgB (bodyOf fn)) (lghd v s q c 32)
theorem lg_x (F : Fs) (v : Sv) (y : List Value) (s : Nat) (q : List Value) (c : Int) : sexec Tryd.prog (XL F v y) 40 (lgB (bodyOf Tryd.f4)) [] (lghd v s q c 32) = some ([], .exit 0, lgX Tryd.prog F Tryd.f4 v y s q c) := by kernel_rfl
def lgZ (P : Program) (F : Fs) (fn : Func) (v : Sv) (y : List Value) (s R T : Nat) (c : Int) : Act × Mem := runS P (XL F v y) 60 (lgE (bodyOf fn)) (lgX P F fn v y s (bl R ++ bl T) c)
theorem lg_z (F : Fs) (v : Sv) (y : List Value) (s R T : Nat) (c : Int) : sexec Tryd.prog (XL F v y) 60 (lgE (bodyOf Tryd.f4)) [] (lgX Tryd.prog F Tryd.f4 v y s (bl R ++ bl T) c) = some ([IsB (bv s), IsB (bv (acK F s)), pM v, IsSg (sgv R T)], .ret, lgZ Tryd.prog F Tryd.f4 v y s R T c) := by kernel_rfl
theorem lg_zr (F : Fs) (v : Sv) (y : List Value) (s R T : Nat) (c : Int) : sres Tryd.prog Tryd.f4 (lgZ Tryd.prog F Tryd.f4 v y s R T c) = some (.bool (verN F (bnum (bv (acK F s))) (sg1N (sgv R T)) (sg2N (sgv R T)) y == 2)) := by kernel_rfl
theorem lg_zd (F : Fs) (v : Sv) (y : List Value) (s R T : Nat) (c : Int) : (lgZ Tryd.prog F Tryd.f4 v y s R T c).1.defers = [] := by kernel_rfl
theorem lg_zm (F : Fs) (v : Sv) (y : List Value) (s R T : Nat) (c : Int) : (lgZ Tryd.prog F Tryd.f4 v y s R T c).2 = MA ++ (lgZ Tryd.prog F Tryd.f4 v y s R T c).2.drop nA := by kernel_rfl
def rowI (S T i : Nat) : List Value := (bl T).take i ++ (bl S).drop i
def cI (S T i : Nat) : Nat := (S % 256 ^ i + T % 256 ^ i) / 256 ^ i
theorem bl_get (n : Nat) {i : Nat} (h : i < 32) : (bl n)[i]? = some (.int .u8 (by8 n i)) := by
  unfold bl; rw [List.getElem?_map, List.getElem?_range h]; rfl
theorem take_bl_len (n : Nat) {i : Nat} (h : i ≤ 32) : ((bl n).take i).length = i := by rw [List.length_take, bl_len]; omega
theorem rowI_len (S T i : Nat) (h : i ≤ 32) : (rowI S T i).length = 32 := by unfold rowI; rw [List.length_append, take_bl_len T h, List.length_drop, bl_len]; omega
theorem rowI_get (S T : Nat) {i : Nat} (h : i < 32) : (rowI S T i)[i]? = some (.int .u8 (by8 S i)) := by
  unfold rowI
  rw [List.getElem?_append_right (by rw [take_bl_len T (by omega)]; exact Nat.le_refl _), take_bl_len T (by omega), Nat.sub_self, List.getElem?_drop, Nat.add_zero, bl_get S h]
theorem row_put (R S T : Nat) {i : Nat} (h : i < 32) : putL (bl R ++ rowI S T i) (32 + i) [.int .u8 (by8 T i)] = bl R ++ rowI S T (i + 1) := by
  unfold putL
  have e1 : (bl R ++ rowI S T i).take (32 + i) = bl R ++ (bl T).take i := by
    rw [List.take_append, bl_len, List.take_of_length_le (by rw [bl_len]; omega), show 32 + i - 32 = i by omega]
    unfold rowI
    rw [List.take_left' (take_bl_len T (by omega))]
  have e2 : (bl R ++ rowI S T i).drop (32 + i + 1) = (bl S).drop (i + 1) := by
    rw [List.drop_append, bl_len, List.drop_eq_nil_of_le (by rw [bl_len]; omega), List.nil_append, show 32 + i + 1 - 32 = i + 1 by omega]
    unfold rowI
    rw [List.drop_append, take_bl_len T (by omega), List.drop_eq_nil_of_le (by rw [take_bl_len T (by omega)]; omega), List.nil_append, List.drop_drop, show i + (i + 1 - i) = i + 1 by omega]
  rw [List.length_singleton, e1, e2]
  unfold rowI
  rw [List.take_add_one, bl_get T h]
  simp
theorem carry (S T i : Nat) : (S + T) / 256 ^ i % 256 = (S / 256 ^ i % 256 + T / 256 ^ i % 256 + cI S T i) % 256 ∧ cI S T (i + 1) = (S / 256 ^ i % 256 + T / 256 ^ i % 256 + cI S T i) / 256 := by
  unfold cI
  have hB : 0 < 256 ^ i := Nat.pow_pos (by decide)
  rw [Nat.pow_succ]
  generalize 256 ^ i = B at *
  have hS := Nat.div_add_mod S B
  have hT := Nat.div_add_mod T B
  constructor
  · have e : (S + T) / B = S / B + T / B + (S % B + T % B) / B := by
      have : S + T = (S % B + T % B) + B * (S / B + T / B) := by rw [Nat.mul_add]; omega
      rw [this, Nat.add_mul_div_left _ _ hB]; omega
    rw [e]; omega
  · rw [Nat.mod_mul, Nat.mod_mul, ← Nat.div_div_eq_div_mul]
    have : S % B + B * (S / B % 256) + (T % B + B * (T / B % 256)) = (S % B + T % B) + B * (S / B % 256 + T / B % 256) := by rw [Nat.mul_add]; omega
    rw [this, Nat.add_mul_div_left _ _ hB]
    congr 1; omega
theorem cI_lt (S T i : Nat) : cI S T i < 2 := by
  unfold cI
  have hB : 0 < 256 ^ i := Nat.pow_pos (by decide)
  have h1 := Nat.mod_lt S hB
  have h2 := Nat.mod_lt T hB
  rw [Nat.div_lt_iff_lt_mul hB]; omega
theorem lg_step {F : Fs} {v : Sv} {y : List Value} (hX : OkH (XL F v y) Tryd.prog (msgH v y)) (s R S : Nat) (i : Nat) (hi : i < 32) (Q : Exit → Act × Mem → Prop) {t : Act × Mem} (hin : Into (msgH v y) Tryd.prog glA (lghd v s (bl R ++ rowI S (S + Sc.LN) i) (cI S Sc.LN i : Int) (i : Int)) t) :
    SWn (msgH v y) Tryd.prog glA (lgB (bodyOf Tryd.f4)) t (thenS (fun t' => Into (msgH v y) Tryd.prog glA (lghd v s (bl R ++ rowI S (S + Sc.LN) (i + 1)) (cI S Sc.LN (i + 1) : Int) ((i + 1 : Nat) : Int)) t') Q) := by
  refine hin _ _ ?_
  have hw : w32i (i : Int) = ((32 + i : Nat) : Int) := by unfold w32i; rw [wrap_i64 (by omega) (by omega)]; omega
  have ha : at0 (w32i (i : Int)) = 32 + i := by rw [hw, at0_nat]
  have hql : (bl R ++ rowI S (S + Sc.LN) i).length = 64 := by rw [List.length_append, bl_len, rowI_len _ _ _ (by omega)]
  have hqi : (bl R ++ rowI S (S + Sc.LN) i)[32 + i]? = some (.int .u8 (by8 S i)) := by
    rw [List.getElem?_append_right (by rw [bl_len]; omega), bl_len, show 32 + i - 32 = i by omega, rowI_get S _ hi]
  have hqv : intL (bl R ++ rowI S (S + Sc.LN) i) (32 + i) = by8 S i := by unfold intL; rw [hqi]
  have hli := bl_get Sc.LN hi
  have hlv : intL (bl Sc.LN) i = by8 Sc.LN i := by unfold intL; rw [hli]
  obtain ⟨c1, c2⟩ := carry S Sc.LN i
  have c3 := cI_lt S Sc.LN i
  have hn : nI (bl R ++ rowI S (S + Sc.LN) i) (cI S Sc.LN i : Int) (i : Int) = ((S / 256 ^ i % 256 + Sc.LN / 256 ^ i % 256 + cI S Sc.LN i : Nat) : Int) := by
    unfold nI
    rw [ha, at0_nat, hqv, hlv]
    unfold by8
    have a1 : S / 256 ^ i % 256 < 256 := Nat.mod_lt _ (by decide)
    have a2 : Sc.LN / 256 ^ i % 256 < 256 := Nat.mod_lt _ (by decide)
    generalize S / 256 ^ i % 256 = x at *
    generalize Sc.LN / 256 ^ i % 256 = z at *
    generalize cI S Sc.LN i = c at *
    rw [wrap_i64 (i := (x : Int)) (by omega) (by omega), wrap_i64 (i := (z : Int)) (by omega) (by omega), wrap_i64 (i := (x : Int) + (z : Int)) (by omega) (by omega), wrap_i64 (by omega) (by omega)]
    omega
  obtain ⟨u, hu, he⟩ := proj_some (lg_r F v y s (bl R ++ rowI S (S + Sc.LN) i) (cI S Sc.LN i : Int) (i : Int))
  refine SWn.runH (XT_ok hX _) mixed (XT_gl F v y _) 40 hu (fun p hp => ?_) (thenS_norm (forget_into lgF ?_))
  · unfold lgT at hp
    rw [ha, at0_nat, hw, hql, hqv, hlv] at hp
    simp only [List.mem_cons, List.not_mem_nil, or_false] at hp
    rcases hp with rfl | rfl | rfl | rfl | rfl | rfl | rfl | rfl
    · exact decide_eq_true (by omega)
    · omega
    · exact hqi
    · omega
    · exact hli
    · omega
    · exact ⟨by trivial, by omega⟩
    · omega
  · refine Eq.trans he ?_
    rw [ha, hn, wrap_i64 (by omega) (by omega)]
    have e1 : IntKind.u8.wrap ((S / 256 ^ i % 256 + Sc.LN / 256 ^ i % 256 + cI S Sc.LN i : Nat) : Int) = by8 (S + Sc.LN) i := by
      unfold by8
      rw [c1, IntKind.wrap_u8]
      generalize S / 256 ^ i % 256 + Sc.LN / 256 ^ i % 256 + cI S Sc.LN i = x
      omega
    have e2 : Int.fdiv ((S / 256 ^ i % 256 + Sc.LN / 256 ^ i % 256 + cI S Sc.LN i : Nat) : Int) (2 ^ 8) = (cI S Sc.LN (i + 1) : Int) := by
      rw [c2, Int.fdiv_eq_ediv_of_nonneg _ (by decide)]
      generalize S / 256 ^ i % 256 + Sc.LN / 256 ^ i % 256 + cI S Sc.LN i = x
      omega
    rw [e1, e2, row_put R S (S + Sc.LN) hi]
    rfl
theorem rowI_0 (S T : Nat) : rowI S T 0 = bl S := by unfold rowI; simp
theorem rowI_32 (S T : Nat) : rowI S T 32 = bl T := by
  unfold rowI
  rw [List.take_of_length_le (by rw [bl_len]; omega), List.drop_eq_nil_of_le (by rw [bl_len]; omega), List.append_nil]
theorem cI_0 (S T : Nat) : cI S T 0 = 0 := by unfold cI; simp [Nat.mod_one]
theorem lg_gen {F : Fs} {v : Sv} {y : List Value} (hX : OkH (XL F v y) Tryd.prog (msgH v y)) (hL : F.Lt) (h5 : F.can = fun a => decide (a < Sc.LN)) (h6 : F.mu = fun a b c => (a * b + c) % Sc.LN) (s : Nat) (hs : s < RN) (w : World) (hw : Glo MA w) (hm : WSrc v.val v.n y w) :
    Calls Tryd.prog 4 #[bv s, v.val] w fun e w' => e = .returned (.bool true) ∧ Below w.heap.size w w' := by
  have hgl' : ∀ g ∈ glA, glR MA g = some g := fun g hg => by
    have h1 : (getB MA g).isSome = true := List.all_eq_true.1 MA_in g hg
    obtain ⟨B, hB⟩ := Option.isSome_iff_exists.1 h1
    simp [glR, hB]
  have hSl : gS F s y < Sc.LN := by unfold gS; rw [h6]; exact Nat.mod_lt _ (by decide)
  have hRl : gC F s y < RN := hL.bas _
  have hTl : gS F s y + Sc.LN < RN := by
    have : Sc.LN + Sc.LN < RN := by decide
    omega
  obtain ⟨i1, i2, i3⟩ := isSg_sgv (R := gC F s y) (S := gS F s y + Sc.LN) hRl hTl
  have hb : SWn (msgH v y) Tryd.prog glA (bodyOf Tryd.f4) (sinit Tryd.f4 [bv s, raw v.val], MA) (FQ Tryd.f4 (.bool true)) := by
    rw [lg_code]
    refine SWn.preH hX mixed (XL_gl F v y) rfl (lg_1 F v y s) (fun p hp => ?_) (SWn.seq ?_)
    · simp only [List.mem_cons, List.not_mem_nil, or_false] at hp
      rcases hp with rfl | rfl
      · exact isB_bv _
      · exact pM_ok v
    refine SWn.preH hX mixed (XL_gl F v y) rfl (lg_2 F v y s) (by simp) (SWn.block ?_)
    have i0 : Into (msgH v y) Tryd.prog glA (lghd v s (bl (gC F s y) ++ rowI (gS F s y) (gS F s y + Sc.LN) 0) (cI (gS F s y) Sc.LN 0 : Int) ((0 : Nat) : Int)) (lgS2 Tryd.prog F Tryd.f4 v y s) := by
      have h := lg_k F v y s
      rw [bnum_bv' hs] at h
      rw [rowI_0, cI_0]
      exact forget_into lgF h
    refine SWn.loopK rfl (fun i t => Into (msgH v y) Tryd.prog glA (lghd v s (bl (gC F s y) ++ rowI (gS F s y) (gS F s y + Sc.LN) i) (cI (gS F s y) Sc.LN i : Int) (i : Int)) t) 0 32 i0 (by omega) (fun i t _ hi hin => lg_step hX s (gC F s y) (gS F s y) i hi _ hin) (fun t hin => ?_)
    rw [rowI_32] at hin
    refine hin _ _ (SWn.runH hX mixed (XL_gl F v y) 40 (lg_x F v y s _ _) (by simp) (thenS_exit (blockS_exit (thenS_norm ?_))))
    have eV : verN F (bnum (bv (acK F s))) (sg1N (sgv (gC F s y) (gS F s y + Sc.LN))) (sg2N (sgv (gC F s y) (gS F s y + Sc.LN))) y = 2 := by
      rw [i2, i3]
      unfold verN
      rw [if_pos]
      refine .inr (.inr ?_)
      rw [h5]
      exact decide_eq_false (by omega)
    refine SWn.runH hX mixed (XL_gl F v y) 60 (lg_z F v y s (gC F s y) (gS F s y + Sc.LN) _) (fun p hp => ?_) ⟨.inr rfl, lg_zd F v y s _ _ _, _, lg_zr F v y s _ _ _, .inl rfl, fun i B hB => by rw [lg_zm]; exact getMA hB, by rw [eV]; rfl⟩
    simp only [List.mem_cons, List.not_mem_nil, or_false] at hp
    rcases hp with rfl | rfl | rfl | rfl
    · exact isB_bv _
    · exact isB_bv _
    · exact pM_ok v
    · exact i1
  refine (calls_of_SWn (H := msgH v y) (gl := glA) (R := fun z => z = .bool true) Tryd.func4 (by kernel_rfl) hb (hw.rel MA_flat) ⟨rfl, hw, hm⟩ hgl' (trL_mk (tr_flat _ _ (flat_bv s)) (trL_mk rfl rfl))).mono ?_
  rintro e w' ⟨z, rfl, rfl, hbel⟩
  exact ⟨rfl, hbel⟩
theorem large_any {v : Sv} {y : List Value} (hy : MsgOK v y) (hn : y.length + 400 ≤ 140737488355328) (s : Nat) (hs : s < RN) (w : World) (hw : Glo MA w) (hm : WSrc v.val v.n y w) :
    Calls Tryd.prog 4 #[bv s, v.val] w fun e w' => e = .returned (.bool true) ∧ Below w.heap.size w w' :=
  lg_gen (XL_ok hy hn) R0_lt rfl rfl s hs w hw hm
end Go.Proofs.YtaebjponihocaabDoor.Edd
