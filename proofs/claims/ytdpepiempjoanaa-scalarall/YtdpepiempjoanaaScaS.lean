/- The reference: from, mod. -/
import Derived.Test.YtdpepiempjoanaaScaR
namespace Go.Proofs.Ytdpepiempjoanaa
open Go Go.RowKit
set_option linter.unusedSimpArgs false
set_option linter.unusedVariables false
/-- The run of a function in a memory that it leaves as it is. -/
theorem sfunM_calls {P : Program} {X : Cx} (hX : X.Ok P) (hm : P.follows .mixedOrders = true) {n : Nat} {f : FuncId} {fn : Func} {c : Code} (hf : P.funcs[f]? = some fn) (hb : fn.body = some c) {args : List Value} {m x : Mem} {ps : List Prop} {s : Act × Mem} {v : Value}
    (h : sexec P X n c [] (sinit fn args, m) = some (ps, .ret, s)) (hp : ∀ p ∈ ps, p) (hd : s.1.defers = []) (hr : sres P fn s = some v) (hv : flat v = true ∨ v = undef) (hx : s.2 = m ++ x) {r : Ren} {w : World} {args' : List Value} (hR : Rel r m w) (ha : trL (tr r) args = some args') :
    Calls P f args'.toArray w fun e w' => e = .returned v ∧ Below w.heap.size w w' := by
  refine (calls_of_SW (R := fun u => u = v) hf hb (SW.run hX hm n h hp ⟨.inr rfl, hd, v, x, hr, hv, hx, rfl⟩) hR ha).mono ?_
  rintro e w' ⟨u, rfl, rfl, hb⟩
  exact ⟨rfl, hb⟩
def slA (b M cap : Nat) : Value := .slice (some ⟨b, 0, none⟩) M cap
def fS (P : Program) (fn : Func) (n cap : Nat) (ty : TypeId) : Act × Mem := runS P Z1 200 (bodyOf fn) (sinit fn [slA 0 32 cap], [some ⟨blm 32 n, ty⟩])
theorem f_e (n cap : Nat) (ty : TypeId) : sexec Try.prog Z1 200 (bodyOf Try.f22) [] (sinit Try.f22 [slA 0 32 cap], [some ⟨blm 32 n, ty⟩]) = some ([], .ret, fS Try.prog Try.f22 n cap ty) := by kernel_rfl
theorem f_r (n cap : Nat) (ty : TypeId) : sres Try.prog Try.f22 (fS Try.prog Try.f22 n cap ty) = some (.agg #[.int .u64 (orf n 0 8), .int .u64 (orf n 1 8), .int .u64 (orf n 2 8), .int .u64 (orf n 3 8)]) := by kernel_rfl
theorem f_d (n cap : Nat) (ty : TypeId) : (fS Try.prog Try.f22 n cap ty).1.defers = [] := by kernel_rfl
theorem f_x (n cap : Nat) (ty : TypeId) : (fS Try.prog Try.f22 n cap ty).2 = [some ⟨blm 32 n, ty⟩] ++ (fS Try.prog Try.f22 n cap ty).2.drop 1 := by kernel_rfl
/-- The bytes behind a slice. -/
def bytesAt (M : Nat) (v : Value) (m : Mem) : Option Nat :=
  match v with
  | .slice (some ⟨b, 0, none⟩) k _ => if k = M then (getB m b).map fun B => bsum B.cells else none
  | _ => none
def bytesOK (M : Nat) (v : Value) (m : Mem) : Prop :=
  match v with
  | .slice (some ⟨b, 0, none⟩) _ _ => match getB m b with
    | some B => B.cells = blm M (bsum B.cells)
    | none => False
  | _ => False
theorem bytesAt_more {M : Nat} {v : Value} {m : Mem} {i : Nat} {B : Blk} (hi : m[i]? = some none) {n : Nat} (h : bytesAt M v m = some n) : bytesAt M v (m.set i (some B)) = some n ∧ bytesOK M v (m.set i (some B)) = bytesOK M v m := by
  unfold bytesAt at h ⊢
  unfold bytesOK
  split at h
  · rename_i b k c
    split at h
    · rename_i hk
      cases hb : getB m b with
      | none => simp [hb] at h
      | some B' =>
        have e := getB_fill (m := m) (i := i) (x := some B) (hole_ne hi hb)
        simp only [hk, if_true, e]
        rw [hb] at h ⊢
        exact ⟨h, rfl⟩
    · simp at h
  · simp at h
theorem bytes_open {M : Nat} {v : Value} {m : Mem} {n : Nat} (h : bytesAt M v m = some n) (ho : bytesOK M v m) {r : Ren} {w : World} (hR : Rel r m w) {v' : Value} (ht : tr r v = some v') :
    ∃ (cap : Nat) (ty : TypeId) (c : Nat), n < 256 ^ M ∧ Rel (fun k => if k = 0 then some c else none) [some ⟨blm M n, ty⟩] w ∧ tr (fun k => if k = 0 then some c else none) (slA 0 M cap) = some v' := by
  unfold bytesAt at h
  unfold bytesOK at ho
  split at h
  · rename_i b k cap
    split at h
    · rename_i hk
      subst hk
      obtain ⟨c, hc, rfl⟩ := tr_slice ht
      cases hb : getB m b with
      | none => simp [hb] at h
      | some B =>
        simp only [hb, Option.map_some, Option.some.injEq] at h ho
        subst h
        obtain ⟨c', cs, p1, p2, p3⟩ := hR.cells b B hb
        rw [hc] at p1; cases p1
        have hfl : B.cells.all flat1 = true := by rw [ho]; simp [blm, flat1]
        have hone := hR.one hb hc p2 hfl
        have hB : B = ⟨blm k (bsum B.cells), B.ty⟩ := by rw [← ho]
        refine ⟨cap, B.ty, c, ?_, by rw [← hB]; exact hone, tr_of_slice (by simp)⟩
        have e := congrArg bsum ho
        rw [bsum_blm] at e
        rw [e]; exact Nat.mod_lt _ (Nat.pow_pos (by decide))
    · simp at h
  · simp at h
def gFrom (args : List Value) (m : Mem) : Option (List Prop × Value) :=
  match args with
  | [v] => match bytesAt 32 v m with
    | some n => some ([bytesOK 32 v m], nv n)
    | none => none
  | _ => none
theorem gFrom_ok {X : Cx} (hX : X.Ok Try.prog) : (X.read 22 gFrom).Ok Try.prog := by
  refine Cx.read_ok hX ?_ ?_
  · intro args m ps v hg hp r w args' hR ha
    unfold gFrom at hg
    split at hg
    · rename_i a
      split at hg
      · rename_i n hn
        simp only [Option.some.injEq, Prod.mk.injEq] at hg
        obtain ⟨rfl, rfl⟩ := hg
        have ho := hp _ (List.mem_singleton.2 rfl)
        obtain ⟨a', q, h1, h2, rfl⟩ := trL_cons ha
        simp only [trL, Option.some.injEq] at h2; subst h2
        obtain ⟨cap, ty, c, hlt, hone, htr⟩ := bytes_open hn ho hR h1
        refine call_enter Try.func22 (by kernel_rfl) (show _ = some (bodyOf Try.f22) from (by kernel_rfl)) ?_
        refine (sfunM_calls Z1_ok mixed Try.func22 (show _ = some (bodyOf Try.f22) from (by kernel_rfl)) (f_e n cap ty) (by simp) (f_d n cap ty) (f_r n cap ty) (.inl rfl) (f_x n cap ty) hone (trL_mk htr rfl)).mono ?_
        rintro e w' ⟨rfl, hb⟩
        refine ⟨_, rfl, ?_, hb⟩
        rw [orf_lw, orf_lw, orf_lw, orf_lw]
        exact tr_flat r _ rfl
      · simp at hg
    · simp at hg
  · intro args m q i B hi hg
    unfold gFrom at hg ⊢
    split at hg
    · rename_i a
      split at hg
      · rename_i n hn
        obtain ⟨e1, e2⟩ := bytesAt_more (B := B) hi hn
        simp only [e1, e2]; exact hg
      · simp at hg
    · simp at hg
/-- mod: the loop's head. -/
def mhd (ty41 M n cap : Nat) (ty : TypeId) (i : Int) (o : Nat) : Act × Mem :=
  (⟨#[slA 0 M cap, poison, .pointer (some ⟨1, 0, none⟩), .pointer (some ⟨2, 0, none⟩), .int .i64 i] ++ Array.replicate 26 poison, []⟩, [some ⟨blm M n, ty⟩, some ⟨z4.toList, ty41⟩, some ⟨(na o).toList, ty41⟩])
def mF : List Nat := [1, 5, 6, 7, 8, 9, 10, 11, 12, 13, 14, 15, 16, 17, 18, 19, 20, 21, 22, 23, 24, 25, 26, 27, 28, 29, 30]
def mK (s : Act × Mem) : Act × Mem := (forgetL s.1 mF, s.2)
def mLB (fn : Func) : Code := cL (cL (cR (cL (cR (cR (bodyOf fn))))))
def Zt (dec : List (Nat × Bool)) : Cx := Z1.terms.tell dec
theorem Zt_ok (dec : List (Nat × Bool)) : (Zt dec).Ok Try.prog := Cx.tell_ok (Cx.terms_ok Z1_ok) dec
def proj (K : Act × Mem → Act × Mem) (r : Option (List Prop × Exit × Act × Mem)) : Option (List Prop × Act × Mem) :=
  match r with
  | some (ps, .normal, s) => some (ps, K s)
  | _ => none
theorem proj_some {K : Act × Mem → Act × Mem} {r : Option (List Prop × Exit × Act × Mem)} {ps : List Prop} {t : Act × Mem} (h : proj K r = some (ps, t)) : ∃ s, r = some (ps, .normal, s) ∧ K s = t := by
  unfold proj at h
  split at h
  · rename_i qs s
    simp only [Option.some.injEq, Prod.mk.injEq] at h
    obtain ⟨rfl, h2⟩ := h
    exact ⟨s, rfl, h2⟩
  · simp at h
def ms1 (P : Program) (fn : Func) (M n cap : Nat) (ty : TypeId) : Act × Mem := runS P Z1 20 (cL (bodyOf fn)) (sinit fn [slA 0 M cap], [some ⟨blm M n, ty⟩])
def ms2 (P : Program) (fn : Func) (M n cap : Nat) (ty : TypeId) : Act × Mem := runS P Z1 20 (cL (cR (bodyOf fn))) (ms1 P fn M n cap ty)
def ms3 (P : Program) (fn : Func) (M n cap : Nat) (ty : TypeId) : Act × Mem := runS P Z1 20 (cL (cL (cR (cR (bodyOf fn))))) (ms2 P fn M n cap ty)
def qI (i : Int) : Int := IntKind.i64.wrap (Int.tdiv i 8)
def uI (i : Int) : Int := IntKind.u64.wrap (Int.tmod i 8)
def xI (M n : Nat) (i : Int) : Int := intL (blm M n) (0 + (qI i).toNat * 1)
def btI (M n : Nat) (i : Int) : Int := bits .and .u8 (Int.fdiv (xI M n i) (2 ^ min (uI i).toNat 8)) 1
def mO (M n : Nat) (i : Int) : List Prop := [0 ≤ qI i ∧ qI i < (M : Int), (blm M n)[0 + (qI i).toNat * 1]? = some (.int .u8 (xI M n i)), 0 ≤ uI i]
def dbl (o : Nat) : Nat := (num (nv o) + num (nv o)) % LN
def inc (o : Nat) : Nat := (num (nv (dbl o)) + num (nv 1)) % LN
def dn (i : Int) : Int := IntKind.i64.wrap (i - 1)
def mX (P : Program) (fn : Func) (ty41 M n cap : Nat) (ty : TypeId) (i : Int) (o : Nat) : Act × Mem := runS P (Zt [(10, false)]) 40 (mLB fn) (mhd ty41 M n cap ty i o)
def mZ (P : Program) (fn : Func) (ty41 M n cap : Nat) (ty : TypeId) (i : Int) (o : Nat) : Act × Mem := runS P Z1 40 (cR (cR (cR (bodyOf fn)))) (mX P fn ty41 M n cap ty i o)
theorem m_e1 (M n cap : Nat) (ty : TypeId) : sexec Try.prog Z1 20 (cL (bodyOf Try.f27)) [] (sinit Try.f27 [slA 0 M cap], [some ⟨blm M n, ty⟩]) = some ([], .normal, ms1 Try.prog Try.f27 M n cap ty) := by kernel_rfl
theorem m_e2 (M n cap : Nat) (ty : TypeId) : sexec Try.prog Z1 20 (cL (cR (bodyOf Try.f27))) [] (ms1 Try.prog Try.f27 M n cap ty) = some ([], .normal, ms2 Try.prog Try.f27 M n cap ty) := by kernel_rfl
theorem m_e3 (M n cap : Nat) (ty : TypeId) : sexec Try.prog Z1 20 (cL (cL (cR (cR (bodyOf Try.f27))))) [] (ms2 Try.prog Try.f27 M n cap ty) = some ([], .normal, ms3 Try.prog Try.f27 M n cap ty) := by kernel_rfl
theorem m_h (M n cap : Nat) (ty : TypeId) : mK (ms3 Try.prog Try.f27 M n cap ty) = mhd 41 M n cap ty (IntKind.i64.wrap (IntKind.i64.wrap (8 * (M : Int)) - 1)) 0 := by kernel_rfl
theorem m_t (M n cap : Nat) (ty : TypeId) (i : Int) (o : Nat) : proj mK (sexec Try.prog (Zt [(10, true), (26, true)]) 40 (mLB Try.f27) [] (mhd 41 M n cap ty i o)) = some ([decide (i ≥ 0) = true, okL (nv o) ∧ okL (nv o)] ++ mO M n i ++ [(btI M n i == 1) = true, okL (nv (dbl o)) ∧ okL (nv 1)], mhd 41 M n cap ty (dn i) (inc o)) := by kernel_rfl
theorem m_f (M n cap : Nat) (ty : TypeId) (i : Int) (o : Nat) : proj mK (sexec Try.prog (Zt [(10, true), (26, false)]) 40 (mLB Try.f27) [] (mhd 41 M n cap ty i o)) = some ([decide (i ≥ 0) = true, okL (nv o) ∧ okL (nv o)] ++ mO M n i ++ [(btI M n i == 1) = false], mhd 41 M n cap ty (dn i) (dbl o)) := by kernel_rfl
theorem m_x (M n cap : Nat) (ty : TypeId) (i : Int) (o : Nat) : sexec Try.prog (Zt [(10, false)]) 40 (mLB Try.f27) [] (mhd 41 M n cap ty i o) = some ([decide (i ≥ 0) = false], .exit 0, mX Try.prog Try.f27 41 M n cap ty i o) := by kernel_rfl
theorem m_z (M n cap : Nat) (ty : TypeId) (i : Int) (o : Nat) : sexec Try.prog Z1 40 (cR (cR (cR (bodyOf Try.f27)))) [] (mX Try.prog Try.f27 41 M n cap ty i o) = some ([], .ret, mZ Try.prog Try.f27 41 M n cap ty i o) := by kernel_rfl
theorem m_r (M n cap : Nat) (ty : TypeId) (i : Int) (o : Nat) : sres Try.prog Try.f27 (mZ Try.prog Try.f27 41 M n cap ty i o) = some (nv o) := by kernel_rfl
theorem m_d (M n cap : Nat) (ty : TypeId) (i : Int) (o : Nat) : (mZ Try.prog Try.f27 41 M n cap ty i o).1.defers = [] := by kernel_rfl
theorem m_m (M n cap : Nat) (ty : TypeId) (i : Int) (o : Nat) : (mZ Try.prog Try.f27 41 M n cap ty i o).2 = [some ⟨blm M n, ty⟩] ++ (mZ Try.prog Try.f27 41 M n cap ty i o).2.drop 1 := by kernel_rfl
theorem wrap64 (x : Int) (h0 : -9223372036854775808 ≤ x) (h1 : x < 9223372036854775808) : IntKind.i64.wrap x = x := by
  have e : IntKind.i64.wrap x = if x % 18446744073709551616 ≥ 9223372036854775808 then x % 18446744073709551616 - 18446744073709551616 else x % 18446744073709551616 := by
    simp [IntKind.wrap, IntKind.bits, IntKind.signed]
  rw [e]
  split <;> omega
theorem wrapu64 (x : Int) (h0 : 0 ≤ x) (h1 : x < 18446744073709551616) : IntKind.u64.wrap x = x := by rw [IntKind.wrap_u64]; omega
theorem and1 (x : Nat) (hx : x < 256) : bits .and .u8 (x : Int) 1 = ((x % 2 : Nat) : Int) := by
  have h : ∀ y : Fin 256, bits .and .u8 (y.val : Int) 1 = ((y.val % 2 : Nat) : Int) := by decide +kernel
  exact h ⟨x, hx⟩
theorem mO_ok (M n j : Nat) (hj : j < 8 * M) (hM : M ≤ 1000) : (∀ p ∈ mO M n (j : Int), p) ∧ btI M n (j : Int) = ((n / 2 ^ j % 2 : Nat) : Int) := by
  have hq : qI (j : Int) = ((j / 8 : Nat) : Int) := by
    unfold qI
    rw [Int.tdiv_eq_ediv_of_nonneg (by omega), wrap64 _ (by omega) (by omega)]
    omega
  have hu : uI (j : Int) = ((j % 8 : Nat) : Int) := by
    unfold uI
    rw [Int.tmod_eq_emod_of_nonneg (by omega), wrapu64 _ (by omega) (by omega)]
    omega
  have hidx : 0 + (qI (j : Int)).toNat * 1 = j / 8 := by rw [hq]; omega
  have hget : (blm M n)[j / 8]? = some (.int .u8 (by8 n (j / 8))) := by
    have : j / 8 < M := by omega
    simp [blm, this]
  have hx : xI M n (j : Int) = by8 n (j / 8) := by unfold xI intL; rw [hidx, hget]
  refine ⟨?_, ?_⟩
  · intro p hp
    simp only [mO, List.mem_cons, List.not_mem_nil, or_false] at hp
    rcases hp with rfl | rfl | rfl
    · rw [hq]; omega
    · rw [hx, hidx]; exact hget
    · rw [hu]; omega
  · unfold btI
    rw [hx, hu, Int.toNat_natCast, Nat.min_eq_left (by omega)]
    unfold by8
    rw [fdiv_nat, and1 _ (by
      have : n / 256 ^ (j / 8) % 256 < 256 := Nat.mod_lt _ (by decide)
      exact Nat.lt_of_le_of_lt (Nat.div_le_self _ _) this)]
    congr 1
    have e : (2 : Nat) ^ j = 256 ^ (j / 8) * 2 ^ (j % 8) := by
      rw [show (256 : Nat) = 2 ^ 8 from rfl, ← Nat.pow_mul, ← Nat.pow_add, Nat.div_add_mod]
    rw [e, ← Nat.div_div_eq_div_mul]
    generalize n / 256 ^ (j / 8) = y
    have h8 : j % 8 < 8 := Nat.mod_lt _ (by decide)
    have e2 : (256 : Nat) = 2 ^ (j % 8) * (2 * 2 ^ (7 - j % 8)) := by
      rw [← Nat.pow_succ', ← Nat.pow_add, show j % 8 + (7 - j % 8).succ = 8 by omega]
    rw [e2, Nat.mod_mul_right_div_self, Nat.mod_mul_right_mod]
theorem okL_nv {o : Nat} (h : o < LN) : okL (nv o) := ⟨isN_nv _, by rw [num_nv' (lt_LN_RN h)]; exact h⟩
theorem dbl_eq {o : Nat} (h : o < LN) : dbl o = (o + o) % LN := by unfold dbl; rw [num_nv' (lt_LN_RN h)]
theorem inc_eq {o : Nat} (h : o < LN) : inc o = (o + o + 1) % LN := by
  have h2 : dbl o < LN := Nat.mod_lt _ (by decide)
  unfold inc
  rw [num_nv' (lt_LN_RN h2), num_nv' (n := 1) (by decide), dbl_eq h, Nat.mod_add_mod]
theorem half_step (n j : Nat) : n / 2 ^ j = n / 2 ^ (j + 1) + n / 2 ^ (j + 1) + n / 2 ^ j % 2 := by
  rw [Nat.pow_succ, ← Nat.div_div_eq_div_mul]; omega
theorem step_dbl (n j b : Nat) (h : n / 2 ^ j % 2 = b) : (n / 2 ^ (j + 1) % LN + n / 2 ^ (j + 1) % LN + b) % LN = n / 2 ^ j % LN := by
  rw [half_step n j, h]
  generalize n / 2 ^ (j + 1) = y
  rw [Nat.add_mod (y % LN + y % LN) b, ← Nat.add_mod y y, ← Nat.add_mod]
theorem mod_SW (M n cap : Nat) (ty : TypeId) (hM : M ≤ 1000) (hn : n < 256 ^ M) : SW Try.prog (bodyOf Try.f27) (sinit Try.f27 [slA 0 M cap], [some ⟨blm M n, ty⟩]) (retQ Try.prog Try.f27 [some ⟨blm M n, ty⟩] fun v => v = nv (n % LN)) := by
  refine SW.seqC (by kernel_rfl) (SW.run Z1_ok mixed 20 (m_e1 M n cap ty) (by simp) ?_)
  refine SW.seqC (by kernel_rfl) (SW.run Z1_ok mixed 20 (m_e2 M n cap ty) (by simp) ?_)
  refine SW.seqC (by kernel_rfl) (SW.seqC (by kernel_rfl) (SW.run Z1_ok mixed 20 (m_e3 M n cap ty) (by simp) ?_))
  show SW Try.prog (cR (cL (cR (cR (bodyOf Try.f27))))) (ms3 Try.prog Try.f27 M n cap ty) (thenS (fun s' => SW Try.prog (cR (cR (cR (bodyOf Try.f27)))) s' _) _)
  refine SW.blockC (by kernel_rfl) ?_
  have hci : cI (cR (cL (cR (cR (bodyOf Try.f27))))) = 0 := by kernel_rfl
  rw [hci]
  refine SW.loopC (by kernel_rfl) (fun k s => k ≤ 8 * M ∧ mK s = mhd 41 M n cap ty ((k : Int) - 1) (n / 2 ^ k % LN)) (8 * M) ⟨Nat.le_refl _, ?_⟩ ?_
  · rw [m_h]
    have e1 : IntKind.i64.wrap (IntKind.i64.wrap (8 * (M : Int)) - 1) = ((8 * M : Nat) : Int) - 1 := by
      rw [wrap64 (8 * (M : Int)) (by omega) (by omega), wrap64 _ (by omega) (by omega)]; omega
    have e2 : n / 2 ^ (8 * M) % LN = 0 := by
      rw [Nat.pow_mul, Nat.div_eq_of_lt hn]; rfl
    rw [e1, e2]
  · rintro k s ⟨hk, hs⟩
    refine SW.forget (a := s.1) (m := s.2) mF ?_
    show SW Try.prog (mLB Try.f27) (mK s) _
    rw [hs]
    have ho : n / 2 ^ k % LN < LN := Nat.mod_lt _ (by decide)
    cases k with
    | zero =>
      refine SW.run (Zt_ok _) mixed 40 (m_x M n cap ty _ _) (by simp) ?_
      show SW Try.prog (cR (cR (cR (bodyOf Try.f27)))) _ _
      refine SW.run Z1_ok mixed 40 (m_z M n cap ty _ _) (by simp) ⟨.inr rfl, m_d _ _ _ _ _ _, _, _, m_r _ _ _ _ _ _, .inl rfl, m_m _ _ _ _ _ _, ?_⟩
      simp
    | succ j =>
      have hi : ((j + 1 : Nat) : Int) - 1 = (j : Int) := by omega
      rw [hi]
      obtain ⟨hO, hb⟩ := mO_ok M n j (by omega) hM
      have hdn : dn (j : Int) = (j : Int) - 1 := by unfold dn; exact wrap64 _ (by omega) (by omega)
      have hge : decide ((j : Int) ≥ 0) = true := decide_eq_true (by omega)
      have hd : dbl (n / 2 ^ (j + 1) % LN) < LN := Nat.mod_lt _ (by decide)
      by_cases hbit : n / 2 ^ j % 2 = 1
      · obtain ⟨s', h1, h2⟩ := proj_some (m_t M n cap ty (j : Int) (n / 2 ^ (j + 1) % LN))
        refine SW.run (Zt_ok _) mixed 40 h1 ?_ ⟨j, by omega, by omega, ?_⟩
        · intro p hp
          rcases List.mem_append.1 hp with hp | hp
          · rcases List.mem_append.1 hp with hp | hp
            · simp only [List.mem_cons, List.not_mem_nil, or_false] at hp
              rcases hp with rfl | rfl
              · exact hge
              · exact ⟨okL_nv ho, okL_nv ho⟩
            · exact hO p hp
          · simp only [List.mem_cons, List.not_mem_nil, or_false] at hp
            rcases hp with rfl | rfl
            · rw [hb, hbit]; rfl
            · exact ⟨okL_nv hd, okL_nv (by decide)⟩
        · rw [h2, hdn, inc_eq ho, step_dbl n j 1 hbit]
      · have hbit0 : n / 2 ^ j % 2 = 0 := by omega
        obtain ⟨s', h1, h2⟩ := proj_some (m_f M n cap ty (j : Int) (n / 2 ^ (j + 1) % LN))
        refine SW.run (Zt_ok _) mixed 40 h1 ?_ ⟨j, by omega, by omega, ?_⟩
        · intro p hp
          rcases List.mem_append.1 hp with hp | hp
          · rcases List.mem_append.1 hp with hp | hp
            · simp only [List.mem_cons, List.not_mem_nil, or_false] at hp
              rcases hp with rfl | rfl
              · exact hge
              · exact ⟨okL_nv ho, okL_nv ho⟩
            · exact hO p hp
          · simp only [List.mem_cons, List.not_mem_nil, or_false] at hp
            rcases hp with rfl
            rw [hb, hbit0]; rfl
        · have := step_dbl n j 0 hbit0
          rw [Nat.add_zero] at this
          rw [h2, hdn, dbl_eq ho, this]
def gModR (args : List Value) (m : Mem) : Option (List Prop × Value) :=
  match args with
  | [.slice p k c] => match bytesAt k (.slice p k c) m with
    | some n => some ([k ≤ 1000 ∧ bytesOK k (.slice p k c) m], nv (n % LN))
    | none => none
  | _ => none
theorem gModR_ok {X : Cx} (hX : X.Ok Try.prog) : (X.read 27 gModR).Ok Try.prog := by
  refine Cx.read_ok hX ?_ ?_
  · intro args m ps v hg hp r w args' hR ha
    unfold gModR at hg
    split at hg
    · rename_i p k cc
      split at hg
      · rename_i n hn
        simp only [Option.some.injEq, Prod.mk.injEq] at hg
        obtain ⟨rfl, rfl⟩ := hg
        obtain ⟨hk, ho⟩ := hp _ (List.mem_singleton.2 rfl)
        obtain ⟨a', q, h1, h2, rfl⟩ := trL_cons ha
        simp only [trL, Option.some.injEq] at h2; subst h2
        obtain ⟨cap, ty, c, hlt, hone, htr⟩ := bytes_open hn ho hR h1
        refine call_enter Try.func27 (by kernel_rfl) (show _ = some (bodyOf Try.f27) from (by kernel_rfl)) ?_
        refine (calls_of_SW (R := fun v => v = nv (n % LN)) Try.func27 (show _ = some (bodyOf Try.f27) from (by kernel_rfl)) (mod_SW k n cap ty hk hlt) hone (trL_mk htr rfl)).mono ?_
        rintro e w' ⟨v, rfl, rfl, hb⟩
        exact ⟨_, rfl, tr_flat r _ rfl, hb⟩
      · simp at hg
    · simp at hg
  · intro args m q i B hi hg
    unfold gModR at hg ⊢
    split at hg
    · rename_i p k cc
      split at hg
      · rename_i n hn
        obtain ⟨e1, e2⟩ := bytesAt_more (B := B) hi hn
        simp only [e1, e2]; exact hg
      · simp at hg
    · simp at hg
def Z2 : Cx := (Z1.read 22 gFrom).read 27 gModR
theorem Z2_ok : Z2.Ok Try.prog := gModR_ok (gFrom_ok Z1_ok)
end Go.Proofs.Ytdpepiempjoanaa
