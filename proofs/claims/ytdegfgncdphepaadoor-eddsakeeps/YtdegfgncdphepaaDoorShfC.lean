/- SHA-512: schedule512. -/
import Derived.Test.YtdegfgncdphepaaDoorShfB
namespace Go.Proofs.YtdegfgncdphepaaDoor.Shf
open Go Go.RowKit
set_option linter.unusedSimpArgs false
set_option linter.unusedVariables false
def ptr (b : Nat) : Value := .pointer (some ⟨b, 0, none⟩)
def N3 : Cx := H4.terms
theorem N3_ok : N3.Ok Tryd.prog := Cx.terms_ok H4_ok
def N3t (d : List (Nat × Bool)) : Cx := N3.tell d
theorem N3t_ok (d : List (Nat × Bool)) : (N3t d).Ok Tryd.prog := Cx.tell_ok N3_ok d
/-- The codes ahead of the loops, the loops, and what is behind them. -/
def scP (c : Code) : List Code := [cL c, cL (cR c)]
def scQ (c : Code) : List Code := [cL (cL (cR (cR c)))]
def scA (c : Code) : Code := cR (cL (cR (cR c)))
def scR (c : Code) : List Code := [cL (cL (cR (cR (cR c))))]
def scB (c : Code) : Code := cR (cL (cR (cR (cR c))))
def scE (c : Code) : Code := cR (cR (cR (cR c)))
def sc0 (fn : Func) (l : List Value) (ty : BT) (o n k : Nat) : Act × Mem := (sinit fn [slv 0 o n (k + 128)], [some ⟨l, ty⟩])
/-- The loop's head. -/
def scF : List Nat := [0, 1, 4] ++ (List.range 42).map (· + 6)
def z80 : List Value := List.replicate 80 (.int .u64 0)
def schd (l : List Value) (ty : BT) (i : Int) (q : List Value) : Act × Mem :=
  (⟨#[poison, poison, ptr 1, ptr 2, poison, .int .i64 i] ++ Array.replicate 42 poison, []⟩, [some ⟨l, ty⟩, some ⟨z80, 81⟩, some ⟨q, 81⟩])
/-- The place of a word, d places ahead of i. -/
def ix (i : Int) (d : Int) : Int := IntKind.i64.wrap (i - d)
def at0 (i : Int) : Nat := 0 + i.toNat * 1
def add64 (a b : Int) : Int := IntKind.u64.wrap (a + b)
def nw (q : List Value) (i : Int) : Int := add64 (add64 (add64 (lo1 (intL q (at0 (ix i 2)))) (intL q (at0 (ix i 7)))) (lo0 (intL q (at0 (ix i 15))))) (intL q (at0 (ix i 16)))
def scT (q : List Value) (i : Int) : List Prop :=
  [decide (i < 80) = true] ++ ([2, 7, 15, 16].flatMap fun d => [0 ≤ ix i d ∧ ix i d < ((80 : Nat) : Int), q[at0 (ix i d)]? = some (.int .u64 (intL q (at0 (ix i d))))]) ++
  [0 ≤ i ∧ i < ((80 : Nat) : Int), 1 = 1 ∧ at0 i + 1 ≤ q.length]
def scK (s : Act × Mem) : Act × Mem := (forgetL s.1 scF, s.2)
theorem sc_round (l : List Value) (ty : BT) (i : Int) (q : List Value) : proj scK (sexec Tryd.prog (N3t [(21, true), (999999, true)]) 40 (cL (cL (scB (bodyOf Tryd.f52)))) [] (schd l ty i q)) =
    some (scT q i, schd l ty (IntKind.i64.wrap (i + 1)) (putL q (at0 i) [.int .u64 (nw q i)])) := by kernel_rfl
/-- The first loop's head. -/
def saF : List Nat := [1, 4, 5] ++ (List.range 41).map (· + 7)
def sahd (l : List Value) (ty : BT) (o n k : Nat) (i : Int) (q : List Value) : Act × Mem :=
  (⟨#[slv 0 o n (k + 128), poison, ptr 1, ptr 2, poison, poison, .int .i64 i] ++ Array.replicate 41 poison, []⟩, [some ⟨l, ty⟩, some ⟨z80, 81⟩, some ⟨q, 81⟩])
def saK (s : Act × Mem) : Act × Mem := (forgetL s.1 saF, s.2)
def m8 (i : Int) : Int := IntKind.i64.wrap (8 * i)
def n8 (i : Int) : Int := IntKind.i64.wrap (m8 i + 8)
def of8 (o k : Nat) (i : Int) : Nat := if k + 128 = (m8 i).toNat then o else o + (m8 i).toNat * 1
def saT (l : List Value) (o k : Nat) (q : List Value) (i : Int) : List Prop :=
  [decide (i < 16) = true, 0 ≤ n8 i ∧ n8 i ≤ ((k + 128 : Nat) : Int), 0 ≤ m8 i ∧ m8 i ≤ ((n8 i).toNat : Int), l.all flatR = true, T64 l (of8 o k i) ((n8 i).toNat - (m8 i).toNat) (k + 128 - (m8 i).toNat) [], 0 ≤ i ∧ i < ((80 : Nat) : Int), 1 = 1 ∧ at0 i + 1 ≤ q.length]
theorem sa_round (l : List Value) (ty : BT) (o n k : Nat) (i : Int) (q : List Value) : proj saK (sexec Tryd.prog (N3t [(7, true), (999999, true)]) 40 (cL (cL (scA (bodyOf Tryd.f52)))) [] (sahd l ty o n k i q)) =
    some (saT l o k q i, sahd l ty o n k (IntKind.i64.wrap (i + 1)) (putL q (at0 i) [.int .u64 (W64 l (of8 o k i))])) := by kernel_rfl
def scS0 (P : Program) (fn : Func) (l : List Value) (ty : BT) (o n k : Nat) : Act × Mem := runL P N3 20 (scP (bodyOf fn)) (sc0 fn l ty o n k)
theorem sc_pre0 (l : List Value) (ty : BT) (o n k : Nat) : sexecL Tryd.prog N3 20 (scP (bodyOf Tryd.f52)) [] (sc0 Tryd.f52 l ty o n k) = some ([], scS0 Tryd.prog Tryd.f52 l ty o n k) := by kernel_rfl
def scS1 (P : Program) (fn : Func) (l : List Value) (ty : BT) (o n k : Nat) : Act × Mem := runL P N3 20 (scQ (bodyOf fn)) (scS0 P fn l ty o n k)
theorem sc_pre1 (l : List Value) (ty : BT) (o n k : Nat) : sexecL Tryd.prog N3 20 (scQ (bodyOf Tryd.f52)) [] (scS0 Tryd.prog Tryd.f52 l ty o n k) = some ([], scS1 Tryd.prog Tryd.f52 l ty o n k) := by kernel_rfl
theorem sc_h0 (l : List Value) (ty : BT) (o n k : Nat) : saK (scS1 Tryd.prog Tryd.f52 l ty o n k) = sahd l ty o n k 0 z80 := by kernel_rfl
/-- From the first loop to the second. -/
def saX (P : Program) (fn : Func) (l : List Value) (ty : BT) (o n k : Nat) (q : List Value) : Act × Mem := runS P N3 40 (cL (cL (scA (bodyOf fn)))) (sahd l ty o n k 16 q)
theorem sa_exit (l : List Value) (ty : BT) (o n k : Nat) (q : List Value) : sexec Tryd.prog N3 40 (cL (cL (scA (bodyOf Tryd.f52)))) [] (sahd l ty o n k 16 q) = some ([], .exit 0, saX Tryd.prog Tryd.f52 l ty o n k q) := by kernel_rfl
def scS2 (P : Program) (fn : Func) (l : List Value) (ty : BT) (o n k : Nat) (q : List Value) : Act × Mem := runL P N3 20 (scR (bodyOf fn)) (saX P fn l ty o n k q)
theorem sc_pre2 (l : List Value) (ty : BT) (o n k : Nat) (q : List Value) : sexecL Tryd.prog N3 20 (scR (bodyOf Tryd.f52)) [] (saX Tryd.prog Tryd.f52 l ty o n k q) = some ([], scS2 Tryd.prog Tryd.f52 l ty o n k q) := by kernel_rfl
theorem sc_h2 (l : List Value) (ty : BT) (o n k : Nat) (q : List Value) : scK (scS2 Tryd.prog Tryd.f52 l ty o n k q) = schd l ty 16 q := by kernel_rfl
/-- The end. -/
def scX (P : Program) (fn : Func) (l : List Value) (ty : BT) (q : List Value) : Act × Mem := runS P N3 40 (cL (cL (scB (bodyOf fn)))) (schd l ty 80 q)
theorem sc_exit (l : List Value) (ty : BT) (q : List Value) : sexec Tryd.prog N3 40 (cL (cL (scB (bodyOf Tryd.f52)))) [] (schd l ty 80 q) = some ([], .exit 2, scX Tryd.prog Tryd.f52 l ty q) := by kernel_rfl
def row80 (x : Nat → Int) : List Value := (List.range 80).map fun i => .int .u64 (x i)
def V80 (x : Nat → Int) : Value := .agg (row80 x).toArray
def scZ (P : Program) (fn : Func) (l : List Value) (ty : BT) (x : Nat → Int) : Act × Mem := runS P N3 40 (scE (bodyOf fn)) (scX P fn l ty (row80 x))
theorem sc_end (l : List Value) (ty : BT) (x : Nat → Int) : sexec Tryd.prog N3 40 (scE (bodyOf Tryd.f52)) [] (scX Tryd.prog Tryd.f52 l ty (row80 x)) = some ([], .ret, scZ Tryd.prog Tryd.f52 l ty x) := by kernel_rfl
theorem sc_res (l : List Value) (ty : BT) (x : Nat → Int) : sres Tryd.prog Tryd.f52 (scZ Tryd.prog Tryd.f52 l ty x) = some (V80 x) := by kernel_rfl
theorem sc_def (l : List Value) (ty : BT) (x : Nat → Int) : (scZ Tryd.prog Tryd.f52 l ty x).1.defers = [] := by kernel_rfl
theorem sc_mem (l : List Value) (ty : BT) (x : Nat → Int) : (scZ Tryd.prog Tryd.f52 l ty x).2 = [some ⟨l, ty⟩] ++ (scZ Tryd.prog Tryd.f52 l ty x).2.drop 1 := by kernel_rfl
theorem sc_code : bodyOf Tryd.f52 = seqs (scP (bodyOf Tryd.f52)) (.seq (seqs (scQ (bodyOf Tryd.f52)) (.block 0 (.loop (cL (cL (scA (bodyOf Tryd.f52))))))) (.seq (seqs (scR (bodyOf Tryd.f52)) (.block 2 (.loop (cL (cL (scB (bodyOf Tryd.f52))))))) (scE (bodyOf Tryd.f52)))) := by kernel_rfl
/-- Rows of words, noughts behind them. -/
def cells (x : List Int) (m : Nat) : List Value := x.map (Value.int .u64) ++ List.replicate m (.int .u64 0)
theorem cells_len (x : List Int) (m : Nat) : (cells x m).length = x.length + m := by simp [cells]
theorem cells_put (x : List Int) (m : Nat) (v : Int) : putL (cells x (m + 1)) x.length [.int .u64 v] = cells (x ++ [v]) m := by
  unfold putL cells
  have h1 : (x.map (Value.int .u64) ++ List.replicate (m + 1) (Value.int .u64 0)).take x.length = x.map (Value.int .u64) := List.take_left' (by simp)
  have h2 : (x.map (Value.int .u64) ++ List.replicate (m + 1) (Value.int .u64 0)).drop (x.length + 1) = List.replicate m (Value.int .u64 0) := by
    rw [← List.drop_drop, List.drop_left' (by simp)]; simp
  rw [List.length_singleton, h1, h2]
  simp
theorem cells_get (x : List Int) (m j : Nat) (h : j < x.length) : intL (cells x m) j = x.getD j 0 ∧ (cells x m)[j]? = some (.int .u64 (intL (cells x m) j)) := by
  have e : (cells x m)[j]? = some (.int .u64 (x.getD j 0)) := by
    unfold cells
    rw [List.getElem?_append_left (by simpa using h)]
    simp [h]
  have e2 : intL (cells x m) j = x.getD j 0 := by unfold intL; rw [e]
  exact ⟨e2, by rw [e2]; exact e⟩
theorem cells_row {x : List Int} (h : x.length = 80) : cells x 0 = row80 (fun i => x.getD i 0) := by
  unfold cells row80
  apply List.ext_getElem?
  intro i
  by_cases hi : i < 80
  · simp [h, hi]
  · simp [h, hi]
/-- The words of a block. -/
def base16 (l : List Value) (o : Nat) (t : Nat) : List Int := (List.range t).map fun j => W64 l (o + 8 * j)
def nxt (x : List Int) : Int := add64 (add64 (add64 (lo1 (x.getD (x.length - 2) 0)) (x.getD (x.length - 7) 0)) (lo0 (x.getD (x.length - 15) 0))) (x.getD (x.length - 16) 0)
def wl (x : List Int) : Nat → List Int
  | 0 => x
  | k + 1 => wl x k ++ [nxt (wl x k)]
theorem wl_len (x : List Int) : ∀ k, (wl x k).length = x.length + k
  | 0 => rfl
  | k + 1 => by simp [wl, wl_len x k]; omega
theorem base_len (l : List Value) (o t : Nat) : (base16 l o t).length = t := by simp [base16]
def Wd (l : List Value) (o : Nat) (i : Nat) : Int := (wl (base16 l o 16) 64).getD i 0
theorem wrap_i64 {i : Int} (h0 : -9223372036854775808 ≤ i) (h1 : i < 9223372036854775808) : IntKind.i64.wrap i = i := by
  have e : IntKind.i64.wrap i = if i % 18446744073709551616 ≥ 9223372036854775808 then i % 18446744073709551616 - 18446744073709551616 else i % 18446744073709551616 := by
    simp [IntKind.wrap, IntKind.bits, IntKind.signed]
  rw [e]; split <;> omega
def T80 (l : List Value) (o n k : Nat) (qs : List Value) : Prop := qs = [] ∧ 128 ≤ k ∧ ByAt l o 128
theorem sa_terms {l : List Value} {o k t : Nat} (hl : l.all flatR = true) (hb : ByAt l o 128) (ht : t < 16) : (∀ p ∈ saT l o k (cells (base16 l o t) (80 - t)) (t : Int), p) ∧ of8 o k (t : Int) = o + 8 * t := by
  have e8 : m8 (t : Int) = ((8 * t : Nat) : Int) := by unfold m8; rw [wrap_i64 (by omega) (by omega)]; omega
  have en : n8 (t : Int) = ((8 * t + 8 : Nat) : Int) := by unfold n8; rw [e8, wrap_i64 (by omega) (by omega)]; omega
  have eo : of8 o k (t : Int) = o + 8 * t := by unfold of8; rw [e8, Int.toNat_natCast, if_neg (by omega)]; omega
  refine ⟨?_, eo⟩
  intro p hp
  unfold saT at hp
  rw [e8, en, eo] at hp
  simp only [List.mem_cons, List.not_mem_nil, or_false, Int.toNat_natCast] at hp
  rcases hp with rfl | rfl | rfl | rfl | rfl | rfl | rfl
  · simp; omega
  · omega
  · omega
  · exact hl
  · exact ⟨rfl, by omega, hb.sub (8 * t) 8 (by omega)⟩
  · omega
  · refine ⟨by trivial, ?_⟩
    rw [cells_len, base_len]; unfold at0; omega
theorem at0_nat (t : Nat) : at0 (t : Int) = t := by unfold at0; omega
theorem ix_nat {t d : Nat} (h : d ≤ t) (ht : t < 1000) : ix (t : Int) (d : Int) = ((t - d : Nat) : Int) := by unfold ix; rw [wrap_i64 (by omega) (by omega)]; omega
theorem sc_terms {x : List Int} {k : Nat} (hx : x.length = 16 + k) (hk : k < 64) : (∀ p ∈ scT (cells x (64 - k)) ((16 + k : Nat) : Int), p) ∧ nw (cells x (64 - k)) ((16 + k : Nat) : Int) = nxt x := by
  have g : ∀ d : Nat, 1 ≤ d → d ≤ 16 → ix ((16 + k : Nat) : Int) (d : Int) = ((16 + k - d : Nat) : Int) ∧ intL (cells x (64 - k)) (16 + k - d) = x.getD (x.length - d) 0 ∧ (cells x (64 - k))[16 + k - d]? = some (.int .u64 (intL (cells x (64 - k)) (16 + k - d))) := by
    intro d h1 h2
    obtain ⟨q1, q2⟩ := cells_get x (64 - k) (16 + k - d) (by omega)
    exact ⟨ix_nat (by omega) (by omega), by rw [q1, hx], q2⟩
  have g2 := g 2 (by omega) (by omega)
  have g7 := g 7 (by omega) (by omega)
  have g15 := g 15 (by omega) (by omega)
  have g16 := g 16 (by omega) (by omega)
  have a2 : ix ((16 + k : Nat) : Int) 2 = ((16 + k - 2 : Nat) : Int) := g2.1
  have a7 : ix ((16 + k : Nat) : Int) 7 = ((16 + k - 7 : Nat) : Int) := g7.1
  have a15 : ix ((16 + k : Nat) : Int) 15 = ((16 + k - 15 : Nat) : Int) := g15.1
  have a16 : ix ((16 + k : Nat) : Int) 16 = ((16 + k - 16 : Nat) : Int) := g16.1
  constructor
  · intro p hp
    unfold scT at hp
    simp only [List.flatMap_cons, List.flatMap_nil, List.cons_append, List.nil_append, List.append_nil, List.mem_cons, List.not_mem_nil, or_false] at hp
    rcases hp with rfl | rfl | rfl | rfl | rfl | rfl | rfl | rfl | rfl | rfl | rfl
    · simp; omega
    · rw [a2]; omega
    · rw [a2, at0_nat]; exact g2.2.2
    · rw [a7]; omega
    · rw [a7, at0_nat]; exact g7.2.2
    · rw [a15]; omega
    · rw [a15, at0_nat]; exact g15.2.2
    · rw [a16]; omega
    · rw [a16, at0_nat]; exact g16.2.2
    · omega
    · refine ⟨by trivial, ?_⟩
      rw [cells_len, hx, at0_nat]; omega
  · unfold nw nxt
    rw [a2, a7, a15, a16, at0_nat, at0_nat, at0_nat, at0_nat, g2.2.1, g7.2.1, g15.2.1, g16.2.1]
theorem base_succ (l : List Value) (o t : Nat) : base16 l o (t + 1) = base16 l o t ++ [W64 l (o + 8 * t)] := by simp [base16, List.range_succ]
theorem flat_V80 (x : Nat → Int) : flat (V80 x) = true := by
  show (row80 x).all flat1 = true
  refine List.all_eq_true.2 fun v hv => ?_
  obtain ⟨i, _, rfl⟩ := List.mem_map.1 hv
  rfl
theorem sa_zero (l : List Value) (ty : BT) (o n k : Nat) : saK (scS1 Tryd.prog Tryd.f52 l ty o n k) = sahd l ty o n k ((0 : Nat) : Int) (cells (base16 l o 0) (80 - 0)) := by
  have e : cells (base16 l o 0) (80 - 0) = z80 := by simp [cells, base16, z80]
  rw [e]; exact sc_h0 l ty o n k
theorem N3_gl : N3.gl = [] := by kernel_rfl
theorem N3t_gl (d : List (Nat × Bool)) : (N3t d).gl = [] := by kernel_rfl
def scQf (P : Program) (fn : Func) (l : List Value) (ty : BT) (o : Nat) : Exit → Act × Mem → Prop := fun e s => (e = .normal ∨ e = .ret) ∧ s.1.defers = [] ∧ ∃ v x, sres P fn s = some v ∧ (flat v = true ∨ v = undef) ∧ s.2 = ([] ++ [some ⟨l, ty⟩]) ++ x ∧ v = V80 (Wd l o)
theorem sc_three (l : List Value) (ty : BT) (o : Nat) : SW Tryd.prog [] (scE (bodyOf Tryd.f52)) (scX Tryd.prog Tryd.f52 l ty (cells (wl (base16 l o 16) 64) 0)) (scQf Tryd.prog Tryd.f52 l ty o) := by
  have hx : (wl (base16 l o 16) 64).length = 80 := by rw [wl_len, base_len]
  rw [cells_row hx]
  exact SW.runG N3_ok mixed N3_gl 40 (sc_end l ty _) (by simp) ⟨.inr rfl, sc_def l ty _, _, _, sc_res l ty _, .inl (flat_V80 _), sc_mem l ty _, rfl⟩
theorem sc_r2 (l : List Value) (ty : BT) (o j : Nat) (hj : j < 64) (Q : Exit → Act × Mem → Prop) : SW Tryd.prog [] (cL (cL (scB (bodyOf Tryd.f52)))) (schd l ty ((16 + j : Nat) : Int) (cells (wl (base16 l o 16) j) (64 - j))) (thenS (fun s => (forgetL s.1 scF, s.2) = schd l ty ((16 + (j + 1) : Nat) : Int) (cells (wl (base16 l o 16) (j + 1)) (64 - (j + 1)))) Q) := by
  have hx : (wl (base16 l o 16) j).length = 16 + j := by rw [wl_len, base_len]
  obtain ⟨h1, h2⟩ := sc_terms hx hj
  obtain ⟨s, hs, he⟩ := proj_some (sc_round l ty ((16 + j : Nat) : Int) (cells (wl (base16 l o 16) j) (64 - j)))
  refine SW.runG (N3t_ok _) mixed (N3t_gl _) 40 hs h1 (thenS_norm ?_)
  have e := cells_put (wl (base16 l o 16) j) (64 - (j + 1)) (nxt (wl (base16 l o 16) j))
  rw [hx] at e
  rw [h2, at0_nat, wrap_i64 (by omega) (by omega), show ((16 + j : Nat) : Int) + 1 = ((16 + (j + 1) : Nat) : Int) by omega, show 64 - j = (64 - (j + 1)) + 1 by omega, e] at he
  exact he
theorem sc_two (l : List Value) (ty : BT) (o n k : Nat) : SW Tryd.prog [] (.seq (seqs (scR (bodyOf Tryd.f52)) (.block 2 (.loop (cL (cL (scB (bodyOf Tryd.f52))))))) (scE (bodyOf Tryd.f52))) (saX Tryd.prog Tryd.f52 l ty o n k (cells (base16 l o 16) 64)) (scQf Tryd.prog Tryd.f52 l ty o) := by
  refine SW.seq ?_
  refine SW.preG N3_ok mixed N3_gl rfl (sc_pre2 l ty o n k _) (by simp) (SW.block ?_)
  refine SW.loopK rfl scF (fun j => schd l ty ((16 + j : Nat) : Int) (cells (wl (base16 l o 16) j) (64 - j))) 0 64 (sc_h2 l ty o n k _) (by decide) (fun j _ hj => sc_r2 l ty o j hj _) ?_
  exact SW.runG N3_ok mixed N3_gl 40 (sc_exit l ty _) (by simp) (thenS_exit (blockS_exit (thenS_norm (sc_three l ty o))))
theorem sc_r1 (l : List Value) (ty : BT) (o n k t : Nat) (hl : l.all flatR = true) (hb : ByAt l o 128) (ht : t < 16) (Q : Exit → Act × Mem → Prop) : SW Tryd.prog [] (cL (cL (scA (bodyOf Tryd.f52)))) (sahd l ty o n k (t : Int) (cells (base16 l o t) (80 - t))) (thenS (fun s => (forgetL s.1 saF, s.2) = sahd l ty o n k ((t + 1 : Nat) : Int) (cells (base16 l o (t + 1)) (80 - (t + 1)))) Q) := by
  obtain ⟨h1, h2⟩ := sa_terms (k := k) hl hb ht
  obtain ⟨s, hs, he⟩ := proj_some (sa_round l ty o n k (t : Int) (cells (base16 l o t) (80 - t)))
  refine SW.runG (N3t_ok _) mixed (N3t_gl _) 40 hs h1 (thenS_norm ?_)
  have e := cells_put (base16 l o t) (80 - (t + 1)) (W64 l (o + 8 * t))
  rw [base_len] at e
  rw [h2, at0_nat, wrap_i64 (by omega) (by omega), show ((t : Nat) : Int) + 1 = ((t + 1 : Nat) : Int) by omega, show 80 - t = (80 - (t + 1)) + 1 by omega, e, ← base_succ] at he
  exact he
theorem sc_one (l : List Value) (ty : BT) (o n k : Nat) (hl : l.all flatR = true) (hb : ByAt l o 128) : SW Tryd.prog [] (bodyOf Tryd.f52) (sc0 Tryd.f52 l ty o n k) (scQf Tryd.prog Tryd.f52 l ty o) := by
  rw [sc_code]
  refine SW.preG N3_ok mixed N3_gl rfl (sc_pre0 l ty o n k) (by simp) (SW.seq ?_)
  refine SW.preG N3_ok mixed N3_gl rfl (sc_pre1 l ty o n k) (by simp) (SW.block ?_)
  refine SW.loopK rfl saF (fun t => sahd l ty o n k (t : Int) (cells (base16 l o t) (80 - t))) 0 16 (sa_zero l ty o n k) (by decide) (fun t _ ht => sc_r1 l ty o n k t hl hb ht _) ?_
  exact SW.runG N3_ok mixed N3_gl 40 (sa_exit l ty o n k _) (by simp) (thenS_exit (blockS_exit (thenS_norm (sc_two l ty o n k))))
theorem gSch_ok {X : Cx} (hX : X.Ok Tryd.prog) : (X.read 52 (gRd [] T80 (fun l o _ _ => V80 (Wd l o)))).Ok Tryd.prog := by
  refine gRd_ok (gl := []) hX rfl rfl rfl Tryd.func52 (by kernel_rfl) (show _ = some (bodyOf Tryd.f52) from (by kernel_rfl)) ?_
  rintro l ty o n k qs hl hq ⟨rfl, hk, hb⟩
  obtain ⟨k, rfl⟩ := Nat.exists_eq_add_of_le' hk
  exact ⟨flat_V80 _, sc_one l ty o n k hl hb⟩
end Go.Proofs.YtdegfgncdphepaaDoor.Shf
