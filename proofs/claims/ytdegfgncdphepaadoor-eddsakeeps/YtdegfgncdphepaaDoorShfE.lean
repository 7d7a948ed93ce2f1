/- SHA-512: putWord32, putWord64, bytes512. -/
import Derived.Test.YtdegfgncdphepaaDoorShfD
namespace Go.Proofs.YtdegfgncdphepaaDoor.Shf
open Go Go.RowKit
set_option linter.unusedSimpArgs false
set_option linter.unusedVariables false
def b8 (x : Int) (d : Nat) : Value := .int .u8 (IntKind.u8.wrap (Int.fdiv x (2 ^ d)))
def by32 (x : Int) : List Value := [b8 x 24, b8 x 16, b8 x 8, .int .u8 (IntKind.u8.wrap x)]
def P1 : Cx := Cx.none.terms.tell [(999999, true)]
theorem P1_ok : P1.Ok Tryd.prog := Cx.tell_ok (Cx.terms_ok Cx.none_ok) _
theorem P1_gl : P1.gl = [] := by kernel_rfl
def pS (P : Program) (fn : Func) (l : List Value) (ty : TypeId) (o n k : Nat) (x : Int) : Act × Mem := runS P P1 40 (bodyOf fn) (sinit fn [slv 0 o n k, .int .u32 x], [some ⟨l, ty⟩])
def p1 (l : List Value) (o : Nat) (x : Int) : List Value := putL l o [b8 x 24]
def p2 (l : List Value) (o : Nat) (x : Int) : List Value := putL (p1 l o x) (o + 1) [b8 x 16]
def p3 (l : List Value) (o : Nat) (x : Int) : List Value := putL (p2 l o x) (o + 2) [b8 x 8]
def p4 (l : List Value) (o : Nat) (x : Int) : List Value := putL (p3 l o x) (o + 3) [.int .u8 (IntKind.u8.wrap x)]
theorem p_e (l : List Value) (ty : TypeId) (o n k : Nat) (x : Int) : sexec Tryd.prog P1 40 (bodyOf Tryd.f55) [] (sinit Tryd.f55 [slv 0 o n k, .int .u32 x], [some ⟨l, ty⟩]) =
    some ([(0 : Int) ≤ 24, (0 : Int) ≤ 16, (0 : Int) ≤ 8, (0 : Int) ≤ 0 ∧ (0 : Int) < (n : Int), 1 = 1 ∧ o + 1 ≤ l.length, (0 : Int) ≤ 1 ∧ (1 : Int) < (n : Int), 1 = 1 ∧ o + 1 + 1 ≤ (p1 l o x).length, (0 : Int) ≤ 2 ∧ (2 : Int) < (n : Int), 1 = 1 ∧ o + 2 + 1 ≤ (p2 l o x).length, (0 : Int) ≤ 3 ∧ (3 : Int) < (n : Int), 1 = 1 ∧ o + 3 + 1 ≤ (p3 l o x).length], .normal, pS Tryd.prog Tryd.f55 l ty o n k x) := by kernel_rfl
theorem p_r (l : List Value) (ty : TypeId) (o n k : Nat) (x : Int) : sres Tryd.prog Tryd.f55 (pS Tryd.prog Tryd.f55 l ty o n k x) = some (.tuple #[]) := by kernel_rfl
theorem p_d (l : List Value) (ty : TypeId) (o n k : Nat) (x : Int) : (pS Tryd.prog Tryd.f55 l ty o n k x).1.defers = [] := by kernel_rfl
theorem p_m (l : List Value) (ty : TypeId) (o n k : Nat) (x : Int) : (pS Tryd.prog Tryd.f55 l ty o n k x).2 = [some ⟨p4 l o x, ty⟩] := by kernel_rfl
theorem p_eq (l : List Value) (o : Nat) (x : Int) (h : o + 4 ≤ l.length) : (p1 l o x).length = l.length ∧ (p2 l o x).length = l.length ∧ (p3 l o x).length = l.length ∧ p4 l o x = putL l o (by32 x) := by
  have e2 : p2 l o x = putL l o [b8 x 24, b8 x 16] := putL_putL l [b8 x 24] [b8 x 16] o (by simp; omega)
  have e3 : p3 l o x = putL l o [b8 x 24, b8 x 16, b8 x 8] := by unfold p3; rw [e2]; exact putL_putL l [b8 x 24, b8 x 16] [b8 x 8] o (by simp; omega)
  have e4 : p4 l o x = putL l o (by32 x) := by unfold p4; rw [e3]; exact putL_putL l [b8 x 24, b8 x 16, b8 x 8] [.int .u8 (IntKind.u8.wrap x)] o (by simp; omega)
  refine ⟨putL_len _ _ _ (by simp; omega), ?_, ?_, e4⟩
  · rw [e2]; exact putL_len _ _ _ (by simp; omega)
  · rw [e3]; exact putL_len _ _ _ (by simp; omega)
def int1 (k : IntKind) (qs : List Value) : Int :=
  match qs with
  | [.int _ x] => x
  | _ => 0
def Tp32 (l : List Value) (o n k : Nat) (qs : List Value) : Prop := qs = [.int .u32 (int1 .u32 qs)] ∧ 4 ≤ n ∧ o + 4 ≤ l.length
def Up32 (l : List Value) (o : Nat) (qs : List Value) : List Value := putL l o (by32 (int1 .u32 qs))
theorem gP32_ok {X : Cx} (hX : X.Ok Tryd.prog) : (X.write 55 (gW1 Tp32 Up32)).Ok Tryd.prog := by
  refine gW1_ok hX Tryd.func55 (by kernel_rfl) (show _ = some (bodyOf Tryd.f55) from (by kernel_rfl)) ?_
  rintro l ty o n k qs hl hq ⟨hqs, hn, hlen⟩
  obtain ⟨l1, l2, l3, e4⟩ := p_eq l o (int1 .u32 qs) hlen
  refine ⟨putL_all _ _ _ _ hl rfl, ?_⟩
  unfold Up32
  generalize hx : int1 .u32 qs = x at *
  subst hqs
  refine SW.runG P1_ok mixed P1_gl 40 (p_e l ty o n k x) ?_ ⟨.inl rfl, p_d l ty o n k x, _, [], p_r l ty o n k x, .inl rfl, ?_, rfl⟩
  · intro p hp
    simp only [List.mem_cons, List.not_mem_nil, or_false] at hp
    rw [l1, l2, l3] at hp
    rcases hp with rfl | rfl | rfl | rfl | rfl | rfl | rfl | rfl | rfl | rfl | rfl
    all_goals first | omega | exact ⟨by trivial, by omega⟩
  · rw [p_m, e4]; rfl
/-- putWord64 -/
def hi32 (x : Int) : Int := IntKind.u32.wrap (Int.fdiv x (2 ^ 32))
def lo32 (x : Int) : Int := IntKind.u32.wrap x
def by64 (x : Int) : List Value := by32 (hi32 x) ++ by32 (lo32 x)
def P2 : Cx := (Cx.none.write 55 (gW1 Tp32 Up32)).terms
theorem P2_ok : P2.Ok Tryd.prog := Cx.terms_ok (gP32_ok Cx.none_ok)
theorem P2_gl : P2.gl = [] := by kernel_rfl
def qS (P : Program) (fn : Func) (l : List Value) (ty : TypeId) (o n k : Nat) (x : Int) : Act × Mem := runS P P2 40 (bodyOf fn) (sinit fn [slv 0 o n (k + 8), .int .u64 x], [some ⟨l, ty⟩])
theorem q_e (l : List Value) (ty : TypeId) (o n k : Nat) (x : Int) : sexec Tryd.prog P2 40 (bodyOf Tryd.f35) [] (sinit Tryd.f35 [slv 0 o n (k + 8), .int .u64 x], [some ⟨l, ty⟩]) =
    some ([(0 : Int) ≤ 4 ∧ (4 : Int) ≤ ((k + 8 : Nat) : Int), (0 : Int) ≤ 32, l.all flat1 = true, Tp32 l o 4 (k + 8) [.int .u32 (hi32 x)], (0 : Int) ≤ 8 ∧ (8 : Int) ≤ ((k + 8 : Nat) : Int), (0 : Int) ≤ 4 ∧ (4 : Int) ≤ ((8 : Nat) : Int), (putL l o (by32 (hi32 x))).all flat1 = true, Tp32 (putL l o (by32 (hi32 x))) (o + 4) 4 (k + 8 - 4) [.int .u32 (lo32 x)]], .normal, qS Tryd.prog Tryd.f35 l ty o n k x) := by kernel_rfl
theorem q_r (l : List Value) (ty : TypeId) (o n k : Nat) (x : Int) : sres Tryd.prog Tryd.f35 (qS Tryd.prog Tryd.f35 l ty o n k x) = some (.tuple #[]) := by kernel_rfl
theorem q_d (l : List Value) (ty : TypeId) (o n k : Nat) (x : Int) : (qS Tryd.prog Tryd.f35 l ty o n k x).1.defers = [] := by kernel_rfl
theorem q_m (l : List Value) (ty : TypeId) (o n k : Nat) (x : Int) : (qS Tryd.prog Tryd.f35 l ty o n k x).2 = [some ⟨putL (putL l o (by32 (hi32 x))) (o + 4) (by32 (lo32 x)), ty⟩] := by kernel_rfl
def Tp64 (l : List Value) (o n k : Nat) (qs : List Value) : Prop := qs = [.int .u64 (int1 .u64 qs)] ∧ 8 ≤ k ∧ o + 8 ≤ l.length
def Up64 (l : List Value) (o : Nat) (qs : List Value) : List Value := putL l o (by64 (int1 .u64 qs))
theorem gP64_ok {X : Cx} (hX : X.Ok Tryd.prog) : (X.write 35 (gW1 Tp64 Up64)).Ok Tryd.prog := by
  refine gW1_ok hX Tryd.func35 (by kernel_rfl) (show _ = some (bodyOf Tryd.f35) from (by kernel_rfl)) ?_
  rintro l ty o n k qs hl hq ⟨hqs, hk, hlen⟩
  obtain ⟨k, rfl⟩ := Nat.exists_eq_add_of_le' hk
  refine ⟨putL_all _ _ _ _ hl rfl, ?_⟩
  unfold Up64
  generalize hx : int1 .u64 qs = x at *
  subst hqs
  have e := putL_putL l (by32 (hi32 x)) (by32 (lo32 x)) o (by simp [by32]; omega)
  refine SW.runG P2_ok mixed P2_gl 40 (q_e l ty o n k x) ?_ ⟨.inl rfl, q_d l ty o n k x, _, [], q_r l ty o n k x, .inl rfl, ?_, rfl⟩
  · intro p hp
    simp only [List.mem_cons, List.not_mem_nil, or_false] at hp
    rcases hp with rfl | rfl | rfl | rfl | rfl | rfl | rfl | rfl
    · omega
    · omega
    · exact hl
    · exact ⟨rfl, by decide, by omega⟩
    · omega
    · omega
    · exact putL_all _ _ _ _ hl rfl
    · exact ⟨rfl, by decide, by rw [putL_len _ _ _ (by simp [by32]; omega)]; omega⟩
  · rw [q_m]
    have e' : putL (putL l o (by32 (hi32 x))) (o + 4) (by32 (lo32 x)) = putL l o (by64 x) := e
    rw [e']; rfl
/-- bytes512 -/
def P3 : Cx := Cx.none.write 35 (gW1 Tp64 Up64)
theorem P3_ok : P3.Ok Tryd.prog := gP64_ok Cx.none_ok
theorem P3_gl : P3.gl = [] := by kernel_rfl
def byP (c : Code) : List Code := [cL c, cL (cR c)]
def byQ (c : Code) : List Code := [cL (cL (cR (cR c)))]
def byB (c : Code) : Code := cL (cL (cR (cL (cR (cR c)))))
def byE (c : Code) : Code := cR (cR (cR c))
theorem by_code : bodyOf Tryd.f36 = seqs (byP (bodyOf Tryd.f36)) (.seq (seqs (byQ (bodyOf Tryd.f36)) (.block 0 (.loop (byB (bodyOf Tryd.f36))))) (byE (bodyOf Tryd.f36))) := by kernel_rfl
def z64 : List Value := List.replicate 64 (.int .u8 0)
def byF : List Nat := [0, 1, 4, 5] ++ (List.range 13).map (· + 8)
def byhd (s : S8) (i : Int) (q : List Value) : Act × Mem :=
  (⟨#[poison, poison, ptr 1, ptr 2, poison, poison, aggS s, .int .i64 i] ++ Array.replicate 13 poison, []⟩, [some ⟨rowS s, 63⟩, some ⟨z64, 25⟩, some ⟨q, 25⟩])
def byK (s : Act × Mem) : Act × Mem := (forgetL s.1 byF, s.2)
def byS (P : Program) (fn : Func) (s : S8) : Act × Mem := runL P P3 40 (byP (bodyOf fn)) (sinit fn [aggS s], [])
theorem by_pre (s : S8) : sexecL Tryd.prog P3 40 (byP (bodyOf Tryd.f36)) [] (sinit Tryd.f36 [aggS s], []) = some ([], byS Tryd.prog Tryd.f36 s) := by kernel_rfl
def byS1 (P : Program) (fn : Func) (s : S8) : Act × Mem := runL P P3 40 (byQ (bodyOf fn)) (byS P fn s)
theorem by_pre1 (s : S8) : sexecL Tryd.prog P3 40 (byQ (bodyOf Tryd.f36)) [] (byS Tryd.prog Tryd.f36 s) = some ([], byS1 Tryd.prog Tryd.f36 s) := by kernel_rfl
theorem by_h0 (s : S8) : byK (byS1 Tryd.prog Tryd.f36 s) = byhd s 0 z64 := by kernel_rfl
def wd (s : S8) (i : Nat) : Int := intL (rowS s) i
theorem by_round0 (s : S8) (q : List Value) : proj byK (sexec Tryd.prog P3 40 (byB (bodyOf Tryd.f36)) [] (byhd s 0 q)) = some ([q.all flat1 = true, Tp64 q (8 * 0) 8 (64 - 8 * 0) [.int .u64 (wd s 0)]], byhd s 1 (putL q (8 * 0) (by64 (wd s 0)))) := by kernel_rfl
theorem by_round1 (s : S8) (q : List Value) : proj byK (sexec Tryd.prog P3 40 (byB (bodyOf Tryd.f36)) [] (byhd s 1 q)) = some ([q.all flat1 = true, Tp64 q (8 * 1) 8 (64 - 8 * 1) [.int .u64 (wd s 1)]], byhd s 2 (putL q (8 * 1) (by64 (wd s 1)))) := by kernel_rfl
theorem by_round2 (s : S8) (q : List Value) : proj byK (sexec Tryd.prog P3 40 (byB (bodyOf Tryd.f36)) [] (byhd s 2 q)) = some ([q.all flat1 = true, Tp64 q (8 * 2) 8 (64 - 8 * 2) [.int .u64 (wd s 2)]], byhd s 3 (putL q (8 * 2) (by64 (wd s 2)))) := by kernel_rfl
theorem by_round3 (s : S8) (q : List Value) : proj byK (sexec Tryd.prog P3 40 (byB (bodyOf Tryd.f36)) [] (byhd s 3 q)) = some ([q.all flat1 = true, Tp64 q (8 * 3) 8 (64 - 8 * 3) [.int .u64 (wd s 3)]], byhd s 4 (putL q (8 * 3) (by64 (wd s 3)))) := by kernel_rfl
theorem by_round4 (s : S8) (q : List Value) : proj byK (sexec Tryd.prog P3 40 (byB (bodyOf Tryd.f36)) [] (byhd s 4 q)) = some ([q.all flat1 = true, Tp64 q (8 * 4) 8 (64 - 8 * 4) [.int .u64 (wd s 4)]], byhd s 5 (putL q (8 * 4) (by64 (wd s 4)))) := by kernel_rfl
theorem by_round5 (s : S8) (q : List Value) : proj byK (sexec Tryd.prog P3 40 (byB (bodyOf Tryd.f36)) [] (byhd s 5 q)) = some ([q.all flat1 = true, Tp64 q (8 * 5) 8 (64 - 8 * 5) [.int .u64 (wd s 5)]], byhd s 6 (putL q (8 * 5) (by64 (wd s 5)))) := by kernel_rfl
theorem by_round6 (s : S8) (q : List Value) : proj byK (sexec Tryd.prog P3 40 (byB (bodyOf Tryd.f36)) [] (byhd s 6 q)) = some ([q.all flat1 = true, Tp64 q (8 * 6) 8 (64 - 8 * 6) [.int .u64 (wd s 6)]], byhd s 7 (putL q (8 * 6) (by64 (wd s 6)))) := by kernel_rfl
theorem by_round7 (s : S8) (q : List Value) : proj byK (sexec Tryd.prog P3 40 (byB (bodyOf Tryd.f36)) [] (byhd s 7 q)) = some ([q.all flat1 = true, Tp64 q (8 * 7) 8 (64 - 8 * 7) [.int .u64 (wd s 7)]], byhd s 8 (putL q (8 * 7) (by64 (wd s 7)))) := by kernel_rfl
def byX (P : Program) (fn : Func) (s : S8) (q : List Value) : Act × Mem := runS P P3 40 (byB (bodyOf fn)) (byhd s 8 q)
theorem by_exit (s : S8) (q : List Value) : sexec Tryd.prog P3 40 (byB (bodyOf Tryd.f36)) [] (byhd s 8 q) = some ([], .exit 0, byX Tryd.prog Tryd.f36 s q) := by kernel_rfl
def out64 (s : S8) : List Value := by64 s.a ++ (by64 s.b ++ (by64 s.c ++ (by64 s.d ++ (by64 s.e ++ (by64 s.f ++ (by64 s.g ++ by64 s.h))))))
def byZ (P : Program) (fn : Func) (s t : S8) : Act × Mem := runS P P3 40 (byE (bodyOf fn)) (byX P fn s (out64 t))
theorem by_end (s t : S8) : sexec Tryd.prog P3 40 (byE (bodyOf Tryd.f36)) [] (byX Tryd.prog Tryd.f36 s (out64 t)) = some ([], .ret, byZ Tryd.prog Tryd.f36 s t) := by kernel_rfl
theorem by_res (s t : S8) : sres Tryd.prog Tryd.f36 (byZ Tryd.prog Tryd.f36 s t) = some (.agg (out64 t).toArray) := by kernel_rfl
theorem by_def (s t : S8) : (byZ Tryd.prog Tryd.f36 s t).1.defers = [] := by kernel_rfl
/-- The row, filled up to the word i. -/
def fil (s : S8) (i : Nat) : List Value := (out64 s).take (8 * i) ++ List.replicate (64 - 8 * i) (.int .u8 0)
theorem fil_put (s : S8) (i : Nat) (hi : i < 8) : putL (fil s i) (8 * i) (by64 (wd s i)) = fil s (i + 1) ∧ (fil s i).all flat1 = true ∧ (fil s i).length = 64 := by
  have : i = 0 ∨ i = 1 ∨ i = 2 ∨ i = 3 ∨ i = 4 ∨ i = 5 ∨ i = 6 ∨ i = 7 := by omega
  rcases this with rfl | rfl | rfl | rfl | rfl | rfl | rfl | rfl <;> exact ⟨by kernel_rfl, by kernel_rfl, by kernel_rfl⟩
theorem by_r (s : S8) (i : Nat) (hi : i < 8) (Q : Exit → Act × Mem → Prop) : SW Tryd.prog [] (byB (bodyOf Tryd.f36)) (byhd s (i : Int) (fil s i)) (thenS (fun z => (forgetL z.1 byF, z.2) = byhd s ((i + 1 : Nat) : Int) (fil s (i + 1))) Q) := by
  obtain ⟨e1, e2, e3⟩ := fil_put s i hi
  have h : proj byK (sexec Tryd.prog P3 40 (byB (bodyOf Tryd.f36)) [] (byhd s (i : Int) (fil s i))) = some ([(fil s i).all flat1 = true, Tp64 (fil s i) (8 * i) 8 (64 - 8 * i) [.int .u64 (wd s i)]], byhd s ((i + 1 : Nat) : Int) (putL (fil s i) (8 * i) (by64 (wd s i)))) := by
    have : i = 0 ∨ i = 1 ∨ i = 2 ∨ i = 3 ∨ i = 4 ∨ i = 5 ∨ i = 6 ∨ i = 7 := by omega
    rcases this with rfl | rfl | rfl | rfl | rfl | rfl | rfl | rfl
    · exact by_round0 s _
    · exact by_round1 s _
    · exact by_round2 s _
    · exact by_round3 s _
    · exact by_round4 s _
    · exact by_round5 s _
    · exact by_round6 s _
    · exact by_round7 s _
  rw [e1] at h
  obtain ⟨z, hs, he⟩ := proj_some h
  refine SW.runG P3_ok mixed P3_gl 40 hs ?_ (thenS_norm he)
  intro p hp
  simp only [List.mem_cons, List.not_mem_nil, or_false] at hp
  rcases hp with rfl | rfl
  · exact e2
  · exact ⟨rfl, by omega, by omega⟩
theorem fil_0 (s : S8) : fil s 0 = z64 := by kernel_rfl
theorem fil_8 (s : S8) : fil s 8 = out64 s := by kernel_rfl
theorem bytes_SW (s : S8) : SW Tryd.prog [] (bodyOf Tryd.f36) (sinit Tryd.f36 [aggS s], []) fun e z => (e = .normal ∨ e = .ret) ∧ z.1.defers = [] ∧ ∃ v x, sres Tryd.prog Tryd.f36 z = some v ∧ (flat v = true ∨ v = undef) ∧ z.2 = [] ++ x ∧ v = .agg (out64 s).toArray := by
  rw [by_code]
  refine SW.preG P3_ok mixed P3_gl rfl (by_pre s) (by simp) (SW.seq ?_)
  refine SW.preG P3_ok mixed P3_gl rfl (by_pre1 s) (by simp) (SW.block ?_)
  refine SW.loopK rfl byF (fun i => byhd s (i : Int) (fil s i)) 0 8 ((by_h0 s).trans (by rw [fil_0]; rfl)) (by decide) (fun i _ hi => by_r s i hi _) ?_
  refine SW.runG P3_ok mixed P3_gl 40 (by_exit s _) (by simp) (thenS_exit (blockS_exit (thenS_norm ?_)))
  rw [fil_8]
  exact SW.runG P3_ok mixed P3_gl 40 (by_end s s) (by simp) ⟨.inr rfl, by_def s s, _, (byZ Tryd.prog Tryd.f36 s s).2, by_res s s, .inl (by kernel_rfl), (List.nil_append _).symm, rfl⟩
def gByt (args : List Value) : Option (List Prop × Value) :=
  match args with
  | [.agg xs] => some ([[Value.agg xs] = [aggS (s8of [.agg xs])]], .agg (out64 (s8of [.agg xs])).toArray)
  | _ => none
theorem gByt_ok {X : Cx} (hX : X.Ok Tryd.prog) : (X.pure 36 gByt).Ok Tryd.prog := by
  refine gBody_ok hX Tryd.func36 (by kernel_rfl) (by kernel_rfl) fun args ps v ha hg hp => ?_
  unfold gByt at hg
  split at hg
  · rename_i xs
    simp only [Option.some.injEq, Prod.mk.injEq] at hg
    obtain ⟨rfl, rfl⟩ := hg
    have hxs := hp _ (List.mem_singleton.2 rfl)
    refine ⟨.inl rfl, fun w => ?_⟩
    generalize s8of [.agg xs] = s at *
    cases hxs
    refine (calls_of_SW (m := []) (r := fun _ => none) Tryd.func36 (by kernel_rfl) (bytes_SW s) (Rel.nil w) (by simp) (trL_flat ha)).mono ?_
    rintro e w' ⟨u, rfl, rfl, hb⟩
    exact ⟨rfl, hb⟩
  · simp at hg
end Go.Proofs.YtdegfgncdphepaaDoor.Shf
