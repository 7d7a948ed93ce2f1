/- Contracts of functions that read the bytes behind one slice, beside the variables. -/
import Derived.Test.YtdegfgncdphepaaDoorMemG
namespace Go.Proofs.YtdegfgncdphepaaDoor
open Go Go.RowKit
set_option linter.unusedSimpArgs false
set_option linter.unusedVariables false
variable {r : Ren} {w : World} {m : Mem} {P : Program} {X : Cx}
/-- A cell that names no small block. -/
def flatR : Value → Bool
  | .tuple _ => true
  | v => flat1 v
theorem flatR_tr (r r' : Ren) (v : Value) (h : flatR v = true) : tr1 r v = tr1 r' v := by
  unfold flatR at h
  split at h
  · rfl
  · rw [tr1_flat r v h, tr1_flat r' v h]
theorem flatR_trL (r r' : Ren) : ∀ l : List Value, l.all flatR = true → trL (tr1 r) l = trL (tr1 r') l
  | [], _ => rfl
  | v :: l, h => by
    simp only [List.all_cons, Bool.and_eq_true] at h
    simp only [trL, flatR_tr r r' v h.1, flatR_trL r r' l h.2]
theorem flatR_of {l : List Value} (h : l.all flat1 = true) : l.all flatR = true :=
  List.all_eq_true.2 fun v hv => by
    have := List.all_eq_true.1 h v hv
    unfold flatR
    split
    · rfl
    · exact this
/-- The variables' blocks, and one block more. -/
def oneR (M0 : Mem) (c : Nat) : Ren := fun k => if k = M0.length then some c else glR M0 k
theorem getB_snoc (M0 : Mem) (x : Option Blk) (k : Nat) : getB (M0 ++ [x]) k = if k = M0.length then x else getB M0 k := by
  unfold getB
  by_cases h : k = M0.length
  · subst h; simp
  · rw [if_neg h]
    rcases Nat.lt_or_ge k M0.length with h1 | h1
    · rw [List.getElem?_append_left h1]
    · rw [List.getElem?_append_right h1, List.getElem?_eq_none h1, List.getElem?_eq_none (by simp; omega)]
theorem Rel.oneG {M0 : Mem} (h : Rel r m w) (hfm : flatM M0 = true) (hg : gHas M0 m = true) (hgl : ∀ g, (getB M0 g).isSome = true → r g = some g) {b c : Nat} {B : Blk} (hB : getB m b = some B) (hc : r b = some c) (hn : (getB M0 b).isNone = true) (hfl : B.cells.all flatR = true) :
    Rel (oneR M0 c) (M0 ++ [some B]) w := by
  have hnc : ∀ k, (getB M0 k).isSome = true → c ≠ k := by
    rintro k hk rfl
    have := h.inj b c c hc (hgl c hk)
    subst this
    rw [Option.isNone_iff_eq_none] at hn
    rw [hn] at hk; cases hk
  have hG := h.glo hg hfm hgl
  refine ⟨fun k B' hB' => ?_, fun k c' hc' => ?_, fun k k' c' h1 h2 => ?_⟩
  · rw [getB_snoc] at hB'
    unfold oneR
    split at hB'
    · rename_i e
      rw [if_pos e]
      cases hB'
      obtain ⟨c2, cs2, p1, p2, p3⟩ := h.cells b B hB
      rw [hc] at p1; cases p1
      exact ⟨c, cs2, rfl, (flatR_trL _ r B.cells hfl).trans p2, p3⟩
    · rename_i e
      rw [if_neg e]
      exact ⟨k, B'.cells, by simp [glR, hB'], trL_all (tr1_flat _) (flatM_get hfm hB'), hG k B' hB'⟩
  · rw [getB_snoc]
    unfold oneR at hc'
    split at hc'
    · rename_i e; rw [if_pos e]; exact ⟨B, rfl⟩
    · rename_i e; rw [if_neg e]; exact (glR_some hc').2
  · unfold oneR at h1 h2
    split at h1 <;> split at h2
    · rename_i e1 e2; rw [e1, e2]
    · rename_i e1 e2
      cases h1
      obtain ⟨e, B2, hB2⟩ := glR_some h2
      exact absurd e (hnc k' (by rw [hB2]; rfl))
    · rename_i e1 e2
      cases h2
      obtain ⟨e, B2, hB2⟩ := glR_some h1
      exact absurd e (hnc k (by rw [hB2]; rfl))
    · rw [← (glR_some h1).1, ← (glR_some h2).1]
theorem oneR_glob {M0 : Mem} {gl : List Nat} (hin : insideG M0 gl = true) {c : Nat} : ∀ g ∈ gl, oneR M0 c g = some g := fun g hg => by
  have h1 : (getB M0 g).isSome = true := List.all_eq_true.1 hin g hg
  obtain ⟨B, hB⟩ := Option.isSome_iff_exists.1 h1
  have := getB_lt hB
  unfold oneR
  rw [if_neg (by omega)]
  simp [glR, hB]
/-- The contract: the last argument is a slice, the others are flat. -/
def gRd (M0 : Mem) (T : List Value → Nat → Nat → Nat → List Value → Prop) (V : List Value → Nat → Nat → List Value → Value) (args : List Value) (m : Mem) : Option (List Prop × Value) :=
  match args.getLast? with
  | some (.slice (some ⟨b, o, none⟩) n c) => if args.dropLast.all flat && (gHas M0 m && (getB M0 b).isNone) then
      (getB m b).map fun B => ([B.cells.all flatR = true, T B.cells o n c args.dropLast], V B.cells o n args.dropLast)
    else none
  | _ => none
theorem last_split {args : List Value} {v : Value} (h : args.getLast? = some v) : args = args.dropLast ++ [v] := by
  obtain ⟨ys, rfl⟩ := List.getLast?_eq_some_iff.1 h
  simp
theorem gRd_ok (hX : X.Ok P) {M0 : Mem} (hfm : flatM M0 = true) (hcov : coversG M0 X.gl = true) {gl : List Nat} (hin : insideG M0 gl = true) {f : FuncId} {fn : Func} {c : Code} (hf : P.funcs[f]? = some fn) (hname : (fn.name == "runtime.NumGoroutine") = false) (hb : fn.body = some c)
    {T : List Value → Nat → Nat → Nat → List Value → Prop} {V : List Value → Nat → Nat → List Value → Value}
    (h : ∀ l ty o n k qs, l.all flatR = true → qs.all flat = true → T l o n k qs → flat (V l o n qs) = true ∧
      SW P gl c (sinit fn (qs ++ [.slice (some ⟨M0.length, o, none⟩) n k]), M0 ++ [some ⟨l, ty⟩]) fun e s => (e = .normal ∨ e = .ret) ∧ s.1.defers = [] ∧ ∃ v x, sres P fn s = some v ∧ (flat v = true ∨ v = undef) ∧ s.2 = (M0 ++ [some ⟨l, ty⟩]) ++ x ∧ v = V l o n qs) :
    (X.read f (gRd M0 T V)).Ok P := by
  refine Cx.read_ok hX (fun args m ps v hg hp r w args' hr hgl ha => ?_) (fun args m q i B hi hg => ?_)
  · unfold gRd at hg
    split at hg
    · rename_i b o n k hl
      split at hg
      · rename_i hall
        simp only [Bool.and_eq_true] at hall
        cases hB : getB m b with
        | none => simp [hB] at hg
        | some B =>
          simp only [hB, Option.map_some, Option.some.injEq, Prod.mk.injEq] at hg
          obtain ⟨rfl, rfl⟩ := hg
          have hfl := hp _ (List.mem_cons_self)
          have hT := hp _ (List.mem_cons_of_mem _ (List.mem_singleton.2 rfl))
          obtain ⟨h1, h2⟩ := h B.cells B.ty o n k args.dropLast hfl hall.1 hT
          have e := last_split hl
          obtain ⟨c0, cs, p1, _, _⟩ := hr.cells b B hB
          have ha0 : trL (tr r) (args.dropLast ++ [.slice (some ⟨b, o, none⟩) n k]) = some (args.dropLast ++ [.slice (some ⟨c0, o, none⟩) n k]) := trL_append (trL_flat hall.1) (trL_mk (tr_of_slice p1) rfl)
          rw [← e, ha] at ha0
          cases ha0
          have hR := hr.oneG hfm hall.2.1 (fun g hg => hgl g (coversG_get hcov hg)) hB p1 hall.2.2 hfl
          have ha1 : trL (tr (oneR M0 c0)) (args.dropLast ++ [.slice (some ⟨M0.length, o, none⟩) n k]) = some (args.dropLast ++ [.slice (some ⟨c0, o, none⟩) n k]) := trL_append (trL_flat hall.1) (trL_mk (tr_of_slice (by simp [oneR])) rfl)
          refine call_enter hf hname hb ((calls_of_SW hf hb h2 hR (oneR_glob hin) ha1).mono ?_)
          rintro e w' ⟨u, rfl, rfl, hbel⟩
          exact ⟨_, rfl, tr_flat r _ h1, hbel⟩
      · simp at hg
    · simp at hg
  · unfold gRd at hg ⊢
    split at hg
    · rename_i b o n k hl
      split at hg
      · rename_i hall
        simp only [Bool.and_eq_true] at hall
        cases hB : getB m b with
        | none => simp [hB] at hg
        | some B' =>
          rw [if_pos (by simp only [Bool.and_eq_true]; exact ⟨hall.1, gHas_more hi hall.2.1, hall.2.2⟩), getB_fill (hole_ne hi hB)]
          exact hg
      · simp at hg
    · simp at hg
/-- A function of one word. -/
def gUn (k k' : IntKind) (S : Int → Int) (args : List Value) : Option (List Prop × Value) :=
  match args with
  | [.int q x] => if q = k then some ([], .int k' (S x)) else none
  | _ => none
theorem gUn_ok (hX : X.Ok Tryd.prog) {Y : Cx} (hY : Y.Ok Tryd.prog) (hgl : Y.gl = []) {n : Nat} {f : FuncId} {fn : Func} (hf : Tryd.prog.funcs[f]? = some fn) (hname : (fn.name == "runtime.NumGoroutine") = false) (hb : fn.body = some (bodyOf fn)) {k k' : IntKind} {S : Int → Int}
    (h : ∀ x, sfun Tryd.prog Y n fn (bodyOf fn) [.int k x] = some ([], .int k' (S x))) : (X.pure f (gUn k k' S)).Ok Tryd.prog := by
  refine gBody_ok hX hf hname hb fun args ps v ha hg hp => ?_
  unfold gUn at hg
  split at hg
  · rename_i q x
    split at hg
    · rename_i e
      subst e
      simp only [Option.some.injEq, Prod.mk.injEq] at hg
      obtain ⟨rfl, rfl⟩ := hg
      exact ⟨.inl rfl, fun w => sfun_calls hY mixed hf hb (h x) (by simp) ha (.inl rfl) w hgl⟩
    · simp at hg
  · simp at hg
end Go.Proofs.YtdegfgncdphepaaDoor
/- SHA-512: the functions of one word, as the program reckons them. -/
namespace Go.Proofs.YtdegfgncdphepaaDoor.Shf
open Go Go.RowKit
set_option linter.unusedSimpArgs false
set_option linter.unusedVariables false
/-- A word turned right by n bits. -/
def rotP (n : Nat) (x : Int) : Int := bits .or .u64 (IntKind.u64.wrap (x * 2 ^ (64 - n))) (Int.fdiv x (2 ^ n))
def rotK : List Int := [1, 8, 14, 18, 19, 28, 34, 39, 41, 61]
def gRotl (args : List Value) : Option (List Prop × Value) :=
  match args with
  | [.int .u64 x, .int .i64 k] => if rotK.contains (-k) then some ([], .int .u64 (rotP (-k).toNat x)) else none
  | _ => none
def gRotr (args : List Value) : Option (List Prop × Value) :=
  match args with
  | [.int .u64 x, .int .i64 k] => if rotK.contains k then some ([], .int .u64 (rotP k.toNat x)) else none
  | _ => none
theorem rotK_mem {k : Int} (h : rotK.contains k = true) : k = 1 ∨ k = 8 ∨ k = 14 ∨ k = 18 ∨ k = 19 ∨ k = 28 ∨ k = 34 ∨ k = 39 ∨ k = 41 ∨ k = 61 := by
  simpa [rotK] using h
theorem rotl1 (x : Int) : sfun Tryd.prog Cx.none 30 Tryd.f87 (bodyOf Tryd.f87) [.int .u64 x, .int .i64 (-1)] = some ([], .int .u64 (rotP 1 x)) := by kernel_rfl
theorem rotl8 (x : Int) : sfun Tryd.prog Cx.none 30 Tryd.f87 (bodyOf Tryd.f87) [.int .u64 x, .int .i64 (-8)] = some ([], .int .u64 (rotP 8 x)) := by kernel_rfl
theorem rotl14 (x : Int) : sfun Tryd.prog Cx.none 30 Tryd.f87 (bodyOf Tryd.f87) [.int .u64 x, .int .i64 (-14)] = some ([], .int .u64 (rotP 14 x)) := by kernel_rfl
theorem rotl18 (x : Int) : sfun Tryd.prog Cx.none 30 Tryd.f87 (bodyOf Tryd.f87) [.int .u64 x, .int .i64 (-18)] = some ([], .int .u64 (rotP 18 x)) := by kernel_rfl
theorem rotl19 (x : Int) : sfun Tryd.prog Cx.none 30 Tryd.f87 (bodyOf Tryd.f87) [.int .u64 x, .int .i64 (-19)] = some ([], .int .u64 (rotP 19 x)) := by kernel_rfl
theorem rotl28 (x : Int) : sfun Tryd.prog Cx.none 30 Tryd.f87 (bodyOf Tryd.f87) [.int .u64 x, .int .i64 (-28)] = some ([], .int .u64 (rotP 28 x)) := by kernel_rfl
theorem rotl34 (x : Int) : sfun Tryd.prog Cx.none 30 Tryd.f87 (bodyOf Tryd.f87) [.int .u64 x, .int .i64 (-34)] = some ([], .int .u64 (rotP 34 x)) := by kernel_rfl
theorem rotl39 (x : Int) : sfun Tryd.prog Cx.none 30 Tryd.f87 (bodyOf Tryd.f87) [.int .u64 x, .int .i64 (-39)] = some ([], .int .u64 (rotP 39 x)) := by kernel_rfl
theorem rotl41 (x : Int) : sfun Tryd.prog Cx.none 30 Tryd.f87 (bodyOf Tryd.f87) [.int .u64 x, .int .i64 (-41)] = some ([], .int .u64 (rotP 41 x)) := by kernel_rfl
theorem rotl61 (x : Int) : sfun Tryd.prog Cx.none 30 Tryd.f87 (bodyOf Tryd.f87) [.int .u64 x, .int .i64 (-61)] = some ([], .int .u64 (rotP 61 x)) := by kernel_rfl
theorem gRotl_ok {X : Cx} (hX : X.Ok Tryd.prog) : (X.pure 87 gRotl).Ok Tryd.prog := by
  refine gBody_ok hX Tryd.func87 (by kernel_rfl) (by kernel_rfl) fun args ps v ha hg hp => ?_
  unfold gRotl at hg
  split at hg
  · rename_i x k
    split at hg
    · rename_i hk
      simp only [Option.some.injEq, Prod.mk.injEq] at hg
      obtain ⟨rfl, rfl⟩ := hg
      refine ⟨.inl rfl, fun w => ?_⟩
      have run : sfun Tryd.prog Cx.none 30 Tryd.f87 (bodyOf Tryd.f87) [.int .u64 x, .int .i64 k] = some ([], .int .u64 (rotP (-k).toNat x)) := by
        obtain ⟨j, rfl⟩ : ∃ j, k = -j := ⟨-k, by omega⟩
        rw [Int.neg_neg] at hk ⊢
        rcases rotK_mem hk with rfl | rfl | rfl | rfl | rfl | rfl | rfl | rfl | rfl | rfl
        · exact rotl1 x
        · exact rotl8 x
        · exact rotl14 x
        · exact rotl18 x
        · exact rotl19 x
        · exact rotl28 x
        · exact rotl34 x
        · exact rotl39 x
        · exact rotl41 x
        · exact rotl61 x
      exact sfun_calls Cx.none_ok mixed Tryd.func87 (by kernel_rfl) run (by simp) ha (.inl rfl) w
    · simp at hg
  · simp at hg
def H1 : Cx := Cx.none.pure 87 gRotl
theorem H1_ok : H1.Ok Tryd.prog := gRotl_ok Cx.none_ok
theorem rotr1 (x : Int) : sfun Tryd.prog H1 30 Tryd.f71 (bodyOf Tryd.f71) [.int .u64 x, .int .i64 1] = some ([], .int .u64 (rotP 1 x)) := by kernel_rfl
theorem rotr8 (x : Int) : sfun Tryd.prog H1 30 Tryd.f71 (bodyOf Tryd.f71) [.int .u64 x, .int .i64 8] = some ([], .int .u64 (rotP 8 x)) := by kernel_rfl
theorem rotr14 (x : Int) : sfun Tryd.prog H1 30 Tryd.f71 (bodyOf Tryd.f71) [.int .u64 x, .int .i64 14] = some ([], .int .u64 (rotP 14 x)) := by kernel_rfl
theorem rotr18 (x : Int) : sfun Tryd.prog H1 30 Tryd.f71 (bodyOf Tryd.f71) [.int .u64 x, .int .i64 18] = some ([], .int .u64 (rotP 18 x)) := by kernel_rfl
theorem rotr19 (x : Int) : sfun Tryd.prog H1 30 Tryd.f71 (bodyOf Tryd.f71) [.int .u64 x, .int .i64 19] = some ([], .int .u64 (rotP 19 x)) := by kernel_rfl
theorem rotr28 (x : Int) : sfun Tryd.prog H1 30 Tryd.f71 (bodyOf Tryd.f71) [.int .u64 x, .int .i64 28] = some ([], .int .u64 (rotP 28 x)) := by kernel_rfl
theorem rotr34 (x : Int) : sfun Tryd.prog H1 30 Tryd.f71 (bodyOf Tryd.f71) [.int .u64 x, .int .i64 34] = some ([], .int .u64 (rotP 34 x)) := by kernel_rfl
theorem rotr39 (x : Int) : sfun Tryd.prog H1 30 Tryd.f71 (bodyOf Tryd.f71) [.int .u64 x, .int .i64 39] = some ([], .int .u64 (rotP 39 x)) := by kernel_rfl
theorem rotr41 (x : Int) : sfun Tryd.prog H1 30 Tryd.f71 (bodyOf Tryd.f71) [.int .u64 x, .int .i64 41] = some ([], .int .u64 (rotP 41 x)) := by kernel_rfl
theorem rotr61 (x : Int) : sfun Tryd.prog H1 30 Tryd.f71 (bodyOf Tryd.f71) [.int .u64 x, .int .i64 61] = some ([], .int .u64 (rotP 61 x)) := by kernel_rfl
theorem gRotr_ok {X : Cx} (hX : X.Ok Tryd.prog) : (X.pure 71 gRotr).Ok Tryd.prog := by
  refine gBody_ok hX Tryd.func71 (by kernel_rfl) (by kernel_rfl) fun args ps v ha hg hp => ?_
  unfold gRotr at hg
  split at hg
  · rename_i x k
    split at hg
    · rename_i hk
      simp only [Option.some.injEq, Prod.mk.injEq] at hg
      obtain ⟨rfl, rfl⟩ := hg
      refine ⟨.inl rfl, fun w => ?_⟩
      have run : sfun Tryd.prog H1 30 Tryd.f71 (bodyOf Tryd.f71) [.int .u64 x, .int .i64 k] = some ([], .int .u64 (rotP k.toNat x)) := by
        rcases rotK_mem hk with rfl | rfl | rfl | rfl | rfl | rfl | rfl | rfl | rfl | rfl
        · exact rotr1 x
        · exact rotr8 x
        · exact rotr14 x
        · exact rotr18 x
        · exact rotr19 x
        · exact rotr28 x
        · exact rotr34 x
        · exact rotr39 x
        · exact rotr41 x
        · exact rotr61 x
      exact sfun_calls H1_ok mixed Tryd.func71 (by kernel_rfl) run (by simp) ha (.inl rfl) w
    · simp at hg
  · simp at hg
def H2 : Cx := H1.pure 71 gRotr
theorem H2_ok : H2.Ok Tryd.prog := gRotr_ok H1_ok
def xor64 (x y : Int) : Int := bits .xor .u64 x y
def up0 (x : Int) : Int := xor64 (xor64 (rotP 28 x) (rotP 34 x)) (rotP 39 x)
def up1 (x : Int) : Int := xor64 (xor64 (rotP 14 x) (rotP 18 x)) (rotP 41 x)
def lo0 (x : Int) : Int := xor64 (xor64 (rotP 1 x) (rotP 8 x)) (Int.fdiv x (2 ^ 7))
def lo1 (x : Int) : Int := xor64 (xor64 (rotP 19 x) (rotP 61 x)) (Int.fdiv x (2 ^ 6))
theorem up0_run (x : Int) : sfun Tryd.prog H2 30 Tryd.f54 (bodyOf Tryd.f54) [.int .u64 x] = some ([], .int .u64 (up0 x)) := by kernel_rfl
theorem up1_run (x : Int) : sfun Tryd.prog H2 30 Tryd.f53 (bodyOf Tryd.f53) [.int .u64 x] = some ([], .int .u64 (up1 x)) := by kernel_rfl
theorem lo0_run (x : Int) : sfun Tryd.prog H2 30 Tryd.f70 (bodyOf Tryd.f70) [.int .u64 x] = some ([], .int .u64 (lo0 x)) := by kernel_rfl
theorem lo1_run (x : Int) : sfun Tryd.prog H2 30 Tryd.f69 (bodyOf Tryd.f69) [.int .u64 x] = some ([], .int .u64 (lo1 x)) := by kernel_rfl
def H3 : Cx := (((H2.pure 54 (gUn .u64 .u64 up0)).pure 53 (gUn .u64 .u64 up1)).pure 70 (gUn .u64 .u64 lo0)).pure 69 (gUn .u64 .u64 lo1)
theorem H3_ok : H3.Ok Tryd.prog :=
  gUn_ok (gUn_ok (gUn_ok (gUn_ok H2_ok H2_ok rfl Tryd.func54 (by kernel_rfl) (by kernel_rfl) up0_run) H2_ok rfl Tryd.func53 (by kernel_rfl) (by kernel_rfl) up1_run) H2_ok rfl Tryd.func70 (by kernel_rfl) (by kernel_rfl) lo0_run) H2_ok rfl Tryd.func69 (by kernel_rfl) (by kernel_rfl) lo1_run
end Go.Proofs.YtdegfgncdphepaaDoor.Shf
