/- The reference for JSON: trees in memory; one list or object more. -/
import Derived.Test.YtefaohokmhdplaaDoorJxA
namespace Go.Proofs.YtefaohokmhdplaaDoor
open Go Go.RowKit
set_option linter.unusedSimpArgs false
set_option linter.unusedVariables false
set_option maxRecDepth 100000

/-- A slice. -/
structure Sv where
  ad : Option Addr
  n : Nat
  c : Nat
def Sv.v (p : Sv) : Value := .slice p.ad p.n p.c
/-- A tree. -/
structure Tv where
  k : Int
  b : Bool
  t : ByteArray
  ks : Sv
  ps : Sv
def tcv (x : Tv) : List Value := [.int .i64 x.k, .bool x.b, .string x.t, x.ks.v, x.ps.v]
def Tv.val (x : Tv) : Value := .agg #[.int .i64 x.k, .bool x.b, .string x.t, x.ks.v, x.ps.v]
def tcs (xs : List Tv) : List Value := xs.flatMap tcv
theorem tcs_length (xs : List Tv) : (tcs xs).length = xs.length * 5 := by
  induction xs with
  | nil => rfl
  | cons m t ih => simp [tcs, tcv] at ih ⊢; omega
theorem tcs_push (xs : List Tv) (x : Tv) : tcs (xs ++ [x]) = tcs xs ++ tcv x := by simp [tcs]
theorem tcs_at (xs : List Tv) : ∀ (i : Nat) (x : Tv), xs[i]? = some x → ∀ j, j < 5 → (tcs xs)[i * 5 + j]? = (tcv x)[j]? := by
  induction xs with
  | nil => intro i x h; simp at h
  | cons a t ih =>
    intro i x h j hj
    match i with
    | 0 =>
      simp at h; subst h
      simp only [tcs, List.flatMap_cons, Nat.zero_mul, Nat.zero_add]
      rw [List.getElem?_append_left (by simpa [tcv] using hj)]
    | i + 1 =>
      have := ih i x (by simpa using h) j hj
      simp only [tcs, List.flatMap_cons] at this ⊢
      rw [List.getElem?_append_right (by simp [tcv]; omega), show (i + 1) * 5 + j - (tcv a).length = i * 5 + j by simp [tcv]; omega]
      exact this
def keyc (ks : List ByteArray) : List Value := ks.map Value.string
/-- A value as a tree of the document's in memory. -/
inductive TJ (A : Nat → Prop) (w : World) : Tv → JV → Prop
  | null (x : Tv) (hk : x.k = 0) : TJ A w x .null
  | bool (x : Tv) (hk : x.k = 1) : TJ A w x (.bool x.b)
  | num (x : Tv) (hk : x.k = 2) : TJ A w x (.num x.t)
  | txt (x : Tv) (hk : x.k = 3) : TJ A w x (.txt x.t)
  | lst (x : Tv) (hk : x.k = 4) (xs : List Tv) (l : List JV) (h : RV A w 5 x.ps.v (tcs xs)) (hl : xs.length = l.length) (hv : ∀ (i : Nat) (y : Tv) (j : JV), xs[i]? = some y → l[i]? = some j → TJ A w y j) : TJ A w x (.lst l)
  | obj (x : Tv) (hk : x.k = 5) (ks : List ByteArray) (xs : List Tv) (l : List (ByteArray × JV)) (hks : RV A w 1 x.ks.v (keyc ks)) (h : RV A w 5 x.ps.v (tcs xs)) (hkl : ks.length = l.length) (hl : xs.length = l.length) (hkk : ∀ (i : Nat) (k : ByteArray) (j : ByteArray × JV), ks[i]? = some k → l[i]? = some j → k = j.1) (hv : ∀ (i : Nat) (y : Tv) (j : ByteArray × JV), xs[i]? = some y → l[i]? = some j → TJ A w y j.2) : TJ A w x (.obj l)
theorem TJ.keep {A A' : Nat → Prop} {w w' : World} {v : Tv} {j : JV} (h : TJ A w v j) (hk : ∀ b, A b → b < w.heap.size → A' b ∧ w'.heap[b]? = w.heap[b]?) (hs : w.heap.size ≤ w'.heap.size) : TJ A' w' v j := by
  induction h with
  | null x h => exact .null x h
  | bool x h => exact .bool x h
  | num x h => exact .num x h
  | txt x h => exact .txt x h
  | lst x h xs l hr hl hv ih => exact .lst x h xs l (hr.keep hk hs) hl ih
  | obj x h ks xs l hks hr hkl hl hkk hv ih => exact .obj x h ks xs l (hks.keep hk hs) (hr.keep hk hs) hkl hl hkk ih
def TS (A : Nat → Prop) (w : World) (xs : List Tv) (l : List JV) : Prop := xs.length = l.length ∧ ∀ (i : Nat) (x : Tv) (j : JV), xs[i]? = some x → l[i]? = some j → TJ A w x j
theorem TS.keep {A A' : Nat → Prop} {w w' : World} {xs : List Tv} {l : List JV} (h : TS A w xs l) (hk : ∀ b, A b → b < w.heap.size → A' b ∧ w'.heap[b]? = w.heap[b]?) (hs : w.heap.size ≤ w'.heap.size) : TS A' w' xs l :=
  ⟨h.1, fun i x j h1 h2 => (h.2 i x j h1 h2).keep hk hs⟩
theorem TS.push {A : Nat → Prop} {w : World} {xs : List Tv} {l : List JV} {x : Tv} {j : JV} (h : TS A w xs l) (hx : TJ A w x j) : TS A w (xs ++ [x]) (l ++ [j]) := by
  refine ⟨by simp [h.1], fun i y z h1 h2 => ?_⟩
  rcases Nat.lt_or_ge i xs.length with q | q
  · rw [List.getElem?_append_left q] at h1
    rw [List.getElem?_append_left (by rw [← h.1]; exact q)] at h2
    exact h.2 i y z h1 h2
  · rw [List.getElem?_append_right q] at h1
    rw [List.getElem?_append_right (by rw [← h.1]; exact q), ← h.1] at h2
    rcases Nat.eq_zero_or_pos (i - xs.length) with e | e
    · rw [e] at h1 h2; simp at h1 h2; subst h1; subst h2; exact hx
    · rw [List.getElem?_eq_none (by simp; omega)] at h1; cases h1
def SN : Sv := ⟨none, 0, 0⟩
def TN : Tv := ⟨0, false, ⟨#[]⟩, SN, SN⟩
theorem info_tree : ∃ i, Tryd.prog.info? 26 = some i ∧ i.zero = some TN.val ∧ i.size = 5 ∧ i.bytes = 80 := by
  have h1 : (Tryd.prog.info? 26).map (·.size) = some 5 := by kernel_rfl
  have h2 : (Tryd.prog.info? 26).map (·.bytes) = some 80 := by kernel_rfl
  have h3 : (Tryd.prog.info? 26).map (·.zero) = some (some TN.val) := by kernel_rfl
  cases hq : Tryd.prog.info? 26 with
  | none => rw [hq] at h1; cases h1
  | some i =>
    rw [hq] at h1 h2 h3
    exact ⟨i, rfl, Option.some.inj h3, Option.some.inj h1, Option.some.inj h2⟩
theorem tcv_one (x : Tv) : ∀ u ∈ tcv x, u.oneCell' = true := by
  intro u hu
  simp only [tcv, List.mem_cons, List.not_mem_nil, or_false] at hu
  rcases hu with rfl | rfl | rfl | rfl | rfl <;> rfl
/-- append of one tree. -/
theorem app_tree {ops : Array Oper} {rest : List Oper} {o : Oper} {a : Act} {Q : Exit → Act → World → Prop} {B0 : Nat} {wr : World} (hgd : o.guard = none) (s x : Operand) (ho : o.op = .call { callee := .builtin .append, args := #[s, x], argTypes := #[24, 24] })
    (v : Value) (n : Nat) (cs : List Value) (hs : a.eval s = v) (h0 : wr.ownsRow B0 26 5 v n cs) (b : Nat) (y : Tv) (hx : a.eval x = .slice (some ⟨b, 0, none⟩) 1 1) (hy : wr.rangeAt b 0 (tcv y)) (hn : n ≤ 1000000000) (hB : B0 ≤ wr.heap.size)
    (h : ∀ v' w', w'.ownsRow B0 26 5 v' (n + 1) (cs ++ tcv y) → wr.grownBy w' v.ownBlock → (v'.ownBlock = v.ownBlock ∨ v'.ownBlock = some wr.heap.size) → wpList Tryd.prog ops Q rest (a.put o.dst v') w') : wpList Tryd.prog ops Q (o :: rest) a wr := by
  obtain ⟨i, hi, hz, hsz, hby⟩ := info_tree
  refine wpList_append_own_at wr hgd s x 24 ho B0 26 i TN.val 5 80 Tryd.underlying24 hi hz hsz hby rfl (by decide) v n cs hs h0 ⟨b, 0, none⟩ 1 1 (tcv y) hx rfl ?_ (tcv_one y) (by unfold maxLen; omega) (by omega) hB (fun v' w' h1 h2 _ h4 => h v' w' h1 h2 h4)
  intro j u hj
  rw [addr_add0]; exact hy j u hj
theorem run_onetree (w : World) (x : Tv) : (Instr.buildSlice 24 1 #[(0, x.val)]).run Tryd.prog w = .ok (.slice (some ⟨w.heap.size, 0, none⟩) 1 1) (w.alloc (.cells (tcv x).toArray 26)) := by
  obtain ⟨i, hi, hz, hs, hb⟩ := info_tree
  refine run_buildSlice w 24 26 1 _ (tcv x).toArray i _ Tryd.underlying24 hi hz (by omega) (by omega) ?_
  have := _root_.Go.Great.fill_whole (s := i.size) (by omega) [x.val] ((Array.range (1 * i.size)).map (TN.val.cells[· % TN.val.cells.size]!)) (by intro y hy; simp at hy; subst hy; simp [Tv.val, Value.cells, hs]) (by simp)
  simpa [Value.cells, Tv.val, tcv] using this
theorem bs_tree {ops : Array Oper} {rest : List Oper} {o : Oper} {a : Act} {w : World} {Q : Exit → Act → World → Prop} (hg : o.guard = none) (y : Operand) (ho : o.op = .buildSlice 24 1 #[(0, y)]) (x : Tv) (hy : a.eval y = x.val)
    (h : wpList Tryd.prog ops Q rest (a.put o.dst (.slice (some ⟨w.heap.size, 0, none⟩) 1 1)) (w.alloc (.cells (tcv x).toArray 26))) : wpList Tryd.prog ops Q (o :: rest) a w := by
  refine wpList_plain hg fun K hK => ?_
  have hr := run_onetree w x
  unfold Oper.wp
  simp only [execOp, ho, List.map_toArray, List.map_cons, List.map_nil, hy, Sem.run_bind, hr, Result.andThen_ok, Sem.run_pure]
  exact hK _ _ h
variable {w : World} {g : Nat} {s : ByteArray} {i d : Nat}
/-- One list or object more. -/
theorem ropen_any (h : RB w g s i d false) (hi : i < s.size) (hs : s.size ≤ 8192) (hd : d < 16) :
    Calls Tryd.prog 63 #[.pointer (some ⟨g, 0, none⟩)] w fun e w' => e = .returned (.bool true) ∧ RB w' g s (sk s (i + 1)) (d + 1) false ∧ Cg g w w' := by
  have HS : Hid (s.size ≤ 8192) := hs
  obtain ⟨q0, q1, q2, q3⟩ := h.cells
  have f1 := h.froz 1
  have f2 := h.froz 2
  have b1 : (i : Int) ≤ 8192 := by omega
  have b2 : (0 : Int) ≤ (i : Int) := by omega
  have b3 : (d : Int) + 1 ≤ 16 := by omega
  have b4 : (0 : Int) ≤ (d : Int) := by omega
  have H0 : Hid (RB w g s i d false) := h
  have HI1 : Hid (i + 1 ≤ s.size) := hi
  clear h hs
  go_enter Tryd.func63, Tryd.ntmps63
  go_wp2_with fail
  have HP1 : Hid (RB ((w.setCell ⟨g, 2, none⟩ (.int .i64 ((d : Int) + 1))).setCell ⟨g, 1, none⟩ (.int .i64 ((i : Int) + 1))) g s (i + 1) (d + 1) false) := (H0.out.set2 (d + 1)).set1 (i + 1)
  have HC1 : Hid (Cg g w ((w.setCell ⟨g, 2, none⟩ (.int .i64 ((d : Int) + 1))).setCell ⟨g, 1, none⟩ (.int .i64 ((i : Int) + 1)))) := Chg.setCell (F := fun b => b = g) (Chg.setCell (F := fun b => b = g) (Chg.refl _ _) rfl) rfl
  refine (rblanks_any HP1.out HI1.out HS.out).mono ?_
  rintro e W2 ⟨rfl, p, c⟩
  have HP2 : Hid (RB W2 g s (sk s (i + 1)) (d + 1) false) := p
  have HC2 : Hid (Cg g w W2) := HC1.out.trans c
  clear p c
  go_wp2
  go_ret
  exact ⟨rfl, HP2.out, HC2.out⟩
theorem ropen_big (h : RB w g s i 16 false) :
    Calls Tryd.prog 63 #[.pointer (some ⟨g, 0, none⟩)] w fun e w' => e = .returned (.bool false) ∧ (∃ d', RB w' g s i d' true) ∧ Cg g w w' := by
  obtain ⟨q0, q1, q2, q3⟩ := h.cells
  have f1 := h.froz 3
  have f2 := h.froz 2
  have H0 : Hid (RB w g s i 16 false) := h
  clear h
  go_enter Tryd.func63, Tryd.ntmps63
  go_wp2
  go_ret
  exact ⟨rfl, ⟨17, (H0.out.set2 17).set3 true⟩, Chg.setCell (F := fun b => b = g) (Chg.setCell (F := fun b => b = g) (Chg.refl _ _) rfl) rfl⟩
end Go.Proofs.YtefaohokmhdplaaDoor
