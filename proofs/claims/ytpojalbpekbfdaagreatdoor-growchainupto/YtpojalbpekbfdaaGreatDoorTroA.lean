/- Package tree: leaving, opened. -/
import Derived.Test.YtpojalbpekbfdaaGreatDoorTrrK
import Derived.Test.YtpojalbpekbfdaaGreatDoorTrmB
import Derived.Test.YtpojalbpekbfdaaGreatDoorTraB
import Derived.Test.YtpojalbpekbfdaaGreatDoorTrwA
import Derived.Test.YtpojalbpekbfdaaGreatDoorTrsA
import Derived.Test.YtpojalbpekbfdaaGreatDoorTrhB
namespace Go.Proofs.YtpojalbpekbfdaaGreatDoor
open Go Go.RowKit
set_option linter.unusedSimpArgs false
set_option linter.unusedVariables false
set_option maxRecDepth 100000

def lvcf (D c e : Nat) (p y : List Int) : Nat → Value
  | 0 => .pointer (some ⟨D, 1, none⟩)
  | 1 => .agg (bv p).toArray
  | 2 => .agg (bv y).toArray
  | 3 => .int .i64 (c : Int)
  | 4 => .int .i64 (e : Int)
  | 5 => .bool (!decide ((c : Int) = (e : Int)))
  | 6 => .bool (!decide ((c : Int) = (e : Int)))
  | _ => undef
/-- How many leave the way at one bit, told by the first that does not. -/
theorem lvg_ixf (y : List Int) {l : List Nd} (hne : l ≠ []) : (ixf (fun x => !decide (cmy y x = cm (hp l) y 256)) l = -1 ∧ lvg y l = l.length) ∨ (ixf (fun x => !decide (cmy y x = cm (hp l) y 256)) l = (lvg y l : Int)) := by
  obtain ⟨c, hc⟩ : ∃ c, cm (hp l) y 256 = c := ⟨_, rfl⟩
  unfold lvg
  rw [hc]
  clear hc hne
  have key : ∀ l : List Nd, (l.findIdx? (fun x => !decide (cmy y x = c)) = none ∧ (l.takeWhile (fun x => decide (cmy y x = c))).length = l.length) ∨ l.findIdx? (fun x => !decide (cmy y x = c)) = some (l.takeWhile (fun x => decide (cmy y x = c))).length := by
    intro l
    induction l with
    | nil => exact .inl ⟨rfl, rfl⟩
    | cons x r ih =>
      by_cases h : cmy y x = c
      · rw [List.findIdx?_cons, List.takeWhile_cons]
        simp only [h, decide_true, Bool.not_true, Bool.false_eq_true, if_false, if_true, List.length_cons]
        rcases ih with ⟨i1, i2⟩ | i1
        · exact .inl ⟨by rw [i1]; rfl, by rw [i2]⟩
        · exact .inr (by rw [i1]; rfl)
      · rw [List.findIdx?_cons, List.takeWhile_cons]
        simp only [h, decide_false, Bool.not_false, if_true, Bool.false_eq_true, if_false]
        exact .inr rfl
  unfold ixf
  rcases key l with ⟨h1, h2⟩ | h1
  · rw [h1]; exact .inl ⟨rfl, h2⟩
  · rw [h1]; exact .inr rfl
def lv1f (b o len cap c : Nat) (p0 y : List Int) : Nat → Value
  | 0 => .slice (some ⟨b, o, none⟩) len cap
  | 1 => .pointer (some ⟨b, o, none⟩)
  | 2 => .pointer (some ⟨b, o + 1, none⟩)
  | 3 => .agg (bv p0).toArray
  | 4 => .agg (bv y).toArray
  | 5 => .int .i64 (c : Int)
  | 6 => undef
  | 7 => undef
  | _ => undef
end Go.Proofs.YtpojalbpekbfdaaGreatDoor
/- Package tree: opened. -/
namespace Go.Proofs.YtpojalbpekbfdaaGreatDoor
open Go Go.RowKit
set_option linter.unusedSimpArgs false
set_option linter.unusedVariables false
set_option maxRecDepth 100000

theorem NO.mono {B B' : Nat} {w : World} {v : Value} {l : List Nd} (h : NO B w v l) (hb : B' ≤ B) : NO B' w v l := by
  obtain ⟨⟨h1, h2⟩, hk, hB⟩ := h
  refine ⟨⟨h1, ?_⟩, hk, Nat.le_trans hb hB⟩
  rcases h2 with h2 | ⟨g, cap, cur, e, hg, r⟩
  · exact .inl h2
  · exact .inr ⟨g, cap, cur, e, Nat.le_trans hb hg, r⟩
def lenV : Value → Nat | .slice _ n _ => n | _ => 0
end Go.Proofs.YtpojalbpekbfdaaGreatDoor
/- Open of the package and of the reference; SameNodes. -/
namespace Go.Proofs.YtpojalbpekbfdaaGreatDoor
open Go Go.RowKit
set_option linter.unusedSimpArgs false
set_option linter.unusedVariables false
set_option maxRecDepth 100000

theorem rNodes_yes (ls : List Lf) (hk : ∀ x ∈ ls, x.Ok) (hlen : ls.length ≤ 2500000000000) (ho : okl ls) (v : Value) (w : World) (hv : LS w v ls) :
    Calls Tryz.prog 21 #[v] w fun e w' => ∃ v', e = .returned (.tuple #[v', .bool true]) ∧ NS w' v' (so ls) ∧ Below w.heap.size w w' :=
  (rNodes_any ls hk hlen v w hv).mono fun e w' ⟨v', er, he, hL, hb⟩ => by
    rcases hL with ⟨_, h1, h2⟩ | ⟨h1, _⟩
    · subst h1; exact ⟨v', he, h2, hb⟩
    · exact absurd ho h1
theorem rNodes_no (ls : List Lf) (hk : ∀ x ∈ ls, x.Ok) (hlen : ls.length ≤ 2500000000000) (ho : ¬ okl ls) (v : Value) (w : World) (hv : LS w v ls) :
    Calls Tryz.prog 21 #[v] w fun e w' => e = .returned (.tuple #[.slice none 0 0, .bool false]) ∧ Below w.heap.size w w' :=
  (rNodes_any ls hk hlen v w hv).mono fun e w' ⟨v', er, he, hL, hb⟩ => by
    rcases hL with ⟨h1, _⟩ | ⟨_, h1, h2⟩
    · exact absurd h1 ho
    · subst h1 h2; exact ⟨he, hb⟩
theorem zero_cells_32 : ∃ i, Tryz.prog.info? 32 = some i ∧ i.zero = some (.agg (bv z32).toArray) ∧ i.size = 32 ∧ i.bytes = 32 := by
  have h1 : (Tryz.prog.info? 32).map (·.size) = some 32 := by kernel_rfl
  have h2 : (Tryz.prog.info? 32).bind (·.zero) = some (.agg (bv z32).toArray) := by kernel_rfl
  have h3 : (Tryz.prog.info? 32).map (·.bytes) = some 32 := by kernel_rfl
  cases hq : Tryz.prog.info? 32 with
  | none => rw [hq] at h1; cases h1
  | some i => rw [hq] at h1 h2 h3; exact ⟨i, rfl, h2, Option.some.inj h1, Option.some.inj h3⟩
theorem run_oney (w : World) {x : List Int} (hx : L32 x) : (Instr.buildSlice 56 1 #[(0, .agg (bv x).toArray)]).run Tryz.prog w = .ok (.slice (some ⟨w.heap.size, 0, none⟩) 1 1) (w.alloc (.cells (bv x).toArray 32)) := by
  obtain ⟨i, hi, hz, hs, hb⟩ := zero_cells_32
  have h1 : (bv x).length = 32 := by rw [bv_length, hx.len]
  refine run_buildSlice w 56 32 1 _ (bv x).toArray i _ Tryz.underlying56 hi hz (by omega) (by omega) ?_
  have := _root_.Go.Great.fill_whole (s := i.size) (by omega) [.agg (bv x).toArray] ((Array.range (1 * i.size)).map ((Value.agg (bv z32).toArray).cells[· % (Value.agg (bv z32).toArray).cells.size]!)) (by intro v hv; simp at hv; subst hv; simp [Value.cells, hs, h1]) (by simp)
  simpa [Value.cells] using this
theorem wpList_oney {ops : Array Oper} {rest : List Oper} {o : Oper} {a : Act} {w : World} {Q : Exit → Act → World → Prop} (hg : o.guard = none) (y : Operand) (ho : o.op = .buildSlice 56 1 #[(0, y)]) (x : List Int) (hx : L32 x) (hy : a.eval y = .agg (bv x).toArray)
    (h : wpList Tryz.prog ops Q rest (a.put o.dst (.slice (some ⟨w.heap.size, 0, none⟩) 1 1)) (w.alloc (.cells (bv x).toArray 32))) : wpList Tryz.prog ops Q (o :: rest) a w := by
  refine wpList_plain hg fun K hK => ?_
  have hr := run_oney w hx
  unfold Oper.wp
  simp only [execOp, ho, List.map_toArray, List.map_cons, List.map_nil, hy, Sem.run_bind, hr, Result.andThen_ok, Sem.run_pure]
  exact hK _ _ h
theorem ys_one (w : World) (x : List Int) (t : TypeId) : YS (w.alloc (.cells (bv x).toArray t)) (.slice (some ⟨w.heap.size, 0, none⟩) 1 1) [x] :=
  ⟨_, 1, rfl, Nat.le_refl _, .inr ⟨w.heap.size, 0, rfl, by simp, fun i z hi => by
    cases i with
    | zero => simp at hi; subst hi; exact range_alloc w (bv x) t (0, 0)
    | succ i => simp at hi⟩⟩
theorem neq_nd {x : Nd} (h : x.Ok) (w : World) : (binOp .neq 41 (.agg (nc x).toArray) (.agg (nc x).toArray)).run Tryz.prog w = .ok (.bool false) w := by
  have h : (Op.equalIn Op.maxDepth 41 (.agg (nc x).toArray) (.agg (nc x).toArray)).run Tryz.prog w = .ok true w := eq_nd h w
  simp [binOp, h, Op.equal, go_sem]
/-- What opening leaves gives. -/
def OPo (ls : List Lf) (y : List Int) (v' : Value) (er : Int) (w w' : World) : Prop := (okl ls ∧ er = 0 ∧ NO w.heap.size w' v' (opl y (so ls))) ∨ (¬ okl ls ∧ er = 1 ∧ v' = .slice none 0 0)
def ROo (ls : List Lf) (y : List Int) (v' : Value) (er : Int) (w' : World) : Prop := (okl ls ∧ er = 0 ∧ NS w' v' (opl y (so ls))) ∨ (¬ okl ls ∧ er = 1 ∧ v' = .slice none 0 0)
set_option maxHeartbeats 4000000 in
theorem rOpen_any (ls : List Lf) (hk : ∀ x ∈ ls, x.Ok) (hlen : ls.length ≤ 2500000000000) (y : List Int) (hy : L32 y) (v : Value) (w : World) (hv : LS w v ls) :
    Calls Tryz.prog 10 #[v, .agg (bv y).toArray] w fun e w' => ∃ v' er, e = .returned (.tuple #[v', .int .i64 er]) ∧ ROo ls y v' er w' ∧ Below w.heap.size w w' := by
  have sy : (bv y).toArray.size = 32 := by rw [List.size_toArray, bv_length, hy.len]
  have ra := range_alloc w (bv y) 32 (0, 0)
  obtain ⟨A, hA⟩ : ∃ A, (bv y).toArray = A := ⟨_, rfl⟩
  rw [hA] at ra sy ⊢
  obtain ⟨U, hU⟩ : ∃ U, w.alloc (.cells A 32) = U := ⟨_, rfl⟩
  have bU : Below w.heap.size w U := by rw [← hU]; exact (Below.refl _ w).alloc (Nat.le_refl _) _
  have sU : U.heap.size = w.heap.size + 1 := by rw [← hU]; simp
  rw [hU] at ra
  have BU : Hid (Below w.heap.size w U) := bU
  have VU : Hid (LS U v ls) := hv.below bU
  have HY : Hid (L32 y) := hy
  have HK : Hid (∀ x ∈ ls, x.Ok) := hk
  have HLL : Hid (ls.length ≤ 2500000000000) := hlen
  obtain ⟨D, hD⟩ : ∃ D, w.heap.size = D := ⟨_, rfl⟩
  have HD : Hid (w.heap.size = D) := hD
  rw [hD] at ra sU
  have RY : Hid (U.rangeAt D 0 (bv y)) := ra
  have hDU : Hid (D < U.heap.size) := by show D < _; omega
  by_cases ho : okl ls
  · have HO : Hid (okl ls) := ho
    have HLN : Hid (Calls Tryz.prog 21 #[v] U fun e w' => ∃ v', e = .returned (.tuple #[v', .bool true]) ∧ NS w' v' (so ls) ∧ Below U.heap.size U w') := rNodes_yes ls hk hlen ho v U VU.out
    have HOP : Hid (∀ (v' yv : Value) (W : World), NS W v' (so ls) → YS W yv [y] → Calls Tryz.prog 22 #[v', yv, .bool true] W fun e w' => ∃ v', e = .returned v' ∧ NS w' v' (opl y (so ls)) ∧ Below W.heap.size W w') := fun v' yv W n1 n2 => by
      have := rWithout_any [y] (fun z hz => by simp at hz; subst hz; exact hy) (by simp) true _ (so ls) (Nat.le_refl _) (so_rsn hk ho) (by rw [so_len ho]; omega) v' yv W n1 n2
      have e : (fun n : Nd => [y].any (fun y => hl n y)) = fun n => hl n y := by funext n; simp
      rw [e, wo_opl y _ _ (so_rsn hk ho).ris (by omega)] at this
      exact this
    clear ra bU hy hk sU hv hlen hA ho
    go_enter Tryz.func10, Tryz.ntmps10
    go_upto_region 1 with (fail)
    try rw [hU]
    try rw [hD]
    clear hU hD
    go_wp2_with (first
      | (refine ld 32 (.tmp 3) rfl rfl D 0 rfl (bv y) _ (range_below RY.out B1.out hDU.out) Tryz.underlying32 rfl (size_l32 HY.out) ?_)
      | (refine wpList_oney rfl (.tmp 16) rfl y HY.out rfl ?_)
      | (go_at_call 21; refine HLN.out.mono ?_; rintro e w1 ⟨v1, rfl, g1, g2⟩; have N1 : Hid (NS w1 v1 (so ls)) := g1; have B1 : Hid (Below U.heap.size U w1) := g2; clear g1 g2)
      | (go_at_call 22; refine (HOP.out v1 _ _ (N1.out.below ((Below.refl _ w1).alloc (Nat.le_refl _) _)) (ys_one w1 y _)).mono ?_; rintro e w2 ⟨v2, rfl, g1, g2⟩; have N2 : Hid (NS w2 v2 (opl y (so ls))) := g1; have B2 : Hid (Below U.heap.size U w2) := Below.tr' (Below.tr' B1.out ((Below.refl _ w1).alloc (Nat.le_refl _) _)) g2; clear g1 g2))
    go_ret2
    exact ⟨_, _, rfl, .inl ⟨HO.out, rfl, N2.out⟩, BU.out.trans (B2.out.mono BU.out.size)⟩
  · have HO : Hid (¬ okl ls) := ho
    have HLN : Hid (Calls Tryz.prog 21 #[v] U fun e w' => e = .returned (.tuple #[.slice none 0 0, .bool false]) ∧ Below U.heap.size U w') := rNodes_no ls hk hlen ho v U VU.out
    clear ra bU hy hk sU hv hlen hA ho
    go_enter Tryz.func10, Tryz.ntmps10
    go_upto_region 1 with (fail)
    try rw [hU]
    try rw [hD]
    clear hU hD
    go_wp2_with (first
      | (go_at_call 21; refine HLN.out.mono ?_; rintro e w1 ⟨rfl, g2⟩; have B1 : Hid (Below U.heap.size U w1) := g2; clear g2))
    go_ret2
    exact ⟨_, _, rfl, .inr ⟨HO.out, rfl, rfl⟩, BU.out.trans (B1.out.mono BU.out.size)⟩
def sn6f (b o b2 o2 len cap cap2 k : Nat) (x : Nd) : Nat → Value
  | 0 => .slice (some ⟨b, o, none⟩) len cap
  | 1 => .int .i64 (k : Int)
  | 2 => .pointer (some ⟨b, o + k * 65, none⟩)
  | 3 => .agg (nc x).toArray
  | 4 => .slice (some ⟨b2, o2, none⟩) len cap2
  | 5 => .int .i64 (k : Int)
  | 6 => .pointer (some ⟨b2, o2 + k * 65, none⟩)
  | 7 => .agg (nc x).toArray
  | 8 => .bool false
  | _ => undef
end Go.Proofs.YtpojalbpekbfdaaGreatDoor
/- Rows of 32 bytes each, of a call's own. -/
namespace Go.Proofs.YtpojalbpekbfdaaGreatDoor
open Go Go.RowKit
set_option linter.unusedSimpArgs false
set_option linter.unusedVariables false
set_option maxRecDepth 100000

theorem l32_cells {x : List Int} (h : L32 x) : (bv x).length = 32 := by rw [bv_length, h.len]
theorem ys_none (w : World) (ad : Option Addr) (cap : Nat) (h : ad = none → cap = 0) : YS w (.slice ad 0 cap) [] := ⟨ad, cap, rfl, Nat.zero_le _, .inl ⟨rfl, h⟩⟩
/-- All cells of nodes. -/
def ycs (l : List (List Int)) : List Value := l.flatMap bv
theorem ycs_length : ∀ {l : List (List Int)}, (∀ x ∈ l, L32 x) → (ycs l).length = l.length * 32
  | [], _ => rfl
  | a :: r, h => by
    have ih := ycs_length (l := r) (fun x hx => h x (List.mem_cons_of_mem _ hx))
    show (bv a ++ ycs r).length = _
    rw [List.length_append, ih, l32_cells (h a List.mem_cons_self), List.length_cons]
    omega
theorem ycs_one (l : List (List Int)) : ∀ u ∈ ycs l, u.oneCell' = true := by
  intro u hu
  obtain ⟨x, hx, hu⟩ := List.mem_flatMap.1 hu
  have h := bv_one' x
  rw [Array.all_eq_true] at h
  obtain ⟨i, hi, rfl⟩ := List.getElem_of_mem hu
  have := h i (by simpa using hi)
  simpa using this
/-- A cell of all cells is a cell of a node. -/
theorem ycs_get : ∀ {l : List (List Int)}, (∀ x ∈ l, L32 x) → ∀ (i j : Nat) (x : (List Int)), l[i]? = some x → j < 32 → (ycs l)[i * 32 + j]? = (bv x)[j]?
  | [], _, i, j, x, h, _ => by simp at h
  | a :: r, hk, i, j, x, h, hj => by
    show (bv a ++ ycs r)[i * 32 + j]? = _
    have ha := l32_cells (hk a List.mem_cons_self)
    cases i with
    | zero =>
      simp at h; subst h
      rw [Nat.zero_mul, Nat.zero_add, List.getElem?_append_left (by omega)]
    | succ i =>
      rw [List.getElem?_append_right (by omega), ha, show (i + 1) * 32 + j - 32 = i * 32 + j by omega]
      exact ycs_get (fun x hx => hk x (List.mem_cons_of_mem _ hx)) i j x (by simpa using h) hj
theorem ycs_at {w : World} {b o : Nat} {l : List (List Int)} (hk : ∀ x ∈ l, L32 x) (hm : ∀ (i : Nat) (x : (List Int)), l[i]? = some x → w.rangeAt b (o + i * 32) (bv x)) : ∀ j u, (ycs l)[j]? = some u → w.cell? ⟨b, o + j, none⟩ = some u := by
  intro j u hu
  have hj := (List.getElem?_eq_some_iff.1 hu).1
  rw [ycs_length hk] at hj
  have hi : j / 32 < l.length := by omega
  have e := ycs_get hk (j / 32) (j % 32) l[j / 32] (List.getElem?_eq_getElem hi) (by omega)
  have hd : j / 32 * 32 + j % 32 = j := by omega
  rw [hd, hu] at e
  have := hm (j / 32) _ (List.getElem?_eq_getElem hi) (j % 32) u e.symm
  rwa [show o + j / 32 * 32 + j % 32 = o + j by omega] at this
theorem info_32 : ∃ i z, Tryz.prog.info? 32 = some i ∧ i.zero = some z ∧ i.size = 32 ∧ i.bytes = 32 ∧ z.cells.size = 32 := by
  have h1 : (Tryz.prog.info? 32).map (·.size) = some 32 := by kernel_rfl
  have h2 : (Tryz.prog.info? 32).map (·.bytes) = some 32 := by kernel_rfl
  have h3 : (Tryz.prog.info? 32).bind (fun i => i.zero.map (·.cells.size)) = some 32 := by kernel_rfl
  cases hq : Tryz.prog.info? 32 with
  | none => rw [hq] at h1; cases h1
  | some i =>
    rw [hq] at h1 h2 h3
    cases hz : i.zero with
    | none => simp [hz] at h3
    | some z => exact ⟨i, z, rfl, hz, Option.some.inj h1, Option.some.inj h2, by simpa [hz] using h3⟩
/-- Nodes in a row of one's own. -/
theorem ys_row {w : World} {v : Value} {l : List (List Int)} (hk : ∀ x ∈ l, L32 x) {B : Nat} (h : w.ownsRow B 32 32 v l.length (ycs l)) : YS w v l := by
  have h' := h
  obtain ⟨h1, ⟨rfl, h2⟩ | ⟨g, cap, cur, rfl, -, hg, hnc, -, hcs, -⟩⟩ := h
  · have : l = [] := List.length_eq_zero_iff.1 h2
    subst this
    exact ⟨none, 0, rfl, Nat.le_refl _, .inl ⟨rfl, fun _ => rfl⟩⟩
  · refine ⟨_, cap, rfl, hnc, .inr ⟨g, 0, rfl, (Array.getElem?_eq_some_iff.1 hg).1, ?_⟩⟩
    intro i x hi j u hu
    have hx : x ∈ l := List.mem_of_getElem? hi
    have hj := (List.getElem?_eq_some_iff.1 hu).1
    rw [l32_cells (hk x hx)] at hj
    have := h'.cells (g := g) rfl (i * 32 + j) u (by rw [ycs_get hk i j x hi hj]; exact hu)
    rw [addr_add0] at this
    rwa [show 0 + i * 32 + j = 0 + (i * 32 + j) by omega]
theorem lit_noy (w : World) : (Instr.buildSlice 56 0 #[]).run Tryz.prog w = .ok (.slice (some ⟨w.heap.size, 0, none⟩) 0 0) (w.alloc (.cells #[] 32)) := by kernel_rfl
/-- Nodes behind none. -/
theorem app_ys (w : World) (l : List (List Int)) (hk : ∀ x ∈ l, L32 x) (hlen : l.length ≤ 4400000000000) (u : Value) (hu : YS w u l) :
    ∃ v' w', (Builtin.append_ #[56, 56] 56 #[.slice (some ⟨w.heap.size, 0, none⟩) 0 0, u]).run Tryz.prog (w.alloc (.cells #[] 32)) = .ok v' w' ∧ YS w' v' l ∧ Below w.heap.size w w' := by
  obtain ⟨i, z, hi, hz, hs, hb, hzs⟩ := info_32
  obtain ⟨W, hW⟩ : ∃ W, w.alloc (.cells #[] 32) = W := ⟨_, rfl⟩
  have hB : Below w.heap.size w W := by rw [← hW]; exact (Below.refl _ w).alloc (Nat.le_refl _) _
  have hh : W.heap[w.heap.size]? = some (.cells #[] 32 (0, 0)) := by rw [← hW]; show (w.heap.push _)[w.heap.size]? = _; simp
  have hS : w.heap.size < W.heap.size := (Array.getElem?_eq_some_iff.1 hh).1
  have hu2 : YS W u l := hu.below hB
  rw [hW]
  have ho : W.ownsRow w.heap.size 32 32 (.slice (some ⟨w.heap.size, 0, none⟩) 0 0) 0 [] := ⟨rfl, .inr ⟨w.heap.size, 0, _, rfl, Nat.le_refl _, hh, Nat.le_refl _, by unfold maxLen; omega, rfl, rfl⟩⟩
  have hbytes : ((0 + l.length) + (0 + l.length) / 4 + 192) * 32 ≤ 281474976710656 := Nat.le_trans (Nat.mul_le_mul_right 32 (show (0 + l.length) + (0 + l.length) / 4 + 192 ≤ 5500000000192 by omega)) (by decide)
  have fin : ∀ w', W.grownBy w' ((.slice (some ⟨w.heap.size, 0, none⟩) 0 0 : Value).ownBlock) → Below w.heap.size w w' := fun w' g => hB.grown g (Nat.le_of_lt hS) (fun b e => by cases e; exact Nat.le_refl _)
  obtain ⟨ad, cap, rfl, hc, ⟨rfl, hn⟩ | ⟨b, o, rfl, hlt, hm⟩⟩ := hu2
  · cases ad with
    | none =>
      obtain rfl := hn rfl
      exact ⟨_, _, run_append_owned_none (P := Tryz.prog) W w.heap.size _ _ _ i 32 Tryz.underlying56 hi _ 0 [] ho, ys_none _ _ _ (fun h => by cases h), hB⟩
    | some A =>
      obtain ⟨v', w', hr, h2, h3, -⟩ := run_append_own_wide (P := Tryz.prog) W w.heap.size 56 56 32 i z 32 32 Tryz.underlying56 hi hz hs hb hzs (by decide) _ 0 [] ho A 0 cap [] rfl (fun j u hu => by simp at hu) (fun _ h => by cases h) (by unfold maxLen; omega) (by decide) (Nat.le_of_lt hS)
      exact ⟨v', w', hr, ys_row (l := []) (fun x hx => by cases hx) h2, fin w' h3⟩
  · obtain ⟨v', w', hr, h2, h3, -⟩ := run_append_own_wide (P := Tryz.prog) W w.heap.size 56 56 32 i z 32 32 Tryz.underlying56 hi hz hs hb hzs (by decide) _ 0 [] ho ⟨b, o, none⟩ l.length cap (ycs l) (ycs_length hk) (fun j u hu => by rw [addr_add0]; exact ycs_at hk hm j u hu) (ycs_one l) (by unfold maxLen; omega) hbytes (Nat.le_of_lt hS)
    rw [Nat.zero_add, List.nil_append] at h2
    exact ⟨v', w', hr, ys_row hk h2, fin w' h3⟩
/-- Nodes in a row of the call's own, from the block B on. -/
def YO (B : Nat) (w : World) (v : Value) (l : List (List Int)) : Prop := w.ownsRow B 32 32 v l.length (ycs l) ∧ (∀ x ∈ l, L32 x) ∧ B ≤ w.heap.size
theorem YO.ys {B : Nat} {w : World} {v : Value} {l : List (List Int)} (h : YO B w v l) : YS w v l := ys_row h.2.1 h.1
theorem YO.alloc {B : Nat} {w : World} {v : Value} {l : List (List Int)} (h : YO B w v l) (o : Obj) : YO B (w.alloc o) v l := ⟨h.1.alloc o, h.2.1, by have := h.2.2; simp; omega⟩
theorem YO.nil (w : World) : YO w.heap.size w (.slice none 0 0) [] := ⟨World.ownsRow_nil _ _ _ _, (fun x hx => by cases hx), Nat.le_refl _⟩
theorem YO.nil' {B : Nat} {w : World} (hB : B ≤ w.heap.size) : YO B w (.slice none 0 0) [] := ⟨World.ownsRow_nil _ _ _ _, (fun x hx => by cases hx), hB⟩
theorem YO.below {B : Nat} {w w' : World} {v : Value} {l : List (List Int)} (h : YO B w v l) (hb : Below w.heap.size w w') : YO B w' v l := ⟨own_keep h.1 hb, h.2.1, Nat.le_trans h.2.2 hb.size⟩
theorem ycs_app (l m : List (List Int)) : ycs (l ++ m) = ycs l ++ ycs m := by simp [ycs]
/-- Nodes behind nodes of the call's own. -/
theorem app_yown {B : Nat} {w : World} {v u : Value} {l m : List (List Int)} (h : YO B w v l) (hkm : ∀ x ∈ m, L32 x) (hu : YS w u m) (hlen : l.length + m.length ≤ 4400000000000) :
    ∃ v' w', (Builtin.append_ #[56, 56] 56 #[v, u]).run Tryz.prog w = .ok v' w' ∧ YO B w' v' (l ++ m) ∧ Below B w w' ∧ w.grownBy w' v.ownBlock := by
  obtain ⟨i, z, hi, hz, hs, hb, hzs⟩ := info_32
  obtain ⟨ho, hkl, hB⟩ := h
  have hkk : ∀ x ∈ l ++ m, L32 x := fun x hx => by
    rcases List.mem_append.1 hx with q | q
    · exact hkl x q
    · exact hkm x q
  have hbytes : ((l.length + m.length) + (l.length + m.length) / 4 + 192) * 32 ≤ 281474976710656 := Nat.le_trans (Nat.mul_le_mul_right 32 (show (l.length + m.length) + (l.length + m.length) / 4 + 192 ≤ 5500000000192 by omega)) (by decide)
  have fin : ∀ w', w.grownBy w' v.ownBlock → Below B w w' := fun w' g => (Below.refl B w).grown g hB (fun k e => (ho.lt k e).1)
  obtain ⟨ad, cap, rfl, hc, ⟨rfl, hn⟩ | ⟨b, o, rfl, hlt, hm⟩⟩ := hu
  · cases ad with
    | none =>
      obtain rfl := hn rfl
      refine ⟨_, _, run_append_owned_none (P := Tryz.prog) w B _ _ _ i 32 Tryz.underlying56 hi _ _ _ ho, ?_, Below.refl _ _, ⟨rfl, rfl, rfl, Nat.le_refl _, fun _ _ _ => rfl⟩⟩
      rw [List.append_nil]; exact ⟨ho, hkl, hB⟩
    | some A =>
      obtain ⟨v', w', hr, h2, h3, -⟩ := run_append_own_wide (P := Tryz.prog) w B 56 56 32 i z 32 32 Tryz.underlying56 hi hz hs hb hzs (by decide) _ _ _ ho A 0 cap [] rfl (fun j u hu => by simp at hu) (fun _ h => by cases h) (by unfold maxLen; simp at hlen ⊢; omega) (by simpa using hbytes) hB
      rw [Nat.add_zero, List.append_nil] at h2
      refine ⟨v', w', hr, ?_, fin w' h3, h3⟩
      rw [List.append_nil]
      exact ⟨h2, hkl, Nat.le_trans hB h3.size⟩
  · obtain ⟨v', w', hr, h2, h3, -⟩ := run_append_own_wide (P := Tryz.prog) w B 56 56 32 i z 32 32 Tryz.underlying56 hi hz hs hb hzs (by decide) _ _ _ ho ⟨b, o, none⟩ m.length cap (ycs m) (ycs_length hkm) (fun j u hu => by rw [addr_add0]; exact ycs_at hkm hm j u hu) (ycs_one m) (by unfold maxLen; omega) hbytes hB
    refine ⟨v', w', hr, ⟨?_, hkk, Nat.le_trans hB h3.size⟩, fin w' h3, h3⟩
    rw [List.length_append, ycs_app]; exact h2
/-- append of nodes onto a row of the call's own, within a walk. -/
theorem wp_appy {ops : Array Oper} {rest : List Oper} {o : Oper} {a : Act} {w : World} {Q : Exit → Act → World → Prop} (hgd : o.guard = none) (s x : Operand) (ho : o.op = .call { callee := .builtin .append, args := #[s, x], argTypes := #[56, 56] }) (hT : o.type = 56)
    (B : Nat) (v u : Value) (l m : List (List Int)) (hs : a.eval s = v) (hx : a.eval x = u) (h0 : YO B w v l) (hkm : ∀ x ∈ m, L32 x) (hu : YS w u m) (hlen : l.length + m.length ≤ 4400000000000)
    (h : ∀ v' w', YO B w' v' (l ++ m) → Below B w w' → wpList Tryz.prog ops Q rest (a.put o.dst v') w') : wpList Tryz.prog ops Q (o :: rest) a w := by
  obtain ⟨v', w', hr, h1, h2, -⟩ := app_yown h0 hkm hu hlen
  exact wp_app_run hgd s x 56 ho 56 hT v u v' w' hs hx hr (h v' w' h1 h2)
theorem wp_appyg {ops : Array Oper} {rest : List Oper} {o : Oper} {a : Act} {w : World} {Q : Exit → Act → World → Prop} (hgd : o.guard = none) (s x : Operand) (ho : o.op = .call { callee := .builtin .append, args := #[s, x], argTypes := #[56, 56] }) (hT : o.type = 56)
    (B : Nat) (v u : Value) (l m : List (List Int)) (hs : a.eval s = v) (hx : a.eval x = u) (h0 : YO B w v l) (hkm : ∀ x ∈ m, L32 x) (hu : YS w u m) (hlen : l.length + m.length ≤ 4400000000000)
    (h : ∀ v' w', YO B w' v' (l ++ m) → Below B w w' → w.grownBy w' v.ownBlock → wpList Tryz.prog ops Q rest (a.put o.dst v') w') : wpList Tryz.prog ops Q (o :: rest) a w := by
  obtain ⟨v', w', hr, h1, h2, h3⟩ := app_yown h0 hkm hu hlen
  exact wp_app_run hgd s x 56 ho 56 hT v u v' w' hs hx hr (h v' w' h1 h2 h3)
end Go.Proofs.YtpojalbpekbfdaaGreatDoor
