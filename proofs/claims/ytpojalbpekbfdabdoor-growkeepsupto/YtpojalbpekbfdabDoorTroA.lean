/- Package tree: leaving, opened. -/
import Derived.Test.YtpojalbpekbfdabDoorTrrK
import Derived.Test.YtpojalbpekbfdabDoorTrmB
import Derived.Test.YtpojalbpekbfdabDoorTraB
import Derived.Test.YtpojalbpekbfdabDoorTrwA
import Derived.Test.YtpojalbpekbfdabDoorTrsA
import Derived.Test.YtpojalbpekbfdabDoorTrhB
namespace Go.Proofs.YtpojalbpekbfdabDoor
open Go Go.RowKit
set_option linter.unusedSimpArgs false
set_option linter.unusedVariables false
set_option maxRecDepth 100000

def lvcf (D c e : Nat) (p y : List Int) : Nat → Value
  | 0 => .pointer (some ⟨D, 1, none⟩)
  | 1 => .agg (bv p).toArray
  | 2 => .agg (bv y).toArray
  | 3 => .int .i64 (c : Int)
  | 4 => .int .i64 (e : Int)
  | 5 => .bool (!decide ((c : Int) = (e : Int)))
  | 6 => .bool (!decide ((c : Int) = (e : Int)))
  | _ => undef
/-- How many leave the way at one bit, told by the first that does not. -/
theorem lvg_ixf (y : List Int) {l : List Nd} (hne : l ≠ []) : (ixf (fun x => !decide (cmy y x = cm (hp l) y 256)) l = -1 ∧ lvg y l = l.length) ∨ (ixf (fun x => !decide (cmy y x = cm (hp l) y 256)) l = (lvg y l : Int)) := by
  obtain ⟨c, hc⟩ : ∃ c, cm (hp l) y 256 = c := ⟨_, rfl⟩
  unfold lvg
  rw [hc]
  clear hc hne
  have key : ∀ l : List Nd, (l.findIdx? (fun x => !decide (cmy y x = c)) = none ∧ (l.takeWhile (fun x => decide (cmy y x = c))).length = l.length) ∨ l.findIdx? (fun x => !decide (cmy y x = c)) = some (l.takeWhile (fun x => decide (cmy y x = c))).length := by
    intro l
    induction l with
    | nil => exact .inl ⟨rfl, rfl⟩
    | cons x r ih =>
      by_cases h : cmy y x = c
      · rw [List.findIdx?_cons, List.takeWhile_cons]
        simp only [h, decide_true, Bool.not_true, Bool.false_eq_true, if_false, if_true, List.length_cons]
        rcases ih with ⟨i1, i2⟩ | i1
        · exact .inl ⟨by rw [i1]; rfl, by rw [i2]⟩
        · exact .inr (by rw [i1]; rfl)
      · rw [List.findIdx?_cons, List.takeWhile_cons]
        simp only [h, decide_false, Bool.not_false, if_true, Bool.false_eq_true, if_false]
        exact .inr rfl
  unfold ixf
  rcases key l with ⟨h1, h2⟩ | h1
  · rw [h1]; exact .inl ⟨rfl, h2⟩
  · rw [h1]; exact .inr rfl
def lv1f (b o len cap c : Nat) (p0 y : List Int) : Nat → Value
  | 0 => .slice (some ⟨b, o, none⟩) len cap
  | 1 => .pointer (some ⟨b, o, none⟩)
  | 2 => .pointer (some ⟨b, o + 1, none⟩)
  | 3 => .agg (bv p0).toArray
  | 4 => .agg (bv y).toArray
  | 5 => .int .i64 (c : Int)
  | 6 => undef
  | 7 => undef
  | _ => undef
end Go.Proofs.YtpojalbpekbfdabDoor
/- Package tree: opened. -/
namespace Go.Proofs.YtpojalbpekbfdabDoor
open Go Go.RowKit
set_option linter.unusedSimpArgs false
set_option linter.unusedVariables false
set_option maxRecDepth 100000

theorem NO.mono {B B' : Nat} {w : World} {v : Value} {l : List Nd} (h : NO B w v l) (hb : B' ≤ B) : NO B' w v l := by
  obtain ⟨⟨h1, h2⟩, hk, hB⟩ := h
  refine ⟨⟨h1, ?_⟩, hk, Nat.le_trans hb hB⟩
  rcases h2 with h2 | ⟨g, cap, cur, e, hg, r⟩
  · exact .inl h2
  · exact .inr ⟨g, cap, cur, e, Nat.le_trans hb hg, r⟩
def lenV : Value → Nat | .slice _ n _ => n | _ => 0
end Go.Proofs.YtpojalbpekbfdabDoor
/- Open of the package and of the reference; SameNodes. -/
namespace Go.Proofs.YtpojalbpekbfdabDoor
open Go Go.RowKit
set_option linter.unusedSimpArgs false
set_option linter.unusedVariables false
set_option maxRecDepth 100000

theorem rNodes_yes (ls : List Lf) (hk : ∀ x ∈ ls, x.Ok) (hlen : ls.length ≤ 2500000000000) (ho : okl ls) (v : Value) (w : World) (hv : LS w v ls) :
    Calls Tryd.prog 14 #[v] w fun e w' => ∃ v', e = .returned (.tuple #[v', .bool true]) ∧ NS w' v' (so ls) ∧ Below w.heap.size w w' :=
  (rNodes_any ls hk hlen v w hv).mono fun e w' ⟨v', er, he, hL, hb⟩ => by
    rcases hL with ⟨_, h1, h2⟩ | ⟨h1, _⟩
    · subst h1; exact ⟨v', he, h2, hb⟩
    · exact absurd ho h1
theorem rNodes_no (ls : List Lf) (hk : ∀ x ∈ ls, x.Ok) (hlen : ls.length ≤ 2500000000000) (ho : ¬ okl ls) (v : Value) (w : World) (hv : LS w v ls) :
    Calls Tryd.prog 14 #[v] w fun e w' => e = .returned (.tuple #[.slice none 0 0, .bool false]) ∧ Below w.heap.size w w' :=
  (rNodes_any ls hk hlen v w hv).mono fun e w' ⟨v', er, he, hL, hb⟩ => by
    rcases hL with ⟨h1, _⟩ | ⟨_, h1, h2⟩
    · exact absurd h1 ho
    · subst h1 h2; exact ⟨he, hb⟩
theorem zero_cells_32 : ∃ i, Tryd.prog.info? 25 = some i ∧ i.zero = some (.agg (bv z32).toArray) ∧ i.size = 32 ∧ i.bytes = 32 := by
  have h1 : (Tryd.prog.info? 25).map (·.size) = some 32 := by kernel_rfl
  have h2 : (Tryd.prog.info? 25).bind (·.zero) = some (.agg (bv z32).toArray) := by kernel_rfl
  have h3 : (Tryd.prog.info? 25).map (·.bytes) = some 32 := by kernel_rfl
  cases hq : Tryd.prog.info? 25 with
  | none => rw [hq] at h1; cases h1
  | some i => rw [hq] at h1 h2 h3; exact ⟨i, rfl, h2, Option.some.inj h1, Option.some.inj h3⟩
theorem run_oney (w : World) {x : List Int} (hx : L32 x) : (Instr.buildSlice 43 1 #[(0, .agg (bv x).toArray)]).run Tryd.prog w = .ok (.slice (some ⟨w.heap.size, 0, none⟩) 1 1) (w.alloc (.cells (bv x).toArray 25)) := by
  obtain ⟨i, hi, hz, hs, hb⟩ := zero_cells_32
  have h1 : (bv x).length = 32 := by rw [bv_length, hx.len]
  refine run_buildSlice w 43 25 1 _ (bv x).toArray i _ Tryd.underlying43 hi hz (by omega) (by omega) ?_
  have := _root_.Go.Great.fill_whole (s := i.size) (by omega) [.agg (bv x).toArray] ((Array.range (1 * i.size)).map ((Value.agg (bv z32).toArray).cells[· % (Value.agg (bv z32).toArray).cells.size]!)) (by intro v hv; simp at hv; subst hv; simp [Value.cells, hs, h1]) (by simp)
  simpa [Value.cells] using this
theorem wpList_oney {ops : Array Oper} {rest : List Oper} {o : Oper} {a : Act} {w : World} {Q : Exit → Act → World → Prop} (hg : o.guard = none) (y : Operand) (ho : o.op = .buildSlice 43 1 #[(0, y)]) (x : List Int) (hx : L32 x) (hy : a.eval y = .agg (bv x).toArray)
    (h : wpList Tryd.prog ops Q rest (a.put o.dst (.slice (some ⟨w.heap.size, 0, none⟩) 1 1)) (w.alloc (.cells (bv x).toArray 25))) : wpList Tryd.prog ops Q (o :: rest) a w := by
  refine wpList_plain hg fun K hK => ?_
  have hr := run_oney w hx
  unfold Oper.wp
  simp only [execOp, ho, List.map_toArray, List.map_cons, List.map_nil, hy, Sem.run_bind, hr, Result.andThen_ok, Sem.run_pure]
  exact hK _ _ h
theorem ys_one (w : World) (x : List Int) (t : TypeId) : YS (w.alloc (.cells (bv x).toArray t)) (.slice (some ⟨w.heap.size, 0, none⟩) 1 1) [x] :=
  ⟨_, 1, rfl, Nat.le_refl _, .inr ⟨w.heap.size, 0, rfl, by simp, fun i z hi => by
    cases i with
    | zero => simp at hi; subst hi; exact range_alloc w (bv x) t (0, 0)
    | succ i => simp at hi⟩⟩
theorem neq_nd {x : Nd} (h : x.Ok) (w : World) : (binOp .neq 33 (.agg (nc x).toArray) (.agg (nc x).toArray)).run Tryd.prog w = .ok (.bool false) w := by
  have h : (Op.equalIn Op.maxDepth 33 (.agg (nc x).toArray) (.agg (nc x).toArray)).run Tryd.prog w = .ok true w := eq_nd h w
  simp [binOp, h, Op.equal, go_sem]
/-- What opening leaves gives. -/
def OPo (ls : List Lf) (y : List Int) (v' : Value) (er : Int) (w w' : World) : Prop := (okl ls ∧ er = 0 ∧ NO w.heap.size w' v' (opl y (so ls))) ∨ (¬ okl ls ∧ er = 1 ∧ v' = .slice none 0 0)
def ROo (ls : List Lf) (y : List Int) (v' : Value) (er : Int) (w' : World) : Prop := (okl ls ∧ er = 0 ∧ NS w' v' (opl y (so ls))) ∨ (¬ okl ls ∧ er = 1 ∧ v' = .slice none 0 0)
def sn6f (b o b2 o2 len cap cap2 k : Nat) (x : Nd) : Nat → Value
  | 0 => .slice (some ⟨b, o, none⟩) len cap
  | 1 => .int .i64 (k : Int)
  | 2 => .pointer (some ⟨b, o + k * 65, none⟩)
  | 3 => .agg (nc x).toArray
  | 4 => .slice (some ⟨b2, o2, none⟩) len cap2
  | 5 => .int .i64 (k : Int)
  | 6 => .pointer (some ⟨b2, o2 + k * 65, none⟩)
  | 7 => .agg (nc x).toArray
  | 8 => .bool false
  | _ => undef
set_option maxHeartbeats 4000000 in
theorem sameNodes_any (l : List Nd) (hk : ∀ x ∈ l, x.Ok) (hlen : l.length ≤ 140737488355328) (v u : Value) (w : World) (hv : NS w v l) (hu : NS w u l) :
    Calls Tryd.prog 9 #[v, u] w fun e w' => e = .returned (.bool true) ∧ Below w.heap.size w w' := by
  obtain ⟨ad, cap, rfl, hc, hx⟩ := hv
  obtain ⟨ad2, cap2, rfl, hc2, hx2⟩ := hu
  have HXX : Hid (l = [] ∧ (ad = none → cap = 0) ∨ ∃ b o, ad = some ⟨b, o, none⟩ ∧ b < w.heap.size ∧ ∀ (i : Nat) (x : Nd), l[i]? = some x → w.rangeAt b (o + i * 65) (nc x)) := hx
  have HX2 : Hid (l = [] ∧ (ad2 = none → cap2 = 0) ∨ ∃ b o, ad2 = some ⟨b, o, none⟩ ∧ b < w.heap.size ∧ ∀ (i : Nat) (x : Nd), l[i]? = some x → w.rangeAt b (o + i * 65) (nc x)) := hx2
  have HK : Hid (∀ x ∈ l, x.Ok) := hk
  obtain ⟨len, hln⟩ : ∃ len, l.length = len := ⟨_, rfl⟩
  have HLN : Hid (l.length = len) := hln
  rw [hln] at hlen ⊢
  clear hx hx2 hk hc hc2 hln
  go_enter Tryd.func9, Tryd.ntmps9
  go_wp2_with fail
  go_loopw [13] (fun i wr => ∃ k : Nat, k ≤ len ∧ i = .int .i64 (k : Int) ∧ Below w.heap.size w wr) (fun i _ => len - (intOf i).toNat)
  case atStart => exact ⟨0, Nat.zero_le _, rfl, Below.refl _ _⟩
  case round =>
    obtain ⟨k, hkl, rfl, h4⟩ := hrel
    have H4 : Hid (Below w.heap.size w wr) := h4
    clear h4
    by_cases hlt : k < len
    · rcases HXX.out with ⟨h0, _⟩ | ⟨b, o, rfl, hlb, hm⟩
      · have := HLN.out; rw [h0] at this; simp at this; omega
      rcases HX2.out with ⟨h0, _⟩ | ⟨b2, o2, rfl, hlb2, hm2⟩
      · have := HLN.out; rw [h0] at this; simp at this; omega
      · obtain ⟨x, hx⟩ : ∃ x, l[k]? = some x := ⟨l[k]'(by have := HLN.out; omega), List.getElem?_eq_getElem _⟩
        have HX : Hid x.Ok := HK.out x (List.mem_of_getElem? hx)
        have RA : Hid (wr.rangeAt b (o + k * 65) (nc x)) := range_below (hm k x hx) H4.out hlb
        have LA : Hid (b < wr.heap.size) := Nat.lt_of_lt_of_le hlb H4.out.size
        have RB : Hid (wr.rangeAt b2 (o2 + k * 65) (nc x)) := range_below (hm2 k x hx) H4.out hlb2
        have LB : Hid (b2 < wr.heap.size) := Nat.lt_of_lt_of_le hlb2 H4.out.size
        clear hm hlb hm2 hlb2 hx
        go_upto_region 6 with (fail)
        refine RU.wp_rgn' [] (sn6f b o b2 o2 len cap cap2 k x) (fun _ => 0) (gΩ wr) (by kernel_rfl) (by kernel_rfl) (show Below wr.heap.size wr _ from (Below.refl _ _).drew) ?_ ?_
        · refine ⟨?_, ?_, ?_, ?_, ?_, ?_, ?_, ?_, ?_, trivial⟩
          · refine RU.ObT.pure rfl rfl rfl (fun a V hf hp ev he hc W => ?_)
            have q0 : ev (.tmp 0) = .slice (some ⟨b, o, none⟩) len cap := (he (.tmp 0)).trans (hf 0 rfl)
            simp only [List.getElem_toArray, List.getElem_cons_succ, List.getElem_cons_zero, execOp, Option.map_some, Option.map_none]; rw [q0]
            first | (go_simp; done) | (go_simp; rfl) | rfl
          · refine RU.ObT.pure rfl rfl rfl (fun a V hf hp ev he hc W => ?_)
            have q5 : ev (.tmp 5) = .int .i64 (k : Int) := (he (.tmp 5)).trans (hf 5 rfl)
            simp only [List.getElem_toArray, List.getElem_cons_succ, List.getElem_cons_zero, execOp, Option.map_some, Option.map_none]; rw [q5]
            first | (go_simp; done) | (go_simp; rfl) | rfl
          · refine RU.ObT.pure rfl rfl rfl (fun a V hf hp ev he hc W => ?_)
            have q16 : ev (.tmp 16) = .slice (some ⟨b, o, none⟩) len cap := (he (.tmp 16)).trans (hp 0 16 rfl)
            have q17 : ev (.tmp 17) = .int .i64 (k : Int) := (he (.tmp 17)).trans (hp 1 17 rfl)
            simp only [List.getElem_toArray, List.getElem_cons_succ, List.getElem_cons_zero, execOp, Option.map_some, Option.map_none]; rw [q16, q17]
            have hk9 : (k : Int) < (len : Int) := by omega
            first | (go_simp; done) | (go_simp; rfl) | rfl
          · refine RU.ObT.silent rfl (fun a W k0 V hO hf hp hk => ?_)
            have hO' : Below wr.heap.size wr W := hO
            have q18 : a.eval (.tmp 18) = .pointer (some ⟨b, o + k * 65, none⟩) := hp 2 18 rfl
            exact RU.ob_op rfl (RU.wanted_none rfl) (wp_load_mid 33 (.tmp 18) rfl (b) (o + k * 65) q18 (nc x) _ (range_below RA.out hO' LA.out) Tryd.underlying33 rfl (size_nc HX.out) ⟨rfl, hO⟩)
          · refine RU.ObT.pure rfl rfl rfl (fun a V hf hp ev he hc W => ?_)
            have q1 : ev (.tmp 1) = .slice (some ⟨b2, o2, none⟩) len cap2 := (he (.tmp 1)).trans (hf 1 rfl)
            simp only [List.getElem_toArray, List.getElem_cons_succ, List.getElem_cons_zero, execOp, Option.map_some, Option.map_none]; rw [q1]
            first | (go_simp; done) | (go_simp; rfl) | rfl
          · refine RU.ObT.pure rfl rfl rfl (fun a V hf hp ev he hc W => ?_)
            have q5 : ev (.tmp 5) = .int .i64 (k : Int) := (he (.tmp 5)).trans (hf 5 rfl)
            simp only [List.getElem_toArray, List.getElem_cons_succ, List.getElem_cons_zero, execOp, Option.map_some, Option.map_none]; rw [q5]
            first | (go_simp; done) | (go_simp; rfl) | rfl
          · refine RU.ObT.pure rfl rfl rfl (fun a V hf hp ev he hc W => ?_)
            have q20 : ev (.tmp 20) = .slice (some ⟨b2, o2, none⟩) len cap2 := (he (.tmp 20)).trans (hp 4 20 rfl)
            have q21 : ev (.tmp 21) = .int .i64 (k : Int) := (he (.tmp 21)).trans (hp 5 21 rfl)
            simp only [List.getElem_toArray, List.getElem_cons_succ, List.getElem_cons_zero, execOp, Option.map_some, Option.map_none]; rw [q20, q21]
            have hk9 : (k : Int) < (len : Int) := by omega
            first | (go_simp; done) | (go_simp; rfl) | rfl
          · refine RU.ObT.silent rfl (fun a W k0 V hO hf hp hk => ?_)
            have hO' : Below wr.heap.size wr W := hO
            have q22 : a.eval (.tmp 22) = .pointer (some ⟨b2, o2 + k * 65, none⟩) := hp 6 22 rfl
            exact RU.ob_op rfl (RU.wanted_none rfl) (wp_load_mid 33 (.tmp 22) rfl (b2) (o2 + k * 65) q22 (nc x) _ (range_below RB.out hO' LB.out) Tryd.underlying33 rfl (size_nc HX.out) ⟨rfl, hO⟩)
          · refine RU.ObT.pure rfl rfl rfl (fun a V hf hp ev he hc W => ?_)
            have q19 : ev (.tmp 19) = .agg (nc x).toArray := (he (.tmp 19)).trans (hp 3 19 rfl)
            have q23 : ev (.tmp 23) = .agg (nc x).toArray := (he (.tmp 23)).trans (hp 7 23 rfl)
            simp only [List.getElem_toArray, List.getElem_cons_succ, List.getElem_cons_zero, execOp, Option.map_some, Option.map_none]; rw [q19, q23]
            simp only [Sem.run_bind, eqg_nd, neq_nd HX.out W, Result.andThen_ok, Sem.run_pure]; rfl
        intro W1 VW1 hOW1
        have BW1 : Hid (Below wr.heap.size wr W1) := hOW1
        clear hOW1
        simp only [RU.lay, RU.val, RU.at', sn6f, Act.put]
        simp only [List.setIfInBounds_toArray, List.set_cons_succ, List.set_cons_zero]
        go_wp2_with fail
        exact ⟨⟨k + 1, by omega, by go_num, H4.out.trans (BW1.out.mono H4.out.size)⟩, by simp [intOf]; omega⟩
    · go_wp2_with fail
      go_ret
      exact ⟨rfl, H4.out⟩
end Go.Proofs.YtpojalbpekbfdabDoor
/- Rows of 32 bytes each, of a call's own. -/
namespace Go.Proofs.YtpojalbpekbfdabDoor
open Go Go.RowKit
set_option linter.unusedSimpArgs false
set_option linter.unusedVariables false
set_option maxRecDepth 100000

theorem l32_cells {x : List Int} (h : L32 x) : (bv x).length = 32 := by rw [bv_length, h.len]
theorem ys_none (w : World) (ad : Option Addr) (cap : Nat) (h : ad = none → cap = 0) : YS w (.slice ad 0 cap) [] := ⟨ad, cap, rfl, Nat.zero_le _, .inl ⟨rfl, h⟩⟩
/-- All cells of nodes. -/
def ycs (l : List (List Int)) : List Value := l.flatMap bv
theorem ycs_length : ∀ {l : List (List Int)}, (∀ x ∈ l, L32 x) → (ycs l).length = l.length * 32
  | [], _ => rfl
  | a :: r, h => by
    have ih := ycs_length (l := r) (fun x hx => h x (List.mem_cons_of_mem _ hx))
    show (bv a ++ ycs r).length = _
    rw [List.length_append, ih, l32_cells (h a List.mem_cons_self), List.length_cons]
    omega
theorem ycs_one (l : List (List Int)) : ∀ u ∈ ycs l, u.oneCell' = true := by
  intro u hu
  obtain ⟨x, hx, hu⟩ := List.mem_flatMap.1 hu
  have h := bv_one' x
  rw [Array.all_eq_true] at h
  obtain ⟨i, hi, rfl⟩ := List.getElem_of_mem hu
  have := h i (by simpa using hi)
  simpa using this
/-- A cell of all cells is a cell of a node. -/
theorem ycs_get : ∀ {l : List (List Int)}, (∀ x ∈ l, L32 x) → ∀ (i j : Nat) (x : (List Int)), l[i]? = some x → j < 32 → (ycs l)[i * 32 + j]? = (bv x)[j]?
  | [], _, i, j, x, h, _ => by simp at h
  | a :: r, hk, i, j, x, h, hj => by
    show (bv a ++ ycs r)[i * 32 + j]? = _
    have ha := l32_cells (hk a List.mem_cons_self)
    cases i with
    | zero =>
      simp at h; subst h
      rw [Nat.zero_mul, Nat.zero_add, List.getElem?_append_left (by omega)]
    | succ i =>
      rw [List.getElem?_append_right (by omega), ha, show (i + 1) * 32 + j - 32 = i * 32 + j by omega]
      exact ycs_get (fun x hx => hk x (List.mem_cons_of_mem _ hx)) i j x (by simpa using h) hj
theorem ycs_at {w : World} {b o : Nat} {l : List (List Int)} (hk : ∀ x ∈ l, L32 x) (hm : ∀ (i : Nat) (x : (List Int)), l[i]? = some x → w.rangeAt b (o + i * 32) (bv x)) : ∀ j u, (ycs l)[j]? = some u → w.cell? ⟨b, o + j, none⟩ = some u := by
  intro j u hu
  have hj := (List.getElem?_eq_some_iff.1 hu).1
  rw [ycs_length hk] at hj
  have hi : j / 32 < l.length := by omega
  have e := ycs_get hk (j / 32) (j % 32) l[j / 32] (List.getElem?_eq_getElem hi) (by omega)
  have hd : j / 32 * 32 + j % 32 = j := by omega
  rw [hd, hu] at e
  have := hm (j / 32) _ (List.getElem?_eq_getElem hi) (j % 32) u e.symm
  rwa [show o + j / 32 * 32 + j % 32 = o + j by omega] at this
theorem info_32 : ∃ i z, Tryd.prog.info? 25 = some i ∧ i.zero = some z ∧ i.size = 32 ∧ i.bytes = 32 ∧ z.cells.size = 32 := by
  have h1 : (Tryd.prog.info? 25).map (·.size) = some 32 := by kernel_rfl
  have h2 : (Tryd.prog.info? 25).map (·.bytes) = some 32 := by kernel_rfl
  have h3 : (Tryd.prog.info? 25).bind (fun i => i.zero.map (·.cells.size)) = some 32 := by kernel_rfl
  cases hq : Tryd.prog.info? 25 with
  | none => rw [hq] at h1; cases h1
  | some i =>
    rw [hq] at h1 h2 h3
    cases hz : i.zero with
    | none => simp [hz] at h3
    | some z => exact ⟨i, z, rfl, hz, Option.some.inj h1, Option.some.inj h2, by simpa [hz] using h3⟩
/-- Nodes in a row of one's own. -/
theorem ys_row {w : World} {v : Value} {l : List (List Int)} (hk : ∀ x ∈ l, L32 x) {B : Nat} (h : w.ownsRow B 25 32 v l.length (ycs l)) : YS w v l := by
  have h' := h
  obtain ⟨h1, ⟨rfl, h2⟩ | ⟨g, cap, cur, rfl, -, hg, hnc, -, hcs, -⟩⟩ := h
  · have : l = [] := List.length_eq_zero_iff.1 h2
    subst this
    exact ⟨none, 0, rfl, Nat.le_refl _, .inl ⟨rfl, fun _ => rfl⟩⟩
  · refine ⟨_, cap, rfl, hnc, .inr ⟨g, 0, rfl, (Array.getElem?_eq_some_iff.1 hg).1, ?_⟩⟩
    intro i x hi j u hu
    have hx : x ∈ l := List.mem_of_getElem? hi
    have hj := (List.getElem?_eq_some_iff.1 hu).1
    rw [l32_cells (hk x hx)] at hj
    have := h'.cells (g := g) rfl (i * 32 + j) u (by rw [ycs_get hk i j x hi hj]; exact hu)
    rw [addr_add0] at this
    rwa [show 0 + i * 32 + j = 0 + (i * 32 + j) by omega]
theorem lit_noy (w : World) : (Instr.buildSlice 43 0 #[]).run Tryd.prog w = .ok (.slice (some ⟨w.heap.size, 0, none⟩) 0 0) (w.alloc (.cells #[] 25)) := by kernel_rfl
/-- Nodes behind none. -/
theorem app_ys (w : World) (l : List (List Int)) (hk : ∀ x ∈ l, L32 x) (hlen : l.length ≤ 4400000000000) (u : Value) (hu : YS w u l) :
    ∃ v' w', (Builtin.append_ #[43, 43] 43 #[.slice (some ⟨w.heap.size, 0, none⟩) 0 0, u]).run Tryd.prog (w.alloc (.cells #[] 25)) = .ok v' w' ∧ YS w' v' l ∧ Below w.heap.size w w' := by
  obtain ⟨i, z, hi, hz, hs, hb, hzs⟩ := info_32
  obtain ⟨W, hW⟩ : ∃ W, w.alloc (.cells #[] 25) = W := ⟨_, rfl⟩
  have hB : Below w.heap.size w W := by rw [← hW]; exact (Below.refl _ w).alloc (Nat.le_refl _) _
  have hh : W.heap[w.heap.size]? = some (.cells #[] 25 (0, 0)) := by rw [← hW]; show (w.heap.push _)[w.heap.size]? = _; simp
  have hS : w.heap.size < W.heap.size := (Array.getElem?_eq_some_iff.1 hh).1
  have hu2 : YS W u l := hu.below hB
  rw [hW]
  have ho : W.ownsRow w.heap.size 25 32 (.slice (some ⟨w.heap.size, 0, none⟩) 0 0) 0 [] := ⟨rfl, .inr ⟨w.heap.size, 0, _, rfl, Nat.le_refl _, hh, Nat.le_refl _, by unfold maxLen; omega, rfl, rfl⟩⟩
  have hbytes : ((0 + l.length) + (0 + l.length) / 4 + 192) * 32 ≤ 281474976710656 := Nat.le_trans (Nat.mul_le_mul_right 32 (show (0 + l.length) + (0 + l.length) / 4 + 192 ≤ 5500000000192 by omega)) (by decide)
  have fin : ∀ w', W.grownBy w' ((.slice (some ⟨w.heap.size, 0, none⟩) 0 0 : Value).ownBlock) → Below w.heap.size w w' := fun w' g => hB.grown g (Nat.le_of_lt hS) (fun b e => by cases e; exact Nat.le_refl _)
  obtain ⟨ad, cap, rfl, hc, ⟨rfl, hn⟩ | ⟨b, o, rfl, hlt, hm⟩⟩ := hu2
  · cases ad with
    | none =>
      obtain rfl := hn rfl
      exact ⟨_, _, run_append_owned_none (P := Tryd.prog) W w.heap.size _ _ _ i 32 Tryd.underlying43 hi _ 0 [] ho, ys_none _ _ _ (fun h => by cases h), hB⟩
    | some A =>
      obtain ⟨v', w', hr, h2, h3, -⟩ := run_append_own_wide (P := Tryd.prog) W w.heap.size 43 43 25 i z 32 32 Tryd.underlying43 hi hz hs hb hzs (by decide) _ 0 [] ho A 0 cap [] rfl (fun j u hu => by simp at hu) (fun _ h => by cases h) (by unfold maxLen; omega) (by decide) (Nat.le_of_lt hS)
      exact ⟨v', w', hr, ys_row (l := []) (fun x hx => by cases hx) h2, fin w' h3⟩
  · obtain ⟨v', w', hr, h2, h3, -⟩ := run_append_own_wide (P := Tryd.prog) W w.heap.size 43 43 25 i z 32 32 Tryd.underlying43 hi hz hs hb hzs (by decide) _ 0 [] ho ⟨b, o, none⟩ l.length cap (ycs l) (ycs_length hk) (fun j u hu => by rw [addr_add0]; exact ycs_at hk hm j u hu) (ycs_one l) (by unfold maxLen; omega) hbytes (Nat.le_of_lt hS)
    rw [Nat.zero_add, List.nil_append] at h2
    exact ⟨v', w', hr, ys_row hk h2, fin w' h3⟩
/-- Nodes in a row of the call's own, from the block B on. -/
def YO (B : Nat) (w : World) (v : Value) (l : List (List Int)) : Prop := w.ownsRow B 25 32 v l.length (ycs l) ∧ (∀ x ∈ l, L32 x) ∧ B ≤ w.heap.size
theorem YO.ys {B : Nat} {w : World} {v : Value} {l : List (List Int)} (h : YO B w v l) : YS w v l := ys_row h.2.1 h.1
theorem YO.alloc {B : Nat} {w : World} {v : Value} {l : List (List Int)} (h : YO B w v l) (o : Obj) : YO B (w.alloc o) v l := ⟨h.1.alloc o, h.2.1, by have := h.2.2; simp; omega⟩
theorem YO.nil (w : World) : YO w.heap.size w (.slice none 0 0) [] := ⟨World.ownsRow_nil _ _ _ _, (fun x hx => by cases hx), Nat.le_refl _⟩
theorem YO.nil' {B : Nat} {w : World} (hB : B ≤ w.heap.size) : YO B w (.slice none 0 0) [] := ⟨World.ownsRow_nil _ _ _ _, (fun x hx => by cases hx), hB⟩
theorem YO.below {B : Nat} {w w' : World} {v : Value} {l : List (List Int)} (h : YO B w v l) (hb : Below w.heap.size w w') : YO B w' v l := ⟨own_keep h.1 hb, h.2.1, Nat.le_trans h.2.2 hb.size⟩
theorem ycs_app (l m : List (List Int)) : ycs (l ++ m) = ycs l ++ ycs m := by simp [ycs]
/-- Nodes behind nodes of the call's own. -/
theorem app_yown {B : Nat} {w : World} {v u : Value} {l m : List (List Int)} (h : YO B w v l) (hkm : ∀ x ∈ m, L32 x) (hu : YS w u m) (hlen : l.length + m.length ≤ 4400000000000) :
    ∃ v' w', (Builtin.append_ #[43, 43] 43 #[v, u]).run Tryd.prog w = .ok v' w' ∧ YO B w' v' (l ++ m) ∧ Below B w w' ∧ w.grownBy w' v.ownBlock := by
  obtain ⟨i, z, hi, hz, hs, hb, hzs⟩ := info_32
  obtain ⟨ho, hkl, hB⟩ := h
  have hkk : ∀ x ∈ l ++ m, L32 x := fun x hx => by
    rcases List.mem_append.1 hx with q | q
    · exact hkl x q
    · exact hkm x q
  have hbytes : ((l.length + m.length) + (l.length + m.length) / 4 + 192) * 32 ≤ 281474976710656 := Nat.le_trans (Nat.mul_le_mul_right 32 (show (l.length + m.length) + (l.length + m.length) / 4 + 192 ≤ 5500000000192 by omega)) (by decide)
  have fin : ∀ w', w.grownBy w' v.ownBlock → Below B w w' := fun w' g => (Below.refl B w).grown g hB (fun k e => (ho.lt k e).1)
  obtain ⟨ad, cap, rfl, hc, ⟨rfl, hn⟩ | ⟨b, o, rfl, hlt, hm⟩⟩ := hu
  · cases ad with
    | none =>
      obtain rfl := hn rfl
      refine ⟨_, _, run_append_owned_none (P := Tryd.prog) w B _ _ _ i 32 Tryd.underlying43 hi _ _ _ ho, ?_, Below.refl _ _, ⟨rfl, rfl, rfl, Nat.le_refl _, fun _ _ _ => rfl⟩⟩
      rw [List.append_nil]; exact ⟨ho, hkl, hB⟩
    | some A =>
      obtain ⟨v', w', hr, h2, h3, -⟩ := run_append_own_wide (P := Tryd.prog) w B 43 43 25 i z 32 32 Tryd.underlying43 hi hz hs hb hzs (by decide) _ _ _ ho A 0 cap [] rfl (fun j u hu => by simp at hu) (fun _ h => by cases h) (by unfold maxLen; simp at hlen ⊢; omega) (by simpa using hbytes) hB
      rw [Nat.add_zero, List.append_nil] at h2
      refine ⟨v', w', hr, ?_, fin w' h3, h3⟩
      rw [List.append_nil]
      exact ⟨h2, hkl, Nat.le_trans hB h3.size⟩
  · obtain ⟨v', w', hr, h2, h3, -⟩ := run_append_own_wide (P := Tryd.prog) w B 43 43 25 i z 32 32 Tryd.underlying43 hi hz hs hb hzs (by decide) _ _ _ ho ⟨b, o, none⟩ m.length cap (ycs m) (ycs_length hkm) (fun j u hu => by rw [addr_add0]; exact ycs_at hkm hm j u hu) (ycs_one m) (by unfold maxLen; omega) hbytes hB
    refine ⟨v', w', hr, ⟨?_, hkk, Nat.le_trans hB h3.size⟩, fin w' h3, h3⟩
    rw [List.length_append, ycs_app]; exact h2
/-- append of nodes onto a row of the call's own, within a walk. -/
theorem wp_appy {ops : Array Oper} {rest : List Oper} {o : Oper} {a : Act} {w : World} {Q : Exit → Act → World → Prop} (hgd : o.guard = none) (s x : Operand) (ho : o.op = .call { callee := .builtin .append, args := #[s, x], argTypes := #[43, 43] }) (hT : o.type = 43)
    (B : Nat) (v u : Value) (l m : List (List Int)) (hs : a.eval s = v) (hx : a.eval x = u) (h0 : YO B w v l) (hkm : ∀ x ∈ m, L32 x) (hu : YS w u m) (hlen : l.length + m.length ≤ 4400000000000)
    (h : ∀ v' w', YO B w' v' (l ++ m) → Below B w w' → wpList Tryd.prog ops Q rest (a.put o.dst v') w') : wpList Tryd.prog ops Q (o :: rest) a w := by
  obtain ⟨v', w', hr, h1, h2, -⟩ := app_yown h0 hkm hu hlen
  exact wp_app_run hgd s x 43 ho 43 hT v u v' w' hs hx hr (h v' w' h1 h2)
theorem wp_appyg {ops : Array Oper} {rest : List Oper} {o : Oper} {a : Act} {w : World} {Q : Exit → Act → World → Prop} (hgd : o.guard = none) (s x : Operand) (ho : o.op = .call { callee := .builtin .append, args := #[s, x], argTypes := #[43, 43] }) (hT : o.type = 43)
    (B : Nat) (v u : Value) (l m : List (List Int)) (hs : a.eval s = v) (hx : a.eval x = u) (h0 : YO B w v l) (hkm : ∀ x ∈ m, L32 x) (hu : YS w u m) (hlen : l.length + m.length ≤ 4400000000000)
    (h : ∀ v' w', YO B w' v' (l ++ m) → Below B w w' → w.grownBy w' v.ownBlock → wpList Tryd.prog ops Q rest (a.put o.dst v') w') : wpList Tryd.prog ops Q (o :: rest) a w := by
  obtain ⟨v', w', hr, h1, h2, h3⟩ := app_yown h0 hkm hu hlen
  exact wp_app_run hgd s x 43 ho 43 hT v u v' w' hs hx hr (h v' w' h1 h2 h3)
end Go.Proofs.YtpojalbpekbfdabDoor
