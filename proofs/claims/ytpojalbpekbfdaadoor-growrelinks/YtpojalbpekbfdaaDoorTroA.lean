/- Package tree: leaving, opened. -/
import Derived.Test.YtpojalbpekbfdaaDoorTrsC
import Derived.Test.YtpojalbpekbfdaaDoorTrsB
import Derived.Test.YtpojalbpekbfdaaDoorTrwA
import Derived.Test.YtpojalbpekbfdaaDoorTrsA
import Derived.Test.YtpojalbpekbfdaaDoorTrhB
namespace Go.Proofs.YtpojalbpekbfdaaDoor
open Go Go.RowKit
set_option linter.unusedSimpArgs false
set_option linter.unusedVariables false
set_option maxRecDepth 100000

def lvcf (D c e : Nat) (p y : List Int) : Nat → Value
  | 0 => .pointer (some ⟨D, 1, none⟩)
  | 1 => .agg (bv p).toArray
  | 2 => .agg (bv y).toArray
  | 3 => .int .i64 (c : Int)
  | 4 => .int .i64 (e : Int)
  | 5 => .bool (!decide ((c : Int) = (e : Int)))
  | 6 => .bool (!decide ((c : Int) = (e : Int)))
  | _ => undef
/-- How many leave the way at one bit, told by the first that does not. -/
theorem lvg_ixf (y : List Int) {l : List Nd} (hne : l ≠ []) : (ixf (fun x => !decide (cmy y x = cm (hp l) y 256)) l = -1 ∧ lvg y l = l.length) ∨ (ixf (fun x => !decide (cmy y x = cm (hp l) y 256)) l = (lvg y l : Int)) := by
  obtain ⟨c, hc⟩ : ∃ c, cm (hp l) y 256 = c := ⟨_, rfl⟩
  unfold lvg
  rw [hc]
  clear hc hne
  have key : ∀ l : List Nd, (l.findIdx? (fun x => !decide (cmy y x = c)) = none ∧ (l.takeWhile (fun x => decide (cmy y x = c))).length = l.length) ∨ l.findIdx? (fun x => !decide (cmy y x = c)) = some (l.takeWhile (fun x => decide (cmy y x = c))).length := by
    intro l
    induction l with
    | nil => exact .inl ⟨rfl, rfl⟩
    | cons x r ih =>
      by_cases h : cmy y x = c
      · rw [List.findIdx?_cons, List.takeWhile_cons]
        simp only [h, decide_true, Bool.not_true, Bool.false_eq_true, if_false, if_true, List.length_cons]
        rcases ih with ⟨i1, i2⟩ | i1
        · exact .inl ⟨by rw [i1]; rfl, by rw [i2]⟩
        · exact .inr (by rw [i1]; rfl)
      · rw [List.findIdx?_cons, List.takeWhile_cons]
        simp only [h, decide_false, Bool.not_false, if_true, Bool.false_eq_true, if_false]
        exact .inr rfl
  unfold ixf
  rcases key l with ⟨h1, h2⟩ | h1
  · rw [h1]; exact .inl ⟨rfl, h2⟩
  · rw [h1]; exact .inr rfl
def lv1f (b o len cap c : Nat) (p0 y : List Int) : Nat → Value
  | 0 => .slice (some ⟨b, o, none⟩) len cap
  | 1 => .pointer (some ⟨b, o, none⟩)
  | 2 => .pointer (some ⟨b, o + 1, none⟩)
  | 3 => .agg (bv p0).toArray
  | 4 => .agg (bv y).toArray
  | 5 => .int .i64 (c : Int)
  | 6 => undef
  | 7 => undef
  | _ => undef
end Go.Proofs.YtpojalbpekbfdaaDoor
/- Package tree: opened. -/
namespace Go.Proofs.YtpojalbpekbfdaaDoor
open Go Go.RowKit
set_option linter.unusedSimpArgs false
set_option linter.unusedVariables false
set_option maxRecDepth 100000

theorem NO.mono {B B' : Nat} {w : World} {v : Value} {l : List Nd} (h : NO B w v l) (hb : B' ≤ B) : NO B' w v l := by
  obtain ⟨⟨h1, h2⟩, hk, hB⟩ := h
  refine ⟨⟨h1, ?_⟩, hk, Nat.le_trans hb hB⟩
  rcases h2 with h2 | ⟨g, cap, cur, e, hg, r⟩
  · exact .inl h2
  · exact .inr ⟨g, cap, cur, e, Nat.le_trans hb hg, r⟩
def lenV : Value → Nat | .slice _ n _ => n | _ => 0
end Go.Proofs.YtpojalbpekbfdaaDoor
/- Open of the package and of the reference; SameNodes. -/
namespace Go.Proofs.YtpojalbpekbfdaaDoor
open Go Go.RowKit
set_option linter.unusedSimpArgs false
set_option linter.unusedVariables false
set_option maxRecDepth 100000

theorem leafNodes_yes (ls : List Lf) (hk : ∀ x ∈ ls, x.Ok) (hlen : ls.length ≤ 2500000000000) (ho : okl ls) (v : Value) (w : World) (hv : LS w v ls) (hT : Tb w) :
    Calls Tryd.prog 61 #[v] w fun e w' => ∃ v', e = .returned (.tuple #[v', .int .i64 0]) ∧ NS w' v' (so ls) ∧ Below w.heap.size w w' :=
  (leafNodes_any ls hk hlen v w hv hT).mono fun e w' ⟨v', er, he, hL, hb⟩ => by
    rcases hL with ⟨_, h1, h2⟩ | ⟨h1, _⟩
    · subst h1; exact ⟨v', he, h2, hb⟩
    · exact absurd ho h1
theorem leafNodes_no (ls : List Lf) (hk : ∀ x ∈ ls, x.Ok) (hlen : ls.length ≤ 2500000000000) (ho : ¬ okl ls) (v : Value) (w : World) (hv : LS w v ls) (hT : Tb w) :
    Calls Tryd.prog 61 #[v] w fun e w' => e = .returned (.tuple #[.slice none 0 0, .int .i64 1]) ∧ Below w.heap.size w w' :=
  (leafNodes_any ls hk hlen v w hv hT).mono fun e w' ⟨v', er, he, hL, hb⟩ => by
    rcases hL with ⟨h1, _⟩ | ⟨_, h1, h2⟩
    · exact absurd h1 ho
    · subst h1 h2; exact ⟨he, hb⟩
theorem rNodes_yes (ls : List Lf) (hk : ∀ x ∈ ls, x.Ok) (hlen : ls.length ≤ 2500000000000) (ho : okl ls) (v : Value) (w : World) (hv : LS w v ls) :
    Calls Tryd.prog 24 #[v] w fun e w' => ∃ v', e = .returned (.tuple #[v', .bool true]) ∧ NS w' v' (so ls) ∧ Below w.heap.size w w' :=
  (rNodes_any ls hk hlen v w hv).mono fun e w' ⟨v', er, he, hL, hb⟩ => by
    rcases hL with ⟨_, h1, h2⟩ | ⟨h1, _⟩
    · subst h1; exact ⟨v', he, h2, hb⟩
    · exact absurd ho h1
theorem rNodes_no (ls : List Lf) (hk : ∀ x ∈ ls, x.Ok) (hlen : ls.length ≤ 2500000000000) (ho : ¬ okl ls) (v : Value) (w : World) (hv : LS w v ls) :
    Calls Tryd.prog 24 #[v] w fun e w' => e = .returned (.tuple #[.slice none 0 0, .bool false]) ∧ Below w.heap.size w w' :=
  (rNodes_any ls hk hlen v w hv).mono fun e w' ⟨v', er, he, hL, hb⟩ => by
    rcases hL with ⟨h1, _⟩ | ⟨_, h1, h2⟩
    · exact absurd h1 ho
    · subst h1 h2; exact ⟨he, hb⟩
theorem zero_cells_32 : ∃ i, Tryd.prog.info? 31 = some i ∧ i.zero = some (.agg (bv z32).toArray) ∧ i.size = 32 ∧ i.bytes = 32 := by
  have h1 : (Tryd.prog.info? 31).map (·.size) = some 32 := by kernel_rfl
  have h2 : (Tryd.prog.info? 31).bind (·.zero) = some (.agg (bv z32).toArray) := by kernel_rfl
  have h3 : (Tryd.prog.info? 31).map (·.bytes) = some 32 := by kernel_rfl
  cases hq : Tryd.prog.info? 31 with
  | none => rw [hq] at h1; cases h1
  | some i => rw [hq] at h1 h2 h3; exact ⟨i, rfl, h2, Option.some.inj h1, Option.some.inj h3⟩
theorem run_oney (w : World) {x : List Int} (hx : L32 x) : (Instr.buildSlice 54 1 #[(0, .agg (bv x).toArray)]).run Tryd.prog w = .ok (.slice (some ⟨w.heap.size, 0, none⟩) 1 1) (w.alloc (.cells (bv x).toArray 31)) := by
  obtain ⟨i, hi, hz, hs, hb⟩ := zero_cells_32
  have h1 : (bv x).length = 32 := by rw [bv_length, hx.len]
  refine run_buildSlice w 54 31 1 _ (bv x).toArray i _ Tryd.underlying54 hi hz (by omega) (by omega) ?_
  have := _root_.Go.Great.fill_whole (s := i.size) (by omega) [.agg (bv x).toArray] ((Array.range (1 * i.size)).map ((Value.agg (bv z32).toArray).cells[· % (Value.agg (bv z32).toArray).cells.size]!)) (by intro v hv; simp at hv; subst hv; simp [Value.cells, hs, h1]) (by simp)
  simpa [Value.cells] using this
theorem wpList_oney {ops : Array Oper} {rest : List Oper} {o : Oper} {a : Act} {w : World} {Q : Exit → Act → World → Prop} (hg : o.guard = none) (y : Operand) (ho : o.op = .buildSlice 54 1 #[(0, y)]) (x : List Int) (hx : L32 x) (hy : a.eval y = .agg (bv x).toArray)
    (h : wpList Tryd.prog ops Q rest (a.put o.dst (.slice (some ⟨w.heap.size, 0, none⟩) 1 1)) (w.alloc (.cells (bv x).toArray 31))) : wpList Tryd.prog ops Q (o :: rest) a w := by
  refine wpList_plain hg fun K hK => ?_
  have hr := run_oney w hx
  unfold Oper.wp
  simp only [execOp, ho, List.map_toArray, List.map_cons, List.map_nil, hy, Sem.run_bind, hr, Result.andThen_ok, Sem.run_pure]
  exact hK _ _ h
theorem ys_one (w : World) (x : List Int) (t : TypeId) : YS (w.alloc (.cells (bv x).toArray t)) (.slice (some ⟨w.heap.size, 0, none⟩) 1 1) [x] :=
  ⟨_, 1, rfl, Nat.le_refl _, .inr ⟨w.heap.size, 0, rfl, by simp, fun i z hi => by
    cases i with
    | zero => simp at hi; subst hi; exact range_alloc w (bv x) t (0, 0)
    | succ i => simp at hi⟩⟩
theorem neq_nd {x : Nd} (h : x.Ok) (w : World) : (binOp .neq 44 (.agg (nc x).toArray) (.agg (nc x).toArray)).run Tryd.prog w = .ok (.bool false) w := by
  have h : (Op.equalIn Op.maxDepth 44 (.agg (nc x).toArray) (.agg (nc x).toArray)).run Tryd.prog w = .ok true w := eq_nd h w
  simp [binOp, h, Op.equal, go_sem]
/-- What opening leaves gives. -/
def OPo (ls : List Lf) (y : List Int) (v' : Value) (er : Int) (w w' : World) : Prop := (okl ls ∧ er = 0 ∧ NO w.heap.size w' v' (opl y (so ls))) ∨ (¬ okl ls ∧ er = 1 ∧ v' = .slice none 0 0)
def ROo (ls : List Lf) (y : List Int) (v' : Value) (er : Int) (w' : World) : Prop := (okl ls ∧ er = 0 ∧ NS w' v' (opl y (so ls))) ∨ (¬ okl ls ∧ er = 1 ∧ v' = .slice none 0 0)
def sn6f (b o b2 o2 len cap cap2 k : Nat) (x : Nd) : Nat → Value
  | 0 => .slice (some ⟨b, o, none⟩) len cap
  | 1 => .int .i64 (k : Int)
  | 2 => .pointer (some ⟨b, o + k * 65, none⟩)
  | 3 => .agg (nc x).toArray
  | 4 => .slice (some ⟨b2, o2, none⟩) len cap2
  | 5 => .int .i64 (k : Int)
  | 6 => .pointer (some ⟨b2, o2 + k * 65, none⟩)
  | 7 => .agg (nc x).toArray
  | 8 => .bool false
  | _ => undef
set_option maxHeartbeats 4000000 in
theorem sameNodes_any (l : List Nd) (hk : ∀ x ∈ l, x.Ok) (hlen : l.length ≤ 140737488355328) (v u : Value) (w : World) (hv : NS w v l) (hu : NS w u l) :
    Calls Tryd.prog 12 #[v, u] w fun e w' => e = .returned (.bool true) ∧ Below w.heap.size w w' := by
  obtain ⟨ad, cap, rfl, hc, hx⟩ := hv
  obtain ⟨ad2, cap2, rfl, hc2, hx2⟩ := hu
  have HXX : Hid (l = [] ∧ (ad = none → cap = 0) ∨ ∃ b o, ad = some ⟨b, o, none⟩ ∧ b < w.heap.size ∧ ∀ (i : Nat) (x : Nd), l[i]? = some x → w.rangeAt b (o + i * 65) (nc x)) := hx
  have HX2 : Hid (l = [] ∧ (ad2 = none → cap2 = 0) ∨ ∃ b o, ad2 = some ⟨b, o, none⟩ ∧ b < w.heap.size ∧ ∀ (i : Nat) (x : Nd), l[i]? = some x → w.rangeAt b (o + i * 65) (nc x)) := hx2
  have HK : Hid (∀ x ∈ l, x.Ok) := hk
  obtain ⟨len, hln⟩ : ∃ len, l.length = len := ⟨_, rfl⟩
  have HLN : Hid (l.length = len) := hln
  rw [hln] at hlen ⊢
  clear hx hx2 hk hc hc2 hln
  go_enter Tryd.func12, Tryd.ntmps12
  go_wp2_with fail
  go_loopw [13] (fun i wr => ∃ k : Nat, k ≤ len ∧ i = .int .i64 (k : Int) ∧ Below w.heap.size w wr) (fun i _ => len - (intOf i).toNat)
  case atStart => exact ⟨0, Nat.zero_le _, rfl, Below.refl _ _⟩
  case round =>
    obtain ⟨k, hkl, rfl, h4⟩ := hrel
    have H4 : Hid (Below w.heap.size w wr) := h4
    clear h4
    by_cases hlt : k < len
    · rcases HXX.out with ⟨h0, _⟩ | ⟨b, o, rfl, hlb, hm⟩
      · have := HLN.out; rw [h0] at this; simp at this; omega
      rcases HX2.out with ⟨h0, _⟩ | ⟨b2, o2, rfl, hlb2, hm2⟩
      · have := HLN.out; rw [h0] at this; simp at this; omega
      · obtain ⟨x, hx⟩ : ∃ x, l[k]? = some x := ⟨l[k]'(by have := HLN.out; omega), List.getElem?_eq_getElem _⟩
        have HX : Hid x.Ok := HK.out x (List.mem_of_getElem? hx)
        have RA : Hid (wr.rangeAt b (o + k * 65) (nc x)) := range_below (hm k x hx) H4.out hlb
        have LA : Hid (b < wr.heap.size) := Nat.lt_of_lt_of_le hlb H4.out.size
        have RB : Hid (wr.rangeAt b2 (o2 + k * 65) (nc x)) := range_below (hm2 k x hx) H4.out hlb2
        have LB : Hid (b2 < wr.heap.size) := Nat.lt_of_lt_of_le hlb2 H4.out.size
        clear hm hlb hm2 hlb2 hx
        go_upto_region 6 with (fail)
        refine RU.wp_rgn' [] (sn6f b o b2 o2 len cap cap2 k x) (fun _ => 0) (gΩ wr) (by kernel_rfl) (by kernel_rfl) (show Below wr.heap.size wr _ from (Below.refl _ _).drew) ?_ ?_
        · refine ⟨?_, ?_, ?_, ?_, ?_, ?_, ?_, ?_, ?_, trivial⟩
          · refine RU.ObT.pure rfl rfl rfl (fun a V hf hp ev he hc W => ?_)
            have q0 : ev (.tmp 0) = .slice (some ⟨b, o, none⟩) len cap := (he (.tmp 0)).trans (hf 0 rfl)
            simp only [List.getElem_toArray, List.getElem_cons_succ, List.getElem_cons_zero, execOp, Option.map_some, Option.map_none]; rw [q0]
            first | (go_simp; done) | (go_simp; rfl) | rfl
          · refine RU.ObT.pure rfl rfl rfl (fun a V hf hp ev he hc W => ?_)
            have q5 : ev (.tmp 5) = .int .i64 (k : Int) := (he (.tmp 5)).trans (hf 5 rfl)
            simp only [List.getElem_toArray, List.getElem_cons_succ, List.getElem_cons_zero, execOp, Option.map_some, Option.map_none]; rw [q5]
            first | (go_simp; done) | (go_simp; rfl) | rfl
          · refine RU.ObT.pure rfl rfl rfl (fun a V hf hp ev he hc W => ?_)
            have q16 : ev (.tmp 16) = .slice (some ⟨b, o, none⟩) len cap := (he (.tmp 16)).trans (hp 0 16 rfl)
            have q17 : ev (.tmp 17) = .int .i64 (k : Int) := (he (.tmp 17)).trans (hp 1 17 rfl)
            simp only [List.getElem_toArray, List.getElem_cons_succ, List.getElem_cons_zero, execOp, Option.map_some, Option.map_none]; rw [q16, q17]
            have hk9 : (k : Int) < (len : Int) := by omega
            first | (go_simp; done) | (go_simp; rfl) | rfl
          · refine RU.ObT.silent rfl (fun a W k0 V hO hf hp hk => ?_)
            have hO' : Below wr.heap.size wr W := hO
            have q18 : a.eval (.tmp 18) = .pointer (some ⟨b, o + k * 65, none⟩) := hp 2 18 rfl
            exact RU.ob_op rfl (RU.wanted_none rfl) (wp_load_mid 44 (.tmp 18) rfl (b) (o + k * 65) q18 (nc x) _ (range_below RA.out hO' LA.out) Tryd.underlying44 rfl (size_nc HX.out) ⟨rfl, hO⟩)
          · refine RU.ObT.pure rfl rfl rfl (fun a V hf hp ev he hc W => ?_)
            have q1 : ev (.tmp 1) = .slice (some ⟨b2, o2, none⟩) len cap2 := (he (.tmp 1)).trans (hf 1 rfl)
            simp only [List.getElem_toArray, List.getElem_cons_succ, List.getElem_cons_zero, execOp, Option.map_some, Option.map_none]; rw [q1]
            first | (go_simp; done) | (go_simp; rfl) | rfl
          · refine RU.ObT.pure rfl rfl rfl (fun a V hf hp ev he hc W => ?_)
            have q5 : ev (.tmp 5) = .int .i64 (k : Int) := (he (.tmp 5)).trans (hf 5 rfl)
            simp only [List.getElem_toArray, List.getElem_cons_succ, List.getElem_cons_zero, execOp, Option.map_some, Option.map_none]; rw [q5]
            first | (go_simp; done) | (go_simp; rfl) | rfl
          · refine RU.ObT.pure rfl rfl rfl (fun a V hf hp ev he hc W => ?_)
            have q20 : ev (.tmp 20) = .slice (some ⟨b2, o2, none⟩) len cap2 := (he (.tmp 20)).trans (hp 4 20 rfl)
            have q21 : ev (.tmp 21) = .int .i64 (k : Int) := (he (.tmp 21)).trans (hp 5 21 rfl)
            simp only [List.getElem_toArray, List.getElem_cons_succ, List.getElem_cons_zero, execOp, Option.map_some, Option.map_none]; rw [q20, q21]
            have hk9 : (k : Int) < (len : Int) := by omega
            first | (go_simp; done) | (go_simp; rfl) | rfl
          · refine RU.ObT.silent rfl (fun a W k0 V hO hf hp hk => ?_)
            have hO' : Below wr.heap.size wr W := hO
            have q22 : a.eval (.tmp 22) = .pointer (some ⟨b2, o2 + k * 65, none⟩) := hp 6 22 rfl
            exact RU.ob_op rfl (RU.wanted_none rfl) (wp_load_mid 44 (.tmp 22) rfl (b2) (o2 + k * 65) q22 (nc x) _ (range_below RB.out hO' LB.out) Tryd.underlying44 rfl (size_nc HX.out) ⟨rfl, hO⟩)
          · refine RU.ObT.pure rfl rfl rfl (fun a V hf hp ev he hc W => ?_)
            have q19 : ev (.tmp 19) = .agg (nc x).toArray := (he (.tmp 19)).trans (hp 3 19 rfl)
            have q23 : ev (.tmp 23) = .agg (nc x).toArray := (he (.tmp 23)).trans (hp 7 23 rfl)
            simp only [List.getElem_toArray, List.getElem_cons_succ, List.getElem_cons_zero, execOp, Option.map_some, Option.map_none]; rw [q19, q23]
            simp only [Sem.run_bind, eqg_nd, neq_nd HX.out W, Result.andThen_ok, Sem.run_pure]; rfl
        intro W1 VW1 hOW1
        have BW1 : Hid (Below wr.heap.size wr W1) := hOW1
        clear hOW1
        simp only [RU.lay, RU.val, RU.at', sn6f, Act.put]
        simp only [List.setIfInBounds_toArray, List.set_cons_succ, List.set_cons_zero]
        go_wp2_with fail
        exact ⟨⟨k + 1, by omega, by go_num, H4.out.trans (BW1.out.mono H4.out.size)⟩, by simp [intOf]; omega⟩
    · go_wp2_with fail
      go_ret
      exact ⟨rfl, H4.out⟩
end Go.Proofs.YtpojalbpekbfdaaDoor
