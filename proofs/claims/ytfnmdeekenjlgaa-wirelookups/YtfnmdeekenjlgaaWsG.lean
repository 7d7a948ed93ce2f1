/- The reference: SameNodes. -/
import Derived.Test.YtfnmdeekenjlgaaWsF
namespace Go.Proofs.Ytfnmdeekenjlgaa
open Go Go.RowKit
set_option linter.unusedSimpArgs false
set_option linter.unusedVariables false
set_option maxRecDepth 100000

theorem size_u8' : (Try.prog.info? 5).map (·.size) = some 1 := by kernel_rfl
def gΩ (w0 : World) : Nat → (Nat → Value) → World → Prop := fun _ _ W => Below w0.heap.size w0 W
theorem cmp_items (x y : List Int) (hx : x.length = 32) (hy : y.length = 32) (d : Nat) (w : World) : ∀ is : List Nat, (∀ i ∈ is, i < 32) →
    (Op.eqItems (d + 1) 5 (Try.prog.cellsOf 5) (bv x).toArray (bv y).toArray is).run Try.prog w = .ok (is.all fun i => gi x i == gi y i) w
  | [], _ => by simp [Op.eqItems]
  | i :: is, h => by
    have hi := h i (by simp)
    have hc : Try.prog.cellsOf 5 = 1 := by kernel_rfl
    have hp : Try.prog.plainKey 5 = true := by kernel_rfl
    have p1 := run_part_plain (P := Try.prog) w hp (xs := (bv x).toArray) (off := i) (v := .int .u8 (gi x i)) (by rw [List.getElem?_toArray]; exact bv_get x (by omega))
    have p2 := run_part_plain (P := Try.prog) w hp (xs := (bv y).toArray) (off := i) (v := .int .u8 (gi y i)) (by rw [List.getElem?_toArray]; exact bv_get y (by omega))
    have p3 := run_equalIn_int (P := Try.prog) w d 5 .u8 .u8 (gi x i) (gi y i) Try.underlying5
    have ih := cmp_items x y hx hy d w is (fun j hj => h j (by simp [hj]))
    rw [hc] at ih
    simp only [Op.eqItems, hc, Nat.mul_one, Sem.run_bind, p1, p2, p3, Result.andThen_ok, List.all_cons]
    cases hq : (gi x i == gi y i) with
    | true => simp only [Bool.not_true, Bool.false_eq_true, if_false, Bool.true_and]; exact ih
    | false => simp
theorem all_gi {x y : List Int} (hx : x.length = 32) (hy : y.length = 32) : ((List.range 32).all fun i => gi x i == gi y i) = decide (x = y) := by
  by_cases h : x = y
  · subst h; simp
  · rw [decide_eq_false h, List.all_eq_false]
    refine Classical.byContradiction fun hn => h ?_
    apply List.ext_getElem (by omega)
    intro i h1 h2
    have : gi x i = gi y i := by
      refine Classical.byContradiction fun hne => hn ⟨i, List.mem_range.2 (by omega), ?_⟩
      simpa using hne
    simpa [gi, h1, h2] using this

theorem eq_32' {x : List Int} (hx : L32 x) (w : World) : (Op.equalIn 9999 23 (.agg (bv x).toArray) (.agg (bv x).toArray)).run Try.prog w = .ok true w := by
  obtain ⟨i, hi⟩ : ∃ i, Try.prog.info? 5 = some i := by
    cases h : Try.prog.info? 5 with
    | none => have := size_u8'; rw [h] at this; cases this
    | some i => exact ⟨i, rfl⟩
  have := run_equalIn_array (P := Try.prog) w 9998 (bv x).toArray (bv x).toArray Try.underlying23 hi
  rw [cmp_items x x hx.len hx.len 9997 w _ (fun i hi => List.mem_range.1 hi), all_gi hx.len hx.len] at this
  simpa using this
theorem eq_32 {x y : List Int} (hx : L32 x) (hy : L32 y) (w : World) : (Op.equalIn 10000 23 (.agg (bv x).toArray) (.agg (bv y).toArray)).run Try.prog w = .ok (decide (x = y)) w := by
  obtain ⟨i, hi⟩ : ∃ i, Try.prog.info? 5 = some i := by
    cases h : Try.prog.info? 5 with
    | none => have := size_u8'; rw [h] at this; cases this
    | some i => exact ⟨i, rfl⟩
  have := run_equalIn_array (P := Try.prog) w 9999 (bv x).toArray (bv y).toArray Try.underlying23 hi
  rw [cmp_items x y hx.len hy.len 9998 w _ (fun i hi => List.mem_range.1 hi), all_gi hx.len hy.len] at this
  exact this
theorem eqg_32 (op : BinOp) (x y : Operand) (a b : Array Value) (w : World) : (eqGuard op 23 x y (.agg a) (.agg b)).run Try.prog w = .ok () w := by
  have h : Try.prog.eqGuardType Try.prog.depth 23 = false := by kernel_rfl
  unfold eqGuard
  cases op <;> first | (simp [h, Result.andThen]; done) | kernel_rfl
theorem eql_32 {x y : List Int} (hx : L32 x) (hy : L32 y) (w : World) : (binOp .eql 23 (.agg (bv x).toArray) (.agg (bv y).toArray)).run Try.prog w = .ok (.bool (decide (x = y))) w := by
  have h : (Op.equalIn Op.maxDepth 23 (.agg (bv x).toArray) (.agg (bv y).toArray)).run Try.prog w = .ok (decide (x = y)) w := eq_32 hx hy w
  simp [binOp, h, Op.equal, go_sem]
theorem part32 (w : World) (xs : Array Value) (off : Nat) : (part 23 xs off).run Try.prog w = .ok (.agg (xs.extract off (off + 32))) w := by
  obtain ⟨i, hi, hs⟩ : ∃ i, Try.prog.info? 23 = some i ∧ i.size = 32 := by
    have h1 : (Try.prog.info? 23).map (·.size) = some 32 := by kernel_rfl
    cases h : Try.prog.info? 23 with
    | none => rw [h] at h1; cases h1
    | some i => rw [h] at h1; exact ⟨i, rfl, Option.some.inj h1⟩
  simp [part, run_underlying Try.underlying23, sizeOf, typeInfo, hi, hs]
theorem ext_p {x : Nd} (h : x.Ok) : (nc x).toArray.extract 1 (1 + 32) = (bv x.p).toArray := by
  rw [List.extract_toArray]; congr 1
  simp [nc, List.extract, bv_length, h.p.len, List.take_append]
theorem ext_h {x : Nd} (h : x.Ok) : (nc x).toArray.extract 33 (33 + 32) = (bv x.h).toArray := by
  rw [List.extract_toArray]; congr 1
  simp [nc, List.extract, bv_length, h.p.len, h.h.len, List.drop_append]
  exact List.take_of_length_le (by rw [bv_length, h.h.len]; omega)
set_option maxHeartbeats 1000000 in
theorem eq_nd {x : Nd} (h : x.Ok) (w : World) : (Op.equalIn 10000 94 (.agg (nc x).toArray) (.agg (nc x).toArray)).run Try.prog w = .ok true w := by
  have hf := run_equalIn_struct (P := Try.prog) w 9999 94 (nc x).toArray (nc x).toArray (by kernel_rfl) (by kernel_rfl)
  refine hf.trans ?_
  have hp : Try.prog.plainKey 3 = true := by kernel_rfl
  have a0 := run_part_plain (P := Try.prog) w hp (xs := (nc x).toArray) (off := 0) (v := .int .i64 x.n) rfl
  have i64 : ∀ z : Int, (Op.equalIn 9999 3 (.int .i64 z) (.int .i64 z)).run Try.prog w = .ok true w := fun z => by
    refine (run_equalIn_int (P := Try.prog) w 9998 3 .i64 .i64 z z Try.underlying3).trans ?_; simp
  have p1 := part32 w (nc x).toArray 1
  have p2 := part32 w (nc x).toArray 33
  rw [ext_p h] at p1
  rw [ext_h h] at p2
  have hfs : (Try.prog.fieldsOf 94).toList.map (fun f => (f.name == "_", f.type, f.offset)) = [(false, 3, 0), (false, 23, 1), (false, 23, 33)] := by kernel_rfl
  obtain ⟨C, hC⟩ : ∃ C, (nc x).toArray = C := ⟨_, rfl⟩
  rw [hC] at a0 p1 p2 ⊢
  have key : ∀ (fs : List Field) (l : List (Bool × TypeId × Nat)), fs.map (fun f => (f.name == "_", f.type, f.offset)) = l → (∀ q ∈ l, q.1 = false ∧ ∃ v, (part q.2.1 C q.2.2).run Try.prog w = .ok v w ∧ (Op.equalIn 9999 q.2.1 v v).run Try.prog w = .ok true w) → (Op.eqFields 9999 C C fs).run Try.prog w = .ok true w := by
    intro fs
    induction fs with
    | nil => intro l _ _; simp [Op.eqFields]
    | cons f fs ih =>
      intro l hl hq
      subst hl
      obtain ⟨hn, v, hv, he⟩ := hq (f.name == "_", f.type, f.offset) (by simp)
      have hn' : f.name ≠ "_" := by simpa using hn
      have := ih _ rfl (fun q hq' => hq q (by simp only [List.map_cons]; exact List.mem_cons_of_mem _ hq'))
      unfold Op.eqFields
      rw [if_pos hn']
      simp only [Sem.run_bind, hv, he, Result.andThen_ok, Bool.not_true, Bool.false_eq_true, if_false]
      exact this
  refine key _ _ hfs (fun q hq => ?_)
  simp only [List.mem_cons, List.not_mem_nil, or_false] at hq
  rcases hq with rfl | rfl | rfl
  · exact ⟨rfl, _, a0, i64 _⟩
  · exact ⟨rfl, _, p1, eq_32' h.p w⟩
  · exact ⟨rfl, _, p2, eq_32' h.h w⟩
theorem eql_nd {x : Nd} (h : x.Ok) (w : World) : (binOp .eql 94 (.agg (nc x).toArray) (.agg (nc x).toArray)).run Try.prog w = .ok (.bool true) w := by
  have h : (Op.equalIn Op.maxDepth 94 (.agg (nc x).toArray) (.agg (nc x).toArray)).run Try.prog w = .ok true w := eq_nd h w
  simp [binOp, h, Op.equal, go_sem]
theorem eqg_nd (op : BinOp) (x y : Operand) (a b : Array Value) (w : World) : (eqGuard op 94 x y (.agg a) (.agg b)).run Try.prog w = .ok () w := by
  have h : Try.prog.eqGuardType Try.prog.depth 94 = false := by kernel_rfl
  unfold eqGuard
  cases op <;> first | (simp [h, Result.andThen]; done) | kernel_rfl
theorem wp_eq_run {P : Program} {ops : Array Oper} {rest : List Oper} {o : Oper} {a : Act} {w : World} {Q : Exit → Act → World → Prop} (t t' : TypeId) (x y : Operand) (ho : o.op = .binOp .eql t x y t') (hw : Region.wanted o (yielded ops a.tmps) = true) (v u r : Value) (hx : a.eval x = v) (hy : a.eval y = u)
    (hg : (eqGuard .eql t x y v u).run P w = .ok () w) (hr : (binOp .eql t v u).run P w = .ok r w) (h : wpList P ops Q rest (a.put o.dst r) w) : wpList P ops Q (o :: rest) a w := by
  unfold wpList
  rw [if_pos hw]
  refine .inl ?_
  unfold Oper.wp execOp
  simp only [ho, hx, hy, Sem.run_bind, hg, hr, Result.andThen_ok, Sem.run_pure]
  exact h
theorem neq_nd {x : Nd} (h : x.Ok) (w : World) : (binOp .neq 94 (.agg (nc x).toArray) (.agg (nc x).toArray)).run Try.prog w = .ok (.bool false) w := by
  have h : (Op.equalIn Op.maxDepth 94 (.agg (nc x).toArray) (.agg (nc x).toArray)).run Try.prog w = .ok true w := eq_nd h w
  simp [binOp, h, Op.equal, go_sem]
def sn6f (b o b2 o2 len cap cap2 k : Nat) (x : Nd) : Nat → Value
  | 0 => .slice (some ⟨b, o, none⟩) len cap
  | 1 => .int .i64 (k : Int)
  | 2 => .pointer (some ⟨b, o + k * 65, none⟩)
  | 3 => .agg (nc x).toArray
  | 4 => .slice (some ⟨b2, o2, none⟩) len cap2
  | 5 => .int .i64 (k : Int)
  | 6 => .pointer (some ⟨b2, o2 + k * 65, none⟩)
  | 7 => .agg (nc x).toArray
  | 8 => .bool false
  | _ => undef
set_option maxHeartbeats 4000000 in
theorem sameNodes_any (l : List Nd) (hk : ∀ x ∈ l, x.Ok) (hlen : l.length ≤ 140737488355328) (v u : Value) (w : World) (hv : NS w v l) (hu : NS w u l) :
    Calls Try.prog 48 #[v, u] w fun e w' => e = .returned (.bool true) ∧ Below w.heap.size w w' := by
  obtain ⟨ad, cap, rfl, hc, hx⟩ := hv
  obtain ⟨ad2, cap2, rfl, hc2, hx2⟩ := hu
  have HXX : Hid (l = [] ∧ (ad = none → cap = 0) ∨ ∃ b o, ad = some ⟨b, o, none⟩ ∧ b < w.heap.size ∧ ∀ (i : Nat) (x : Nd), l[i]? = some x → w.rangeAt b (o + i * 65) (nc x)) := hx
  have HX2 : Hid (l = [] ∧ (ad2 = none → cap2 = 0) ∨ ∃ b o, ad2 = some ⟨b, o, none⟩ ∧ b < w.heap.size ∧ ∀ (i : Nat) (x : Nd), l[i]? = some x → w.rangeAt b (o + i * 65) (nc x)) := hx2
  have HK : Hid (∀ x ∈ l, x.Ok) := hk
  obtain ⟨len, hln⟩ : ∃ len, l.length = len := ⟨_, rfl⟩
  have HLN : Hid (l.length = len) := hln
  rw [hln] at hlen ⊢
  clear hx hx2 hk hc hc2 hln
  go_enter Try.func48, Try.ntmps48
  go_wp2_with fail
  go_loopw [13] (fun i wr => ∃ k : Nat, k ≤ len ∧ i = .int .i64 (k : Int) ∧ Below w.heap.size w wr) (fun i _ => len - (intOf i).toNat)
  case atStart => exact ⟨0, Nat.zero_le _, rfl, Below.refl _ _⟩
  case round =>
    obtain ⟨k, hkl, rfl, h4⟩ := hrel
    have H4 : Hid (Below w.heap.size w wr) := h4
    clear h4
    by_cases hlt : k < len
    · rcases HXX.out with ⟨h0, _⟩ | ⟨b, o, rfl, hlb, hm⟩
      · have := HLN.out; rw [h0] at this; simp at this; omega
      rcases HX2.out with ⟨h0, _⟩ | ⟨b2, o2, rfl, hlb2, hm2⟩
      · have := HLN.out; rw [h0] at this; simp at this; omega
      · obtain ⟨x, hx⟩ : ∃ x, l[k]? = some x := ⟨l[k]'(by have := HLN.out; omega), List.getElem?_eq_getElem _⟩
        have HX : Hid x.Ok := HK.out x (List.mem_of_getElem? hx)
        have RA : Hid (wr.rangeAt b (o + k * 65) (nc x)) := range_below (hm k x hx) H4.out hlb
        have LA : Hid (b < wr.heap.size) := Nat.lt_of_lt_of_le hlb H4.out.size
        have RB : Hid (wr.rangeAt b2 (o2 + k * 65) (nc x)) := range_below (hm2 k x hx) H4.out hlb2
        have LB : Hid (b2 < wr.heap.size) := Nat.lt_of_lt_of_le hlb2 H4.out.size
        clear hm hlb hm2 hlb2 hx
        go_upto_region 6 with (fail)
        refine RU.wp_rgn' [] (sn6f b o b2 o2 len cap cap2 k x) (fun _ => 0) (gΩ wr) (by kernel_rfl) (by kernel_rfl) (show Below wr.heap.size wr _ from (Below.refl _ _).drew) ?_ ?_
        · refine ⟨?_, ?_, ?_, ?_, ?_, ?_, ?_, ?_, ?_, trivial⟩
          · refine RU.ObT.pure rfl rfl rfl (fun a V hf hp ev he hc W => ?_)
            have q0 : ev (.tmp 0) = .slice (some ⟨b, o, none⟩) len cap := (he (.tmp 0)).trans (hf 0 rfl)
            simp only [List.getElem_toArray, List.getElem_cons_succ, List.getElem_cons_zero, execOp, Option.map_some, Option.map_none]; rw [q0]
            first | (go_simp; done) | (go_simp; rfl) | rfl
          · refine RU.ObT.pure rfl rfl rfl (fun a V hf hp ev he hc W => ?_)
            have q5 : ev (.tmp 5) = .int .i64 (k : Int) := (he (.tmp 5)).trans (hf 5 rfl)
            simp only [List.getElem_toArray, List.getElem_cons_succ, List.getElem_cons_zero, execOp, Option.map_some, Option.map_none]; rw [q5]
            first | (go_simp; done) | (go_simp; rfl) | rfl
          · refine RU.ObT.pure rfl rfl rfl (fun a V hf hp ev he hc W => ?_)
            have q16 : ev (.tmp 16) = .slice (some ⟨b, o, none⟩) len cap := (he (.tmp 16)).trans (hp 0 16 rfl)
            have q17 : ev (.tmp 17) = .int .i64 (k : Int) := (he (.tmp 17)).trans (hp 1 17 rfl)
            simp only [List.getElem_toArray, List.getElem_cons_succ, List.getElem_cons_zero, execOp, Option.map_some, Option.map_none]; rw [q16, q17]
            have hk9 : (k : Int) < (len : Int) := by omega
            first | (go_simp; done) | (go_simp; rfl) | rfl
          · refine RU.ObT.silent rfl (fun a W k0 V hO hf hp hk => ?_)
            have hO' : Below wr.heap.size wr W := hO
            have q18 : a.eval (.tmp 18) = .pointer (some ⟨b, o + k * 65, none⟩) := hp 2 18 rfl
            exact RU.ob_op rfl (RU.wanted_none rfl) (wp_load_mid 94 (.tmp 18) rfl (b) (o + k * 65) q18 (nc x) _ (range_below RA.out hO' LA.out) Try.underlying94 rfl (size_nc HX.out) ⟨rfl, hO⟩)
          · refine RU.ObT.pure rfl rfl rfl (fun a V hf hp ev he hc W => ?_)
            have q1 : ev (.tmp 1) = .slice (some ⟨b2, o2, none⟩) len cap2 := (he (.tmp 1)).trans (hf 1 rfl)
            simp only [List.getElem_toArray, List.getElem_cons_succ, List.getElem_cons_zero, execOp, Option.map_some, Option.map_none]; rw [q1]
            first | (go_simp; done) | (go_simp; rfl) | rfl
          · refine RU.ObT.pure rfl rfl rfl (fun a V hf hp ev he hc W => ?_)
            have q5 : ev (.tmp 5) = .int .i64 (k : Int) := (he (.tmp 5)).trans (hf 5 rfl)
            simp only [List.getElem_toArray, List.getElem_cons_succ, List.getElem_cons_zero, execOp, Option.map_some, Option.map_none]; rw [q5]
            first | (go_simp; done) | (go_simp; rfl) | rfl
          · refine RU.ObT.pure rfl rfl rfl (fun a V hf hp ev he hc W => ?_)
            have q20 : ev (.tmp 20) = .slice (some ⟨b2, o2, none⟩) len cap2 := (he (.tmp 20)).trans (hp 4 20 rfl)
            have q21 : ev (.tmp 21) = .int .i64 (k : Int) := (he (.tmp 21)).trans (hp 5 21 rfl)
            simp only [List.getElem_toArray, List.getElem_cons_succ, List.getElem_cons_zero, execOp, Option.map_some, Option.map_none]; rw [q20, q21]
            have hk9 : (k : Int) < (len : Int) := by omega
            first | (go_simp; done) | (go_simp; rfl) | rfl
          · refine RU.ObT.silent rfl (fun a W k0 V hO hf hp hk => ?_)
            have hO' : Below wr.heap.size wr W := hO
            have q22 : a.eval (.tmp 22) = .pointer (some ⟨b2, o2 + k * 65, none⟩) := hp 6 22 rfl
            exact RU.ob_op rfl (RU.wanted_none rfl) (wp_load_mid 94 (.tmp 22) rfl (b2) (o2 + k * 65) q22 (nc x) _ (range_below RB.out hO' LB.out) Try.underlying94 rfl (size_nc HX.out) ⟨rfl, hO⟩)
          · refine RU.ObT.pure rfl rfl rfl (fun a V hf hp ev he hc W => ?_)
            have q19 : ev (.tmp 19) = .agg (nc x).toArray := (he (.tmp 19)).trans (hp 3 19 rfl)
            have q23 : ev (.tmp 23) = .agg (nc x).toArray := (he (.tmp 23)).trans (hp 7 23 rfl)
            simp only [List.getElem_toArray, List.getElem_cons_succ, List.getElem_cons_zero, execOp, Option.map_some, Option.map_none]; rw [q19, q23]
            simp only [Sem.run_bind, eqg_nd, neq_nd HX.out W, Result.andThen_ok, Sem.run_pure]; rfl
        intro W1 VW1 hOW1
        have BW1 : Hid (Below wr.heap.size wr W1) := hOW1
        clear hOW1
        simp only [RU.lay, RU.val, RU.at', sn6f, Act.put]
        simp only [List.setIfInBounds_toArray, List.set_cons_succ, List.set_cons_zero]
        go_wp2_with fail
        exact ⟨⟨k + 1, by omega, by go_num, H4.out.trans (BW1.out.mono H4.out.size)⟩, by simp [intOf]; omega⟩
    · go_wp2_with fail
      go_ret
      exact ⟨rfl, H4.out⟩
end Go.Proofs.Ytfnmdeekenjlgaa
