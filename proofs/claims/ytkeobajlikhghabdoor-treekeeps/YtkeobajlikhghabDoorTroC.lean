/- Open of the package and of the reference; SameNodes. -/
import Derived.Test.YtkeobajlikhghabDoorTroB
import Derived.Test.YtkeobajlikhghabDoorTrwA
import Derived.Test.YtkeobajlikhghabDoorTrsD
import Derived.Test.YtkeobajlikhghabDoorTrhB
namespace Go.Proofs.YtkeobajlikhghabDoor
open Go Go.RowKit
set_option linter.unusedSimpArgs false
set_option linter.unusedVariables false
set_option maxRecDepth 100000

theorem leafNodes_yes (ls : List Lf) (hk : ∀ x ∈ ls, x.Ok) (hlen : ls.length ≤ 2500000000000) (ho : okl ls) (v : Value) (w : World) (hv : LS w v ls) (hT : Tb w) :
    Calls Tryd.prog 15 #[v] w fun e w' => ∃ v', e = .returned (.tuple #[v', .int .i64 0]) ∧ NS w' v' (so ls) ∧ Below w.heap.size w w' :=
  (leafNodes_any ls hk hlen v w hv hT).mono fun e w' ⟨v', er, he, hL, hb⟩ => by
    rcases hL with ⟨_, h1, h2⟩ | ⟨h1, _⟩
    · subst h1; exact ⟨v', he, h2, hb⟩
    · exact absurd ho h1
theorem leafNodes_no (ls : List Lf) (hk : ∀ x ∈ ls, x.Ok) (hlen : ls.length ≤ 2500000000000) (ho : ¬ okl ls) (v : Value) (w : World) (hv : LS w v ls) (hT : Tb w) :
    Calls Tryd.prog 15 #[v] w fun e w' => e = .returned (.tuple #[.slice none 0 0, .int .i64 1]) ∧ Below w.heap.size w w' :=
  (leafNodes_any ls hk hlen v w hv hT).mono fun e w' ⟨v', er, he, hL, hb⟩ => by
    rcases hL with ⟨h1, _⟩ | ⟨_, h1, h2⟩
    · exact absurd h1 ho
    · subst h1 h2; exact ⟨he, hb⟩
theorem rNodes_yes (ls : List Lf) (hk : ∀ x ∈ ls, x.Ok) (hlen : ls.length ≤ 2500000000000) (ho : okl ls) (v : Value) (w : World) (hv : LS w v ls) :
    Calls Tryd.prog 18 #[v] w fun e w' => ∃ v', e = .returned (.tuple #[v', .bool true]) ∧ NS w' v' (so ls) ∧ Below w.heap.size w w' :=
  (rNodes_any ls hk hlen v w hv).mono fun e w' ⟨v', er, he, hL, hb⟩ => by
    rcases hL with ⟨_, h1, h2⟩ | ⟨h1, _⟩
    · subst h1; exact ⟨v', he, h2, hb⟩
    · exact absurd ho h1
theorem rNodes_no (ls : List Lf) (hk : ∀ x ∈ ls, x.Ok) (hlen : ls.length ≤ 2500000000000) (ho : ¬ okl ls) (v : Value) (w : World) (hv : LS w v ls) :
    Calls Tryd.prog 18 #[v] w fun e w' => e = .returned (.tuple #[.slice none 0 0, .bool false]) ∧ Below w.heap.size w w' :=
  (rNodes_any ls hk hlen v w hv).mono fun e w' ⟨v', er, he, hL, hb⟩ => by
    rcases hL with ⟨h1, _⟩ | ⟨_, h1, h2⟩
    · exact absurd h1 ho
    · subst h1 h2; exact ⟨he, hb⟩
theorem zero_cells_32 : ∃ i, Tryd.prog.info? 23 = some i ∧ i.zero = some (.agg (bv z32).toArray) ∧ i.size = 32 ∧ i.bytes = 32 := by
  have h1 : (Tryd.prog.info? 23).map (·.size) = some 32 := by kernel_rfl
  have h2 : (Tryd.prog.info? 23).bind (·.zero) = some (.agg (bv z32).toArray) := by kernel_rfl
  have h3 : (Tryd.prog.info? 23).map (·.bytes) = some 32 := by kernel_rfl
  cases hq : Tryd.prog.info? 23 with
  | none => rw [hq] at h1; cases h1
  | some i => rw [hq] at h1 h2 h3; exact ⟨i, rfl, h2, Option.some.inj h1, Option.some.inj h3⟩
theorem run_oney (w : World) {x : List Int} (hx : L32 x) : (Instr.buildSlice 51 1 #[(0, .agg (bv x).toArray)]).run Tryd.prog w = .ok (.slice (some ⟨w.heap.size, 0, none⟩) 1 1) (w.alloc (.cells (bv x).toArray 23)) := by
  obtain ⟨i, hi, hz, hs, hb⟩ := zero_cells_32
  have h1 : (bv x).length = 32 := by rw [bv_length, hx.len]
  refine run_buildSlice w 51 23 1 _ (bv x).toArray i _ Tryd.underlying51 hi hz (by omega) (by omega) ?_
  have := _root_.Go.Great.fill_whole (s := i.size) (by omega) [.agg (bv x).toArray] ((Array.range (1 * i.size)).map ((Value.agg (bv z32).toArray).cells[· % (Value.agg (bv z32).toArray).cells.size]!)) (by intro v hv; simp at hv; subst hv; simp [Value.cells, hs, h1]) (by simp)
  simpa [Value.cells] using this
theorem wpList_oney {ops : Array Oper} {rest : List Oper} {o : Oper} {a : Act} {w : World} {Q : Exit → Act → World → Prop} (hg : o.guard = none) (y : Operand) (ho : o.op = .buildSlice 51 1 #[(0, y)]) (x : List Int) (hx : L32 x) (hy : a.eval y = .agg (bv x).toArray)
    (h : wpList Tryd.prog ops Q rest (a.put o.dst (.slice (some ⟨w.heap.size, 0, none⟩) 1 1)) (w.alloc (.cells (bv x).toArray 23))) : wpList Tryd.prog ops Q (o :: rest) a w := by
  refine wpList_plain hg fun K hK => ?_
  have hr := run_oney w hx
  unfold Oper.wp
  simp only [execOp, ho, List.map_toArray, List.map_cons, List.map_nil, hy, Sem.run_bind, hr, Result.andThen_ok, Sem.run_pure]
  exact hK _ _ h
theorem ys_one (w : World) (x : List Int) (t : TypeId) : YS (w.alloc (.cells (bv x).toArray t)) (.slice (some ⟨w.heap.size, 0, none⟩) 1 1) [x] :=
  ⟨_, 1, rfl, Nat.le_refl _, .inr ⟨w.heap.size, 0, rfl, by simp, fun i z hi => by
    cases i with
    | zero => simp at hi; subst hi; exact range_alloc w (bv x) t (0, 0)
    | succ i => simp at hi⟩⟩
theorem neq_nd {x : Nd} (h : x.Ok) (w : World) : (binOp .neq 35 (.agg (nc x).toArray) (.agg (nc x).toArray)).run Tryd.prog w = .ok (.bool false) w := by
  have h : (Op.equalIn Op.maxDepth 35 (.agg (nc x).toArray) (.agg (nc x).toArray)).run Tryd.prog w = .ok true w := eq_nd h w
  simp [binOp, h, Op.equal, go_sem]
/-- What opening leaves gives. -/
def OPo (ls : List Lf) (y : List Int) (v' : Value) (er : Int) (w w' : World) : Prop := (okl ls ∧ er = 0 ∧ NO w.heap.size w' v' (opl y (so ls))) ∨ (¬ okl ls ∧ er = 1 ∧ v' = .slice none 0 0)
def ROo (ls : List Lf) (y : List Int) (v' : Value) (er : Int) (w' : World) : Prop := (okl ls ∧ er = 0 ∧ NS w' v' (opl y (so ls))) ∨ (¬ okl ls ∧ er = 1 ∧ v' = .slice none 0 0)
set_option maxHeartbeats 4000000 in
theorem Open_any (ls : List Lf) (hk : ∀ x ∈ ls, x.Ok) (hlen : ls.length ≤ 2500000000000) (y : List Int) (hy : L32 y) (v : Value) (w : World) (hv : LS w v ls) (hT : Tb w) :
    Calls Tryd.prog 7 #[v, .agg (bv y).toArray] w fun e w' => ∃ v' er, e = .returned (.tuple #[v', .int .i64 er]) ∧ OPo ls y v' er w w' ∧ Below w.heap.size w w' := by
  have sy : (bv y).toArray.size = 32 := by rw [List.size_toArray, bv_length, hy.len]
  have ra := range_alloc w (bv y) 23 (0, 0)
  obtain ⟨A, hA⟩ : ∃ A, (bv y).toArray = A := ⟨_, rfl⟩
  rw [hA] at ra sy ⊢
  obtain ⟨U, hU⟩ : ∃ U, w.alloc (.cells A 23) = U := ⟨_, rfl⟩
  have bU : Below w.heap.size w U := by rw [← hU]; exact (Below.refl _ w).alloc (Nat.le_refl _) _
  have sU : U.heap.size = w.heap.size + 1 := by rw [← hU]; simp
  rw [hU] at ra
  have BU : Hid (Below w.heap.size w U) := bU
  have VU : Hid (LS U v ls) := hv.below bU
  have HY : Hid (L32 y) := hy
  have HK : Hid (∀ x ∈ ls, x.Ok) := hk
  have HLL : Hid (ls.length ≤ 2500000000000) := hlen
  have TU : Hid (Tb U) := hT.below bU
  obtain ⟨D, hD⟩ : ∃ D, w.heap.size = D := ⟨_, rfl⟩
  have HD : Hid (w.heap.size = D) := hD
  rw [hD] at ra sU
  have RY : Hid (U.rangeAt D 0 (bv y)) := ra
  have hDU : Hid (D < U.heap.size) := by show D < _; omega
  by_cases ho : okl ls
  · have HO : Hid (okl ls) := ho
    have HLN : Hid (Calls Tryd.prog 15 #[v] U fun e w' => ∃ v', e = .returned (.tuple #[v', .int .i64 0]) ∧ NS w' v' (so ls) ∧ Below U.heap.size U w') := leafNodes_yes ls hk hlen ho v U VU.out TU.out
    have HOP : Hid (∀ (v' : Value) (W : World), NS W v' (so ls) → Below U.heap.size U W → Calls Tryd.prog 17 #[v', .agg (bv y).toArray] W fun e w' => ∃ v', e = .returned v' ∧ NO W.heap.size w' v' (opl y (so ls)) ∧ Below W.heap.size W w') := fun v' W n1 n2 => opened_any (so ls) (so_rsn hk ho) (by rw [so_len ho]; omega) y hy v' W n1 (TU.out.below n2)
    clear ra bU hy hk hT sU hv hlen hA ho
    go_enter Tryd.func7, Tryd.ntmps7
    go_upto_region 1 with (fail)
    try rw [hU]
    try rw [hD]
    clear hU hD
    go_wp2_with (first
      | (refine ld 23 (.tmp 3) rfl rfl D 0 rfl (bv y) _ (range_below RY.out B1.out hDU.out) Tryd.underlying23 rfl (size_l32 HY.out) ?_)
      | (go_at_call 15; refine HLN.out.mono ?_; rintro e w1 ⟨v1, rfl, g1, g2⟩; have N1 : Hid (NS w1 v1 (so ls)) := g1; have B1 : Hid (Below U.heap.size U w1) := g2; clear g1 g2)
      | (go_at_call 17; refine (HOP.out v1 w1 N1.out B1.out).mono ?_; rintro e w2 ⟨v2, rfl, g1, g2⟩; have N2 : Hid (NO w1.heap.size w2 v2 (opl y (so ls))) := g1; have B2 : Hid (Below U.heap.size U w2) := Below.tr' B1.out g2; clear g1 g2))
    go_ret2
    exact ⟨_, _, rfl, .inl ⟨HO.out, rfl, N2.out.mono (Nat.le_trans BU.out.size B1.out.size)⟩, BU.out.trans (B2.out.mono BU.out.size)⟩
  · have HO : Hid (¬ okl ls) := ho
    have HLN : Hid (Calls Tryd.prog 15 #[v] U fun e w' => e = .returned (.tuple #[.slice none 0 0, .int .i64 1]) ∧ Below U.heap.size U w') := leafNodes_no ls hk hlen ho v U VU.out TU.out
    clear ra bU hy hk hT sU hv hlen hA ho
    go_enter Tryd.func7, Tryd.ntmps7
    go_upto_region 1 with (fail)
    try rw [hU]
    try rw [hD]
    clear hU hD
    go_wp2_with (first
      | (go_at_call 15; refine HLN.out.mono ?_; rintro e w1 ⟨rfl, g2⟩; have B1 : Hid (Below U.heap.size U w1) := g2; clear g2))
    go_ret2
    exact ⟨_, _, rfl, .inr ⟨HO.out, rfl, rfl⟩, BU.out.trans (B1.out.mono BU.out.size)⟩
set_option maxHeartbeats 4000000 in
theorem rOpen_any (ls : List Lf) (hk : ∀ x ∈ ls, x.Ok) (hlen : ls.length ≤ 2500000000000) (y : List Int) (hy : L32 y) (v : Value) (w : World) (hv : LS w v ls) :
    Calls Tryd.prog 8 #[v, .agg (bv y).toArray] w fun e w' => ∃ v' er, e = .returned (.tuple #[v', .int .i64 er]) ∧ ROo ls y v' er w' ∧ Below w.heap.size w w' := by
  have sy : (bv y).toArray.size = 32 := by rw [List.size_toArray, bv_length, hy.len]
  have ra := range_alloc w (bv y) 23 (0, 0)
  obtain ⟨A, hA⟩ : ∃ A, (bv y).toArray = A := ⟨_, rfl⟩
  rw [hA] at ra sy ⊢
  obtain ⟨U, hU⟩ : ∃ U, w.alloc (.cells A 23) = U := ⟨_, rfl⟩
  have bU : Below w.heap.size w U := by rw [← hU]; exact (Below.refl _ w).alloc (Nat.le_refl _) _
  have sU : U.heap.size = w.heap.size + 1 := by rw [← hU]; simp
  rw [hU] at ra
  have BU : Hid (Below w.heap.size w U) := bU
  have VU : Hid (LS U v ls) := hv.below bU
  have HY : Hid (L32 y) := hy
  have HK : Hid (∀ x ∈ ls, x.Ok) := hk
  have HLL : Hid (ls.length ≤ 2500000000000) := hlen
  obtain ⟨D, hD⟩ : ∃ D, w.heap.size = D := ⟨_, rfl⟩
  have HD : Hid (w.heap.size = D) := hD
  rw [hD] at ra sU
  have RY : Hid (U.rangeAt D 0 (bv y)) := ra
  have hDU : Hid (D < U.heap.size) := by show D < _; omega
  by_cases ho : okl ls
  · have HO : Hid (okl ls) := ho
    have HLN : Hid (Calls Tryd.prog 18 #[v] U fun e w' => ∃ v', e = .returned (.tuple #[v', .bool true]) ∧ NS w' v' (so ls) ∧ Below U.heap.size U w') := rNodes_yes ls hk hlen ho v U VU.out
    have HOP : Hid (∀ (v' yv : Value) (W : World), NS W v' (so ls) → YS W yv [y] → Calls Tryd.prog 19 #[v', yv, .bool true] W fun e w' => ∃ v', e = .returned v' ∧ NS w' v' (opl y (so ls)) ∧ Below W.heap.size W w') := fun v' yv W n1 n2 => by
      have := rWithout_any [y] (fun z hz => by simp at hz; subst hz; exact hy) (by simp) true _ (so ls) (Nat.le_refl _) (so_rsn hk ho) (by rw [so_len ho]; omega) v' yv W n1 n2
      have e : (fun n : Nd => [y].any (fun y => hl n y)) = fun n => hl n y := by funext n; simp
      rw [e, wo_opl y _ _ (so_rsn hk ho).ris (by omega)] at this
      exact this
    clear ra bU hy hk sU hv hlen hA ho
    go_enter Tryd.func8, Tryd.ntmps8
    go_upto_region 1 with (fail)
    try rw [hU]
    try rw [hD]
    clear hU hD
    go_wp2_with (first
      | (refine ld 23 (.tmp 3) rfl rfl D 0 rfl (bv y) _ (range_below RY.out B1.out hDU.out) Tryd.underlying23 rfl (size_l32 HY.out) ?_)
      | (refine wpList_oney rfl (.tmp 16) rfl y HY.out rfl ?_)
      | (go_at_call 18; refine HLN.out.mono ?_; rintro e w1 ⟨v1, rfl, g1, g2⟩; have N1 : Hid (NS w1 v1 (so ls)) := g1; have B1 : Hid (Below U.heap.size U w1) := g2; clear g1 g2)
      | (go_at_call 19; refine (HOP.out v1 _ _ (N1.out.below ((Below.refl _ w1).alloc (Nat.le_refl _) _)) (ys_one w1 y _)).mono ?_; rintro e w2 ⟨v2, rfl, g1, g2⟩; have N2 : Hid (NS w2 v2 (opl y (so ls))) := g1; have B2 : Hid (Below U.heap.size U w2) := Below.tr' (Below.tr' B1.out ((Below.refl _ w1).alloc (Nat.le_refl _) _)) g2; clear g1 g2))
    go_ret2
    exact ⟨_, _, rfl, .inl ⟨HO.out, rfl, N2.out⟩, BU.out.trans (B2.out.mono BU.out.size)⟩
  · have HO : Hid (¬ okl ls) := ho
    have HLN : Hid (Calls Tryd.prog 18 #[v] U fun e w' => e = .returned (.tuple #[.slice none 0 0, .bool false]) ∧ Below U.heap.size U w') := rNodes_no ls hk hlen ho v U VU.out
    clear ra bU hy hk sU hv hlen hA ho
    go_enter Tryd.func8, Tryd.ntmps8
    go_upto_region 1 with (fail)
    try rw [hU]
    try rw [hD]
    clear hU hD
    go_wp2_with (first
      | (go_at_call 18; refine HLN.out.mono ?_; rintro e w1 ⟨rfl, g2⟩; have B1 : Hid (Below U.heap.size U w1) := g2; clear g2))
    go_ret2
    exact ⟨_, _, rfl, .inr ⟨HO.out, rfl, rfl⟩, BU.out.trans (B1.out.mono BU.out.size)⟩
def sn6f (b o b2 o2 len cap cap2 k : Nat) (x : Nd) : Nat → Value
  | 0 => .slice (some ⟨b, o, none⟩) len cap
  | 1 => .int .i64 (k : Int)
  | 2 => .pointer (some ⟨b, o + k * 65, none⟩)
  | 3 => .agg (nc x).toArray
  | 4 => .slice (some ⟨b2, o2, none⟩) len cap2
  | 5 => .int .i64 (k : Int)
  | 6 => .pointer (some ⟨b2, o2 + k * 65, none⟩)
  | 7 => .agg (nc x).toArray
  | 8 => .bool false
  | _ => undef
set_option maxHeartbeats 4000000 in
theorem sameNodes_any (l : List Nd) (hk : ∀ x ∈ l, x.Ok) (hlen : l.length ≤ 140737488355328) (v u : Value) (w : World) (hv : NS w v l) (hu : NS w u l) :
    Calls Tryd.prog 13 #[v, u] w fun e w' => e = .returned (.bool true) ∧ Below w.heap.size w w' := by
  obtain ⟨ad, cap, rfl, hc, hx⟩ := hv
  obtain ⟨ad2, cap2, rfl, hc2, hx2⟩ := hu
  have HXX : Hid (l = [] ∧ (ad = none → cap = 0) ∨ ∃ b o, ad = some ⟨b, o, none⟩ ∧ b < w.heap.size ∧ ∀ (i : Nat) (x : Nd), l[i]? = some x → w.rangeAt b (o + i * 65) (nc x)) := hx
  have HX2 : Hid (l = [] ∧ (ad2 = none → cap2 = 0) ∨ ∃ b o, ad2 = some ⟨b, o, none⟩ ∧ b < w.heap.size ∧ ∀ (i : Nat) (x : Nd), l[i]? = some x → w.rangeAt b (o + i * 65) (nc x)) := hx2
  have HK : Hid (∀ x ∈ l, x.Ok) := hk
  obtain ⟨len, hln⟩ : ∃ len, l.length = len := ⟨_, rfl⟩
  have HLN : Hid (l.length = len) := hln
  rw [hln] at hlen ⊢
  clear hx hx2 hk hc hc2 hln
  go_enter Tryd.func13, Tryd.ntmps13
  go_wp2_with fail
  go_loopw [13] (fun i wr => ∃ k : Nat, k ≤ len ∧ i = .int .i64 (k : Int) ∧ Below w.heap.size w wr) (fun i _ => len - (intOf i).toNat)
  case atStart => exact ⟨0, Nat.zero_le _, rfl, Below.refl _ _⟩
  case round =>
    obtain ⟨k, hkl, rfl, h4⟩ := hrel
    have H4 : Hid (Below w.heap.size w wr) := h4
    clear h4
    by_cases hlt : k < len
    · rcases HXX.out with ⟨h0, _⟩ | ⟨b, o, rfl, hlb, hm⟩
      · have := HLN.out; rw [h0] at this; simp at this; omega
      rcases HX2.out with ⟨h0, _⟩ | ⟨b2, o2, rfl, hlb2, hm2⟩
      · have := HLN.out; rw [h0] at this; simp at this; omega
      · obtain ⟨x, hx⟩ : ∃ x, l[k]? = some x := ⟨l[k]'(by have := HLN.out; omega), List.getElem?_eq_getElem _⟩
        have HX : Hid x.Ok := HK.out x (List.mem_of_getElem? hx)
        have RA : Hid (wr.rangeAt b (o + k * 65) (nc x)) := range_below (hm k x hx) H4.out hlb
        have LA : Hid (b < wr.heap.size) := Nat.lt_of_lt_of_le hlb H4.out.size
        have RB : Hid (wr.rangeAt b2 (o2 + k * 65) (nc x)) := range_below (hm2 k x hx) H4.out hlb2
        have LB : Hid (b2 < wr.heap.size) := Nat.lt_of_lt_of_le hlb2 H4.out.size
        clear hm hlb hm2 hlb2 hx
        go_upto_region 6 with (fail)
        refine RU.wp_rgn' [] (sn6f b o b2 o2 len cap cap2 k x) (fun _ => 0) (gΩ wr) (by kernel_rfl) (by kernel_rfl) (show Below wr.heap.size wr _ from (Below.refl _ _).drew) ?_ ?_
        · refine ⟨?_, ?_, ?_, ?_, ?_, ?_, ?_, ?_, ?_, trivial⟩
          · refine RU.ObT.pure rfl rfl rfl (fun a V hf hp ev he hc W => ?_)
            have q0 : ev (.tmp 0) = .slice (some ⟨b, o, none⟩) len cap := (he (.tmp 0)).trans (hf 0 rfl)
            simp only [List.getElem_toArray, List.getElem_cons_succ, List.getElem_cons_zero, execOp, Option.map_some, Option.map_none]; rw [q0]
            first | (go_simp; done) | (go_simp; rfl) | rfl
          · refine RU.ObT.pure rfl rfl rfl (fun a V hf hp ev he hc W => ?_)
            have q5 : ev (.tmp 5) = .int .i64 (k : Int) := (he (.tmp 5)).trans (hf 5 rfl)
            simp only [List.getElem_toArray, List.getElem_cons_succ, List.getElem_cons_zero, execOp, Option.map_some, Option.map_none]; rw [q5]
            first | (go_simp; done) | (go_simp; rfl) | rfl
          · refine RU.ObT.pure rfl rfl rfl (fun a V hf hp ev he hc W => ?_)
            have q16 : ev (.tmp 16) = .slice (some ⟨b, o, none⟩) len cap := (he (.tmp 16)).trans (hp 0 16 rfl)
            have q17 : ev (.tmp 17) = .int .i64 (k : Int) := (he (.tmp 17)).trans (hp 1 17 rfl)
            simp only [List.getElem_toArray, List.getElem_cons_succ, List.getElem_cons_zero, execOp, Option.map_some, Option.map_none]; rw [q16, q17]
            have hk9 : (k : Int) < (len : Int) := by omega
            first | (go_simp; done) | (go_simp; rfl) | rfl
          · refine RU.ObT.silent rfl (fun a W k0 V hO hf hp hk => ?_)
            have hO' : Below wr.heap.size wr W := hO
            have q18 : a.eval (.tmp 18) = .pointer (some ⟨b, o + k * 65, none⟩) := hp 2 18 rfl
            exact RU.ob_op rfl (RU.wanted_none rfl) (wp_load_mid 35 (.tmp 18) rfl (b) (o + k * 65) q18 (nc x) _ (range_below RA.out hO' LA.out) Tryd.underlying35 rfl (size_nc HX.out) ⟨rfl, hO⟩)
          · refine RU.ObT.pure rfl rfl rfl (fun a V hf hp ev he hc W => ?_)
            have q1 : ev (.tmp 1) = .slice (some ⟨b2, o2, none⟩) len cap2 := (he (.tmp 1)).trans (hf 1 rfl)
            simp only [List.getElem_toArray, List.getElem_cons_succ, List.getElem_cons_zero, execOp, Option.map_some, Option.map_none]; rw [q1]
            first | (go_simp; done) | (go_simp; rfl) | rfl
          · refine RU.ObT.pure rfl rfl rfl (fun a V hf hp ev he hc W => ?_)
            have q5 : ev (.tmp 5) = .int .i64 (k : Int) := (he (.tmp 5)).trans (hf 5 rfl)
            simp only [List.getElem_toArray, List.getElem_cons_succ, List.getElem_cons_zero, execOp, Option.map_some, Option.map_none]; rw [q5]
            first | (go_simp; done) | (go_simp; rfl) | rfl
          · refine RU.ObT.pure rfl rfl rfl (fun a V hf hp ev he hc W => ?_)
            have q20 : ev (.tmp 20) = .slice (some ⟨b2, o2, none⟩) len cap2 := (he (.tmp 20)).trans (hp 4 20 rfl)
            have q21 : ev (.tmp 21) = .int .i64 (k : Int) := (he (.tmp 21)).trans (hp 5 21 rfl)
            simp only [List.getElem_toArray, List.getElem_cons_succ, List.getElem_cons_zero, execOp, Option.map_some, Option.map_none]; rw [q20, q21]
            have hk9 : (k : Int) < (len : Int) := by omega
            first | (go_simp; done) | (go_simp; rfl) | rfl
          · refine RU.ObT.silent rfl (fun a W k0 V hO hf hp hk => ?_)
            have hO' : Below wr.heap.size wr W := hO
            have q22 : a.eval (.tmp 22) = .pointer (some ⟨b2, o2 + k * 65, none⟩) := hp 6 22 rfl
            exact RU.ob_op rfl (RU.wanted_none rfl) (wp_load_mid 35 (.tmp 22) rfl (b2) (o2 + k * 65) q22 (nc x) _ (range_below RB.out hO' LB.out) Tryd.underlying35 rfl (size_nc HX.out) ⟨rfl, hO⟩)
          · refine RU.ObT.pure rfl rfl rfl (fun a V hf hp ev he hc W => ?_)
            have q19 : ev (.tmp 19) = .agg (nc x).toArray := (he (.tmp 19)).trans (hp 3 19 rfl)
            have q23 : ev (.tmp 23) = .agg (nc x).toArray := (he (.tmp 23)).trans (hp 7 23 rfl)
            simp only [List.getElem_toArray, List.getElem_cons_succ, List.getElem_cons_zero, execOp, Option.map_some, Option.map_none]; rw [q19, q23]
            simp only [Sem.run_bind, eqg_nd, neq_nd HX.out W, Result.andThen_ok, Sem.run_pure]; rfl
        intro W1 VW1 hOW1
        have BW1 : Hid (Below wr.heap.size wr W1) := hOW1
        clear hOW1
        simp only [RU.lay, RU.val, RU.at', sn6f, Act.put]
        simp only [List.setIfInBounds_toArray, List.set_cons_succ, List.set_cons_zero]
        go_wp2_with fail
        exact ⟨⟨k + 1, by omega, by go_num, H4.out.trans (BW1.out.mono H4.out.size)⟩, by simp [intOf]; omega⟩
    · go_wp2_with fail
      go_ret
      exact ⟨rfl, H4.out⟩
end Go.Proofs.YtkeobajlikhghabDoor
