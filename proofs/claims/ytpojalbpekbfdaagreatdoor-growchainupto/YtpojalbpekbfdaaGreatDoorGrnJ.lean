/- The law's awake. -/
import Derived.Test.YtpojalbpekbfdaaGreatDoorGrnG
import Derived.Test.YtpojalbpekbfdaaGreatDoorTrrL
import Derived.Test.YtpojalbpekbfdaaGreatDoorTraB
namespace Go.Proofs.YtpojalbpekbfdaaGreatDoor
open Go Go.RowKit
set_option linter.unusedSimpArgs false
set_option linter.unusedVariables false
set_option maxRecDepth 100000

theorem wp_build0g {P : Program} {ops : Array Oper} {rest : List Oper} {o : Oper} {a : Act} {w : World} {Q : Exit → Act → World → Prop} (t : TypeId) (ho : o.op = .build t #[]) (hw : Region.wanted o (yielded ops a.tmps) = true) (cells : Array Value)
    (hr : (Instr.build t #[]).run P w = .ok (.agg cells) w) (h : wpList P ops Q rest (a.put o.dst (.agg cells)) w) : wpList P ops Q (o :: rest) a w := by
  unfold wpList
  rw [if_pos hw]
  refine .inl ?_
  unfold Oper.wp execOp
  simp only [ho, Sem.run_bind, List.map_toArray, List.map_nil, hr, Result.andThen_ok, Sem.run_pure]
  exact h
def p200 : List Int := 200 :: List.replicate 31 0
theorem p200_l32 : L32 p200 := ⟨by simp [p200], fun z hz => by
  simp only [p200, List.mem_cons, List.mem_replicate] at hz
  omega⟩
theorem build_200 (w : World) : (Instr.build 32 #[(0, .int .u8 200)]).run Tryz.prog w = .ok (.agg (bv p200).toArray) w := by kernel_rfl
theorem build_l1 (w : World) : (Instr.build 35 #[(0, .agg (bv o32).toArray)]).run Tryz.prog w = .ok (.agg (lfc ⟨o32, z32⟩).toArray) w := by kernel_rfl
theorem build_l2 (w : World) : (Instr.build 35 #[(0, .agg (bv p200).toArray)]).run Tryz.prog w = .ok (.agg (lfc ⟨p200, z32⟩).toArray) w := by kernel_rfl
theorem so_one {x : Lf} (hx : x.Ok) : okl [x] ∧ so [x] = [ln x] := so_uniq (fun y hy => by simp at hy; subst hy; exact hx) (List.Perm.refl _) (by simp [apt, ln_gd hx])
/-- One leaf stays where another is added. -/
theorem sty_one {x z : Lf} (hx : x.Ok) (hz : z.Ok) (h : x.p ≠ z.p) : okl ([x] ++ [z]) ∧ sty [x] [z] = [ln x] := by
  have hk : ∀ y ∈ [x] ++ [z], y.Ok := fun y hy => by simp at hy; rcases hy with rfl | rfl <;> assumption
  have ho : okl ([x] ++ [z]) := okl_of_ne hk (by simp [h])
  refine ⟨ho, ?_⟩
  rw [← sty_wo hk ho 1 (by rw [(so_one hx).2]; simp), (so_one hx).2]
  have hh : hl (ln x) z.p = false := by
    cases e : hl (ln x) z.p with
    | false => rfl
    | true => exact absurd (shr_eq hx.p hz.p (hl_beg (k := 256) (Nat.le_refl _) (by show ((256 : Nat) : Int) ≤ 256; omega) e)) h
  simp [wo, ovl_one, hh]
theorem rt_nil_ne : z32 ≠ rt [] := fun e => by
  have h := hs_zero.1
  have e2 : rt [] = hs [0] := by unfold rt; rw [if_pos rfl]
  rw [← e2, ← e] at h
  revert h; decide
theorem ck_nil {er : Int} (h : CKo z32 z32 [] [] er) : er = 3 := by
  refine cko_uniq (fun x hx => by cases hx) (fun x hx => by cases hx) h (.inr (.inr ⟨rfl, [], List.Perm.refl _, rfl, ?_⟩))
  unfold smE
  rw [if_neg (fun q => rt_nil_ne q.1)]
set_option maxHeartbeats 4000000 in
theorem awake_any (w : World) (hT : Tb w) : Calls Tryz.prog 4 #[] w fun e w' => e = .returned (.bool true) ∧ Below w.heap.size w w' := by
  have HT : Hid (Tb w) := hT
  have HB0 : Hid (∀ W : World, (Instr.build 32 #[]).run Tryz.prog W = .ok (.agg (bv z32).toArray) W) := build_32
  obtain ⟨x, hx⟩ : ∃ x : Lf, (⟨o32, z32⟩ : Lf) = x := ⟨_, rfl⟩
  obtain ⟨z, hz⟩ : ∃ x : Lf, (⟨p200, z32⟩ : Lf) = x := ⟨_, rfl⟩
  obtain ⟨O, hO⟩ : ∃ x, o32 = x := ⟨_, rfl⟩
  obtain ⟨P, hP⟩ : ∃ x, p200 = x := ⟨_, rfl⟩
  have HX : Hid x.Ok := by rw [← hx]; exact ⟨o32_l32, z32_l32⟩
  have HZ : Hid z.Ok := by rw [← hz]; exact ⟨p200_l32, z32_l32⟩
  have HNE : Hid (x.p ≠ z.p) := by rw [← hx, ← hz]; show o32 ≠ p200; decide
  have HBO : Hid (∀ W : World, (Instr.build 32 #[(0, .int .u8 1)]).run Tryz.prog W = .ok (.agg (bv O).toArray) W) := fun W => by rw [← hO]; exact build_o32 W
  have HBP : Hid (∀ W : World, (Instr.build 32 #[(0, .int .u8 200)]).run Tryz.prog W = .ok (.agg (bv P).toArray) W) := fun W => by rw [← hP]; exact build_200 W
  have HBX : Hid (∀ W : World, (Instr.build 35 #[(0, .agg (bv O).toArray)]).run Tryz.prog W = .ok (.agg (lfc x).toArray) W) := fun W => by rw [← hO, ← hx]; exact build_l1 W
  have HBZ : Hid (∀ W : World, (Instr.build 35 #[(0, .agg (bv P).toArray)]).run Tryz.prog W = .ok (.agg (lfc z).toArray) W) := fun W => by rw [← hP, ← hz]; exact build_l2 W
  have b1 : Below w.heap.size w (w.alloc (.cells (lfc x).toArray 35)) := (Below.refl _ w).alloc (Nat.le_refl _) _
  have n1 : LS (w.alloc (.cells (lfc x).toArray 35)) (.slice (some ⟨w.heap.size, 0, none⟩) 1 1) [x] := ls_one w x _
  obtain ⟨W1, hW1⟩ : ∃ W, w.alloc (.cells (lfc x).toArray 35) = W := ⟨_, rfl⟩
  rw [hW1] at b1 n1
  have b2 : Below W1.heap.size W1 (W1.alloc (.cells (lfc z).toArray 35)) := (Below.refl _ W1).alloc (Nat.le_refl _) _
  have n2 : LS (W1.alloc (.cells (lfc z).toArray 35)) (.slice (some ⟨W1.heap.size, 0, none⟩) 1 1) [z] := ls_one W1 z _
  obtain ⟨W2, hW2⟩ : ∃ W, W1.alloc (.cells (lfc z).toArray 35) = W := ⟨_, rfl⟩
  rw [hW2] at b2 n2
  obtain ⟨D, hD⟩ : ∃ D, w.heap.size = D := ⟨_, rfl⟩
  obtain ⟨E, hE⟩ : ∃ E, W1.heap.size = E := ⟨_, rfl⟩
  rw [hD] at n1
  rw [hE] at n2
  have BW2 : Hid (Below w.heap.size w W2) := Below.tr' b1 b2
  have HSY : Hid (Calls Tryz.prog 7 #[.slice (some ⟨D, 0, none⟩) 1 1, .slice (some ⟨E, 0, none⟩) 1 1] W2 fun e w' => ∃ v', e = .returned (.tuple #[v', .int .i64 0]) ∧ NS w' v' [ln x] ∧ Below W2.heap.size W2 w') := by
    refine (Stays_any [x] [z] (fun y hy => by simp at hy; rcases hy with rfl | rfl; exact HX.out; exact HZ.out) (by simp) _ _ W2 (n1.below b2) n2 (hT.below BW2.out)).mono fun e w' ⟨v', er, q1, q2, q3⟩ => ?_
    obtain ⟨s1, s2⟩ := sty_one HX.out HZ.out HNE.out
    rcases q2 with ⟨_, rfl, q⟩ | ⟨q, _⟩
    · rw [s2] at q; exact ⟨v', q1, q.ns, q3⟩
    · exact absurd s1 q
  have HCK : Hid (∀ W : World, Below w.heap.size w W → Calls Tryz.prog 8 #[.agg (bv z32).toArray, .agg (bv z32).toArray, .slice none 0 0, .slice none 0 0] W fun e w' => e = .returned (.int .i64 3) ∧ Below W.heap.size W w') := fun W q => by
    refine (Check_any z32 z32 z32_l32 z32_l32 [] (fun y hy => by cases hy) [] (fun y hy => by cases hy) (by simp) (.slice none 0 0) (.slice none 0 0) W ⟨none, 0, rfl, Nat.le_refl _, .inl ⟨rfl, fun _ => rfl⟩⟩ ⟨none, 0, rfl, Nat.le_refl _, .inl ⟨rfl, fun _ => rfl⟩⟩ (HT.out.below q)).mono fun e w' ⟨er, q1, q2, q3⟩ => ?_
    rw [ck_nil q2] at q1
    exact ⟨q1, q3⟩
  obtain ⟨Zz, hZz⟩ : ∃ z, z32 = z := ⟨_, rfl⟩
  rw [hZz] at HB0 HCK
  clear hT hx hz hO hP b1 n1 b2 n2 hZz
  go_enter Tryz.func4, Tryz.ntmps4
  go_upto_region 2 with (first
    | (refine wp_build1 32 (.const (.int .u8 1)) rfl rfl (.int .u8 1) rfl _ (HBO.out w) ?_)
    | (refine wp_build1 35 (.tmp 4) rfl rfl (.agg (bv O).toArray) rfl _ (HBX.out w) ?_)
    | (refine wpList_onel rfl (.tmp 5) rfl x HX.out rfl ?_))
  try rw [hW1]
  try rw [hD]
  go_upto_region 3 with (first
    | (refine wp_build1 32 (.const (.int .u8 200)) rfl rfl (.int .u8 200) rfl _ (HBP.out W1) ?_)
    | (refine wp_build1 35 (.tmp 9) rfl rfl (.agg (bv P).toArray) rfl _ (HBZ.out W1) ?_)
    | (refine wpList_onel rfl (.tmp 10) rfl z HZ.out rfl ?_; rw [hW2, hE])
    | (go_at_call 7; refine HSY.out.mono ?_; rintro e w3 ⟨v3, rfl, g1, g2⟩; obtain ⟨a3, c3, e3, -, -⟩ := g1; rw [show [ln x].length = 1 from rfl] at e3; subst e3; have B3 : Hid (Below w.heap.size w w3) := Below.tr' BW2.out g2; clear g2))
  clear hW1 hW2 hD hE
  go_wp2_with (first
    | (refine wp_build0g 32 rfl rfl _ (HB0.out w3) ?_)
    | (go_at_call 8; refine (HCK.out w3 B3.out).mono ?_; rintro e w4 ⟨rfl, g1⟩; have B4 : Hid (Below w.heap.size w w4) := Below.tr' B3.out g1; clear g1))
  go_ret
  exact ⟨rfl, B4.out⟩
end Go.Proofs.YtpojalbpekbfdaaGreatDoor
/- The law's in and apart. -/
namespace Go.Proofs.YtpojalbpekbfdaaGreatDoor
open Go Go.RowKit
set_option linter.unusedSimpArgs false
set_option linter.unusedVariables false
set_option maxRecDepth 100000

def in4f (b o n cap k : Nat) (px y : List Int) (g : Bool) : Nat → Value
  | 0 => .slice (some ⟨b, o, none⟩) n cap
  | 1 => .int .i64 (k : Int)
  | 2 => .pointer (some ⟨b, o + k * 64, none⟩)
  | 3 => .pointer (some ⟨b, o + k * 64, none⟩)
  | 4 => .agg (bv px).toArray
  | 5 => .agg (bv y).toArray
  | 6 => .bool g
  | _ => undef
/-- Is the label one of theirs? -/
def iny (l : List Lf) (y : List Int) : Bool := l.any (fun z => decide (z.p = y))
theorem iny_ds (l : List Lf) (x : Lf) : dsN l x = !iny l x.p := by
  unfold dsN iny
  induction l with
  | nil => rfl
  | cons a r ih => simp [List.all_cons, List.any_cons, Bool.not_or] at ih ⊢; rw [ih]
set_option maxHeartbeats 4000000 in
theorem in_any (l : List Lf) (hk : ∀ x ∈ l, x.Ok) (hlen : l.length ≤ 140737488355328) (y : List Int) (hy : L32 y) (v : Value) (w : World) (hv : LS w v l) :
    Calls Tryz.prog 13 #[v, .agg (bv y).toArray] w fun e w' => e = .returned (.bool (iny l y)) ∧ Below w.heap.size w w' := by
  have sy : (bv y).toArray.size = 32 := by rw [List.size_toArray, bv_length, hy.len]
  have ra := range_alloc w (bv y) 32 (0, 0)
  obtain ⟨A, hA⟩ : ∃ A, (bv y).toArray = A := ⟨_, rfl⟩
  rw [hA] at ra sy ⊢
  obtain ⟨U, hU⟩ : ∃ U, w.alloc (.cells A 32) = U := ⟨_, rfl⟩
  have bU : Below w.heap.size w U := by rw [← hU]; exact (Below.refl _ w).alloc (Nat.le_refl _) _
  have sU : U.heap.size = w.heap.size + 1 := by rw [← hU]; simp
  rw [hU] at ra
  have BU : Hid (Below w.heap.size w U) := bU
  have HY : Hid (L32 y) := hy
  have HK : Hid (∀ x ∈ l, x.Ok) := hk
  obtain ⟨ad, cap, hv0, hc0, hx0⟩ := id hv
  obtain ⟨n, hn⟩ : ∃ n, l.length = n := ⟨_, rfl⟩
  have HN : Hid (l.length = n) := hn
  rw [hn] at hv0 hlen
  subst hv0
  have HX : Hid ((l = [] ∧ (ad = none → cap = 0)) ∨ ∃ b o, ad = some ⟨b, o, none⟩ ∧ b < w.heap.size ∧ ∀ (i : Nat) (x : Lf), l[i]? = some x → w.rangeAt b (o + i * 64) (lfc x)) := hx0
  obtain ⟨D, hD⟩ : ∃ D, w.heap.size = D := ⟨_, rfl⟩
  rw [hD] at ra sU
  have RY : Hid (U.rangeAt D 0 (bv y)) := ra
  have LY : Hid (D < U.heap.size) := by show D < _; omega
  clear ra bU hy hk sU hv hA hc0 hx0 hn
  go_enter Tryz.func13, Tryz.ntmps13
  go_upto_region 1 with (fail)
  try rw [hU]
  try rw [hD]
  clear hU hD sy
  go_wp2_with fail
  go_loopw [8] (fun i wr => ∃ k : Nat, k ≤ n ∧ i = .int .i64 (k : Int) ∧ iny (l.take k) y = false ∧ Below U.heap.size U wr) (fun i _ => n - (intOf i).toNat)
  case atStart => exact ⟨0, Nat.zero_le _, rfl, rfl, Below.refl _ _⟩
  case round =>
    obtain ⟨k, hkn, rfl, hno, h4⟩ := hrel
    have HNO : Hid (iny (l.take k) y = false) := hno
    have H4 : Hid (Below U.heap.size U wr) := h4
    clear h4 hno
    by_cases hlt : k < n
    · have HLT : Hid (k < n) := hlt
      obtain ⟨x, hx⟩ : ∃ x, l[k]? = some x := ⟨l[k]'(by rw [HN.out]; exact hlt), List.getElem?_eq_getElem _⟩
      rcases HX.out with ⟨h0, _⟩ | ⟨b, o, rfl, hlb, hm⟩
      · rw [h0] at hx; simp at hx
      · have C4 : Hid (Below w.heap.size w wr) := Below.tr' BU.out H4.out
        obtain ⟨px, hpx⟩ : ∃ p, x.p = p := ⟨_, rfl⟩
        have HPX : Hid (L32 px) := by rw [← hpx]; exact (HK.out x (List.mem_of_getElem? hx)).p
        have RX : Hid (wr.rangeAt b (o + k * 64) (bv px)) := by rw [← hpx]; exact lf_p (range_below (hm k x hx) C4.out hlb)
        have LX : Hid (b < wr.heap.size) := Nat.lt_of_lt_of_le hlb C4.out.size
        have RYw : Hid (wr.rangeAt D 0 (bv y)) := range_below RY.out H4.out LY.out
        have LYw : Hid (D < wr.heap.size) := Nat.lt_of_lt_of_le LY.out H4.out.size
        obtain ⟨g, hg⟩ : ∃ g, decide (px = y) = g := ⟨_, rfl⟩
        have HG : Hid (decide (px = y) = g) := hg
        have HTK : Hid (iny (l.take (k + 1)) y = (iny (l.take k) y || g)) := by
          show iny (l.take (k + 1)) y = _
          rw [List.take_add_one, hx]; simp [iny, List.any_append, hpx, hg]
        have HMEM : Hid (x ∈ l) := List.mem_of_getElem? hx
        have HXP : Hid (x.p = px) := hpx
        clear hm hlb hx hpx hg
        go_upto_region 4 with (fail)
        refine RU.wp_rgn' [] (in4f b o n cap k px y g) (fun _ => 0) (gΩ wr) (by kernel_rfl) (by kernel_rfl) (show Below wr.heap.size wr _ from (Below.refl _ _).drew) ?_ ?_
        · refine ⟨?_, ?_, ?_, ?_, ?_, ?_, ?_, trivial⟩
          · refine RU.ObT.pure rfl rfl rfl (fun a V hf hp ev he hc W => ?_)
            have q0 : ev (.tmp 0) = .slice (some ⟨b, o, none⟩) n cap := (he (.tmp 0)).trans (hf 0 rfl)
            simp only [List.getElem_toArray, List.getElem_cons_succ, List.getElem_cons_zero, execOp, Option.map_some, Option.map_none]; rw [q0]
            first | (go_simp; done) | (go_simp; rfl) | rfl
          · refine RU.ObT.pure rfl rfl rfl (fun a V hf hp ev he hc W => ?_)
            have q5 : ev (.tmp 5) = .int .i64 (k : Int) := (he (.tmp 5)).trans (hf 5 rfl)
            simp only [List.getElem_toArray, List.getElem_cons_succ, List.getElem_cons_zero, execOp, Option.map_some, Option.map_none]; rw [q5]
            first | (go_simp; done) | (go_simp; rfl) | rfl
          · refine RU.ObT.pure rfl rfl rfl (fun a V hf hp ev he hc W => ?_)
            have q11 : ev (.tmp 11) = .slice (some ⟨b, o, none⟩) n cap := (he (.tmp 11)).trans (hp 0 11 rfl)
            have q12 : ev (.tmp 12) = .int .i64 (k : Int) := (he (.tmp 12)).trans (hp 1 12 rfl)
            simp only [List.getElem_toArray, List.getElem_cons_succ, List.getElem_cons_zero, execOp, Option.map_some, Option.map_none]; rw [q11, q12]
            have hk9 : (k : Int) < (n : Int) := by omega
            first | (go_simp; done) | (go_simp; rfl) | rfl
          · refine RU.ObT.pure rfl rfl rfl (fun a V hf hp ev he hc W => ?_)
            have q13 : ev (.tmp 13) = .pointer (some ⟨b, o + k * 64, none⟩) := (he (.tmp 13)).trans (hp 2 13 rfl)
            simp only [List.getElem_toArray, List.getElem_cons_succ, List.getElem_cons_zero, execOp, Option.map_some, Option.map_none]; rw [q13]
            first | (go_simp; done) | (go_simp; rfl) | rfl
          · refine RU.ObT.silent rfl (fun a W k0 V hO hf hp hk => ?_)
            have hO' : Below wr.heap.size wr W := hO
            have q14 : a.eval (.tmp 14) = .pointer (some ⟨b, o + k * 64, none⟩) := hp 3 14 rfl
            exact RU.ob_op rfl (RU.wanted_none rfl) (wp_load_mid 32 (.tmp 14) rfl (b) (o + k * 64) q14 (bv px) _ (range_below RX.out hO' LX.out) Tryz.underlying32 rfl (size_l32 HPX.out) ⟨rfl, hO⟩)
          · refine RU.ObT.silent rfl (fun a W k0 V hO hf hp hk => ?_)
            have hO' : Below wr.heap.size wr W := hO
            have q3 : a.eval (.tmp 3) = .pointer (some ⟨D, 0, none⟩) := hf 3 rfl
            exact RU.ob_op rfl (RU.wanted_none rfl) (wp_load_mid 32 (.tmp 3) rfl (D) (0) q3 (bv y) _ (range_below RYw.out hO' LYw.out) Tryz.underlying32 rfl (size_l32 HY.out) ⟨rfl, hO⟩)
          · refine RU.ObT.pure rfl rfl rfl (fun a V hf hp ev he hc W => ?_)
            have q15 : ev (.tmp 15) = .agg (bv px).toArray := (he (.tmp 15)).trans (hp 4 15 rfl)
            have q16 : ev (.tmp 16) = .agg (bv y).toArray := (he (.tmp 16)).trans (hp 5 16 rfl)
            simp only [List.getElem_toArray, List.getElem_cons_succ, List.getElem_cons_zero, execOp, Option.map_some, Option.map_none]; rw [q15, q16]
            simp only [Sem.run_bind, eqg_32, eql_32 HPX.out HY.out W, HG.out, Result.andThen_ok, Sem.run_pure]; rfl
        intro W1 VW1 hOW1
        have BW1 : Hid (Below wr.heap.size wr W1) := hOW1
        clear hOW1
        simp only [RU.lay, RU.val, RU.at', in4f, Act.put]
        simp only [List.setIfInBounds_toArray, List.set_cons_succ, List.set_cons_zero]
        cases g with
        | true =>
          go_wp2_with fail
          go_ret
          refine ⟨?_, Below.tr' C4.out BW1.out⟩
          have : iny l y = true := List.any_eq_true.2 ⟨x, HMEM.out, by rw [HXP.out]; exact HG.out⟩
          rw [this]; rfl
        | false =>
          go_wp2_with fail
          exact ⟨⟨k + 1, HLT.out, by go_num, by rw [HTK.out, HNO.out]; rfl, Below.tr' H4.out BW1.out⟩, by have := HLT.out; simp [intOf]; omega⟩
    · obtain rfl : k = n := by omega
      have e : iny l y = false := by have := HNO.out; rwa [← HN.out, List.take_length] at this
      have HE : Hid (iny l y = false) := e
      clear e
      go_wp2_with fail
      go_ret
      exact ⟨by rw [HE.out]; rfl, Below.tr' BU.out H4.out⟩
end Go.Proofs.YtpojalbpekbfdaaGreatDoor
