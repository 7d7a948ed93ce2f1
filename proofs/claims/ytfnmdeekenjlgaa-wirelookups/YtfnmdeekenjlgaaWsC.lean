/- The reference: LeavesBytes, LinksBytes. -/
import Derived.Test.YtfnmdeekenjlgaaWsB
import Derived.Test.YtfnmdeekenjlgaaRgnU
namespace Go.Proofs.Ytfnmdeekenjlgaa
open Go Go.RowKit
set_option linter.unusedSimpArgs false
set_option linter.unusedVariables false
set_option maxRecDepth 100000

theorem run_u8 {B0 : Nat} {w : World} {v u : Value} {xs ys : List Int} (hB : B0 ≤ w.heap.size) (h0 : Ow B0 w v xs) (hg : Sl w u ys) (hk : xs.length + ys.length ≤ 140737488355328) :
    ∃ v' w', (Builtin.append_ #[34, 34] 34 #[v, u]).run Try.prog w = .ok v' w' ∧ Ow B0 w' v' (xs ++ ys) ∧ Below B0 w w' := by
  obtain ⟨i, hi, hz, hsz, hby⟩ := info_u8
  obtain ⟨ad, cap, rfl, hc, hg⟩ := hg
  have fin : ∀ w', w.grownBy w' v.ownBlock → Below B0 w w' := fun w' h2 => (Below.refl B0 w).grown h2 hB (fun b hb' => h0.blk b hb')
  rcases hg with ⟨rfl, hn⟩ | ⟨b, off, rfl, _, hm⟩
  · cases ad with
    | some A =>
      obtain ⟨v', w', hr, h1, h2, -, -⟩ := run_append_own_at (P := Try.prog) w B0 34 34 5 i (.int .u8 0) 1 1 Try.underlying34 hi hz hsz hby rfl (by decide) v xs.length (bv xs) h0 A 0 cap [] rfl (fun j u hu => by simp at hu) (fun _ h => by cases h) (by simp at hk; unfold maxLen; omega) (by simp at hk; omega) hB
      refine ⟨v', w', hr, ?_, fin w' h2⟩
      rw [List.append_nil]
      rw [Nat.add_zero, List.append_nil] at h1
      exact h1
    | none =>
      obtain rfl := hn rfl
      exact ⟨v, w, run_append_owned_none (P := Try.prog) w B0 _ _ _ i 1 Try.underlying34 hi v xs.length (bv xs) h0, by rw [List.append_nil]; exact h0, Below.refl _ _⟩
  · obtain ⟨v', w', hr, h1, h2, -, -⟩ := run_append_own_at (P := Try.prog) w B0 34 34 5 i (.int .u8 0) 1 1 Try.underlying34 hi hz hsz hby rfl (by decide) v xs.length (bv xs) h0 ⟨b, off, none⟩ ys.length cap (bv ys) (by rw [bv_length]; omega) (fun j u hu => by
      obtain ⟨hj, hv⟩ := List.getElem?_eq_some_iff.1 hu
      rw [bv_length] at hj
      rw [addr_add0, hm j hj, ← bv_get ys hj, ← hu]) (bv_one _) (by unfold maxLen; omega) (by omega) hB
    refine ⟨v', w', hr, ?_, fin w' h2⟩
    unfold Ow
    rw [List.length_append, bv_append]; exact h1
def apΩ (B : Nat) (w0 : World) (L a b c : List Int) (n : Nat) : Nat → (Nat → Value) → World → Prop
  | 0, _, W => Below w0.heap.size w0 W
  | 1, V, W => Below B w0 W ∧ Ow B W (V 0) (L ++ a)
  | 2, V, W => Below B w0 W ∧ Ow B W (V 1) (L ++ a ++ b)
  | 3, V, W => Below B w0 W ∧ Ow B W (V 2) (if n = 2 then L ++ a ++ b else L ++ a ++ b ++ c)
  | _ + 4, V, W => Below B w0 W ∧ Ow B W (V 3) (L ++ a ++ b ++ c)
theorem range_low9 {B : Nat} {w w' : World} {b o : Nat} {cs : List Value} (h : w.rangeAt b o cs) (hb : Below B w w') (hlt : b < B) : w'.rangeAt b o cs := fun j v hj => (hb.cell (p := ⟨b, o + j, none⟩) hlt).trans (h j v hj)
def LeavesBytesf (u3 : Value) (b o n cap k : Nat) : Nat → Value
  | 0 => u3
  | 1 => .slice (some ⟨b, o, none⟩) n cap
  | 2 => .int .i64 (k : Int)
  | 3 => .pointer (some ⟨b, o + k * 64, none⟩)
  | 4 => .pointer (some ⟨b, o + k * 64, none⟩)
  | 5 => .slice (some ⟨b, o + k * 64, none⟩) 32 32
  | 6 => undef
  | 7 => .slice (some ⟨b, o, none⟩) n cap
  | 8 => .int .i64 (k : Int)
  | 9 => .pointer (some ⟨b, o + k * 64, none⟩)
  | 10 => .pointer (some ⟨b, o + k * 64 + 32, none⟩)
  | 11 => .slice (some ⟨b, o + k * 64 + 32, none⟩) 32 32
  | 12 => undef
  | 13 => undef
  | _ => undef
def LeaK : Nat → Nat
  | 0 => 0
  | 1 => 0
  | 2 => 0
  | 3 => 0
  | 4 => 0
  | 5 => 0
  | 7 => 1
  | 8 => 1
  | 9 => 1
  | 10 => 1
  | 11 => 1
  | _ => 2
set_option maxHeartbeats 8000000 in
theorem rLeavesBytes_any (ls : List Lf) (hk : ∀ x ∈ ls, x.Ok) (hlen : ls.length * 64 ≤ 140737488351232) (v : Value) (w : World) (hv : LS w v ls) :
    Calls Try.prog 42 #[v] w fun e w' => ∃ v', e = .returned v' ∧ Ow w.heap.size w' v' (ls.flatMap lfb) ∧ Below w.heap.size w w' := by
  obtain ⟨ad, cap, rfl, hc, hx⟩ := hv
  have HXX : Hid ((ls = [] ∧ (ad = none → cap = 0)) ∨ ∃ b o, ad = some ⟨b, o, none⟩ ∧ b < w.heap.size ∧ ∀ (i : Nat) (x : Lf), ls[i]? = some x → w.rangeAt b (o + i * 64) (lfc x)) := hx
  have HK : Hid (∀ x ∈ ls, x.Ok) := hk
  have HC : Hid (∀ k, ((ls.take k).flatMap lfb).length ≤ 140737488351232) := fun k => by
    show _ ≤ _
    rw [fm_len lfb 64 (fun x hx => lfb_len (hk x (List.mem_of_mem_take hx))), List.length_take]
    exact Nat.le_trans (Nat.mul_le_mul_right _ (Nat.min_le_right _ _)) hlen
  obtain ⟨n, hn⟩ : ∃ n, ls.length = n := ⟨_, rfl⟩
  have HN : Hid (ls.length = n) := hn
  rw [hn] at hc hlen ⊢
  have hn9 : n ≤ 140737488351232 := by omega
  clear hx hk hn
  go_enter Try.func42, Try.ntmps42
  go_wp2_with fail
  go_loopw [3, 7] (fun ov i wr => ∃ k : Nat, k ≤ n ∧ i = .int .i64 (k : Int) ∧ Ow w.heap.size wr ov ((ls.take k).flatMap lfb) ∧ Below w.heap.size w wr) (fun _ i _ => n - (intOf i).toNat)
  case atStart => exact ⟨0, Nat.zero_le _, rfl, Ow.nil _ _, Below.refl _ _⟩
  case round =>
    obtain ⟨k, hkn, rfl, h1, h2⟩ := hrel
    have O1 : Hid (Ow w.heap.size wr u3 ((ls.take k).flatMap lfb)) := h1
    have B1 : Hid (Below w.heap.size w wr) := h2
    clear h1 h2
    by_cases hlt : k < n
    · obtain ⟨x, hx⟩ : ∃ x, ls[k]? = some x := ⟨ls[k]'(by rw [HN.out]; exact hlt), List.getElem?_eq_getElem (by rw [HN.out]; exact hlt)⟩
      have HX : Hid x.Ok := HK.out x (List.mem_of_getElem? hx)
      have HSN : Hid ((ls.take (k + 1)).flatMap lfb = (ls.take k).flatMap lfb ++ lfb x) := fm_snoc lfb hx
      rcases HXX.out with ⟨h0, _⟩ | ⟨b, o, rfl, hlb, hm⟩
      · rw [h0] at hx; simp at hx
      · have HRX : Hid (w.rangeAt b (o + k * 64) (lfc x)) := hm k x hx
        have HLB : Hid (b < w.heap.size) := hlb
        have HCK := HC.out k
        obtain ⟨L0, hL0⟩ : ∃ L, (ls.take k).flatMap lfb = L := ⟨_, rfl⟩
        rw [hL0] at HSN O1 HCK
        have HL0 : Hid (L0.length ≤ 140737488351232) := HCK
        clear hm hlb hx hL0 HCK
        go_upto_region 5 with (fail)
        refine RU.wp_rgn' [6, 12, 13] (LeavesBytesf u3 b o n cap k) LeaK (apΩ w.heap.size wr L0 (x.p) (x.q) ([]) 2) (by kernel_rfl) (by kernel_rfl) (show Below wr.heap.size wr _ from (Below.refl _ _).drew) ?_ ?_
        · refine ⟨?_, ?_, ?_, ?_, ?_, ?_, ?_, ?_, ?_, ?_, ?_, ?_, ?_, ?_, trivial⟩
          · refine RU.ObT.pure rfl rfl rfl (fun a V hf hp ev he hc W => ?_)
            have q3 : ev (.tmp 3) = u3 := (he (.tmp 3)).trans (hf 3 rfl)
            simp only [List.getElem_toArray, List.getElem_cons_succ, List.getElem_cons_zero, execOp, Option.map_some, Option.map_none]; rw [q3]
            first | (go_simp; done) | (go_simp; rfl) | rfl
          · refine RU.ObT.pure rfl rfl rfl (fun a V hf hp ev he hc W => ?_)
            have q0 : ev (.tmp 0) = .slice (some ⟨b, o, none⟩) n cap := (he (.tmp 0)).trans (hf 0 rfl)
            simp only [List.getElem_toArray, List.getElem_cons_succ, List.getElem_cons_zero, execOp, Option.map_some, Option.map_none]; rw [q0]
            first | (go_simp; done) | (go_simp; rfl) | rfl
          · refine RU.ObT.pure rfl rfl rfl (fun a V hf hp ev he hc W => ?_)
            have q4 : ev (.tmp 4) = .int .i64 (k : Int) := (he (.tmp 4)).trans (hf 4 rfl)
            simp only [List.getElem_toArray, List.getElem_cons_succ, List.getElem_cons_zero, execOp, Option.map_some, Option.map_none]; rw [q4]
            first | (go_simp; done) | (go_simp; rfl) | rfl
          · refine RU.ObT.pure rfl rfl rfl (fun a V hf hp ev he hc W => ?_)
            have q11 : ev (.tmp 11) = .slice (some ⟨b, o, none⟩) n cap := (he (.tmp 11)).trans (hp 1 11 rfl)
            have q12 : ev (.tmp 12) = .int .i64 (k : Int) := (he (.tmp 12)).trans (hp 2 12 rfl)
            simp only [List.getElem_toArray, List.getElem_cons_succ, List.getElem_cons_zero, execOp, Option.map_some, Option.map_none]; rw [q11, q12]
            have hk9 : (k : Int) < (n : Int) := by omega
            first | (go_simp; done) | (go_simp; rfl) | rfl
          · refine RU.ObT.pure rfl rfl rfl (fun a V hf hp ev he hc W => ?_)
            have q13 : ev (.tmp 13) = .pointer (some ⟨b, o + k * 64, none⟩) := (he (.tmp 13)).trans (hp 3 13 rfl)
            simp only [List.getElem_toArray, List.getElem_cons_succ, List.getElem_cons_zero, execOp, Option.map_some, Option.map_none]; rw [q13]
            first | (go_simp; done) | (go_simp; rfl) | rfl
          · refine RU.ObT.pure rfl rfl rfl (fun a V hf hp ev he hc W => ?_)
            have q14 : ev (.tmp 14) = .pointer (some ⟨b, o + k * 64, none⟩) := (he (.tmp 14)).trans (hp 4 14 rfl)
            simp only [List.getElem_toArray, List.getElem_cons_succ, List.getElem_cons_zero, execOp, Option.map_some, Option.map_none]; rw [q14]
            first | (go_simp; done) | (go_simp; rfl) | rfl
          · refine RU.ObT.loud (j := 0) rfl (fun a W V hO hf hp => ?_)
            have hO9 : Below w.heap.size wr W ∧ Ow w.heap.size W (u3) (L0) := ⟨Below.mono hO B1.out.size, O1.out.below hO⟩
            have hbw : Below w.heap.size w W := B1.out.trans hO9.1
            have hsl : Sl W (.slice (some ⟨b, o + k * 64, none⟩) 32 32) x.p := sl_range HX.out.p (range_low9 (lf_p HRX.out) hbw HLB.out) (Nat.lt_of_lt_of_le HLB.out hbw.size)
            have q1 : a.eval (.tmp 10) = u3 := hp 0 10 rfl
            have q2 : a.eval (.tmp 15) = .slice (some ⟨b, o + k * 64, none⟩) 32 32 := hp 5 15 rfl
            obtain ⟨v', w', hr, p1, p2⟩ := run_u8 hbw.size hO9.2 hsl (by have h1 := HL0.out; have l0 := (HX.out.p).len; (try simp only [List.length_append]); omega)
            refine RU.ob_run (v := v') (w' := w') rfl (RU.wanted_none rfl) (fun ev he hc => ?_) ⟨_, rfl, hO9.1.trans p2, p1⟩
            have e1 := (he (.tmp 10)).trans q1
            have e2 := (he (.tmp 15)).trans q2
            simp only [List.getElem_toArray, List.getElem_cons_succ, List.getElem_cons_zero, execOp, resolve, invoke, builtin, Sem.run_bind, Sem.run_pure, Result.andThen_ok, List.map_toArray, List.map_cons, List.map_nil, e1, e2, hr]
          · refine RU.ObT.pure rfl rfl rfl (fun a V hf hp ev he hc W => ?_)
            have q0 : ev (.tmp 0) = .slice (some ⟨b, o, none⟩) n cap := (he (.tmp 0)).trans (hf 0 rfl)
            simp only [List.getElem_toArray, List.getElem_cons_succ, List.getElem_cons_zero, execOp, Option.map_some, Option.map_none]; rw [q0]
            first | (go_simp; done) | (go_simp; rfl) | rfl
          · refine RU.ObT.pure rfl rfl rfl (fun a V hf hp ev he hc W => ?_)
            have q4 : ev (.tmp 4) = .int .i64 (k : Int) := (he (.tmp 4)).trans (hf 4 rfl)
            simp only [List.getElem_toArray, List.getElem_cons_succ, List.getElem_cons_zero, execOp, Option.map_some, Option.map_none]; rw [q4]
            first | (go_simp; done) | (go_simp; rfl) | rfl
          · refine RU.ObT.pure rfl rfl rfl (fun a V hf hp ev he hc W => ?_)
            have q17 : ev (.tmp 17) = .slice (some ⟨b, o, none⟩) n cap := (he (.tmp 17)).trans (hp 7 17 rfl)
            have q18 : ev (.tmp 18) = .int .i64 (k : Int) := (he (.tmp 18)).trans (hp 8 18 rfl)
            simp only [List.getElem_toArray, List.getElem_cons_succ, List.getElem_cons_zero, execOp, Option.map_some, Option.map_none]; rw [q17, q18]
            have hk9 : (k : Int) < (n : Int) := by omega
            first | (go_simp; done) | (go_simp; rfl) | rfl
          · refine RU.ObT.pure rfl rfl rfl (fun a V hf hp ev he hc W => ?_)
            have q19 : ev (.tmp 19) = .pointer (some ⟨b, o + k * 64, none⟩) := (he (.tmp 19)).trans (hp 9 19 rfl)
            simp only [List.getElem_toArray, List.getElem_cons_succ, List.getElem_cons_zero, execOp, Option.map_some, Option.map_none]; rw [q19]
            first | (go_simp; done) | (go_simp; rfl) | rfl
          · refine RU.ObT.pure rfl rfl rfl (fun a V hf hp ev he hc W => ?_)
            have q20 : ev (.tmp 20) = .pointer (some ⟨b, o + k * 64 + 32, none⟩) := (he (.tmp 20)).trans (hp 10 20 rfl)
            simp only [List.getElem_toArray, List.getElem_cons_succ, List.getElem_cons_zero, execOp, Option.map_some, Option.map_none]; rw [q20]
            first | (go_simp; done) | (go_simp; rfl) | rfl
          · refine RU.ObT.loud (j := 1) rfl (fun a W V hO hf hp => ?_)
            have hO9 : Below w.heap.size wr W ∧ Ow w.heap.size W (V 0) (L0 ++ x.p) := hO
            have hbw : Below w.heap.size w W := B1.out.trans hO9.1
            have hsl : Sl W (.slice (some ⟨b, o + k * 64 + 32, none⟩) 32 32) x.q := sl_range HX.out.q (range_low9 (lf_q HX.out.p HRX.out) hbw HLB.out) (Nat.lt_of_lt_of_le HLB.out hbw.size)
            have q1 : a.eval (.tmp 16) = V 0 := hp 6 16 rfl
            have q2 : a.eval (.tmp 21) = .slice (some ⟨b, o + k * 64 + 32, none⟩) 32 32 := hp 11 21 rfl
            obtain ⟨v', w', hr, p1, p2⟩ := run_u8 hbw.size hO9.2 hsl (by have h1 := HL0.out; have l0 := (HX.out.p).len; have l1 := (HX.out.q).len; (try simp only [List.length_append]); omega)
            refine RU.ob_run (v := v') (w' := w') rfl (RU.wanted_none rfl) (fun ev he hc => ?_) ⟨_, rfl, hO9.1.trans p2, p1⟩
            have e1 := (he (.tmp 16)).trans q1
            have e2 := (he (.tmp 21)).trans q2
            simp only [List.getElem_toArray, List.getElem_cons_succ, List.getElem_cons_zero, execOp, resolve, invoke, builtin, Sem.run_bind, Sem.run_pure, Result.andThen_ok, List.map_toArray, List.map_cons, List.map_nil, e1, e2, hr]
          · refine RU.ObT.loud (j := 2) rfl (fun a W V hO hf hp => ?_)
            have q1 : a.eval (.tmp 22) = V 1 := hp 12 22 rfl
            refine RU.ob_val (v := V 1) rfl (RU.wanted_none rfl) (fun ev he hc => ?_) ⟨_, rfl, (show Below _ _ _ ∧ Ow _ _ _ (if 2 = 2 then _ else _) by rw [if_pos rfl]; exact hO)⟩
            have e1 := (he (.tmp 22)).trans q1
            simp only [List.getElem_toArray, List.getElem_cons_succ, List.getElem_cons_zero, execOp]
            rw [e1]
            first | rfl | go_simp
        intro W1 VW1 hOW1
        have PW1 : Hid (Below w.heap.size wr W1 ∧ Ow w.heap.size W1 (VW1 2) (L0 ++ x.p ++ x.q)) := (show Below _ _ _ ∧ Ow _ _ _ _ by have h9 : Below _ _ _ ∧ Ow _ _ _ (if 2 = 2 then _ else _) := hOW1; rw [if_pos rfl] at h9; exact h9)
        clear hOW1
        simp only [RU.lay, RU.val, show RU.at' [6, 12, 13] 0 = none from rfl, show RU.at' [6, 12, 13] 1 = none from rfl, show RU.at' [6, 12, 13] 2 = none from rfl, show RU.at' [6, 12, 13] 3 = none from rfl, show RU.at' [6, 12, 13] 4 = none from rfl, show RU.at' [6, 12, 13] 5 = none from rfl, show RU.at' [6, 12, 13] 6 = some 0 from rfl, show RU.at' [6, 12, 13] 7 = none from rfl, show RU.at' [6, 12, 13] 8 = none from rfl, show RU.at' [6, 12, 13] 9 = none from rfl, show RU.at' [6, 12, 13] 10 = none from rfl, show RU.at' [6, 12, 13] 11 = none from rfl, show RU.at' [6, 12, 13] 12 = some 1 from rfl, show RU.at' [6, 12, 13] 13 = some 2 from rfl, LeavesBytesf, Act.put]
        simp only [List.setIfInBounds_toArray, List.set_cons_succ, List.set_cons_zero]
        obtain ⟨v9, hv9⟩ : ∃ q, VW1 2 = q := ⟨_, rfl⟩
        rw [hv9] at PW1 ⊢
        clear hv9
        have O2 : Hid (Ow w.heap.size W1 v9 ((ls.take (k + 1)).flatMap lfb)) := by rw [HSN.out]; have e : L0 ++ lfb x = L0 ++ x.p ++ x.q := (by simp [lfb]); rw [e]; exact PW1.out.2
        have B2 : Hid (Below w.heap.size w W1) := B1.out.trans PW1.out.1
        go_wp2_with fail
        exact ⟨⟨k + 1, hlt, by go_num, O2.out, B2.out⟩, by simp [intOf]; omega⟩
    · obtain rfl : k = n := by omega
      have HT : Hid (ls.take k = ls) := by show _ = _; rw [← HN.out, List.take_length]
      have O9 : Hid (Ow w.heap.size wr u3 (ls.flatMap lfb)) := by have := O1.out; rw [HT.out] at this; exact this
      go_wp2_with fail
      go_ret
      exact ⟨_, rfl, O9.out, B1.out⟩
def LinksBytesf (u3 : Value) (b o n cap k : Nat) : Nat → Value
  | 0 => u3
  | 1 => .slice (some ⟨b, o, none⟩) n cap
  | 2 => .int .i64 (k : Int)
  | 3 => .pointer (some ⟨b, o + k * 96, none⟩)
  | 4 => .pointer (some ⟨b, o + k * 96, none⟩)
  | 5 => .slice (some ⟨b, o + k * 96, none⟩) 32 32
  | 6 => undef
  | 7 => .slice (some ⟨b, o, none⟩) n cap
  | 8 => .int .i64 (k : Int)
  | 9 => .pointer (some ⟨b, o + k * 96, none⟩)
  | 10 => .pointer (some ⟨b, o + k * 96 + 32, none⟩)
  | 11 => .slice (some ⟨b, o + k * 96 + 32, none⟩) 32 32
  | 12 => undef
  | 13 => .slice (some ⟨b, o, none⟩) n cap
  | 14 => .int .i64 (k : Int)
  | 15 => .pointer (some ⟨b, o + k * 96, none⟩)
  | 16 => .pointer (some ⟨b, o + k * 96 + 64, none⟩)
  | 17 => .slice (some ⟨b, o + k * 96 + 64, none⟩) 32 32
  | 18 => undef
  | 19 => undef
  | _ => undef
def LinK : Nat → Nat
  | 0 => 0
  | 1 => 0
  | 2 => 0
  | 3 => 0
  | 4 => 0
  | 5 => 0
  | 7 => 1
  | 8 => 1
  | 9 => 1
  | 10 => 1
  | 11 => 1
  | 13 => 2
  | 14 => 2
  | 15 => 2
  | 16 => 2
  | 17 => 2
  | _ => 3
set_option maxHeartbeats 8000000 in
theorem rLinksBytes_any (ls : List Lk) (hk : ∀ x ∈ ls, x.Ok) (hlen : ls.length * 96 ≤ 140737488351232) (v : Value) (w : World) (hv : KS w v ls) :
    Calls Try.prog 43 #[v] w fun e w' => ∃ v', e = .returned v' ∧ Ow w.heap.size w' v' (ls.flatMap lkb) ∧ Below w.heap.size w w' := by
  obtain ⟨ad, cap, rfl, hc, hx⟩ := hv
  have HXX : Hid ((ls = [] ∧ (ad = none → cap = 0)) ∨ ∃ b o, ad = some ⟨b, o, none⟩ ∧ b < w.heap.size ∧ ∀ (i : Nat) (x : Lk), ls[i]? = some x → w.rangeAt b (o + i * 96) (lkc x)) := hx
  have HK : Hid (∀ x ∈ ls, x.Ok) := hk
  have HC : Hid (∀ k, ((ls.take k).flatMap lkb).length ≤ 140737488351232) := fun k => by
    show _ ≤ _
    rw [fm_len lkb 96 (fun x hx => lkb_len (hk x (List.mem_of_mem_take hx))), List.length_take]
    exact Nat.le_trans (Nat.mul_le_mul_right _ (Nat.min_le_right _ _)) hlen
  obtain ⟨n, hn⟩ : ∃ n, ls.length = n := ⟨_, rfl⟩
  have HN : Hid (ls.length = n) := hn
  rw [hn] at hc hlen ⊢
  have hn9 : n ≤ 140737488351232 := by omega
  clear hx hk hn
  go_enter Try.func43, Try.ntmps43
  go_wp2_with fail
  go_loopw [3, 7] (fun ov i wr => ∃ k : Nat, k ≤ n ∧ i = .int .i64 (k : Int) ∧ Ow w.heap.size wr ov ((ls.take k).flatMap lkb) ∧ Below w.heap.size w wr) (fun _ i _ => n - (intOf i).toNat)
  case atStart => exact ⟨0, Nat.zero_le _, rfl, Ow.nil _ _, Below.refl _ _⟩
  case round =>
    obtain ⟨k, hkn, rfl, h1, h2⟩ := hrel
    have O1 : Hid (Ow w.heap.size wr u3 ((ls.take k).flatMap lkb)) := h1
    have B1 : Hid (Below w.heap.size w wr) := h2
    clear h1 h2
    by_cases hlt : k < n
    · obtain ⟨x, hx⟩ : ∃ x, ls[k]? = some x := ⟨ls[k]'(by rw [HN.out]; exact hlt), List.getElem?_eq_getElem (by rw [HN.out]; exact hlt)⟩
      have HX : Hid x.Ok := HK.out x (List.mem_of_getElem? hx)
      have HSN : Hid ((ls.take (k + 1)).flatMap lkb = (ls.take k).flatMap lkb ++ lkb x) := fm_snoc lkb hx
      rcases HXX.out with ⟨h0, _⟩ | ⟨b, o, rfl, hlb, hm⟩
      · rw [h0] at hx; simp at hx
      · have HRX : Hid (w.rangeAt b (o + k * 96) (lkc x)) := hm k x hx
        have HLB : Hid (b < w.heap.size) := hlb
        have HCK := HC.out k
        obtain ⟨L0, hL0⟩ : ∃ L, (ls.take k).flatMap lkb = L := ⟨_, rfl⟩
        rw [hL0] at HSN O1 HCK
        have HL0 : Hid (L0.length ≤ 140737488351232) := HCK
        clear hm hlb hx hL0 HCK
        go_upto_region 5 with (fail)
        refine RU.wp_rgn' [6, 12, 18, 19] (LinksBytesf u3 b o n cap k) LinK (apΩ w.heap.size wr L0 (x.o) (x.n) (x.q) 3) (by kernel_rfl) (by kernel_rfl) (show Below wr.heap.size wr _ from (Below.refl _ _).drew) ?_ ?_
        · refine ⟨?_, ?_, ?_, ?_, ?_, ?_, ?_, ?_, ?_, ?_, ?_, ?_, ?_, ?_, ?_, ?_, ?_, ?_, ?_, ?_, trivial⟩
          · refine RU.ObT.pure rfl rfl rfl (fun a V hf hp ev he hc W => ?_)
            have q3 : ev (.tmp 3) = u3 := (he (.tmp 3)).trans (hf 3 rfl)
            simp only [List.getElem_toArray, List.getElem_cons_succ, List.getElem_cons_zero, execOp, Option.map_some, Option.map_none]; rw [q3]
            first | (go_simp; done) | (go_simp; rfl) | rfl
          · refine RU.ObT.pure rfl rfl rfl (fun a V hf hp ev he hc W => ?_)
            have q0 : ev (.tmp 0) = .slice (some ⟨b, o, none⟩) n cap := (he (.tmp 0)).trans (hf 0 rfl)
            simp only [List.getElem_toArray, List.getElem_cons_succ, List.getElem_cons_zero, execOp, Option.map_some, Option.map_none]; rw [q0]
            first | (go_simp; done) | (go_simp; rfl) | rfl
          · refine RU.ObT.pure rfl rfl rfl (fun a V hf hp ev he hc W => ?_)
            have q4 : ev (.tmp 4) = .int .i64 (k : Int) := (he (.tmp 4)).trans (hf 4 rfl)
            simp only [List.getElem_toArray, List.getElem_cons_succ, List.getElem_cons_zero, execOp, Option.map_some, Option.map_none]; rw [q4]
            first | (go_simp; done) | (go_simp; rfl) | rfl
          · refine RU.ObT.pure rfl rfl rfl (fun a V hf hp ev he hc W => ?_)
            have q11 : ev (.tmp 11) = .slice (some ⟨b, o, none⟩) n cap := (he (.tmp 11)).trans (hp 1 11 rfl)
            have q12 : ev (.tmp 12) = .int .i64 (k : Int) := (he (.tmp 12)).trans (hp 2 12 rfl)
            simp only [List.getElem_toArray, List.getElem_cons_succ, List.getElem_cons_zero, execOp, Option.map_some, Option.map_none]; rw [q11, q12]
            have hk9 : (k : Int) < (n : Int) := by omega
            first | (go_simp; done) | (go_simp; rfl) | rfl
          · refine RU.ObT.pure rfl rfl rfl (fun a V hf hp ev he hc W => ?_)
            have q13 : ev (.tmp 13) = .pointer (some ⟨b, o + k * 96, none⟩) := (he (.tmp 13)).trans (hp 3 13 rfl)
            simp only [List.getElem_toArray, List.getElem_cons_succ, List.getElem_cons_zero, execOp, Option.map_some, Option.map_none]; rw [q13]
            first | (go_simp; done) | (go_simp; rfl) | rfl
          · refine RU.ObT.pure rfl rfl rfl (fun a V hf hp ev he hc W => ?_)
            have q14 : ev (.tmp 14) = .pointer (some ⟨b, o + k * 96, none⟩) := (he (.tmp 14)).trans (hp 4 14 rfl)
            simp only [List.getElem_toArray, List.getElem_cons_succ, List.getElem_cons_zero, execOp, Option.map_some, Option.map_none]; rw [q14]
            first | (go_simp; done) | (go_simp; rfl) | rfl
          · refine RU.ObT.loud (j := 0) rfl (fun a W V hO hf hp => ?_)
            have hO9 : Below w.heap.size wr W ∧ Ow w.heap.size W (u3) (L0) := ⟨Below.mono hO B1.out.size, O1.out.below hO⟩
            have hbw : Below w.heap.size w W := B1.out.trans hO9.1
            have hsl : Sl W (.slice (some ⟨b, o + k * 96, none⟩) 32 32) x.o := sl_range HX.out.o (range_low9 (range_lk HX.out HRX.out).1 hbw HLB.out) (Nat.lt_of_lt_of_le HLB.out hbw.size)
            have q1 : a.eval (.tmp 10) = u3 := hp 0 10 rfl
            have q2 : a.eval (.tmp 15) = .slice (some ⟨b, o + k * 96, none⟩) 32 32 := hp 5 15 rfl
            obtain ⟨v', w', hr, p1, p2⟩ := run_u8 hbw.size hO9.2 hsl (by have h1 := HL0.out; have l0 := (HX.out.o).len; (try simp only [List.length_append]); omega)
            refine RU.ob_run (v := v') (w' := w') rfl (RU.wanted_none rfl) (fun ev he hc => ?_) ⟨_, rfl, hO9.1.trans p2, p1⟩
            have e1 := (he (.tmp 10)).trans q1
            have e2 := (he (.tmp 15)).trans q2
            simp only [List.getElem_toArray, List.getElem_cons_succ, List.getElem_cons_zero, execOp, resolve, invoke, builtin, Sem.run_bind, Sem.run_pure, Result.andThen_ok, List.map_toArray, List.map_cons, List.map_nil, e1, e2, hr]
          · refine RU.ObT.pure rfl rfl rfl (fun a V hf hp ev he hc W => ?_)
            have q0 : ev (.tmp 0) = .slice (some ⟨b, o, none⟩) n cap := (he (.tmp 0)).trans (hf 0 rfl)
            simp only [List.getElem_toArray, List.getElem_cons_succ, List.getElem_cons_zero, execOp, Option.map_some, Option.map_none]; rw [q0]
            first | (go_simp; done) | (go_simp; rfl) | rfl
          · refine RU.ObT.pure rfl rfl rfl (fun a V hf hp ev he hc W => ?_)
            have q4 : ev (.tmp 4) = .int .i64 (k : Int) := (he (.tmp 4)).trans (hf 4 rfl)
            simp only [List.getElem_toArray, List.getElem_cons_succ, List.getElem_cons_zero, execOp, Option.map_some, Option.map_none]; rw [q4]
            first | (go_simp; done) | (go_simp; rfl) | rfl
          · refine RU.ObT.pure rfl rfl rfl (fun a V hf hp ev he hc W => ?_)
            have q17 : ev (.tmp 17) = .slice (some ⟨b, o, none⟩) n cap := (he (.tmp 17)).trans (hp 7 17 rfl)
            have q18 : ev (.tmp 18) = .int .i64 (k : Int) := (he (.tmp 18)).trans (hp 8 18 rfl)
            simp only [List.getElem_toArray, List.getElem_cons_succ, List.getElem_cons_zero, execOp, Option.map_some, Option.map_none]; rw [q17, q18]
            have hk9 : (k : Int) < (n : Int) := by omega
            first | (go_simp; done) | (go_simp; rfl) | rfl
          · refine RU.ObT.pure rfl rfl rfl (fun a V hf hp ev he hc W => ?_)
            have q19 : ev (.tmp 19) = .pointer (some ⟨b, o + k * 96, none⟩) := (he (.tmp 19)).trans (hp 9 19 rfl)
            simp only [List.getElem_toArray, List.getElem_cons_succ, List.getElem_cons_zero, execOp, Option.map_some, Option.map_none]; rw [q19]
            first | (go_simp; done) | (go_simp; rfl) | rfl
          · refine RU.ObT.pure rfl rfl rfl (fun a V hf hp ev he hc W => ?_)
            have q20 : ev (.tmp 20) = .pointer (some ⟨b, o + k * 96 + 32, none⟩) := (he (.tmp 20)).trans (hp 10 20 rfl)
            simp only [List.getElem_toArray, List.getElem_cons_succ, List.getElem_cons_zero, execOp, Option.map_some, Option.map_none]; rw [q20]
            first | (go_simp; done) | (go_simp; rfl) | rfl
          · refine RU.ObT.loud (j := 1) rfl (fun a W V hO hf hp => ?_)
            have hO9 : Below w.heap.size wr W ∧ Ow w.heap.size W (V 0) (L0 ++ x.o) := hO
            have hbw : Below w.heap.size w W := B1.out.trans hO9.1
            have hsl : Sl W (.slice (some ⟨b, o + k * 96 + 32, none⟩) 32 32) x.n := sl_range HX.out.n (range_low9 (range_lk HX.out HRX.out).2.1 hbw HLB.out) (Nat.lt_of_lt_of_le HLB.out hbw.size)
            have q1 : a.eval (.tmp 16) = V 0 := hp 6 16 rfl
            have q2 : a.eval (.tmp 21) = .slice (some ⟨b, o + k * 96 + 32, none⟩) 32 32 := hp 11 21 rfl
            obtain ⟨v', w', hr, p1, p2⟩ := run_u8 hbw.size hO9.2 hsl (by have h1 := HL0.out; have l0 := (HX.out.o).len; have l1 := (HX.out.n).len; (try simp only [List.length_append]); omega)
            refine RU.ob_run (v := v') (w' := w') rfl (RU.wanted_none rfl) (fun ev he hc => ?_) ⟨_, rfl, hO9.1.trans p2, p1⟩
            have e1 := (he (.tmp 16)).trans q1
            have e2 := (he (.tmp 21)).trans q2
            simp only [List.getElem_toArray, List.getElem_cons_succ, List.getElem_cons_zero, execOp, resolve, invoke, builtin, Sem.run_bind, Sem.run_pure, Result.andThen_ok, List.map_toArray, List.map_cons, List.map_nil, e1, e2, hr]
          · refine RU.ObT.pure rfl rfl rfl (fun a V hf hp ev he hc W => ?_)
            have q0 : ev (.tmp 0) = .slice (some ⟨b, o, none⟩) n cap := (he (.tmp 0)).trans (hf 0 rfl)
            simp only [List.getElem_toArray, List.getElem_cons_succ, List.getElem_cons_zero, execOp, Option.map_some, Option.map_none]; rw [q0]
            first | (go_simp; done) | (go_simp; rfl) | rfl
          · refine RU.ObT.pure rfl rfl rfl (fun a V hf hp ev he hc W => ?_)
            have q4 : ev (.tmp 4) = .int .i64 (k : Int) := (he (.tmp 4)).trans (hf 4 rfl)
            simp only [List.getElem_toArray, List.getElem_cons_succ, List.getElem_cons_zero, execOp, Option.map_some, Option.map_none]; rw [q4]
            first | (go_simp; done) | (go_simp; rfl) | rfl
          · refine RU.ObT.pure rfl rfl rfl (fun a V hf hp ev he hc W => ?_)
            have q23 : ev (.tmp 23) = .slice (some ⟨b, o, none⟩) n cap := (he (.tmp 23)).trans (hp 13 23 rfl)
            have q24 : ev (.tmp 24) = .int .i64 (k : Int) := (he (.tmp 24)).trans (hp 14 24 rfl)
            simp only [List.getElem_toArray, List.getElem_cons_succ, List.getElem_cons_zero, execOp, Option.map_some, Option.map_none]; rw [q23, q24]
            have hk9 : (k : Int) < (n : Int) := by omega
            first | (go_simp; done) | (go_simp; rfl) | rfl
          · refine RU.ObT.pure rfl rfl rfl (fun a V hf hp ev he hc W => ?_)
            have q25 : ev (.tmp 25) = .pointer (some ⟨b, o + k * 96, none⟩) := (he (.tmp 25)).trans (hp 15 25 rfl)
            simp only [List.getElem_toArray, List.getElem_cons_succ, List.getElem_cons_zero, execOp, Option.map_some, Option.map_none]; rw [q25]
            first | (go_simp; done) | (go_simp; rfl) | rfl
          · refine RU.ObT.pure rfl rfl rfl (fun a V hf hp ev he hc W => ?_)
            have q26 : ev (.tmp 26) = .pointer (some ⟨b, o + k * 96 + 64, none⟩) := (he (.tmp 26)).trans (hp 16 26 rfl)
            simp only [List.getElem_toArray, List.getElem_cons_succ, List.getElem_cons_zero, execOp, Option.map_some, Option.map_none]; rw [q26]
            first | (go_simp; done) | (go_simp; rfl) | rfl
          · refine RU.ObT.loud (j := 2) rfl (fun a W V hO hf hp => ?_)
            have hO9 : Below w.heap.size wr W ∧ Ow w.heap.size W (V 1) (L0 ++ x.o ++ x.n) := hO
            have hbw : Below w.heap.size w W := B1.out.trans hO9.1
            have hsl : Sl W (.slice (some ⟨b, o + k * 96 + 64, none⟩) 32 32) x.q := sl_range HX.out.q (range_low9 (range_lk HX.out HRX.out).2.2 hbw HLB.out) (Nat.lt_of_lt_of_le HLB.out hbw.size)
            have q1 : a.eval (.tmp 22) = V 1 := hp 12 22 rfl
            have q2 : a.eval (.tmp 27) = .slice (some ⟨b, o + k * 96 + 64, none⟩) 32 32 := hp 17 27 rfl
            obtain ⟨v', w', hr, p1, p2⟩ := run_u8 hbw.size hO9.2 hsl (by have h1 := HL0.out; have l0 := (HX.out.o).len; have l1 := (HX.out.n).len; have l2 := (HX.out.q).len; (try simp only [List.length_append]); omega)
            refine RU.ob_run (v := v') (w' := w') rfl (RU.wanted_none rfl) (fun ev he hc => ?_) ⟨_, rfl, hO9.1.trans p2, by show Ow _ _ _ (if 3 = 2 then _ else _); rw [if_neg (by decide)]; exact p1⟩
            have e1 := (he (.tmp 22)).trans q1
            have e2 := (he (.tmp 27)).trans q2
            simp only [List.getElem_toArray, List.getElem_cons_succ, List.getElem_cons_zero, execOp, resolve, invoke, builtin, Sem.run_bind, Sem.run_pure, Result.andThen_ok, List.map_toArray, List.map_cons, List.map_nil, e1, e2, hr]
          · refine RU.ObT.loud (j := 3) rfl (fun a W V hO hf hp => ?_)
            have q1 : a.eval (.tmp 28) = V 2 := hp 18 28 rfl
            refine RU.ob_val (v := V 2) rfl (RU.wanted_none rfl) (fun ev he hc => ?_) ⟨_, rfl, (show Below _ _ _ ∧ Ow _ _ _ _ by have h9 : Below _ _ _ ∧ Ow _ _ _ (if 3 = 2 then _ else _) := hO; rw [if_neg (by decide)] at h9; exact h9)⟩
            have e1 := (he (.tmp 28)).trans q1
            simp only [List.getElem_toArray, List.getElem_cons_succ, List.getElem_cons_zero, execOp]
            rw [e1]
            first | rfl | go_simp
        intro W1 VW1 hOW1
        have PW1 : Hid (Below w.heap.size wr W1 ∧ Ow w.heap.size W1 (VW1 3) (L0 ++ x.o ++ x.n ++ x.q)) := hOW1
        clear hOW1
        simp only [RU.lay, RU.val, show RU.at' [6, 12, 18, 19] 0 = none from rfl, show RU.at' [6, 12, 18, 19] 1 = none from rfl, show RU.at' [6, 12, 18, 19] 2 = none from rfl, show RU.at' [6, 12, 18, 19] 3 = none from rfl, show RU.at' [6, 12, 18, 19] 4 = none from rfl, show RU.at' [6, 12, 18, 19] 5 = none from rfl, show RU.at' [6, 12, 18, 19] 6 = some 0 from rfl, show RU.at' [6, 12, 18, 19] 7 = none from rfl, show RU.at' [6, 12, 18, 19] 8 = none from rfl, show RU.at' [6, 12, 18, 19] 9 = none from rfl, show RU.at' [6, 12, 18, 19] 10 = none from rfl, show RU.at' [6, 12, 18, 19] 11 = none from rfl, show RU.at' [6, 12, 18, 19] 12 = some 1 from rfl, show RU.at' [6, 12, 18, 19] 13 = none from rfl, show RU.at' [6, 12, 18, 19] 14 = none from rfl, show RU.at' [6, 12, 18, 19] 15 = none from rfl, show RU.at' [6, 12, 18, 19] 16 = none from rfl, show RU.at' [6, 12, 18, 19] 17 = none from rfl, show RU.at' [6, 12, 18, 19] 18 = some 2 from rfl, show RU.at' [6, 12, 18, 19] 19 = some 3 from rfl, LinksBytesf, Act.put]
        simp only [List.setIfInBounds_toArray, List.set_cons_succ, List.set_cons_zero]
        obtain ⟨v9, hv9⟩ : ∃ q, VW1 3 = q := ⟨_, rfl⟩
        rw [hv9] at PW1 ⊢
        clear hv9
        have O2 : Hid (Ow w.heap.size W1 v9 ((ls.take (k + 1)).flatMap lkb)) := by rw [HSN.out]; have e : L0 ++ lkb x = L0 ++ x.o ++ x.n ++ x.q := (by simp [lkb]); rw [e]; exact PW1.out.2
        have B2 : Hid (Below w.heap.size w W1) := B1.out.trans PW1.out.1
        go_wp2_with fail
        exact ⟨⟨k + 1, hlt, by go_num, O2.out, B2.out⟩, by simp [intOf]; omega⟩
    · obtain rfl : k = n := by omega
      have HT : Hid (ls.take k = ls) := by show _ = _; rw [← HN.out, List.take_length]
      have O9 : Hid (Ow w.heap.size wr u3 (ls.flatMap lkb)) := by have := O1.out; rw [HT.out] at this; exact this
      go_wp2_with fail
      go_ret
      exact ⟨_, rfl, O9.out, B1.out⟩
end Go.Proofs.Ytfnmdeekenjlgaa
