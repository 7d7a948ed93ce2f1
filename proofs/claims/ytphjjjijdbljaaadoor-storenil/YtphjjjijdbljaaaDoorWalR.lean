/- load. -/
import Derived.Test.YtphjjjijdbljaaaDoorWalQ
import Derived.Great.BuildSlice
namespace Go.Proofs.YtphjjjijdbljaaaDoor
open Go Go.RowKit
set_option linter.unusedSimpArgs false
set_option linter.unusedVariables false
set_option maxRecDepth 100000

/-- A log that holds nothing. -/
def l0 (g : Nat) : Lo := { g := g, t := 0, f0 := z64, f1 := z64, rs := [], en := 0, lo := false }
theorem build_log (w : World) (g : Nat) : (Instr.build 70 #[(0, .pointer (some ⟨g, 0, none⟩))]).run Tryd.prog w = .ok (.agg (lc (l0 g) (.slice none 0 0)).toArray) w := by
  refine run_build w _ _ _ ?_
  kernel_rfl
theorem size_log : (Tryd.prog.info? 70).map (·.size) = some 133 := by kernel_rfl
theorem und_log : ∃ d, Tryd.prog.underlying 70 = some d := ⟨_, Tryd.underlying70⟩
theorem lc_one (l : Lo) (rv : Value) (h : rv.oneCell' = true) : ∀ u ∈ lc l rv, u.oneCell' = true := by
  intro u hu
  unfold lc at hu
  simp only [List.mem_cons, List.mem_append, List.mem_nil_iff, or_false] at hu
  rcases hu with rfl | rfl | hu | hu | rfl | rfl | rfl
  · rfl
  · rfl
  · exact bv_one _ u hu
  · exact bv_one _ u hu
  · exact h
  · rfl
  · rfl
theorem lc_one' (l : Lo) (rv : Value) (h : rv.oneCell' = true) : (lc l rv).toArray.all (·.oneCell') = true := by
  rw [List.all_toArray, List.all_eq_true]; exact lc_one l rv h
theorem size_l0 (g : Nat) : (Tryd.prog.info? 70).map (·.size) = some (lc (l0 g) (.slice none 0 0)).toArray.size := by
  rw [List.size_toArray, lc_length (l := l0 g) z64_length z64_length]; exact size_log
theorem LB.setAll {w : World} {lg : Nat} {l l' : Lo} {rv rv' : Value} (h : LB w lg l rv) (h0 : l.f0.length = 64) (h1 : l.f1.length = 64) (h2 : l'.f0.length = 64) (h3 : l'.f1.length = 64) : LB (w.setCells lg 0 (lc l' rv')) lg l' rv' := by
  refine Sh.heap_setCells h 0 (lc l' rv') (by rw [List.size_toArray, lc_length h0 h1, lc_length h2 h3]; omega) (fun i => ?_)
  rw [List.getElem?_toArray, List.getElem?_toArray]
  by_cases hi : i < 133
  · rw [if_pos ⟨Nat.zero_le _, by rw [lc_length h2 h3]; omega⟩]; rfl
  · rw [if_neg (by rw [lc_length h2 h3]; omega), List.getElem?_eq_none (by rw [lc_length h2 h3]; omega), List.getElem?_eq_none (by rw [lc_length h0 h1]; omega)]
theorem WX.empty {S F H : Nat → Prop} {W : World} {g : Nat} {s : Dk} {lg : Nat} {l : Lo} {rv : Value} {us : List Value} (h : WX S F H W g s lg l rv us) :
    WX S F H (W.setCells lg 0 (lc (l0 g) (.slice none 0 0))) g s lg (l0 g) (.slice none 0 0) [] ∧ Chg S W (W.setCells lg 0 (lc (l0 g) (.slice none 0 0))) := by
  refine ⟨?_, (Chg.refl _ _).setCells (h.sh lg h.lw.hg)⟩
  have hs := size_setCells lg (lc (l0 g) (.slice none 0 0)) 0 W
  have kk : ∀ b, b ≠ lg → (W.setCells lg 0 (lc (l0 g) (.slice none 0 0))).heap[b]? = W.heap[b]? := fun b hb => heap_past lg b hb _ _ _
  have hS : ∀ b, ¬ S b → b ≠ lg := fun b hn e => hn (e ▸ h.sh lg h.lw.hg)
  exact ⟨h.pd.keep (by omega) (fun b hb => kk b (fun e => h.ap lg h.lw.hg (e ▸ hb))), ⟨h.lw.lb.setAll h.lw.f0 h.lw.f1 z64_length z64_length, z64_length, z64_length, OL.nil _ _, h.lw.hg, fun b e => by simp [Value.ownBlock] at e, fun i u hu => by simp at hu, fun b hb => by rw [hs]; exact h.lw.hlt b hb⟩, rfl, h.ap, h.sf, h.sh, h.bt, h.tb.keep (kk _ (hS _ h.at'.1)) (kk _ (hS _ h.at'.2)), h.at', fun b x => by rw [hs]; exact h.sl b x⟩
theorem emp_of {S F H : Nat → Prop} {W W1 : World} {g : Nat} {s : Dk} {lg : Nat} {l : Lo} {rv : Value} {us : List Value} (h : WX S F H W g s lg l rv us) (hw : W1 = W.setCells lg 0 (lc (l0 g) (.slice none 0 0)).toArray.toList) : WX S F H W1 g s lg (l0 g) (.slice none 0 0) [] ∧ Chg S W W1 := by
  rw [List.toList_toArray] at hw
  rw [hw]; exact h.empty
/-- The log behind k halves, where none holds a frame. -/
def lk (g : Nat) (s : Dk) : Nat → Lo
  | 0 => l0 g
  | k + 1 => setF (lk g s k) k (rdV s (hfF s.n k : Int))
theorem lk_succ (g : Nat) (s : Dk) (k : Nat) : lk g s (k + 1) = setF (lk g s k) k (rdV s (hfF s.n k : Int)) := rfl
def mΩ (S F H : Nat → Prop) (w3 : World) (g : Nat) (s : Dk) (lg : Nat) (l : Lo) (rv : Value) (us : List Value) (k : Nat) (x : List Int) : Nat → (Nat → Value) → World → Prop
  | 0, _, W => WX S F H W g s lg l rv us ∧ Chg S w3 W
  | _, _, W => WX S F H W g s lg (setF l k x) rv us ∧ Chg S w3 W
def mf (lg g A k : Nat) (x : List Int) : Nat → Value
  | 1 => .int .i64 (k : Int)
  | 5 => .pointer (some ⟨g, 0, none⟩)
  | 6 => .int .i64 (A : Int)
  | 7 => .agg (bv x).toArray
  | 9 => .pointer (some ⟨lg, 2, none⟩)
  | 10 => .pointer (some ⟨lg, 2 + k * 64, none⟩)
  | 11 => undef
  | _ => .pointer (some ⟨lg, 0, none⟩)
set_option maxHeartbeats 2000000 in
theorem load_blank {S : Nat → Prop} {w : World} {g : Nat} {s : Dk} {lg : Nat} {l : Lo} (h : WL S w g s lg l) (hq : ∀ i, i < 2 → tk s (hfF s.n i) (hfT s.n i) = none) :
    Calls Tryd.prog 28 #[.pointer (some ⟨lg, 0, none⟩)] w fun e w' => e = .returned (.tuple #[]) ∧ AftL S w w' g s lg { l0 g with f0 := rdV s (hfF s.n 0 : Int), f1 := rdV s (hfF s.n 1 : Int) } := by
  obtain ⟨F, H, rv, us, hx⟩ := h
  have HX : Hid (WX S F H w g s lg l rv us) := hx
  have HQ : Hid (∀ i, i < 2 → tk s (hfF s.n i) (hfT s.n i) = none) := hq
  obtain ⟨c0, -⟩ := hx.lw.lb.cells hx.lw.f0 hx.lw.f1
  rw [hx.dk] at c0
  have HTH : Hid (w.there lg 0 (lc (l0 g) (.slice none 0 0)).toArray.size) := there_of_row' hx.lw.lb 0 _ (by rw [List.size_toArray, List.size_toArray, lc_length hx.lw.f0 hx.lw.f1, lc_length z64_length z64_length]; omega)
  have HBT : Hid (Tryd.prog.built 70 [(0, .pointer (some ⟨g, 0, none⟩))] = some (lc (l0 g) (.slice none 0 0)).toArray) := by show _ = _; kernel_rfl
  have hn2 := hx.pd.n2
  clear hx hq
  go_enter Tryd.func28, Tryd.ntmps28
  go_wp2_with (first
    | (refine wpList_buildTo rfl 70 _ rfl (some 15) rfl (lc (l0 g) (.slice none 0 0)).toArray (by simp only [List.map_toArray, List.map_cons, List.map_nil]; exact HBT.out) ?_)
    | (refine Sh.wpList_store_midL rfl 70 _ _ rfl lg 0 (lc (l0 g) (.slice none 0 0)).toArray rfl rfl HTH.out (size_l0 g) (lc_one' _ _ rfl) ?_; intro w1 hw1; have X1 : Hid (WX S F H w1 g s lg (l0 g) (.slice none 0 0) [] ∧ Chg S w w1) := emp_of HX.out hw1; clear hw1))
  have D1 : Hid (Chg S w w1) := X1.out.2
  go_loopw [17] (fun i wr => ∃ k : Nat, k ≤ 2 ∧ i = .int .i64 (k : Int) ∧ AftL S w wr g s lg (lk g s k)) (fun i _ => 2 - (intOf i).toNat)
  case atStart => exact ⟨0, by omega, rfl, ⟨S, ⟨F, H, _, _, X1.out.1⟩, D1.out, fun b hb => .inl hb⟩⟩
  case round =>
    obtain ⟨k, hk, rfl, S1, ⟨F1, H1, rv1, us1, hx1⟩, hc1, hd1⟩ := hrel
    have X2 : Hid (WX S1 F1 H1 wr g s lg (lk g s k) rv1 us1) := hx1
    have C2 : Hid (Chg S w wr) := hc1
    have D2 : Hid (∀ b, S1 b → S b ∨ w.heap.size ≤ b) := hd1
    clear hx1 hc1 hd1 X1 D1 c0
    by_cases hlt : k < 2
    · have hk2 : (k : Int) < 2 := by omega
      obtain ⟨c0, -⟩ := X2.out.lw.lb.cells X2.out.lw.f0 X2.out.lw.f1
      rw [X2.out.dk] at c0
      go_wp2_with fail
      refine (half_any X2.out.pd c0 (by omega) k (by omega)).mono ?_
      rintro e w3 ⟨rfl, rfl⟩
      have HQK : Hid (tk s (hfF s.n k) (hfT s.n k) = none) := HQ.out k hlt
      obtain ⟨A, hA⟩ : ∃ A, hfF s.n k = A := ⟨_, rfl⟩
      obtain ⟨T, hT⟩ : ∃ T, hfT s.n k = T := ⟨_, rfl⟩
      have hAT : A ≤ 65536 ∧ T ≤ 65536 := by
        rw [← hA, ← hT]; unfold hfF hfT
        have : k % 2 = 0 ∨ k % 2 = 1 := by omega
        rcases this with h | h <;> rw [h] <;> omega
      have HLK : Hid (lk g s (k + 1) = setF (lk g s k) k (rdV s (A : Int))) := by rw [← hA]; exact lk_succ g s k
      obtain ⟨x, hx⟩ : ∃ x, x = rdV s (A : Int) := ⟨_, rfl⟩
      have HXX : Hid (x = rdV s (A : Int)) := hx
      have HXL : Hid (x.length = 64) := by rw [hx]; exact (X2.out.by' _).2
      rw [hA, hT] at HQK
      rw [hA, hT]
      clear hx hA hT c0
      obtain ⟨L, hL⟩ : ∃ L, lk g s k = L := ⟨_, rfl⟩
      rw [hL] at X2 HLK
      rw [← HXX.out] at HLK
      clear hL
      have Q3 : Hid (mΩ S1 F1 H1 w3 g s lg L rv1 us1 k x 0 (fun _ => undef) { w3 with drawn := w3.drawn + 1 }) := ⟨X2.out.below (Below.refl _ _).drew, chg_of_below (Below.refl _ _).drew⟩
      go_wp2_with fail
      refine RU.wp_rgn' [11] (mf lg g A k x) hK0 (mΩ S1 F1 H1 w3 g s lg L rv1 us1 k x) (by kernel_rfl) (by kernel_rfl) Q3.out ?_ ?_
      · refine ⟨?_, ?_, ?_, ?_, ?_, ?_, ?_, ?_, ?_, ?_, ?_, ?_, trivial⟩
        · refine RU.ObT.pure rfl rfl rfl (fun a V hf hp ev he hc W => ?_)
          have q0 : ev (.tmp 0) = .pointer (some ⟨lg, 0, none⟩) := (he (.tmp 0)).trans (hf 0 rfl)
          simp only [List.getElem_toArray, List.getElem_cons_succ, List.getElem_cons_zero, execOp, Option.map_some, Option.map_none]; rw [q0]
          first | (go_simp; done) | (go_simp; rfl)
        · refine RU.ObT.pure rfl rfl rfl (fun a V hf hp ev he hc W => ?_)
          have q2 : ev (.tmp 2) = .int .i64 (k : Int) := (he (.tmp 2)).trans (hf 2 rfl)
          simp only [List.getElem_toArray, List.getElem_cons_succ, List.getElem_cons_zero, execOp, Option.map_some, Option.map_none]; rw [q2]
          first | (go_simp; done) | (go_simp; rfl)
        · refine RU.ObT.pure rfl rfl rfl (fun a V hf hp ev he hc W => ?_)
          have q0 : ev (.tmp 0) = .pointer (some ⟨lg, 0, none⟩) := (he (.tmp 0)).trans (hf 0 rfl)
          simp only [List.getElem_toArray, List.getElem_cons_succ, List.getElem_cons_zero, execOp, Option.map_some, Option.map_none]; rw [q0]
          first | (go_simp; done) | (go_simp; rfl)
        · refine RU.ObT.pure rfl rfl rfl (fun a V hf hp ev he hc W => ?_)
          have q29 : ev (.tmp 29) = .pointer (some ⟨lg, 0, none⟩) := (he (.tmp 29)).trans (hp 2 29 rfl)
          simp only [List.getElem_toArray, List.getElem_cons_succ, List.getElem_cons_zero, execOp, Option.map_some, Option.map_none]; rw [q29]
          first | (go_simp; done) | (go_simp; rfl)
        · refine RU.ObT.pure rfl rfl rfl (fun a V hf hp ev he hc W => ?_)
          have q30 : ev (.tmp 30) = .pointer (some ⟨lg, 0, none⟩) := (he (.tmp 30)).trans (hp 3 30 rfl)
          simp only [List.getElem_toArray, List.getElem_cons_succ, List.getElem_cons_zero, execOp, Option.map_some, Option.map_none]; rw [q30]
          first | (go_simp; done) | (go_simp; rfl)
        · refine RU.ObT.silent rfl (fun a W k0 V hO hf hp hk => ?_)
          obtain rfl : k0 = 0 := Nat.le_zero.1 hk
          refine RU.ob_val rfl (RU.wanted_none rfl) (fun ev he hc => ?_) ⟨rfl, hO⟩
          have q31 : ev (.tmp 31) = .pointer (some ⟨lg, 0, none⟩) := (he (.tmp 31)).trans (hp 4 31 rfl)
          have hcell := (hO.1.lw.lb.cells hO.1.lw.f0 hO.1.lw.f1).1
          rw [hO.1.dk] at hcell
          simp only [List.getElem_toArray, List.getElem_cons_succ, List.getElem_cons_zero, execOp]; rw [q31]
          first | (go_simp; done) | (go_simp; rfl)
        · refine RU.ObT.pure rfl rfl rfl (fun a V hf hp ev he hc W => ?_)
          have q3 : ev (.tmp 3) = .int .i64 (A : Int) := (he (.tmp 3)).trans (hf 3 rfl)
          simp only [List.getElem_toArray, List.getElem_cons_succ, List.getElem_cons_zero, execOp, Option.map_some, Option.map_none]; rw [q3]
          first | (go_simp; done) | (go_simp; rfl)
        · refine RU.ObT.silent rfl (fun a W k0 V hO hf hp hk => ?_)
          obtain rfl : k0 = 0 := Nat.le_zero.1 hk
          have e1 : a.eval (.tmp 32) = .pointer (some ⟨g, 0, none⟩) := hp 5 32 rfl
          have e2 : a.eval (.tmp 33) = .int .i64 (A : Int) := hp 6 33 rfl
          refine RU.ob_call (g := 40) (args := #[.pointer (some ⟨g, 0, none⟩), .int .i64 (A : Int)]) rfl (RU.wanted_none rfl) (fun ev he hc => ?_) ((wread_any hO.1.pd (A : Int)).mono ?_)
          · have h1 := (he (.tmp 32)).trans e1
            have h2 := (he (.tmp 33)).trans e2
            have hfn := he (.func 40)
            simp only [List.getElem_toArray, List.getElem_cons_succ, List.getElem_cons_zero, execOp]
            simp only [resolve, invoke, Sem.run_bind, Sem.run_pure, Result.andThen_ok, List.map_toArray, List.map_cons, List.map_nil, h1, h2, hfn, Act.eval]
            rfl
          · rintro e' W2 ⟨rfl, hb2⟩
            exact ⟨_, rfl, by rw [← HXX.out]; rfl, hO.1.below hb2, hO.2.trans (chg_of_below hb2)⟩
        · refine RU.ObT.pure rfl rfl rfl (fun a V hf hp ev he hc W => ?_)
          have q27 : ev (.tmp 27) = .pointer (some ⟨lg, 0, none⟩) := (he (.tmp 27)).trans (hp 0 27 rfl)
          simp only [List.getElem_toArray, List.getElem_cons_succ, List.getElem_cons_zero, execOp, Option.map_some, Option.map_none]; rw [q27]
          first | (go_simp; done) | (go_simp; rfl)
        · refine RU.ObT.pure rfl rfl rfl (fun a V hf hp ev he hc W => ?_)
          have q35 : ev (.tmp 35) = .pointer (some ⟨lg, 0, none⟩) := (he (.tmp 35)).trans (hp 8 35 rfl)
          simp only [List.getElem_toArray, List.getElem_cons_succ, List.getElem_cons_zero, execOp, Option.map_some, Option.map_none]; rw [q35]
          first | (go_simp; done) | (go_simp; rfl)
        · refine RU.ObT.pure rfl rfl rfl (fun a V hf hp ev he hc W => ?_)
          have q36 : ev (.tmp 36) = .pointer (some ⟨lg, 2, none⟩) := (he (.tmp 36)).trans (hp 9 36 rfl)
          have q28 : ev (.tmp 28) = .int .i64 (k : Int) := (he (.tmp 28)).trans (hp 1 28 rfl)
          simp only [List.getElem_toArray, List.getElem_cons_succ, List.getElem_cons_zero, execOp, Option.map_some, Option.map_none]; rw [q36, q28]
          first | (go_simp; done) | (go_simp; rfl)
        · refine RU.ObT.loud (j := 0) rfl (fun a W V hO hf hp => ?_)
          have q68 : a.eval (.tmp 37) = .pointer (some ⟨lg, 2 + k * 64, none⟩) := hp 10 37 rfl
          have q65 : a.eval (.tmp 34) = .agg (bv x).toArray := hp 7 34 rfl
          have hse := hO.1.setF k hlt HXL.out
          refine RU.ob_op rfl (RU.wanted_none rfl) (wp_store_mid 67 (.tmp 37) (.tmp 34) rfl lg (2 + k * 64) (bv x).toArray q68 q65 (there_sec HXL.out (there_of_row' hO.1.lw.lb (2 + k * 64) 64 (by rw [List.size_toArray, lc_length hO.1.lw.f0 hO.1.lw.f1]; omega))) (sct_size HXL.out) (bv_one' _) ⟨_, rfl, hse.1, hO.2.trans hse.2⟩)
      · intro w6 V6 hO6
        have X6 : Hid (WX S1 F1 H1 w6 g s lg (setF L k x) rv1 us1) := hO6.1
        have C6 : Hid (Chg S1 w3 w6) := hO6.2
        simp only [RU.lay, RU.val, RU.at', mf, Act.put]
        simp only [List.setIfInBounds_toArray, List.set_cons_succ, List.set_cons_zero]
        clear hO6 Q3
        obtain ⟨c0, -⟩ := X6.out.lw.lb.cells X6.out.lw.f0 X6.out.lw.f1
        rw [X6.out.dk] at c0
        go_wp2_with (first
          | (go_at_call 41; refine (takeFrame_any X6.out.pd X6.out.by' X6.out.tb A T (by omega) (by omega)).mono ?_; rintro e w7 ⟨v7, rfl, h7, h8⟩; rw [HQK.out] at h7 ⊢; have h7' : v7 = .slice none 0 0 := h7; subst h7'; simp only [Option.isSome_none]; have B7 : Hid (Below w6.heap.size w6 w7) := h8; clear h7 h8)
          | (go_at_call 42; refine (split_no w7).mono ?_; rintro e w8 ⟨rfl, rfl⟩))
        go_roundw
        case rel => exact ⟨k + 1, by omega, by go_num, AftL.trans C2.out D2.out ⟨S1, ⟨F1, H1, rv1, us1, by rw [HLK.out]; exact X6.out.below B7.out⟩, C6.out.trans (chg_of_below B7.out), fun b hb => .inl hb⟩⟩
        case measure => simp [intOf]; omega
    · obtain rfl : k = 2 := by omega
      go_wp2_with fail
      refine (follow_zero ⟨F1, H1, rv1, us1, X2.out⟩ rfl).mono ?_
      rintro e w2 ⟨rfl, rfl⟩
      go_wp2_with fail
      go_end0
      exact ⟨rfl, S1, ⟨F1, H1, rv1, us1, X2.out⟩, C2.out, D2.out⟩
end Go.Proofs.YtphjjjijdbljaaaDoor
