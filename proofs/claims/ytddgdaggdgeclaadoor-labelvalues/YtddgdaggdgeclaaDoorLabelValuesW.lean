/- The walk of LabelValues. -/
import Derived.Test.YtddgdaggdgeclaaDoorLabC
import Derived.Test.YtddgdaggdgeclaaDoorRgnU
namespace Go.Proofs.YtddgdaggdgeclaaDoor
open Go Go.RowKit
set_option linter.unusedSimpArgs false
set_option linter.unusedVariables false
set_option maxRecDepth 100000

def gΩ (w0 : World) : Nat → (Nat → Value) → World → Prop := fun _ _ W => Below w0.heap.size w0 W
theorem ld {P : Program} {ops : Array Oper} {rest : List Oper} {op : Oper} {a : Act} {w : World} {Q : Exit → Act → World → Prop} (ty : TypeId) (x : Operand) (ho : op.op = .load ty x) (hw : Region.wanted op (yielded ops a.tmps) = true)
    (b o : Nat) (hx : a.eval x = .pointer (some ⟨b, o, none⟩)) (cs : List Value) (d : TypeDesc) (hc : w.rangeAt b o cs)
    (hu : P.underlying ty = some d) (hd : d.isRow = true) (hi : (P.info? ty).map (·.size) = some cs.length)
    (h : wpList P ops Q rest (a.put op.dst (.agg cs.toArray)) w) : wpList P ops Q (op :: rest) a w := load_g hw ty x ho b o hx cs d hc hu hd hi h
theorem wp_build1 {P : Program} {ops : Array Oper} {rest : List Oper} {o : Oper} {a : Act} {w : World} {Q : Exit → Act → World → Prop} (t : TypeId) (x0 : Operand) (ho : o.op = .build t #[(0, x0)]) (hgd : o.guard = none) (v0 : Value) (h0 : a.eval x0 = v0) (cells : Array Value)
    (hr : (Instr.build t #[(0, v0)]).run P w = .ok (.agg cells) w) (h : wpList P ops Q rest (a.put o.dst (.agg cells)) w) : wpList P ops Q (o :: rest) a w := by
  refine wpList_plain hgd fun K hK => ?_
  unfold Oper.wp execOp
  simp only [ho, Sem.run_bind, List.map_toArray, List.map_cons, List.map_nil, h0, hr, Result.andThen_ok, Sem.run_pure]
  exact hK _ _ h
theorem lit_owny (w : World) : YO w.heap.size (w.alloc (.cells #[] 24)) (.slice (some ⟨w.heap.size, 0, none⟩) 0 0) [] := by
  have hh : (w.alloc (.cells #[] 24)).heap[w.heap.size]? = some (.cells #[] 24 (0, 0)) := by show (w.heap.push _)[w.heap.size]? = _; simp
  exact ⟨⟨rfl, .inr ⟨w.heap.size, 0, _, rfl, Nat.le_refl _, hh, Nat.le_refl _, by unfold maxLen; omega, rfl, rfl⟩⟩, (fun x hx => by cases hx), by simp⟩
def SA : ByteArray := ⟨#[97]⟩
def SB : ByteArray := ⟨#[65]⟩
theorem sa_ok : inOk SA 1 = true := by
  unfold inOk
  rw [show acct SA = true from aw_acct]; rfl
theorem sb_no : inOk SB 1 = false := by
  unfold inOk
  have : acct SB = false := decide_eq_false (fun h => by have := h.2.2 0 (by decide); revert this; decide)
  rw [this]; rfl
def s77 : List Int := 77 :: List.replicate 31 0
theorem s77_l32 : L32 s77 := ⟨by simp [s77], fun z hz => by
  simp only [s77, List.mem_cons, List.mem_replicate] at hz
  omega⟩
theorem build_77 (w : World) : (Instr.build 24 #[(0, .int .u8 77)]).run Tryd.prog w = .ok (.agg (bv s77).toArray) w := by kernel_rfl
theorem YO.sl {B : Nat} {w : World} {v : Value} {l : List (List Int)} (h : YO B w v l) (hne : l ≠ []) : ∃ g cap, v = .slice (some ⟨g, 0, none⟩) l.length cap ∧ l.length ≤ cap ∧ g < w.heap.size ∧ ∀ (i : Nat) (x : List Int), l[i]? = some x → w.rangeAt g (0 + i * 32) (bv x) := by
  obtain ⟨ad, cap, rfl, hc, hx⟩ := h.ys
  have h1 := h.1
  obtain ⟨-, ⟨e, h0⟩ | ⟨g, cap', cur, e, -, hg, -⟩⟩ := h1
  · exact absurd (List.length_eq_zero_iff.1 h0) hne
  · rcases hx with ⟨h0, _⟩ | ⟨b, o, rfl, hlt, hm⟩
    · exact absurd h0 hne
    · cases e
      exact ⟨_, cap, rfl, hc, hlt, hm⟩
set_option maxHeartbeats 2000000 in
theorem awake_any (w : World) : Calls Tryd.prog 4 #[] w fun e w' => e = .returned (.bool true) ∧ Below w.heap.size w w' := by
  have HE1 : Hid (inE SA 1 = 0) := (in_yes sa_ok true).1
  have HB1 : Hid ((inB SA 1 true).length = 35) := inB_len sa_ok true
  have HE2 : Hid (inE SB 1 = 1) := (in_no sb_no true).1
  have h97 : (⟨#[97]⟩ : ByteArray) = SA := rfl
  have h65 : (⟨#[65]⟩ : ByteArray) = SB := rfl
  have HSA : Hid (SA.size ≤ 140737488355328) := by show SA.size ≤ _; decide
  have HSB : Hid (SB.size ≤ 140737488355328) := by show SB.size ≤ _; decide
  go_enter Tryd.func4, Tryd.ntmps4
  go_wp2_with fail
  refine (input_any SA 1 true w HSA.out (by omega)).mono ?_
  rintro e w1 ⟨v1, rfl, h1, h2⟩
  rw [HE1.out]
  obtain ⟨a1, c1, e1, -, -⟩ := id h1
  rw [HB1.out] at e1
  subst e1
  have B1 : Hid (Below w.heap.size w w1) := h2
  clear h1 h2
  go_wp2_with fail
  refine (input_any SB 1 true w1 HSB.out (by omega)).mono ?_
  rintro e w2 ⟨v2, rfl, h1, h2⟩
  rw [HE2.out]
  have B2 : Hid (Below w.heap.size w w2) := B1.out.trans (h2.mono B1.out.size)
  clear h1 h2
  go_wp2_with fail
  go_ret
  exact ⟨rfl, B2.out⟩
def lv9f (g3 b o n m cp3 cap k : Nat) (x : List Int) : Nat → Value
  | 0 => .slice (some ⟨g3, 0, none⟩) m cp3
  | 1 => .int .i64 (k : Int)
  | 2 => .pointer (some ⟨g3, k * 32, none⟩)
  | 3 => .agg (bv x).toArray
  | 4 => .slice (some ⟨b, o, none⟩) n cap
  | 5 => .int .i64 (k : Int)
  | 6 => .pointer (some ⟨b, o + k * 32, none⟩)
  | 7 => .agg (bv x).toArray
  | 8 => .bool false
  | _ => undef
set_option maxHeartbeats 16000000 in
theorem values_any (ds : List (List Int)) (hk : ∀ x ∈ ds, L32 x) (hlen : ds.length ≤ 4399000000000) (v : Value) (w : World) (hv : YS w v ds) (hT : Tb w) :
    Calls Tryd.prog 3 #[v] w fun e w' => e = .returned (.bool true) ∧ Below w.heap.size w w' := by
  have hz := zero_32
  rw [show List.replicate 32 (0 : Int) = z32 from rfl] at hz
  obtain ⟨Z, hZ⟩ : ∃ Z, (bv z32).toArray = Z := ⟨_, rfl⟩
  have HZS : Hid (Z.size = 32) := by show Z.size = 32; rw [← hZ]; simp [bv, z32]
  rw [hZ] at hz
  obtain ⟨S7, hS7⟩ : ∃ S, s77 = S := ⟨_, rfl⟩
  have HS7 : Hid (L32 S7) := by rw [← hS7]; exact s77_l32
  have HS70 : Hid ((bv S7)[0]? = some (.int .u8 77)) := by rw [← hS7]; rfl
  have HS7B : Hid (∀ W : World, (Instr.build 24 #[(0, .int .u8 77)]).run Tryd.prog W = .ok (.agg (bv S7).toArray) W) := fun W => by rw [← hS7]; exact build_77 W
  clear hS7
  have TW : Hid (Tb w) := hT
  have VW : Hid (YS w v ds) := hv
  have HK : Hid (∀ x ∈ ds, L32 x) := hk
  obtain ⟨R, hR⟩ : ∃ R, vlR ds = R := ⟨_, rfl⟩
  obtain ⟨E, hE⟩ : ∃ E, vlE ds = E := ⟨_, rfl⟩
  obtain ⟨M, hM⟩ : ∃ M, mkV = M := ⟨_, rfl⟩
  have HR : Hid (L32 R) := by rw [← hR]; exact vlR_l32 ds
  have HM : Hid (L32 M) := by rw [← hM]; exact hs_l32 _
  have HLN1 : Hid (ds.length + [S7].length ≤ 4400000000000) := by show _ ≤ _; simp only [List.length_cons, List.length_nil]; omega
  have HLN0 : Hid (([] : List (List Int)).length + ds.length ≤ 4400000000000) := by show _ ≤ _; simp only [List.length_nil]; omega
  have HV : Hid (∀ (v' : Value) (W : World), YS W v' ds → Below w.heap.size w W → Calls Tryd.prog 5 #[v'] W fun e w' => e = .returned (.tuple #[.agg (bv R).toArray, .int .i64 E]) ∧ Below W.heap.size W w') := fun v' W h1 h2 => by rw [← hR, ← hE]; exact value_any ds hk (by omega) v' W h1 (TW.out.below h2)
  have HRV : Hid (∀ (v' : Value) (W : World), YS W v' ds → Below w.heap.size w W → Calls Tryd.prog 6 #[v'] W fun e w' => e = .returned (.tuple #[.agg (bv R).toArray, .int .i64 E]) ∧ Below W.heap.size W w') := fun v' W h1 h2 => by rw [← hR, ← hE]; exact rvalue_any ds hk (by omega) v' W h1 (TW.out.below h2)
  have HMK : Hid (∀ W : World, Below w.heap.size w W → Calls Tryd.prog 7 #[] W fun e w' => e = .returned (.agg (bv M).toArray) ∧ Below W.heap.size W w') := fun W h2 => by rw [← hM]; exact mark_any W (TW.out.below h2)
  have HRM : Hid (∀ W : World, Below w.heap.size w W → Calls Tryd.prog 8 #[] W fun e w' => e = .returned (.agg (bv M).toArray) ∧ Below W.heap.size W w') := fun W h2 => by rw [← hM]; exact rmark_any W (TW.out.below h2)
  clear hk hv hT hR hE hM hZ
  go_enter Tryd.func3, Tryd.ntmps3
  go_upto_region 3 with (go_at_call 4; refine (awake_any w).mono ?_; rintro e w1 ⟨rfl, g1⟩; have C1 : Hid (Below w.heap.size w w1) := g1; clear g1)
  obtain ⟨v2, w2, hr2, y2, b2, -⟩ := app_yown (lit_owny w1) HK.out (VW.out.below (Below.tr' C1.out ((Below.refl _ w1).alloc (Nat.le_refl _) _))) HLN0.out
  rw [List.nil_append] at y2
  have C2 : Hid (Below w.heap.size w w2) := C1.out.trans ((((Below.refl _ w1).alloc (Nat.le_refl _) _).trans b2).mono C1.out.size)
  obtain ⟨v3, w3, hr3, y3, b3, -⟩ := app_yown (y2.alloc (.cells (bv S7).toArray 24)) (m := [S7]) (fun x hx => by simp at hx; subst hx; exact HS7.out) (ys_one w2 S7 _) HLN1.out
  have C3 : Hid (Below w.heap.size w w3) := C2.out.trans ((((Below.refl _ w2).alloc (Nat.le_refl _) _).mono C2.out.size).trans (b3.mono C1.out.size))
  have hB : w1.heap.size ≤ w2.heap.size := y2.2.2
  obtain ⟨g3, cp3, e3, hc3, lt3, rr3⟩ := y3.sl (by simp)
  have HC3 : Hid ((ds ++ [S7]).length ≤ cp3) := hc3
  have RR3 : Hid (∀ (i : Nat) (x : List Int), (ds ++ [S7])[i]? = some x → w3.rangeAt g3 (0 + i * 32) (bv x)) := rr3
  have LT3 : Hid (g3 < w3.heap.size) := lt3
  obtain ⟨m, hm⟩ : ∃ m, (ds ++ [S7]).length = m := ⟨_, rfl⟩
  rw [hm] at e3 hc3
  subst e3
  obtain ⟨ad, cap, hv0, hcap, hxx⟩ := id VW.out
  obtain ⟨n, hn⟩ : ∃ n, ds.length = n := ⟨_, rfl⟩
  have HN : Hid (ds.length = n) := hn
  have hmn : m = n + 1 := by rw [← hm, ← hn]; simp
  have HXX : Hid ((ds = [] ∧ (ad = none → cap = 0)) ∨ ∃ b o, ad = some ⟨b, o, none⟩ ∧ b < w.heap.size ∧ ∀ (i : Nat) (x : List Int), ds[i]? = some x → w.rangeAt b (o + i * 32) (bv x)) := hxx
  rw [hn] at hv0
  subst hv0
  have Y3 : Hid (YS w3 (.slice (some ⟨g3, 0, none⟩) n cp3) ds) := ⟨_, cp3, by rw [HN.out], by rw [HN.out]; omega, .inr ⟨g3, 0, rfl, LT3.out, fun i x hi => RR3.out i x (by rw [List.getElem?_append_left (List.getElem?_eq_some_iff.1 hi).1]; exact hi)⟩⟩
  have R77 : Hid (w3.rangeAt g3 (n * 32) (bv S7)) := by have := RR3.out n S7 (by rw [← hn]; simp); rwa [Nat.zero_add] at this
  have HR2 : Hid ((Builtin.append_ #[22, 22] 22 #[.slice (some ⟨w1.heap.size, 0, none⟩) 0 0, .slice ad n cap]).run Tryd.prog (w1.alloc (.cells #[] 24)) = .ok v2 w2) := hr2
  have HR3 : Hid ((Builtin.append_ #[22, 22] 22 #[v2, .slice (some ⟨w2.heap.size, 0, none⟩) 1 1]).run Tryd.prog (w2.alloc (.cells (bv S7).toArray 24)) = .ok (.slice (some ⟨g3, 0, none⟩) m cp3) w3) := hr3
  have hcp9 : n ≤ cp3 := by omega
  have hn9 : n ≤ 4399000000000 := by rw [← hn]; exact hlen
  have hnm0 : n < m := by omega
  have hmc : m ≤ cp3 := by have := HC3.out; rw [hm] at this; exact this
  have HMN : Hid (m = n + 1) := hmn
  clear hmn
  clear hr2 hr3 y2 y3 b2 b3 hB hc3 rr3 lt3 hm hxx hn HC3
  go_upto_region 4 with (first
    | (at_builtin; refine wp_app_run rfl (.tmp 11) (.tmp 12) 22 rfl 22 rfl _ _ v2 w2 rfl rfl HR2.out ?_)
    | (refine wp_build1 24 (.const (.int .u8 77)) rfl rfl (.int .u8 77) rfl _ (HS7B.out w2) ?_)
    | (refine wpList_oney rfl (.tmp 14) rfl S7 HS7.out rfl ?_)
    | (at_builtin; refine wp_app_run rfl (.tmp 13) (.tmp 15) 22 rfl 22 rfl _ _ (.slice (some ⟨g3, 0, none⟩) m cp3) w3 rfl rfl HR3.out ?_))
  go_upto_region 5 with (first
    | (go_at_call 5; refine (HV.out _ w3 Y3.out C3.out).mono ?_; rintro e w4 ⟨rfl, g1⟩; have G4 : Hid (Below w3.heap.size w3 w4) := g1; have C4 : Hid (Below w.heap.size w w4) := Below.tr' C3.out g1; clear g1)
    | (refine wpList_store_mid rfl 24 (.tmp 4) (.tmp 23) rfl w4.heap.size 0 (bv R).toArray rfl rfl (there_new w4 (by rw [List.size_toArray, bv_length, HR.out.len, HZS.out])) (by rw [List.size_toArray]; exact size_l32 HR.out) (bv_one' _) ?_; simp only [List.toList_toArray]))
  obtain ⟨w5, hw5⟩ : ∃ a9, (w4.alloc (.cells Z 24)).setCells w4.heap.size 0 (bv R) = a9 := ⟨_, rfl⟩
  rw [hw5]
  obtain ⟨r1, r2, r3⟩ := laid_row (by rw [bv_length, HR.out.len, HZS.out]) (by rw [bv_length, HR.out.len]; omega) hw5
  obtain ⟨b4, hBb4⟩ : ∃ q, w4.heap.size = q := ⟨_, rfl⟩
  rw [hBb4] at r1 r3 ⊢
  have Rb4 : Hid (w5.rangeAt b4 0 (bv R)) := r1
  have Gw5 : Hid (Below w4.heap.size w4 w5) := r2
  have Lb4 : Hid (b4 < w5.heap.size) := r3
  have C5 : Hid (Below w.heap.size w w5) := Below.tr' C4.out r2
  have G35 : Hid (Below w3.heap.size w3 w5) := Below.tr' G4.out r2
  clear r1 r2 r3 hw5 hBb4
  go_upto_region 6 with (first
    | (go_at_call 6; refine (HRV.out _ w5 (VW.out.below C5.out) C5.out).mono ?_; rintro e w6 ⟨rfl, g1⟩; have G6 : Hid (Below w5.heap.size w5 w6) := g1; have C6 : Hid (Below w.heap.size w w6) := Below.tr' C5.out g1; clear g1)
    | (refine wpList_store_mid rfl 24 (.tmp 6) (.tmp 28) rfl w6.heap.size 0 (bv R).toArray rfl rfl (there_new w6 (by rw [List.size_toArray, bv_length, HR.out.len, HZS.out])) (by rw [List.size_toArray]; exact size_l32 HR.out) (bv_one' _) ?_; simp only [List.toList_toArray]))
  obtain ⟨w7, hw7⟩ : ∃ a9, (w6.alloc (.cells Z 24)).setCells w6.heap.size 0 (bv R) = a9 := ⟨_, rfl⟩
  rw [hw7]
  obtain ⟨r1, r2, r3⟩ := laid_row (by rw [bv_length, HR.out.len, HZS.out]) (by rw [bv_length, HR.out.len]; omega) hw7
  obtain ⟨b6, hBb6⟩ : ∃ q, w6.heap.size = q := ⟨_, rfl⟩
  rw [hBb6] at r1 r3 ⊢
  have Rb6 : Hid (w7.rangeAt b6 0 (bv R)) := r1
  have Gw7 : Hid (Below w6.heap.size w6 w7) := r2
  have Lb6 : Hid (b6 < w7.heap.size) := r3
  have C7 : Hid (Below w.heap.size w w7) := Below.tr' C6.out r2
  have G37 : Hid (Below w3.heap.size w3 w7) := Below.tr' G35.out (Below.tr' G6.out r2)
  have G57 : Hid (Below w5.heap.size w5 w7) := Below.tr' G6.out r2
  clear r1 r2 r3 hw7 hBb6 hz
  go_wp2_with fail
  go_loopw [32] (fun i wr => ∃ k : Nat, k ≤ n ∧ i = .int .i64 (k : Int) ∧ Below w7.heap.size w7 wr) (fun i _ => n - (intOf i).toNat)
  case atStart => exact ⟨0, Nat.zero_le _, rfl, Below.refl _ _⟩
  case round =>
    obtain ⟨k, hkl, rfl, h4⟩ := hrel
    have H4 : Hid (Below w7.heap.size w7 wr) := h4
    clear h4
    by_cases hlt : k < n
    · have HLT : Hid (k < n) := hlt
      obtain ⟨x, hx⟩ : ∃ x, ds[k]? = some x := ⟨ds[k]'(by rw [HN.out]; exact hlt), List.getElem?_eq_getElem (by rw [HN.out]; exact hlt)⟩
      have HX32 : Hid (L32 x) := HK.out x (List.mem_of_getElem? hx)
      rcases HXX.out with ⟨h0, _⟩ | ⟨b, o, rfl, hlb, hm⟩
      · rw [h0] at hx; simp at hx
      · have Gw : Hid (Below w.heap.size w wr) := Below.tr' C7.out H4.out
        have G3w : Hid (Below w3.heap.size w3 wr) := Below.tr' G37.out H4.out
        have RB : Hid (wr.rangeAt b (o + k * 32) (bv x)) := range_below (hm k x hx) Gw.out hlb
        have LB : Hid (b < wr.heap.size) := Nat.lt_of_lt_of_le hlb Gw.out.size
        have RA : Hid (wr.rangeAt g3 (k * 32) (bv x)) := by rw [← Nat.zero_add (k * 32)]; exact range_below (RR3.out k x (by rw [List.getElem?_append_left (List.getElem?_eq_some_iff.1 hx).1]; exact hx)) G3w.out LT3.out
        have LA : Hid (g3 < wr.heap.size) := Nat.lt_of_lt_of_le LT3.out G3w.out.size
        clear hm hlb hx
        go_upto_region 9 with (fail)
        refine RU.wp_rgn' [] (lv9f g3 b o n m cp3 cap k x) (fun _ => 0) (gΩ wr) (by kernel_rfl) (by kernel_rfl) (show Below wr.heap.size wr _ from (Below.refl _ _).drew) ?_ ?_
        · refine ⟨?_, ?_, ?_, ?_, ?_, ?_, ?_, ?_, ?_, trivial⟩
          · refine RU.ObT.pure rfl rfl rfl (fun a V hf hp ev he hc W => ?_)
            have q3 : ev (.tmp 3) = .slice (some ⟨g3, 0, none⟩) m cp3 := (he (.tmp 3)).trans (hf 3 rfl)
            simp only [List.getElem_toArray, List.getElem_cons_succ, List.getElem_cons_zero, execOp, Option.map_some, Option.map_none]; rw [q3]
            first | (go_simp; done) | (go_simp; rfl) | rfl
          · refine RU.ObT.pure rfl rfl rfl (fun a V hf hp ev he hc W => ?_)
            have q8 : ev (.tmp 8) = .int .i64 (k : Int) := (he (.tmp 8)).trans (hf 8 rfl)
            simp only [List.getElem_toArray, List.getElem_cons_succ, List.getElem_cons_zero, execOp, Option.map_some, Option.map_none]; rw [q8]
            first | (go_simp; done) | (go_simp; rfl) | rfl
          · refine RU.ObT.pure rfl rfl rfl (fun a V hf hp ev he hc W => ?_)
            have q35 : ev (.tmp 35) = .slice (some ⟨g3, 0, none⟩) m cp3 := (he (.tmp 35)).trans (hp 0 35 rfl)
            have q36 : ev (.tmp 36) = .int .i64 (k : Int) := (he (.tmp 36)).trans (hp 1 36 rfl)
            simp only [List.getElem_toArray, List.getElem_cons_succ, List.getElem_cons_zero, execOp, Option.map_some, Option.map_none]; rw [q35, q36]
            have hk9 : (k : Int) < (m : Int) := by omega
            first | (go_simp; done) | (go_simp; rfl) | rfl
          · refine RU.ObT.silent rfl (fun a W k0 V hO hf hp hk => ?_)
            have hO' : Below wr.heap.size wr W := hO
            have q37 : a.eval (.tmp 37) = .pointer (some ⟨g3, k * 32, none⟩) := hp 2 37 rfl
            exact RU.ob_op rfl (RU.wanted_none rfl) (wp_load_mid 24 (.tmp 37) rfl (g3) (k * 32) q37 (bv x) _ (range_below RA.out hO' LA.out) Tryd.underlying24 rfl (size_l32 HX32.out) ⟨rfl, hO⟩)
          · refine RU.ObT.pure rfl rfl rfl (fun a V hf hp ev he hc W => ?_)
            have q0 : ev (.tmp 0) = .slice (some ⟨b, o, none⟩) n cap := (he (.tmp 0)).trans (hf 0 rfl)
            simp only [List.getElem_toArray, List.getElem_cons_succ, List.getElem_cons_zero, execOp, Option.map_some, Option.map_none]; rw [q0]
            first | (go_simp; done) | (go_simp; rfl) | rfl
          · refine RU.ObT.pure rfl rfl rfl (fun a V hf hp ev he hc W => ?_)
            have q8 : ev (.tmp 8) = .int .i64 (k : Int) := (he (.tmp 8)).trans (hf 8 rfl)
            simp only [List.getElem_toArray, List.getElem_cons_succ, List.getElem_cons_zero, execOp, Option.map_some, Option.map_none]; rw [q8]
            first | (go_simp; done) | (go_simp; rfl) | rfl
          · refine RU.ObT.pure rfl rfl rfl (fun a V hf hp ev he hc W => ?_)
            have q39 : ev (.tmp 39) = .slice (some ⟨b, o, none⟩) n cap := (he (.tmp 39)).trans (hp 4 39 rfl)
            have q40 : ev (.tmp 40) = .int .i64 (k : Int) := (he (.tmp 40)).trans (hp 5 40 rfl)
            simp only [List.getElem_toArray, List.getElem_cons_succ, List.getElem_cons_zero, execOp, Option.map_some, Option.map_none]; rw [q39, q40]
            have hk9 : (k : Int) < (n : Int) := by omega
            first | (go_simp; done) | (go_simp; rfl) | rfl
          · refine RU.ObT.silent rfl (fun a W k0 V hO hf hp hk => ?_)
            have hO' : Below wr.heap.size wr W := hO
            have q41 : a.eval (.tmp 41) = .pointer (some ⟨b, o + k * 32, none⟩) := hp 6 41 rfl
            exact RU.ob_op rfl (RU.wanted_none rfl) (wp_load_mid 24 (.tmp 41) rfl (b) (o + k * 32) q41 (bv x) _ (range_below RB.out hO' LB.out) Tryd.underlying24 rfl (size_l32 HX32.out) ⟨rfl, hO⟩)
          · refine RU.ObT.pure rfl rfl rfl (fun a V hf hp ev he hc W => ?_)
            have q38 : ev (.tmp 38) = .agg (bv x).toArray := (he (.tmp 38)).trans (hp 3 38 rfl)
            have q42 : ev (.tmp 42) = .agg (bv x).toArray := (he (.tmp 42)).trans (hp 7 42 rfl)
            simp only [List.getElem_toArray, List.getElem_cons_succ, List.getElem_cons_zero, execOp, Option.map_some, Option.map_none]; rw [q38, q42]
            simp only [Sem.run_bind, eqg_32, neq_32 HX32.out HX32.out W, Result.andThen_ok, Sem.run_pure, decide_true, Bool.not_true]; rfl
        intro W1 VW1 hOW1
        have BW1 : Hid (Below wr.heap.size wr W1) := hOW1
        clear hOW1
        simp only [RU.lay, RU.val, RU.at', lv9f, Act.put]
        simp only [List.setIfInBounds_toArray, List.set_cons_succ, List.set_cons_zero]
        go_wp2_with fail
        exact ⟨⟨k + 1, HLT.out, by go_num, H4.out.trans (BW1.out.mono H4.out.size)⟩, by have := HLT.out; simp [intOf]; omega⟩
    · have Gw : Hid (Below w.heap.size w wr) := Below.tr' C7.out H4.out
      have G3w : Hid (Below w3.heap.size w3 wr) := Below.tr' G37.out H4.out
      have RB4 : Hid (wr.rangeAt b4 0 (bv R)) := range_below Rb4.out (Below.tr' G57.out H4.out) Lb4.out
      have RB6 : Hid (wr.rangeAt b6 0 (bv R)) := range_below Rb6.out H4.out Lb6.out
      have R77w : Hid (wr.rangeAt g3 (n * 32) (bv S7)) := range_below R77.out G3w.out LT3.out
      have c77 : wr.cell? ⟨g3, n * 32, none⟩ = some (.int .u8 77) := R77w.out 0 _ HS70.out
      have hnm : (n : Int) < (m : Int) := by omega
      go_wp2_with (first
        | (refine ld 24 (.tmp 4) rfl rfl b4 0 rfl (bv R) _ RB4.out Tryd.underlying24 rfl (size_l32 HR.out) ?_)
        | (refine ld 24 (.tmp 6) rfl rfl b6 0 rfl (bv R) _ RB6.out Tryd.underlying24 rfl (size_l32 HR.out) ?_)
        | (refine wp_eq_run 24 24 (.tmp 45) (.tmp 46) rfl rfl (.agg (bv R).toArray) (.agg (bv R).toArray) (.bool true) rfl rfl (eqg_32 _ _ _ _ _ wr) ((eql_32 HR.out HR.out wr).trans (by simp)) ?_)
        | (go_at_call 7; refine (HMK.out wr Gw.out).mono ?_; rintro e w8 ⟨rfl, g1⟩; have C8 : Hid (Below w.heap.size w w8) := Below.tr' Gw.out g1; clear g1)
        | (go_at_call 8; refine (HRM.out w8 C8.out).mono ?_; rintro e w9 ⟨rfl, g1⟩; have C9 : Hid (Below w.heap.size w w9) := Below.tr' C8.out g1; clear g1)
        | (refine wp_eq_run 24 24 (.tmp 63) (.tmp 64) rfl rfl (.agg (bv M).toArray) (.agg (bv M).toArray) (.bool true) rfl rfl (eqg_32 _ _ _ _ _ w9) ((eql_32 HM.out HM.out w9).trans (by simp)) ?_))
      go_ret
      exact ⟨rfl, C9.out⟩
end Go.Proofs.YtddgdaggdgeclaaDoor
