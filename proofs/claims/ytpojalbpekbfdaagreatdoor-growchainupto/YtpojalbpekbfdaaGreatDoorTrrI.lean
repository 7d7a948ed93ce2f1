/- The reference: Apart. -/
import Derived.Test.YtpojalbpekbfdaaGreatDoorTrrH
namespace Go.Proofs.YtpojalbpekbfdaaGreatDoor
open Go Go.RowKit
set_option linter.unusedSimpArgs false
set_option linter.unusedVariables false
set_option maxRecDepth 100000

def ra7f (x y : Nd) (b o len cap k j : Nat) : Nat → Value
  | 0 => .slice (some ⟨b, o, none⟩) len cap
  | 1 => .int .i64 (k : Int)
  | 2 => .int .i64 (j : Int)
  | 3 => .pointer (some ⟨b, o + j * 65, none⟩)
  | 4 => .agg (nc y).toArray
  | 5 => .slice (some ⟨b, o, none⟩) len cap
  | 6 => .int .i64 (k : Int)
  | 7 => .pointer (some ⟨b, o + k * 65, none⟩)
  | 8 => .agg (nc x).toArray
  | _ => undef
def ra81f (b9 b10 c : Nat) (py px' : List Int) (ny nx : Int) : Nat → Value
  | 0 => .pointer (some ⟨b9, 1, none⟩)
  | 1 => .agg (bv py).toArray
  | 2 => .pointer (some ⟨b10, 1, none⟩)
  | 3 => .agg (bv px').toArray
  | 4 => .bool true
  | 5 => .bool false
  | 6 => .bool false
  | 7 => .pointer (some ⟨b9, 1, none⟩)
  | 8 => .agg (bv py).toArray
  | 9 => .pointer (some ⟨b10, 1, none⟩)
  | 10 => .agg (bv px').toArray
  | 11 => .pointer (some ⟨b9, 0, none⟩)
  | 12 => .int .i64 ny
  | 13 => .pointer (some ⟨b10, 0, none⟩)
  | 14 => .int .i64 nx
  | 15 => .int .i64 (min ny nx)
  | 16 => .int .i64 (c : Int)
  | 17 => .pointer (some ⟨b9, 0, none⟩)
  | 18 => .int .i64 ny
  | 19 => .pointer (some ⟨b10, 0, none⟩)
  | 20 => .int .i64 nx
  | 21 => .int .i64 (min ny nx)
  | 22 => .bool (decide ((c : Int) = min ny nx))
  | 23 => .bool (decide ((c : Int) = min ny nx))
  | _ => undef
def ra82f (b9 b10 c : Nat) (py px' : List Int) (ny nx : Int) : Nat → Value
  | 0 => .pointer (some ⟨b9, 1, none⟩)
  | 1 => .agg (bv py).toArray
  | 2 => .pointer (some ⟨b10, 1, none⟩)
  | 3 => .agg (bv px').toArray
  | 4 => .bool false
  | 5 => .bool true
  | 6 => .bool true
  | 7 => undef
  | 8 => undef
  | 9 => undef
  | 10 => undef
  | 11 => undef
  | 12 => undef
  | 13 => undef
  | 14 => undef
  | 15 => undef
  | 16 => undef
  | 17 => undef
  | 18 => undef
  | 19 => undef
  | 20 => undef
  | 21 => undef
  | 22 => undef
  | 23 => .bool true
  | _ => undef
set_option maxHeartbeats 4000000 in
theorem rApart_any (l : List Nd) (hk : ∀ x ∈ l, x.Ok) (v : Value) (w : World) (hv : NS w v l) (hn : l.length ≤ 140737488355328) :
    Calls Tryz.prog 40 #[v] w fun e w' => e = .returned (.bool (apt l)) ∧ Below w.heap.size w w' := by
  obtain ⟨ad, cap, rfl, hc, hx⟩ := hv
  have HXX : Hid (l = [] ∧ (ad = none → cap = 0) ∨ ∃ b o, ad = some ⟨b, o, none⟩ ∧ b < w.heap.size ∧ ∀ (i : Nat) (x : Nd), l[i]? = some x → w.rangeAt b (o + i * 65) (nc x)) := hx
  have HK : Hid (∀ x ∈ l, x.Ok) := hk
  obtain ⟨len, hlen⟩ : ∃ len, l.length = len := ⟨_, rfl⟩
  have HLN : Hid (l.length = len) := hlen
  rw [hlen] at hn ⊢
  have hz := zero_nd
  clear hx hk hc hlen
  go_enter Tryz.func40, Tryz.ntmps40
  go_wp2_with fail
  go_loopw [8] (fun i wr => ∃ k : Nat, k ≤ len ∧ i = .int .i64 (k : Int) ∧ (∀ j, j < k → apA l j = true) ∧ Below w.heap.size w wr) (fun i _ => len - (intOf i).toNat)
  case atStart => exact ⟨0, Nat.zero_le _, rfl, fun j hj => by omega, Below.refl _ _⟩
  case round =>
    obtain ⟨k, hkl, rfl, hall, h4⟩ := hrel
    have H4 : Hid (Below w.heap.size w wr) := h4
    have HA : Hid (∀ j, j < k → apA l j = true) := hall
    clear h4 hall
    by_cases hlt : k < len
    · rcases HXX.out with ⟨h0, _⟩ | ⟨b, o, rfl, hlb, hm⟩
      · have := HLN.out; rw [h0] at this; simp at this; omega
      · obtain ⟨x, hx⟩ : ∃ x, l[k]? = some x := ⟨l[k]'(by have := HLN.out; omega), List.getElem?_eq_getElem _⟩
        have HX : Hid x.Ok := HK.out x (List.mem_of_getElem? hx)
        have HXK : Hid (l[k]? = some x) := hx
        have HRX : Hid (wr.rangeAt b (o + k * 65) (nc x)) := range_below (hm k x hx) H4.out hlb
        have HLB : Hid (b < wr.heap.size) := Nat.lt_of_lt_of_le hlb H4.out.size
        have HM : Hid (∀ (i : Nat) (x : Nd), l[i]? = some x → wr.rangeAt b (o + i * 65) (nc x)) := fun i x hi => range_below (hm i x hi) H4.out hlb
        clear hm hlb hx
        cases hg : gd x with
        | false =>
          have HGD : Hid (∀ W : World, Calls Tryz.prog 42 #[.agg (nc x).toArray] W fun e w' => e = .returned (.bool false) ∧ Below W.heap.size W w') := fun W => by rw [← hg]; exact rGood_any x HX.out W
          have HR : Hid (apt l = false) := apt_no (i := k) (by have := HLN.out; omega) (by unfold apA; rw [HXK.out]; simp [hg])
          clear hg
          go_wp2_with (first
            | (refine load_g rfl 41 (.tmp 13) rfl b (o + k * 65) rfl (nc x) _ HRX.out Tryz.underlying41 rfl (size_nc HX.out) ?_)
            | (go_at_call 42; refine (HGD.out wr).mono ?_; rintro e w1 ⟨rfl, g1⟩; have B1 : Hid (Below wr.heap.size wr w1) := g1; clear g1))
          go_ret
          exact ⟨by rw [HR.out]; rfl, H4.out.trans (B1.out.mono H4.out.size)⟩
        | true =>
          have HGD : Hid (∀ W : World, Calls Tryz.prog 42 #[.agg (nc x).toArray] W fun e w' => e = .returned (.bool true) ∧ Below W.heap.size W w') := fun W => by rw [← hg]; exact rGood_any x HX.out W
          by_cases hk0 : k = 0
          · have HR : Hid (apA l k = true) := by show apA l k = true; unfold apA; rw [HXK.out]; simp [hg, hk0]
            subst hk0
            have HRX0 : Hid (wr.rangeAt b o (nc x)) := by have := HRX.out; rw [show o + 0 * 65 = o by omega] at this; exact this
            clear hg
            go_wp2_with (first
              | (refine load_g rfl 41 (.tmp 13) rfl b o rfl (nc x) _ HRX0.out Tryz.underlying41 rfl (size_nc HX.out) ?_)
              | (go_at_call 42; refine (HGD.out wr).mono ?_; rintro e w1 ⟨rfl, g1⟩; have B1 : Hid (Below wr.heap.size wr w1) := g1; clear g1))
            exact ⟨⟨1, by omega, by go_num, fun j hj => by
              obtain rfl : j = 0 := by omega
              exact HR.out, H4.out.trans (B1.out.mono H4.out.size)⟩, by simp [intOf]; omega⟩
          · obtain ⟨j, hj⟩ : ∃ j, k = j + 1 := ⟨k - 1, by omega⟩
            have HJ : Hid (k = j + 1) := hj
            obtain ⟨y, hyl⟩ : ∃ y, l[j]? = some y := ⟨l[j]'(by have := HLN.out; omega), List.getElem?_eq_getElem _⟩
            have HY : Hid y.Ok := HK.out y (List.mem_of_getElem? hyl)
            have hgy : gd y = true := by
              have := HA.out j (by omega)
              unfold apA at this; rw [hyl] at this; simp at this; exact this.1
            have hki : ¬ (k : Int) = 0 := by omega
            have HYR : Hid (wr.rangeAt b (o + j * 65) (nc y)) := HM.out j y hyl
            have HR : Hid (apA l k = ap2 y x) := by
              show apA l k = ap2 y x
              unfold apA; rw [HXK.out]
              rw [show k - 1 = j by omega, hyl]; simp [hg, hk0]
            have HAP := ap2_ref HY.out HX.out hgy hg
            obtain ⟨gy1, gy2, -⟩ := gd_iff.1 hgy
            obtain ⟨gx1, gx2, -⟩ := gd_iff.1 hg
            clear hg hgy hyl hj hk0
            go_wp2_with (first
              | (refine load_g rfl 41 (.tmp 13) rfl b (o + k * 65) rfl (nc x) _ HRX.out Tryz.underlying41 rfl (size_nc HX.out) ?_)
              | (go_at_call 42; refine (HGD.out wr).mono ?_; rintro e U ⟨rfl, g1⟩; have B1 : Hid (Below wr.heap.size wr U) := g1; have RX : Hid (U.rangeAt b (o + k * 65) (nc x)) := range_below HRX.out g1 HLB.out; have RY : Hid (U.rangeAt b (o + j * 65) (nc y)) := range_below HYR.out g1 HLB.out; have hbU : Hid (b < U.heap.size) := Nat.lt_of_lt_of_le HLB.out g1.size; clear g1))
            refine RG.wp_rgn' (TwI U (ra7f x y b o len cap k j) (nc y) (nc x) (nc ndz) 65 9 (9 + 1) (9 + 2) (9 + 3)) (by kernel_rfl) (by kernel_rfl) ⟨(fun _ _ h => by cases h), (Below.refl _ _).drew, (fun h => by cases h), (fun h => by cases h), (fun h => by cases h)⟩ ?_ ?_
            · refine ⟨?_, ?_, ?_, ?_, ?_, ?_, ?_, ?_, ?_, ?_, ?_, ?_, ?_, trivial⟩
              · intro a W d V hI hd hpx hbk hf hp
                have hO' : Below U.heap.size U W := hI.be
                refine RU.ob_val (v := .slice (some ⟨b, o, none⟩) len cap) rfl (RU.wanted_none rfl) (fun ev he hc => ?_) ⟨_, rfl, hI.silent (i := 0) (by decide)⟩
                have q0 : ev (.tmp 0) = .slice (some ⟨b, o, none⟩) len cap := (he (.tmp 0)).trans (hf 0 rfl)
                simp only [List.getElem_toArray, List.getElem_cons_succ, List.getElem_cons_zero, execOp, Option.map_some, Option.map_none]; rw [q0]
                first | (go_simp; done) | (go_simp; rfl) | rfl
              · intro a W d V hI hd hpx hbk hf hp
                have hO' : Below U.heap.size U W := hI.be
                refine RU.ob_val (v := .int .i64 (k : Int)) rfl (RU.wanted_none rfl) (fun ev he hc => ?_) ⟨_, rfl, hI.silent (i := 1) (by decide)⟩
                have q3 : ev (.tmp 3) = .int .i64 (k : Int) := (he (.tmp 3)).trans (hf 3 rfl)
                simp only [List.getElem_toArray, List.getElem_cons_succ, List.getElem_cons_zero, execOp, Option.map_some, Option.map_none]; rw [q3]
                first | (go_simp; done) | (go_simp; rfl) | rfl
              · intro a W d V hI hd hpx hbk hf hp
                have hO' : Below U.heap.size U W := hI.be
                refine RU.ob_val (v := .int .i64 (j : Int)) rfl (RU.wanted_none rfl) (fun ev he hc => ?_) ⟨_, rfl, hI.silent (i := 2) (by decide)⟩
                have q20 : ev (.tmp 20) = .int .i64 (k : Int) := (he (.tmp 20)).trans ((hp 1 20 rfl).trans (hI.si 1 (by decide) (hpx 1 rfl)))
                simp only [List.getElem_toArray, List.getElem_cons_succ, List.getElem_cons_zero, execOp, Option.map_some, Option.map_none]; rw [q20]
                try simp only [hc]
                have hw1 : IntKind.i64.wrap ((k : Int) - 1) = (j : Int) := by have := HJ.out; rw [IntKind.wrap_i64]; omega
                first | (go_simp; done) | (go_simp; rfl) | rfl
              · intro a W d V hI hd hpx hbk hf hp
                have hO' : Below U.heap.size U W := hI.be
                refine RU.ob_val (v := .pointer (some ⟨b, o + j * 65, none⟩)) rfl (RU.wanted_none rfl) (fun ev he hc => ?_) ⟨_, rfl, hI.silent (i := 3) (by decide)⟩
                have q19 : ev (.tmp 19) = .slice (some ⟨b, o, none⟩) len cap := (he (.tmp 19)).trans ((hp 0 19 rfl).trans (hI.si 0 (by decide) (hpx 0 rfl)))
                have q21 : ev (.tmp 21) = .int .i64 (j : Int) := (he (.tmp 21)).trans ((hp 2 21 rfl).trans (hI.si 2 (by decide) (hpx 2 rfl)))
                simp only [List.getElem_toArray, List.getElem_cons_succ, List.getElem_cons_zero, execOp, Option.map_some, Option.map_none]; rw [q19, q21]
                have hj9 : (j : Int) < (len : Int) := by have := HJ.out; omega
                first | (go_simp; done) | (go_simp; rfl) | rfl
              · intro a W d V hI hd hpx hbk hf hp
                have hO' : Below U.heap.size U W := hI.be
                have q22 : a.eval (.tmp 22) = .pointer (some ⟨b, o + j * 65, none⟩) := (hp 3 22 rfl).trans (hI.si 3 (by decide) (hpx 3 rfl))
                exact RU.ob_op rfl (RU.wanted_none rfl) (wp_load_mid 41 (.tmp 22) rfl (b) (o + j * 65) q22 (nc y) _ (range_below RY.out hO' hbU.out) Tryz.underlying41 rfl (size_nc HY.out) ⟨_, rfl, hI.silent (i := 4) (by decide)⟩)
              · intro a W d V hI hd hpx hbk hf hp
                have hO' : Below U.heap.size U W := hI.be
                refine RU.ob_val (v := .slice (some ⟨b, o, none⟩) len cap) rfl (RU.wanted_none rfl) (fun ev he hc => ?_) ⟨_, rfl, hI.silent (i := 5) (by decide)⟩
                have q0 : ev (.tmp 0) = .slice (some ⟨b, o, none⟩) len cap := (he (.tmp 0)).trans (hf 0 rfl)
                simp only [List.getElem_toArray, List.getElem_cons_succ, List.getElem_cons_zero, execOp, Option.map_some, Option.map_none]; rw [q0]
                first | (go_simp; done) | (go_simp; rfl) | rfl
              · intro a W d V hI hd hpx hbk hf hp
                have hO' : Below U.heap.size U W := hI.be
                refine RU.ob_val (v := .int .i64 (k : Int)) rfl (RU.wanted_none rfl) (fun ev he hc => ?_) ⟨_, rfl, hI.silent (i := 6) (by decide)⟩
                have q3 : ev (.tmp 3) = .int .i64 (k : Int) := (he (.tmp 3)).trans (hf 3 rfl)
                simp only [List.getElem_toArray, List.getElem_cons_succ, List.getElem_cons_zero, execOp, Option.map_some, Option.map_none]; rw [q3]
                first | (go_simp; done) | (go_simp; rfl) | rfl
              · intro a W d V hI hd hpx hbk hf hp
                have hO' : Below U.heap.size U W := hI.be
                refine RU.ob_val (v := .pointer (some ⟨b, o + k * 65, none⟩)) rfl (RU.wanted_none rfl) (fun ev he hc => ?_) ⟨_, rfl, hI.silent (i := 7) (by decide)⟩
                have q24 : ev (.tmp 24) = .slice (some ⟨b, o, none⟩) len cap := (he (.tmp 24)).trans ((hp 5 24 rfl).trans (hI.si 5 (by decide) (hpx 5 rfl)))
                have q25 : ev (.tmp 25) = .int .i64 (k : Int) := (he (.tmp 25)).trans ((hp 6 25 rfl).trans (hI.si 6 (by decide) (hpx 6 rfl)))
                simp only [List.getElem_toArray, List.getElem_cons_succ, List.getElem_cons_zero, execOp, Option.map_some, Option.map_none]; rw [q24, q25]
                have hk9 : (k : Int) < (len : Int) := by omega
                first | (go_simp; done) | (go_simp; rfl) | rfl
              · intro a W d V hI hd hpx hbk hf hp
                have hO' : Below U.heap.size U W := hI.be
                have q26 : a.eval (.tmp 26) = .pointer (some ⟨b, o + k * 65, none⟩) := (hp 7 26 rfl).trans (hI.si 7 (by decide) (hpx 7 rfl))
                exact RU.ob_op rfl (RU.wanted_none rfl) (wp_load_mid 41 (.tmp 26) rfl (b) (o + k * 65) q26 (nc x) _ (range_below RX.out hO' hbU.out) Tryz.underlying41 rfl (size_nc HX.out) ⟨_, rfl, hI.silent (i := 8) (by decide)⟩)
              · intro a W d V hI hd hpx hbk hf hp
                have hO' : Below U.heap.size U W := hI.be
                refine RU.ob_run (v := .pointer (some ⟨W.heap.size, 0, none⟩)) (w' := W.alloc (.cells (nc ndz).toArray 41)) rfl (RU.wanted_none rfl) (fun ev he hc => ?_) ⟨_, rfl, hI.alloc1 41 (nc_length ndz_ok) (hbk 11 rfl)⟩
                simp only [List.getElem_toArray, List.getElem_cons_succ, List.getElem_cons_zero, execOp]
                first | (go_simp; done) | (go_simp; rfl)
              · intro a W d V hI hd hpx hbk hf hp
                have hO' : Below U.heap.size U W := hI.be
                refine RU.ob_run (v := .pointer (some ⟨W.heap.size, 0, none⟩)) (w' := W.alloc (.cells (nc ndz).toArray 41)) rfl (RU.wanted_none rfl) (fun ev he hc => ?_) ⟨_, rfl, hI.alloc2 41 (nc_length ndz_ok) (hbk 12 rfl)⟩
                simp only [List.getElem_toArray, List.getElem_cons_succ, List.getElem_cons_zero, execOp]
                first | (go_simp; done) | (go_simp; rfl)
              · intro a W d V hI hd hpx hbk hf hp
                have hO' : Below U.heap.size U W := hI.be
                have d9 : d 9 = true := hpx 9 rfl
                have d10 : d (9 + 1) = true := hpx 10 rfl
                obtain ⟨b, hV, -, -, hth, -⟩ := hI.p9 d9
                have qp : a.eval (.tmp 4) = .pointer (some ⟨b, 0, none⟩) := (hp 9 4 rfl).trans hV
                have qv : a.eval (.tmp 23) = .agg (nc y).toArray := (hp 4 23 rfl).trans (hI.si 4 (by decide) (hpx 4 rfl))
                exact RU.ob_op rfl (RU.wanted_none rfl) (wp_store_mid 41 (.tmp 4) (.tmp 23) rfl b 0 (nc y).toArray qp qv (by rw [List.size_toArray, nc_length HY.out]; exact hth) (by rw [List.size_toArray]; exact size_nc HY.out) (nc_one _) ⟨_, rfl, by simp only [List.toList_toArray]; exact hI.store1 (nc_length HY.out) d9 d10 hV _⟩)
              · intro a W d V hI hd hpx hbk hf hp
                have hO' : Below U.heap.size U W := hI.be
                have d9 : d 9 = true := hpx 9 rfl
                have d10 : d (9 + 1) = true := hpx 10 rfl
                obtain ⟨b, hV, -, -, hth, -⟩ := hI.p10 d10
                have qp : a.eval (.tmp 5) = .pointer (some ⟨b, 0, none⟩) := (hp 10 5 rfl).trans hV
                have qv : a.eval (.tmp 27) = .agg (nc x).toArray := (hp 8 27 rfl).trans (hI.si 8 (by decide) (hpx 8 rfl))
                exact RU.ob_op rfl (RU.wanted_none rfl) (wp_store_mid 41 (.tmp 5) (.tmp 27) rfl b 0 (nc x).toArray qp qv (by rw [List.size_toArray, nc_length HX.out]; exact hth) (by rw [List.size_toArray]; exact size_nc HX.out) (nc_one _) ⟨_, rfl, by simp only [List.toList_toArray]; exact hI.store2 (nc_length HX.out) d9 d10 hV _⟩)
            intro W1 dW1 VW1 hal hI
            have BW1 : Hid (Below U.heap.size U W1) := hI.be
            obtain ⟨b9, hV9, hb9, hl9, -, hr9⟩ := hI.p9 (hal 9 (by decide))
            obtain ⟨b10, hV10, hb10, hl10, -, hr10⟩ := hI.p10 (hal (9 + 1) (by decide))
            rw [if_pos (hal (9 + 2) (by decide))] at hr9
            rw [if_pos (hal (9 + 3) (by decide))] at hr10
            have hs0 : VW1 0 = .slice (some ⟨b, o, none⟩) len cap := hI.si 0 (by decide) (hal 0 (by decide))
            have hs1 : VW1 1 = .int .i64 (k : Int) := hI.si 1 (by decide) (hal 1 (by decide))
            have hs2 : VW1 2 = .int .i64 (j : Int) := hI.si 2 (by decide) (hal 2 (by decide))
            have hs3 : VW1 3 = .pointer (some ⟨b, o + j * 65, none⟩) := hI.si 3 (by decide) (hal 3 (by decide))
            have hs4 : VW1 4 = .agg (nc y).toArray := hI.si 4 (by decide) (hal 4 (by decide))
            have hs5 : VW1 5 = .slice (some ⟨b, o, none⟩) len cap := hI.si 5 (by decide) (hal 5 (by decide))
            have hs6 : VW1 6 = .int .i64 (k : Int) := hI.si 6 (by decide) (hal 6 (by decide))
            have hs7 : VW1 7 = .pointer (some ⟨b, o + k * 65, none⟩) := hI.si 7 (by decide) (hal 7 (by decide))
            have hs8 : VW1 8 = .agg (nc x).toArray := hI.si 8 (by decide) (hal 8 (by decide))
            have hV10' : VW1 10 = .pointer (some ⟨b10, 0, none⟩) := hV10
            simp only [RU.lay, Act.put, hV9, hV10', hs0, hs1, hs2, hs3, hs4, hs5, hs6, hs7, hs8]
            simp only [List.setIfInBounds_toArray, List.set_cons_succ, List.set_cons_zero]
            have RR9 : Hid (W1.rangeAt b9 0 (nc y)) := hr9
            have RR10 : Hid (W1.rangeAt b10 0 (nc x)) := hr10
            have LL9 : Hid (b9 < W1.heap.size) := hl9
            have LL10 : Hid (b10 < W1.heap.size) := hl10
            clear hI hal hV9 hV10 hV10' hb9 hb10 hl9 hl10 hr9 hr10 hs0 hs1 hs2 hs3 hs4 hs5 hs6 hs7 hs8
            obtain ⟨ny, hny⟩ : ∃ n, y.n = n := ⟨_, rfl⟩
            obtain ⟨nx, hnx⟩ : ∃ n, x.n = n := ⟨_, rfl⟩
            obtain ⟨py, hpy⟩ : ∃ n, y.p = n := ⟨_, rfl⟩
            obtain ⟨px', hpx⟩ : ∃ n, x.p = n := ⟨_, rfl⟩
            have HNY : Hid (y.n = ny) := hny
            have HNX : Hid (x.n = nx) := hnx
            have HPY : Hid (L32 py) := by rw [← hpy]; exact HY.out.p
            have HPX : Hid (L32 px') := by rw [← hpx]; exact HX.out.p
            have RPY : Hid (W1.rangeAt b9 1 (bv py)) := by have := nc_p RR9.out; rw [hpy] at this; exact this
            have RPX : Hid (W1.rangeAt b10 1 (bv px')) := by have := nc_p RR10.out; rw [hpx] at this; exact this
            rw [hny, hnx, hpy, hpx] at HAP
            rw [hny] at gy1 gy2
            rw [hnx] at gx1 gx2
            obtain ⟨c, hc⟩ : ∃ c, cm py px' (min ny nx).toNat = c := ⟨_, rfl⟩
            rw [hc] at HAP
            have HCM : Hid (∀ W : World, Calls Tryz.prog 43 #[.agg (bv py).toArray, .agg (bv px').toArray, .int .i64 (min ny nx)] W fun e w' => e = .returned (.int .i64 (c : Int)) ∧ Below W.heap.size W w') := fun W => by
              have := rCommon_any py px' W HPY.out HPX.out (min ny nx).toNat (by omega)
              rw [Int.toNat_of_nonneg (by omega), hc] at this; exact this
            have HBL' : Hid (∀ W : World, Calls Tryz.prog 37 #[.agg (bv py).toArray, .agg (bv px').toArray] W fun e w' => e = .returned (.bool (ltb py px')) ∧ Below W.heap.size W w') := fun W => below_any py px' W HPY.out.len HPX.out.len HPY.out.byt HPX.out.byt
            have HAP2 : Hid (ap2 y x = (ltb py px' && !decide ((c : Int) = min ny nx))) := by
              show ap2 y x = _
              rw [HAP]; congr 2; exact decide_eq_decide.2 (by omega)
            clear hny hnx hpy hpx hc HAP
            cases hlt2 : ltb py px' with
            | false =>
              have HBL : Hid (∀ W : World, Calls Tryz.prog 37 #[.agg (bv py).toArray, .agg (bv px').toArray] W fun e w' => e = .returned (.bool false) ∧ Below W.heap.size W w') := fun W => by rw [← hlt2]; exact HBL'.out W
              have HF : Hid (apt l = false) := apt_no (i := k) (by have := HLN.out; omega) (by rw [HR.out, HAP2.out, hlt2]; rfl)
              clear hlt2 HBL'
              go_wp2_with fail
              refine RU.wp_rgn' [] (ra82f b9 b10 c py px' ny nx) (fun _ => 0) (gΩ W1) (by kernel_rfl) (by kernel_rfl) (show Below W1.heap.size W1 _ from (Below.refl _ _).drew) ?_ ?_
              · refine ⟨?_, ?_, ?_, ?_, ?_, ?_, ?_, ?_, ?_, ?_, ?_, ?_, ?_, ?_, ?_, ?_, ?_, ?_, ?_, ?_, ?_, ?_, ?_, ?_, trivial⟩
                · refine RU.ObT.pure rfl rfl rfl (fun a V hf hp ev he hc W => ?_)
                  have q4 : ev (.tmp 4) = .pointer (some ⟨b9, 0, none⟩) := (he (.tmp 4)).trans (hf 4 rfl)
                  simp only [List.getElem_toArray, List.getElem_cons_succ, List.getElem_cons_zero, execOp, Option.map_some, Option.map_none]; rw [q4]
                  first | (go_simp; done) | (go_simp; rfl) | rfl
                · refine RU.ObT.silent rfl (fun a W k0 V hO hf hp hk => ?_)
                  have hO' : Below W1.heap.size W1 W := hO
                  have q28 : a.eval (.tmp 28) = .pointer (some ⟨b9, 1, none⟩) := hp 0 28 rfl
                  exact RU.ob_op rfl (RU.wanted_none rfl) (wp_load_mid 32 (.tmp 28) rfl (b9) (1) q28 (bv py) _ (range_below RPY.out hO' LL9.out) Tryz.underlying32 rfl (size_l32 HPY.out) ⟨rfl, hO⟩)
                · refine RU.ObT.pure rfl rfl rfl (fun a V hf hp ev he hc W => ?_)
                  have q5 : ev (.tmp 5) = .pointer (some ⟨b10, 0, none⟩) := (he (.tmp 5)).trans (hf 5 rfl)
                  simp only [List.getElem_toArray, List.getElem_cons_succ, List.getElem_cons_zero, execOp, Option.map_some, Option.map_none]; rw [q5]
                  first | (go_simp; done) | (go_simp; rfl) | rfl
                · refine RU.ObT.silent rfl (fun a W k0 V hO hf hp hk => ?_)
                  have hO' : Below W1.heap.size W1 W := hO
                  have q30 : a.eval (.tmp 30) = .pointer (some ⟨b10, 1, none⟩) := hp 2 30 rfl
                  exact RU.ob_op rfl (RU.wanted_none rfl) (wp_load_mid 32 (.tmp 30) rfl (b10) (1) q30 (bv px') _ (range_below RPX.out hO' LL10.out) Tryz.underlying32 rfl (size_l32 HPX.out) ⟨rfl, hO⟩)
                · refine RU.ObT.silent rfl (fun a W k0 V hO hf hp hk => ?_)
                  have hO' : Below W1.heap.size W1 W := hO
                  have e29 : a.eval (.tmp 29) = .agg (bv py).toArray := hp 1 29 rfl
                  have e31 : a.eval (.tmp 31) = .agg (bv px').toArray := hp 3 31 rfl
                  refine RU.ob_call (g := 37) (args := #[.agg (bv py).toArray, .agg (bv px').toArray]) rfl (RU.wanted_none rfl) (fun ev he hc => ?_) ((HBL.out W).mono ?_)
                  · have h29 := (he (.tmp 29)).trans e29
                    have h31 := (he (.tmp 31)).trans e31
                    have hfn := he (.func 37)
                    simp only [List.getElem_toArray, List.getElem_cons_succ, List.getElem_cons_zero, execOp, Option.map_some, Option.map_none]
                    simp only [resolve, invoke, Sem.run_bind, Sem.run_pure, Result.andThen_ok, List.map_toArray, List.map_cons, List.map_nil, h29, h31, hfn, Act.eval, hc]
                    rfl
                  · rintro e' W2 ⟨rfl, hb2⟩
                    exact ⟨_, rfl, rfl, (hO'.trans (hb2.mono hO'.size) : Below W1.heap.size W1 W2)⟩
                · refine RU.ObT.pure rfl rfl rfl (fun a V hf hp ev he hc W => ?_)
                  have q32 : ev (.tmp 32) = .bool false := (he (.tmp 32)).trans (hp 4 32 rfl)
                  simp only [List.getElem_toArray, List.getElem_cons_succ, List.getElem_cons_zero, execOp, Option.map_some, Option.map_none]; rw [q32]
                  first | (go_simp; done) | (go_simp; rfl) | rfl
                · refine RU.ObT.pure rfl rfl rfl (fun a V hf hp ev he hc W => ?_)
                  have q33 : ev (.tmp 33) = .bool true := (he (.tmp 33)).trans (hp 5 33 rfl)
                  simp only [List.getElem_toArray, List.getElem_cons_succ, List.getElem_cons_zero, execOp, Option.map_some, Option.map_none]; rw [q33]
                  first | (go_simp; done) | (go_simp; rfl) | rfl
                · exact RU.ObT.skip (g := 6) (d := 34) rfl rfl rfl rfl rfl rfl (fun U h => by cases h) rfl
                · exact RU.ObT.skip (g := 6) (d := 34) rfl rfl rfl rfl rfl rfl (fun U h => by cases h) rfl
                · exact RU.ObT.skip (g := 6) (d := 34) rfl rfl rfl rfl rfl rfl (fun U h => by cases h) rfl
                · exact RU.ObT.skip (g := 6) (d := 34) rfl rfl rfl rfl rfl rfl (fun U h => by cases h) rfl
                · exact RU.ObT.skip (g := 6) (d := 34) rfl rfl rfl rfl rfl rfl (fun U h => by cases h) rfl
                · exact RU.ObT.skip (g := 6) (d := 34) rfl rfl rfl rfl rfl rfl (fun U h => by cases h) rfl
                · exact RU.ObT.skip (g := 6) (d := 34) rfl rfl rfl rfl rfl rfl (fun U h => by cases h) rfl
                · exact RU.ObT.skip (g := 6) (d := 34) rfl rfl rfl rfl rfl rfl (fun U h => by cases h) rfl
                · exact RU.ObT.skip (g := 6) (d := 34) rfl rfl rfl rfl rfl rfl (fun U h => by cases h) rfl
                · exact RU.ObT.skip (g := 6) (d := 34) rfl rfl rfl rfl rfl rfl (fun U h => by cases h) rfl
                · exact RU.ObT.skip (g := 6) (d := 34) rfl rfl rfl rfl rfl rfl (fun U h => by cases h) rfl
                · exact RU.ObT.skip (g := 6) (d := 34) rfl rfl rfl rfl rfl rfl (fun U h => by cases h) rfl
                · exact RU.ObT.skip (g := 6) (d := 34) rfl rfl rfl rfl rfl rfl (fun U h => by cases h) rfl
                · exact RU.ObT.skip (g := 6) (d := 34) rfl rfl rfl rfl rfl rfl (fun U h => by cases h) rfl
                · exact RU.ObT.skip (g := 6) (d := 34) rfl rfl rfl rfl rfl rfl (fun U h => by cases h) rfl
                · exact RU.ObT.skip (g := 6) (d := 34) rfl rfl rfl rfl rfl rfl (fun U h => by cases h) rfl
                · refine RU.ObT.pure rfl rfl rfl (fun a V hf hp ev he hc W => ?_)
                  have q34 : ev (.tmp 34) = .bool true := (he (.tmp 34)).trans (hp 6 34 rfl)
                  have q50 : ev (.tmp 50) = undef := (he (.tmp 50)).trans (hp 22 50 rfl)
                  simp only [List.getElem_toArray, List.getElem_cons_succ, List.getElem_cons_zero, execOp, Option.map_some, Option.map_none]; rw [q34, q50]
                  try simp only [hc]
                  first | (go_simp; done) | (go_simp; rfl) | rfl
              intro W9 VW9 hOW9
              have BW9 : Hid (Below W1.heap.size W1 W9) := hOW9
              clear hOW9
              simp only [RU.lay, RU.val, RU.at', ra82f, Act.put]
              simp only [List.setIfInBounds_toArray, List.set_cons_succ, List.set_cons_zero]
              go_wp2_with fail
              go_ret
              exact ⟨by rw [HF.out]; rfl, H4.out.trans ((B1.out.trans ((BW1.out.trans (BW9.out.mono BW1.out.size)).mono B1.out.size)).mono H4.out.size)⟩
            | true =>
              have HBL : Hid (∀ W : World, Calls Tryz.prog 37 #[.agg (bv py).toArray, .agg (bv px').toArray] W fun e w' => e = .returned (.bool true) ∧ Below W.heap.size W w') := fun W => by rw [← hlt2]; exact HBL'.out W
              have HAP3 : Hid (apA l k = !decide ((c : Int) = min ny nx)) := by show apA l k = _; rw [HR.out, HAP2.out, hlt2, Bool.true_and]
              clear hlt2 HBL'
              go_wp2_with fail
              refine RU.wp_rgn' [] (ra81f b9 b10 c py px' ny nx) (fun _ => 0) (gΩ W1) (by kernel_rfl) (by kernel_rfl) (show Below W1.heap.size W1 _ from (Below.refl _ _).drew) ?_ ?_
              · refine ⟨?_, ?_, ?_, ?_, ?_, ?_, ?_, ?_, ?_, ?_, ?_, ?_, ?_, ?_, ?_, ?_, ?_, ?_, ?_, ?_, ?_, ?_, ?_, ?_, trivial⟩
                · refine RU.ObT.pure rfl rfl rfl (fun a V hf hp ev he hc W => ?_)
                  have q4 : ev (.tmp 4) = .pointer (some ⟨b9, 0, none⟩) := (he (.tmp 4)).trans (hf 4 rfl)
                  simp only [List.getElem_toArray, List.getElem_cons_succ, List.getElem_cons_zero, execOp, Option.map_some, Option.map_none]; rw [q4]
                  first | (go_simp; done) | (go_simp; rfl) | rfl
                · refine RU.ObT.silent rfl (fun a W k0 V hO hf hp hk => ?_)
                  have hO' : Below W1.heap.size W1 W := hO
                  have q28 : a.eval (.tmp 28) = .pointer (some ⟨b9, 1, none⟩) := hp 0 28 rfl
                  exact RU.ob_op rfl (RU.wanted_none rfl) (wp_load_mid 32 (.tmp 28) rfl (b9) (1) q28 (bv py) _ (range_below RPY.out hO' LL9.out) Tryz.underlying32 rfl (size_l32 HPY.out) ⟨rfl, hO⟩)
                · refine RU.ObT.pure rfl rfl rfl (fun a V hf hp ev he hc W => ?_)
                  have q5 : ev (.tmp 5) = .pointer (some ⟨b10, 0, none⟩) := (he (.tmp 5)).trans (hf 5 rfl)
                  simp only [List.getElem_toArray, List.getElem_cons_succ, List.getElem_cons_zero, execOp, Option.map_some, Option.map_none]; rw [q5]
                  first | (go_simp; done) | (go_simp; rfl) | rfl
                · refine RU.ObT.silent rfl (fun a W k0 V hO hf hp hk => ?_)
                  have hO' : Below W1.heap.size W1 W := hO
                  have q30 : a.eval (.tmp 30) = .pointer (some ⟨b10, 1, none⟩) := hp 2 30 rfl
                  exact RU.ob_op rfl (RU.wanted_none rfl) (wp_load_mid 32 (.tmp 30) rfl (b10) (1) q30 (bv px') _ (range_below RPX.out hO' LL10.out) Tryz.underlying32 rfl (size_l32 HPX.out) ⟨rfl, hO⟩)
                · refine RU.ObT.silent rfl (fun a W k0 V hO hf hp hk => ?_)
                  have hO' : Below W1.heap.size W1 W := hO
                  have e29 : a.eval (.tmp 29) = .agg (bv py).toArray := hp 1 29 rfl
                  have e31 : a.eval (.tmp 31) = .agg (bv px').toArray := hp 3 31 rfl
                  refine RU.ob_call (g := 37) (args := #[.agg (bv py).toArray, .agg (bv px').toArray]) rfl (RU.wanted_none rfl) (fun ev he hc => ?_) ((HBL.out W).mono ?_)
                  · have h29 := (he (.tmp 29)).trans e29
                    have h31 := (he (.tmp 31)).trans e31
                    have hfn := he (.func 37)
                    simp only [List.getElem_toArray, List.getElem_cons_succ, List.getElem_cons_zero, execOp, Option.map_some, Option.map_none]
                    simp only [resolve, invoke, Sem.run_bind, Sem.run_pure, Result.andThen_ok, List.map_toArray, List.map_cons, List.map_nil, h29, h31, hfn, Act.eval, hc]
                    rfl
                  · rintro e' W2 ⟨rfl, hb2⟩
                    exact ⟨_, rfl, rfl, (hO'.trans (hb2.mono hO'.size) : Below W1.heap.size W1 W2)⟩
                · refine RU.ObT.pure rfl rfl rfl (fun a V hf hp ev he hc W => ?_)
                  have q32 : ev (.tmp 32) = .bool true := (he (.tmp 32)).trans (hp 4 32 rfl)
                  simp only [List.getElem_toArray, List.getElem_cons_succ, List.getElem_cons_zero, execOp, Option.map_some, Option.map_none]; rw [q32]
                  first | (go_simp; done) | (go_simp; rfl) | rfl
                · refine RU.ObT.pure rfl rfl rfl (fun a V hf hp ev he hc W => ?_)
                  have q33 : ev (.tmp 33) = .bool false := (he (.tmp 33)).trans (hp 5 33 rfl)
                  simp only [List.getElem_toArray, List.getElem_cons_succ, List.getElem_cons_zero, execOp, Option.map_some, Option.map_none]; rw [q33]
                  first | (go_simp; done) | (go_simp; rfl) | rfl
                · refine RU.ObT.silent rfl (fun a W k0 V hO hf hp hk => ?_)
                  have hg : a.eval (.tmp 34) = .bool false := hp 6 34 rfl
                  refine RU.ob_val rfl (RU.wanted_some rfl rfl rfl hg) (fun ev he hc => ?_) ⟨rfl, hO⟩
                  have q4 : ev (.tmp 4) = .pointer (some ⟨b9, 0, none⟩) := (he (.tmp 4)).trans (hf 4 rfl)
                  simp only [List.getElem_toArray, List.getElem_cons_succ, List.getElem_cons_zero, execOp, Option.map_some, Option.map_none]; rw [q4]
                  first | (go_simp; done) | (go_simp; rfl) | rfl
                · refine RU.ObT.silent rfl (fun a W k0 V hO hf hp hk => ?_)
                  have hg : a.eval (.tmp 34) = .bool false := hp 6 34 rfl
                  have hO' : Below W1.heap.size W1 W := hO
                  have q35 : a.eval (.tmp 35) = .pointer (some ⟨b9, 1, none⟩) := hp 7 35 rfl
                  exact RU.ob_op rfl (RU.wanted_some rfl rfl rfl hg) (wp_load_mid 32 (.tmp 35) rfl (b9) (1) q35 (bv py) _ (range_below RPY.out hO' LL9.out) Tryz.underlying32 rfl (size_l32 HPY.out) ⟨rfl, hO⟩)
                · refine RU.ObT.silent rfl (fun a W k0 V hO hf hp hk => ?_)
                  have hg : a.eval (.tmp 34) = .bool false := hp 6 34 rfl
                  refine RU.ob_val rfl (RU.wanted_some rfl rfl rfl hg) (fun ev he hc => ?_) ⟨rfl, hO⟩
                  have q5 : ev (.tmp 5) = .pointer (some ⟨b10, 0, none⟩) := (he (.tmp 5)).trans (hf 5 rfl)
                  simp only [List.getElem_toArray, List.getElem_cons_succ, List.getElem_cons_zero, execOp, Option.map_some, Option.map_none]; rw [q5]
                  first | (go_simp; done) | (go_simp; rfl) | rfl
                · refine RU.ObT.silent rfl (fun a W k0 V hO hf hp hk => ?_)
                  have hg : a.eval (.tmp 34) = .bool false := hp 6 34 rfl
                  have hO' : Below W1.heap.size W1 W := hO
                  have q37 : a.eval (.tmp 37) = .pointer (some ⟨b10, 1, none⟩) := hp 9 37 rfl
                  exact RU.ob_op rfl (RU.wanted_some rfl rfl rfl hg) (wp_load_mid 32 (.tmp 37) rfl (b10) (1) q37 (bv px') _ (range_below RPX.out hO' LL10.out) Tryz.underlying32 rfl (size_l32 HPX.out) ⟨rfl, hO⟩)
                · refine RU.ObT.silent rfl (fun a W k0 V hO hf hp hk => ?_)
                  have hg : a.eval (.tmp 34) = .bool false := hp 6 34 rfl
                  refine RU.ob_val rfl (RU.wanted_some rfl rfl rfl hg) (fun ev he hc => ?_) ⟨rfl, hO⟩
                  have q4 : ev (.tmp 4) = .pointer (some ⟨b9, 0, none⟩) := (he (.tmp 4)).trans (hf 4 rfl)
                  simp only [List.getElem_toArray, List.getElem_cons_succ, List.getElem_cons_zero, execOp, Option.map_some, Option.map_none]; rw [q4]
                  first | (go_simp; done) | (go_simp; rfl) | rfl
                · refine RU.ObT.silent rfl (fun a W k0 V hO hf hp hk => ?_)
                  have hg : a.eval (.tmp 34) = .bool false := hp 6 34 rfl
                  have hO' : Below W1.heap.size W1 W := hO
                  have hcell := nc_n (range_below RR9.out hO' LL9.out)
                  rw [HNY.out] at hcell
                  refine RU.ob_val rfl (RU.wanted_some rfl rfl rfl hg) (fun ev he hc => ?_) ⟨rfl, hO⟩
                  have q39 : ev (.tmp 39) = .pointer (some ⟨b9, 0, none⟩) := (he (.tmp 39)).trans (hp 11 39 rfl)
                  simp only [List.getElem_toArray, List.getElem_cons_succ, List.getElem_cons_zero, execOp, Option.map_some, Option.map_none]; rw [q39]
                  first | (go_simp; done) | (go_simp; rfl) | rfl
                · refine RU.ObT.silent rfl (fun a W k0 V hO hf hp hk => ?_)
                  have hg : a.eval (.tmp 34) = .bool false := hp 6 34 rfl
                  refine RU.ob_val rfl (RU.wanted_some rfl rfl rfl hg) (fun ev he hc => ?_) ⟨rfl, hO⟩
                  have q5 : ev (.tmp 5) = .pointer (some ⟨b10, 0, none⟩) := (he (.tmp 5)).trans (hf 5 rfl)
                  simp only [List.getElem_toArray, List.getElem_cons_succ, List.getElem_cons_zero, execOp, Option.map_some, Option.map_none]; rw [q5]
                  first | (go_simp; done) | (go_simp; rfl) | rfl
                · refine RU.ObT.silent rfl (fun a W k0 V hO hf hp hk => ?_)
                  have hg : a.eval (.tmp 34) = .bool false := hp 6 34 rfl
                  have hO' : Below W1.heap.size W1 W := hO
                  have hcell := nc_n (range_below RR10.out hO' LL10.out)
                  rw [HNX.out] at hcell
                  refine RU.ob_val rfl (RU.wanted_some rfl rfl rfl hg) (fun ev he hc => ?_) ⟨rfl, hO⟩
                  have q41 : ev (.tmp 41) = .pointer (some ⟨b10, 0, none⟩) := (he (.tmp 41)).trans (hp 13 41 rfl)
                  simp only [List.getElem_toArray, List.getElem_cons_succ, List.getElem_cons_zero, execOp, Option.map_some, Option.map_none]; rw [q41]
                  first | (go_simp; done) | (go_simp; rfl) | rfl
                · refine RU.ObT.silent rfl (fun a W k0 V hO hf hp hk => ?_)
                  have hg : a.eval (.tmp 34) = .bool false := hp 6 34 rfl
                  refine RU.ob_val rfl (RU.wanted_some rfl rfl rfl hg) (fun ev he hc => ?_) ⟨rfl, hO⟩
                  have q40 : ev (.tmp 40) = .int .i64 ny := (he (.tmp 40)).trans (hp 12 40 rfl)
                  have q42 : ev (.tmp 42) = .int .i64 nx := (he (.tmp 42)).trans (hp 14 42 rfl)
                  simp only [List.getElem_toArray, List.getElem_cons_succ, List.getElem_cons_zero, execOp, Option.map_some, Option.map_none]; simp only [resolve, invoke, builtin, Sem.run_bind, Sem.run_pure, Result.andThen_ok, List.map_toArray, List.map_cons, List.map_nil, q40, q42]
                  first | (go_simp; done) | (go_simp; rfl) | rfl
                · refine RU.ObT.silent rfl (fun a W k0 V hO hf hp hk => ?_)
                  have hg : a.eval (.tmp 34) = .bool false := hp 6 34 rfl
                  have hO' : Below W1.heap.size W1 W := hO
                  have e36 : a.eval (.tmp 36) = .agg (bv py).toArray := hp 8 36 rfl
                  have e38 : a.eval (.tmp 38) = .agg (bv px').toArray := hp 10 38 rfl
                  have e43 : a.eval (.tmp 43) = .int .i64 (min ny nx) := hp 15 43 rfl
                  refine RU.ob_call (g := 43) (args := #[.agg (bv py).toArray, .agg (bv px').toArray, .int .i64 (min ny nx)]) rfl (RU.wanted_some rfl rfl rfl hg) (fun ev he hc => ?_) ((HCM.out W).mono ?_)
                  · have h36 := (he (.tmp 36)).trans e36
                    have h38 := (he (.tmp 38)).trans e38
                    have h43 := (he (.tmp 43)).trans e43
                    have hfn := he (.func 43)
                    simp only [List.getElem_toArray, List.getElem_cons_succ, List.getElem_cons_zero, execOp, Option.map_some, Option.map_none]
                    simp only [resolve, invoke, Sem.run_bind, Sem.run_pure, Result.andThen_ok, List.map_toArray, List.map_cons, List.map_nil, h36, h38, h43, hfn, Act.eval, hc]
                    rfl
                  · rintro e' W2 ⟨rfl, hb2⟩
                    exact ⟨_, rfl, rfl, (hO'.trans (hb2.mono hO'.size) : Below W1.heap.size W1 W2)⟩
                · refine RU.ObT.silent rfl (fun a W k0 V hO hf hp hk => ?_)
                  have hg : a.eval (.tmp 34) = .bool false := hp 6 34 rfl
                  refine RU.ob_val rfl (RU.wanted_some rfl rfl rfl hg) (fun ev he hc => ?_) ⟨rfl, hO⟩
                  have q4 : ev (.tmp 4) = .pointer (some ⟨b9, 0, none⟩) := (he (.tmp 4)).trans (hf 4 rfl)
                  simp only [List.getElem_toArray, List.getElem_cons_succ, List.getElem_cons_zero, execOp, Option.map_some, Option.map_none]; rw [q4]
                  first | (go_simp; done) | (go_simp; rfl) | rfl
                · refine RU.ObT.silent rfl (fun a W k0 V hO hf hp hk => ?_)
                  have hg : a.eval (.tmp 34) = .bool false := hp 6 34 rfl
                  have hO' : Below W1.heap.size W1 W := hO
                  have hcell := nc_n (range_below RR9.out hO' LL9.out)
                  rw [HNY.out] at hcell
                  refine RU.ob_val rfl (RU.wanted_some rfl rfl rfl hg) (fun ev he hc => ?_) ⟨rfl, hO⟩
                  have q45 : ev (.tmp 45) = .pointer (some ⟨b9, 0, none⟩) := (he (.tmp 45)).trans (hp 17 45 rfl)
                  simp only [List.getElem_toArray, List.getElem_cons_succ, List.getElem_cons_zero, execOp, Option.map_some, Option.map_none]; rw [q45]
                  first | (go_simp; done) | (go_simp; rfl) | rfl
                · refine RU.ObT.silent rfl (fun a W k0 V hO hf hp hk => ?_)
                  have hg : a.eval (.tmp 34) = .bool false := hp 6 34 rfl
                  refine RU.ob_val rfl (RU.wanted_some rfl rfl rfl hg) (fun ev he hc => ?_) ⟨rfl, hO⟩
                  have q5 : ev (.tmp 5) = .pointer (some ⟨b10, 0, none⟩) := (he (.tmp 5)).trans (hf 5 rfl)
                  simp only [List.getElem_toArray, List.getElem_cons_succ, List.getElem_cons_zero, execOp, Option.map_some, Option.map_none]; rw [q5]
                  first | (go_simp; done) | (go_simp; rfl) | rfl
                · refine RU.ObT.silent rfl (fun a W k0 V hO hf hp hk => ?_)
                  have hg : a.eval (.tmp 34) = .bool false := hp 6 34 rfl
                  have hO' : Below W1.heap.size W1 W := hO
                  have hcell := nc_n (range_below RR10.out hO' LL10.out)
                  rw [HNX.out] at hcell
                  refine RU.ob_val rfl (RU.wanted_some rfl rfl rfl hg) (fun ev he hc => ?_) ⟨rfl, hO⟩
                  have q47 : ev (.tmp 47) = .pointer (some ⟨b10, 0, none⟩) := (he (.tmp 47)).trans (hp 19 47 rfl)
                  simp only [List.getElem_toArray, List.getElem_cons_succ, List.getElem_cons_zero, execOp, Option.map_some, Option.map_none]; rw [q47]
                  first | (go_simp; done) | (go_simp; rfl) | rfl
                · refine RU.ObT.silent rfl (fun a W k0 V hO hf hp hk => ?_)
                  have hg : a.eval (.tmp 34) = .bool false := hp 6 34 rfl
                  refine RU.ob_val rfl (RU.wanted_some rfl rfl rfl hg) (fun ev he hc => ?_) ⟨rfl, hO⟩
                  have q46 : ev (.tmp 46) = .int .i64 ny := (he (.tmp 46)).trans (hp 18 46 rfl)
                  have q48 : ev (.tmp 48) = .int .i64 nx := (he (.tmp 48)).trans (hp 20 48 rfl)
                  simp only [List.getElem_toArray, List.getElem_cons_succ, List.getElem_cons_zero, execOp, Option.map_some, Option.map_none]; simp only [resolve, invoke, builtin, Sem.run_bind, Sem.run_pure, Result.andThen_ok, List.map_toArray, List.map_cons, List.map_nil, q46, q48]
                  first | (go_simp; done) | (go_simp; rfl) | rfl
                · refine RU.ObT.silent rfl (fun a W k0 V hO hf hp hk => ?_)
                  have hg : a.eval (.tmp 34) = .bool false := hp 6 34 rfl
                  refine RU.ob_val rfl (RU.wanted_some rfl rfl rfl hg) (fun ev he hc => ?_) ⟨rfl, hO⟩
                  have q44 : ev (.tmp 44) = .int .i64 (c : Int) := (he (.tmp 44)).trans (hp 16 44 rfl)
                  have q49 : ev (.tmp 49) = .int .i64 (min ny nx) := (he (.tmp 49)).trans (hp 21 49 rfl)
                  simp only [List.getElem_toArray, List.getElem_cons_succ, List.getElem_cons_zero, execOp, Option.map_some, Option.map_none]; rw [q44, q49]
                  first | (go_simp; done) | (go_simp; rfl) | rfl
                · refine RU.ObT.pure rfl rfl rfl (fun a V hf hp ev he hc W => ?_)
                  have q34 : ev (.tmp 34) = .bool false := (he (.tmp 34)).trans (hp 6 34 rfl)
                  have q50 : ev (.tmp 50) = .bool (decide ((c : Int) = min ny nx)) := (he (.tmp 50)).trans (hp 22 50 rfl)
                  simp only [List.getElem_toArray, List.getElem_cons_succ, List.getElem_cons_zero, execOp, Option.map_some, Option.map_none]; rw [q34, q50]
                  try simp only [hc]
                  first | (go_simp; done) | (go_simp; rfl) | rfl
              intro W9 VW9 hOW9
              have BW9 : Hid (Below W1.heap.size W1 W9) := hOW9
              clear hOW9
              simp only [RU.lay, RU.val, RU.at', ra81f, Act.put]
              simp only [List.setIfInBounds_toArray, List.set_cons_succ, List.set_cons_zero]
              by_cases he : (c : Int) = min ny nx
              · have HF : Hid (apt l = false) := apt_no (i := k) (by have := HLN.out; omega) (by rw [HAP3.out, decide_eq_true he]; rfl)
                rw [decide_eq_true he]
                go_wp2_with fail
                go_ret
                exact ⟨by rw [HF.out]; rfl, H4.out.trans ((B1.out.trans ((BW1.out.trans (BW9.out.mono BW1.out.size)).mono B1.out.size)).mono H4.out.size)⟩
              · have HT2 : Hid (apA l k = true) := by show apA l k = true; rw [HAP3.out, decide_eq_false he]; rfl
                rw [decide_eq_false he]
                go_wp2_with fail
                exact ⟨⟨k + 1, by omega, by go_num, fun i hi => by
                  rcases Nat.lt_succ_iff_lt_or_eq.1 hi with q | rfl
                  · exact HA.out i q
                  · exact HT2.out, H4.out.trans ((B1.out.trans ((BW1.out.trans (BW9.out.mono BW1.out.size)).mono B1.out.size)).mono H4.out.size)⟩, by simp [intOf]; omega⟩
    · obtain rfl : k = len := by omega
      have HR : Hid (apt l = true) := (apt_iff l).2 (fun i hi => HA.out i (by have := HLN.out; omega))
      go_wp2_with fail
      go_ret
      exact ⟨by rw [HR.out]; rfl, H4.out⟩
end Go.Proofs.YtpojalbpekbfdaaGreatDoor
