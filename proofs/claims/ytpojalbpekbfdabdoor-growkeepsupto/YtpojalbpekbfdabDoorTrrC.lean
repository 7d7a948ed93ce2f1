/- The reference: Good, Holds. -/
import Derived.Test.YtpojalbpekbfdabDoorTrrB
namespace Go.Proofs.YtpojalbpekbfdabDoor
open Go Go.RowKit
set_option linter.unusedSimpArgs false
set_option linter.unusedVariables false
set_option maxRecDepth 100000

def rgd1f (n : Int) (p q : List Int) (r : Bool) (D : Nat) : Nat → Value
  | 0 => .pointer (some ⟨D, 0, none⟩)
  | 1 => .int .i64 n
  | 2 => .bool false
  | 3 => .bool false
  | 4 => undef
  | 5 => undef
  | 6 => undef
  | 7 => .bool false
  | 8 => .bool false
  | 9 => undef
  | 10 => undef
  | 11 => undef
  | 12 => undef
  | 13 => undef
  | 14 => undef
  | 15 => undef
  | 16 => undef
  | 17 => .bool false
  | 18 => .bool false
  | _ => undef
def rgd2f (n : Int) (p q : List Int) (r : Bool) (D : Nat) : Nat → Value
  | 0 => .pointer (some ⟨D, 0, none⟩)
  | 1 => .int .i64 n
  | 2 => .bool true
  | 3 => .bool true
  | 4 => .pointer (some ⟨D, 0, none⟩)
  | 5 => .int .i64 n
  | 6 => .bool false
  | 7 => .bool false
  | 8 => .bool false
  | 9 => undef
  | 10 => undef
  | 11 => undef
  | 12 => undef
  | 13 => undef
  | 14 => undef
  | 15 => undef
  | 16 => undef
  | 17 => .bool false
  | 18 => .bool false
  | _ => undef
def rgd3f (n : Int) (p q : List Int) (r : Bool) (D : Nat) : Nat → Value
  | 0 => .pointer (some ⟨D, 0, none⟩)
  | 1 => .int .i64 n
  | 2 => .bool true
  | 3 => .bool true
  | 4 => .pointer (some ⟨D, 0, none⟩)
  | 5 => .int .i64 n
  | 6 => .bool true
  | 7 => .bool true
  | 8 => .bool true
  | 9 => .pointer (some ⟨D, 1, none⟩)
  | 10 => .agg (bv p).toArray
  | 11 => .pointer (some ⟨D, 0, none⟩)
  | 12 => .int .i64 n
  | 13 => .agg (bv q).toArray
  | 14 => .pointer (some ⟨D, 1, none⟩)
  | 15 => .agg (bv p).toArray
  | 16 => .bool r
  | 17 => .bool r
  | 18 => .bool r
  | _ => undef
set_option maxHeartbeats 4000000 in
theorem rGood_any (x : Nd) (hx : x.Ok) (w : World) :
    Calls Tryd.prog 49 #[.agg (nc x).toArray] w fun e w' => e = .returned (.bool (gd x)) ∧ Below w.heap.size w w' := by
  have s1 := nc_size hx
  have R00 := range_alloc w (nc x) 33 (0, 0)
  obtain ⟨A, hA⟩ : ∃ A, (nc x).toArray = A := ⟨_, rfl⟩
  rw [hA] at s1 R00 ⊢
  obtain ⟨n, hn⟩ : ∃ n, x.n = n := ⟨_, rfl⟩
  obtain ⟨p, hp⟩ : ∃ p, x.p = p := ⟨_, rfl⟩
  have HN : Hid (x.n = n) := hn
  have HPE : Hid (x.p = p) := hp
  have HP : Hid (L32 p) := by rw [← hp]; exact hx.p
  have hBB : Below w.heap.size w (w.alloc (.cells A 33)) := (Below.refl _ w).alloc (Nat.le_refl _) _
  clear hA hn hp
  go_enter Tryd.func49, Tryd.ntmps49
  go_wp2_with fail
  obtain ⟨U, hU⟩ : ∃ U, w.alloc (.cells A 33) = U := ⟨_, rfl⟩
  have hDW0 : w.heap.size < U.heap.size := by rw [← hU]; simp
  rw [hU] at R00 hBB ⊢
  have BU : Hid (Below w.heap.size w U) := hBB
  obtain ⟨D, hD⟩ : ∃ D, w.heap.size = D := ⟨_, rfl⟩
  rw [hD] at R00 hDW0 ⊢
  have hDW : Hid (D < U.heap.size) := hDW0
  have R0 : Hid (U.rangeAt D 0 (nc x)) := R00
  have RP : Hid (U.rangeAt D 1 (bv p)) := by have := nc_p R00; rw [HPE.out] at this; exact this
  clear hU R00 hBB hDW0 hD
  obtain ⟨q, hq⟩ : ∃ q, q = fb p n.toNat := ⟨_, rfl⟩
  obtain ⟨r, hr⟩ : ∃ r, r = decide (q = p) := ⟨_, rfl⟩
  by_cases h0 : 0 ≤ n
  · by_cases h1 : n ≤ 256
    · have HG : Hid (gd x = r) := by
        show gd x = r
        unfold gd
        rw [HN.out, HPE.out, hr, hq, decide_eq_true h0, decide_eq_true h1, Bool.true_and, Bool.true_and]
      have HFB : Hid (∀ W : World, Calls Tryd.prog 47 #[.agg (bv p).toArray, .int .i64 n] W fun e w' => e = .returned (.agg (bv q).toArray) ∧ Below W.heap.size W w') := fun W => by
        have := rFirst_any p HP.out n.toNat (by omega) W
        rw [Int.toNat_of_nonneg h0, ← hq] at this; exact this
      have HEQ : Hid (∀ W : World, (binOp .eql 25 (.agg (bv q).toArray) (.agg (bv p).toArray)).run Tryd.prog W = .ok (.bool r) W) := fun W => by
        have := eql_32 (hq ▸ fb_l32 HP.out _ : L32 q) HP.out W
        rw [← hr] at this; exact this
      clear hq hr
      refine RU.wp_rgn' [] (rgd3f n p q r D) (fun _ => 0) (gΩ U) (by kernel_rfl) (by kernel_rfl) (show Below U.heap.size U _ from (Below.refl _ _).drew) ?_ ?_
      · refine ⟨?_, ?_, ?_, ?_, ?_, ?_, ?_, ?_, ?_, ?_, ?_, ?_, ?_, ?_, ?_, ?_, ?_, ?_, ?_, trivial⟩
        · refine RU.ObT.pure rfl rfl rfl (fun a V hf hp ev he hc W => ?_)
          have q1 : ev (.tmp 1) = .pointer (some ⟨D, 0, none⟩) := (he (.tmp 1)).trans (hf 1 rfl)
          simp only [List.getElem_toArray, List.getElem_cons_succ, List.getElem_cons_zero, execOp, Option.map_some, Option.map_none]; rw [q1]
          first | (go_simp; done) | (go_simp; rfl) | rfl
        · refine RU.ObT.silent rfl (fun a W k0 V hO hf hp hk => ?_)
          have hO' : Below U.heap.size U W := hO
          have hcell := nc_n (range_below R0.out hO' hDW.out)
          rw [HN.out] at hcell
          refine RU.ob_val rfl (RU.wanted_none rfl) (fun ev he hc => ?_) ⟨rfl, hO⟩
          have q3 : ev (.tmp 3) = .pointer (some ⟨D, 0, none⟩) := (he (.tmp 3)).trans (hp 0 3 rfl)
          simp only [List.getElem_toArray, List.getElem_cons_succ, List.getElem_cons_zero, execOp, Option.map_some, Option.map_none]; rw [q3]
          first | (go_simp; done) | (go_simp; rfl) | rfl
        · refine RU.ObT.pure rfl rfl rfl (fun a V hf hp ev he hc W => ?_)
          have q4 : ev (.tmp 4) = .int .i64 n := (he (.tmp 4)).trans (hp 1 4 rfl)
          simp only [List.getElem_toArray, List.getElem_cons_succ, List.getElem_cons_zero, execOp, Option.map_some, Option.map_none]; rw [q4]
          try simp only [hc]
          first | (go_simp; done) | (go_simp; rfl) | rfl
        · refine RU.ObT.pure rfl rfl rfl (fun a V hf hp ev he hc W => ?_)
          have q5 : ev (.tmp 5) = .bool true := (he (.tmp 5)).trans (hp 2 5 rfl)
          simp only [List.getElem_toArray, List.getElem_cons_succ, List.getElem_cons_zero, execOp, Option.map_some, Option.map_none]; rw [q5]
          first | (go_simp; done) | (go_simp; rfl) | rfl
        · refine RU.ObT.silent rfl (fun a W k0 V hO hf hp hk => ?_)
          have hg : a.eval (.tmp 6) = .bool true := hp 3 6 rfl
          refine RU.ob_val rfl (RU.wanted_some rfl rfl rfl hg) (fun ev he hc => ?_) ⟨rfl, hO⟩
          have q1 : ev (.tmp 1) = .pointer (some ⟨D, 0, none⟩) := (he (.tmp 1)).trans (hf 1 rfl)
          simp only [List.getElem_toArray, List.getElem_cons_succ, List.getElem_cons_zero, execOp, Option.map_some, Option.map_none]; rw [q1]
          first | (go_simp; done) | (go_simp; rfl) | rfl
        · refine RU.ObT.silent rfl (fun a W k0 V hO hf hp hk => ?_)
          have hg : a.eval (.tmp 6) = .bool true := hp 3 6 rfl
          have hO' : Below U.heap.size U W := hO
          have hcell := nc_n (range_below R0.out hO' hDW.out)
          rw [HN.out] at hcell
          refine RU.ob_val rfl (RU.wanted_some rfl rfl rfl hg) (fun ev he hc => ?_) ⟨rfl, hO⟩
          have q7 : ev (.tmp 7) = .pointer (some ⟨D, 0, none⟩) := (he (.tmp 7)).trans (hp 4 7 rfl)
          simp only [List.getElem_toArray, List.getElem_cons_succ, List.getElem_cons_zero, execOp, Option.map_some, Option.map_none]; rw [q7]
          first | (go_simp; done) | (go_simp; rfl) | rfl
        · refine RU.ObT.silent rfl (fun a W k0 V hO hf hp hk => ?_)
          have hg : a.eval (.tmp 6) = .bool true := hp 3 6 rfl
          refine RU.ob_val rfl (RU.wanted_some rfl rfl rfl hg) (fun ev he hc => ?_) ⟨rfl, hO⟩
          have q8 : ev (.tmp 8) = .int .i64 n := (he (.tmp 8)).trans (hp 5 8 rfl)
          simp only [List.getElem_toArray, List.getElem_cons_succ, List.getElem_cons_zero, execOp, Option.map_some, Option.map_none]; rw [q8]
          try simp only [hc]
          first | (go_simp; done) | (go_simp; rfl) | rfl
        · refine RU.ObT.pure rfl rfl rfl (fun a V hf hp ev he hc W => ?_)
          have q6 : ev (.tmp 6) = .bool true := (he (.tmp 6)).trans (hp 3 6 rfl)
          have q9 : ev (.tmp 9) = .bool true := (he (.tmp 9)).trans (hp 6 9 rfl)
          simp only [List.getElem_toArray, List.getElem_cons_succ, List.getElem_cons_zero, execOp, Option.map_some, Option.map_none]; rw [q6, q9]
          try simp only [hc]
          first | (go_simp; done) | (go_simp; rfl) | rfl
        · refine RU.ObT.pure rfl rfl rfl (fun a V hf hp ev he hc W => ?_)
          have q10 : ev (.tmp 10) = .bool true := (he (.tmp 10)).trans (hp 7 10 rfl)
          simp only [List.getElem_toArray, List.getElem_cons_succ, List.getElem_cons_zero, execOp, Option.map_some, Option.map_none]; rw [q10]
          first | (go_simp; done) | (go_simp; rfl) | rfl
        · refine RU.ObT.silent rfl (fun a W k0 V hO hf hp hk => ?_)
          have hg : a.eval (.tmp 11) = .bool true := hp 8 11 rfl
          refine RU.ob_val rfl (RU.wanted_some rfl rfl rfl hg) (fun ev he hc => ?_) ⟨rfl, hO⟩
          have q1 : ev (.tmp 1) = .pointer (some ⟨D, 0, none⟩) := (he (.tmp 1)).trans (hf 1 rfl)
          simp only [List.getElem_toArray, List.getElem_cons_succ, List.getElem_cons_zero, execOp, Option.map_some, Option.map_none]; rw [q1]
          first | (go_simp; done) | (go_simp; rfl) | rfl
        · refine RU.ObT.silent rfl (fun a W k0 V hO hf hp hk => ?_)
          have hg : a.eval (.tmp 11) = .bool true := hp 8 11 rfl
          have hO' : Below U.heap.size U W := hO
          have q12 : a.eval (.tmp 12) = .pointer (some ⟨D, 1, none⟩) := hp 9 12 rfl
          exact RU.ob_op rfl (RU.wanted_some rfl rfl rfl hg) (wp_load_mid 25 (.tmp 12) rfl (D) (1) q12 (bv p) _ (range_below RP.out hO' hDW.out) Tryd.underlying25 rfl (size_l32 HP.out) ⟨rfl, hO⟩)
        · refine RU.ObT.silent rfl (fun a W k0 V hO hf hp hk => ?_)
          have hg : a.eval (.tmp 11) = .bool true := hp 8 11 rfl
          refine RU.ob_val rfl (RU.wanted_some rfl rfl rfl hg) (fun ev he hc => ?_) ⟨rfl, hO⟩
          have q1 : ev (.tmp 1) = .pointer (some ⟨D, 0, none⟩) := (he (.tmp 1)).trans (hf 1 rfl)
          simp only [List.getElem_toArray, List.getElem_cons_succ, List.getElem_cons_zero, execOp, Option.map_some, Option.map_none]; rw [q1]
          first | (go_simp; done) | (go_simp; rfl) | rfl
        · refine RU.ObT.silent rfl (fun a W k0 V hO hf hp hk => ?_)
          have hg : a.eval (.tmp 11) = .bool true := hp 8 11 rfl
          have hO' : Below U.heap.size U W := hO
          have hcell := nc_n (range_below R0.out hO' hDW.out)
          rw [HN.out] at hcell
          refine RU.ob_val rfl (RU.wanted_some rfl rfl rfl hg) (fun ev he hc => ?_) ⟨rfl, hO⟩
          have q14 : ev (.tmp 14) = .pointer (some ⟨D, 0, none⟩) := (he (.tmp 14)).trans (hp 11 14 rfl)
          simp only [List.getElem_toArray, List.getElem_cons_succ, List.getElem_cons_zero, execOp, Option.map_some, Option.map_none]; rw [q14]
          first | (go_simp; done) | (go_simp; rfl) | rfl
        · refine RU.ObT.silent rfl (fun a W k0 V hO hf hp hk => ?_)
          have hg : a.eval (.tmp 11) = .bool true := hp 8 11 rfl
          have hO' : Below U.heap.size U W := hO
          have e13 : a.eval (.tmp 13) = .agg (bv p).toArray := hp 10 13 rfl
          have e15 : a.eval (.tmp 15) = .int .i64 n := hp 12 15 rfl
          refine RU.ob_call (g := 47) (args := #[.agg (bv p).toArray, .int .i64 n]) rfl (RU.wanted_some rfl rfl rfl hg) (fun ev he hc => ?_) ((HFB.out W).mono ?_)
          · have h13 := (he (.tmp 13)).trans e13
            have h15 := (he (.tmp 15)).trans e15
            have hfn := he (.func 47)
            simp only [List.getElem_toArray, List.getElem_cons_succ, List.getElem_cons_zero, execOp, Option.map_some, Option.map_none]
            simp only [resolve, invoke, Sem.run_bind, Sem.run_pure, Result.andThen_ok, List.map_toArray, List.map_cons, List.map_nil, h13, h15, hfn, Act.eval, hc]
            rfl
          · rintro e' W2 ⟨rfl, hb2⟩
            exact ⟨_, rfl, rfl, (hO'.trans (hb2.mono hO'.size) : gΩ U k0 V W2)⟩
        · refine RU.ObT.silent rfl (fun a W k0 V hO hf hp hk => ?_)
          have hg : a.eval (.tmp 11) = .bool true := hp 8 11 rfl
          refine RU.ob_val rfl (RU.wanted_some rfl rfl rfl hg) (fun ev he hc => ?_) ⟨rfl, hO⟩
          have q1 : ev (.tmp 1) = .pointer (some ⟨D, 0, none⟩) := (he (.tmp 1)).trans (hf 1 rfl)
          simp only [List.getElem_toArray, List.getElem_cons_succ, List.getElem_cons_zero, execOp, Option.map_some, Option.map_none]; rw [q1]
          first | (go_simp; done) | (go_simp; rfl) | rfl
        · refine RU.ObT.silent rfl (fun a W k0 V hO hf hp hk => ?_)
          have hg : a.eval (.tmp 11) = .bool true := hp 8 11 rfl
          have hO' : Below U.heap.size U W := hO
          have q17 : a.eval (.tmp 17) = .pointer (some ⟨D, 1, none⟩) := hp 14 17 rfl
          exact RU.ob_op rfl (RU.wanted_some rfl rfl rfl hg) (wp_load_mid 25 (.tmp 17) rfl (D) (1) q17 (bv p) _ (range_below RP.out hO' hDW.out) Tryd.underlying25 rfl (size_l32 HP.out) ⟨rfl, hO⟩)
        · refine RU.ObT.silent rfl (fun a W k0 V hO hf hp hk => ?_)
          have hg : a.eval (.tmp 11) = .bool true := hp 8 11 rfl
          refine RU.ob_val rfl (RU.wanted_some rfl rfl rfl hg) (fun ev he hc => ?_) ⟨rfl, hO⟩
          have q16 : ev (.tmp 16) = .agg (bv q).toArray := (he (.tmp 16)).trans (hp 13 16 rfl)
          have q18 : ev (.tmp 18) = .agg (bv p).toArray := (he (.tmp 18)).trans (hp 15 18 rfl)
          simp only [List.getElem_toArray, List.getElem_cons_succ, List.getElem_cons_zero, execOp, Option.map_some, Option.map_none]; rw [q16, q18]
          simp only [Sem.run_bind, eqg_32, HEQ.out W, Result.andThen_ok, Sem.run_pure]; rfl
        · refine RU.ObT.pure rfl rfl rfl (fun a V hf hp ev he hc W => ?_)
          have q11 : ev (.tmp 11) = .bool true := (he (.tmp 11)).trans (hp 8 11 rfl)
          have q19 : ev (.tmp 19) = .bool r := (he (.tmp 19)).trans (hp 16 19 rfl)
          simp only [List.getElem_toArray, List.getElem_cons_succ, List.getElem_cons_zero, execOp, Option.map_some, Option.map_none]; rw [q11, q19]
          try simp only [hc]
          first | (go_simp; done) | (go_simp; rfl) | rfl
        · refine RU.ObT.pure rfl rfl rfl (fun a V hf hp ev he hc W => ?_)
          have q20 : ev (.tmp 20) = .bool r := (he (.tmp 20)).trans (hp 17 20 rfl)
          simp only [List.getElem_toArray, List.getElem_cons_succ, List.getElem_cons_zero, execOp, Option.map_some, Option.map_none]; rw [q20]
          first | (go_simp; done) | (go_simp; rfl) | rfl
      intro W1 VW1 hOW1
      have BW1 : Hid (Below U.heap.size U W1) := hOW1
      clear hOW1
      simp only [RU.lay, RU.val, RU.at', rgd3f, Act.put]
      simp only [List.setIfInBounds_toArray, List.set_cons_succ, List.set_cons_zero]
      go_wp2_with fail
      go_ret
      exact ⟨by rw [HG.out]; rfl, BU.out.trans (BW1.out.mono BU.out.size)⟩
    · have HG : Hid (gd x = false) := by
        show gd x = false
        unfold gd; rw [HN.out, decide_eq_false h1, Bool.false_and, Bool.and_false]
      clear hq hr
      refine RU.wp_rgn' [] (rgd2f n p q r D) (fun _ => 0) (gΩ U) (by kernel_rfl) (by kernel_rfl) (show Below U.heap.size U _ from (Below.refl _ _).drew) ?_ ?_
      · refine ⟨?_, ?_, ?_, ?_, ?_, ?_, ?_, ?_, ?_, ?_, ?_, ?_, ?_, ?_, ?_, ?_, ?_, ?_, ?_, trivial⟩
        · refine RU.ObT.pure rfl rfl rfl (fun a V hf hp ev he hc W => ?_)
          have q1 : ev (.tmp 1) = .pointer (some ⟨D, 0, none⟩) := (he (.tmp 1)).trans (hf 1 rfl)
          simp only [List.getElem_toArray, List.getElem_cons_succ, List.getElem_cons_zero, execOp, Option.map_some, Option.map_none]; rw [q1]
          first | (go_simp; done) | (go_simp; rfl) | rfl
        · refine RU.ObT.silent rfl (fun a W k0 V hO hf hp hk => ?_)
          have hO' : Below U.heap.size U W := hO
          have hcell := nc_n (range_below R0.out hO' hDW.out)
          rw [HN.out] at hcell
          refine RU.ob_val rfl (RU.wanted_none rfl) (fun ev he hc => ?_) ⟨rfl, hO⟩
          have q3 : ev (.tmp 3) = .pointer (some ⟨D, 0, none⟩) := (he (.tmp 3)).trans (hp 0 3 rfl)
          simp only [List.getElem_toArray, List.getElem_cons_succ, List.getElem_cons_zero, execOp, Option.map_some, Option.map_none]; rw [q3]
          first | (go_simp; done) | (go_simp; rfl) | rfl
        · refine RU.ObT.pure rfl rfl rfl (fun a V hf hp ev he hc W => ?_)
          have q4 : ev (.tmp 4) = .int .i64 n := (he (.tmp 4)).trans (hp 1 4 rfl)
          simp only [List.getElem_toArray, List.getElem_cons_succ, List.getElem_cons_zero, execOp, Option.map_some, Option.map_none]; rw [q4]
          try simp only [hc]
          first | (go_simp; done) | (go_simp; rfl) | rfl
        · refine RU.ObT.pure rfl rfl rfl (fun a V hf hp ev he hc W => ?_)
          have q5 : ev (.tmp 5) = .bool true := (he (.tmp 5)).trans (hp 2 5 rfl)
          simp only [List.getElem_toArray, List.getElem_cons_succ, List.getElem_cons_zero, execOp, Option.map_some, Option.map_none]; rw [q5]
          first | (go_simp; done) | (go_simp; rfl) | rfl
        · refine RU.ObT.silent rfl (fun a W k0 V hO hf hp hk => ?_)
          have hg : a.eval (.tmp 6) = .bool true := hp 3 6 rfl
          refine RU.ob_val rfl (RU.wanted_some rfl rfl rfl hg) (fun ev he hc => ?_) ⟨rfl, hO⟩
          have q1 : ev (.tmp 1) = .pointer (some ⟨D, 0, none⟩) := (he (.tmp 1)).trans (hf 1 rfl)
          simp only [List.getElem_toArray, List.getElem_cons_succ, List.getElem_cons_zero, execOp, Option.map_some, Option.map_none]; rw [q1]
          first | (go_simp; done) | (go_simp; rfl) | rfl
        · refine RU.ObT.silent rfl (fun a W k0 V hO hf hp hk => ?_)
          have hg : a.eval (.tmp 6) = .bool true := hp 3 6 rfl
          have hO' : Below U.heap.size U W := hO
          have hcell := nc_n (range_below R0.out hO' hDW.out)
          rw [HN.out] at hcell
          refine RU.ob_val rfl (RU.wanted_some rfl rfl rfl hg) (fun ev he hc => ?_) ⟨rfl, hO⟩
          have q7 : ev (.tmp 7) = .pointer (some ⟨D, 0, none⟩) := (he (.tmp 7)).trans (hp 4 7 rfl)
          simp only [List.getElem_toArray, List.getElem_cons_succ, List.getElem_cons_zero, execOp, Option.map_some, Option.map_none]; rw [q7]
          first | (go_simp; done) | (go_simp; rfl) | rfl
        · refine RU.ObT.silent rfl (fun a W k0 V hO hf hp hk => ?_)
          have hg : a.eval (.tmp 6) = .bool true := hp 3 6 rfl
          refine RU.ob_val rfl (RU.wanted_some rfl rfl rfl hg) (fun ev he hc => ?_) ⟨rfl, hO⟩
          have q8 : ev (.tmp 8) = .int .i64 n := (he (.tmp 8)).trans (hp 5 8 rfl)
          simp only [List.getElem_toArray, List.getElem_cons_succ, List.getElem_cons_zero, execOp, Option.map_some, Option.map_none]; rw [q8]
          try simp only [hc]
          first | (go_simp; done) | (go_simp; rfl) | rfl
        · refine RU.ObT.pure rfl rfl rfl (fun a V hf hp ev he hc W => ?_)
          have q6 : ev (.tmp 6) = .bool true := (he (.tmp 6)).trans (hp 3 6 rfl)
          have q9 : ev (.tmp 9) = .bool false := (he (.tmp 9)).trans (hp 6 9 rfl)
          simp only [List.getElem_toArray, List.getElem_cons_succ, List.getElem_cons_zero, execOp, Option.map_some, Option.map_none]; rw [q6, q9]
          try simp only [hc]
          first | (go_simp; done) | (go_simp; rfl) | rfl
        · refine RU.ObT.pure rfl rfl rfl (fun a V hf hp ev he hc W => ?_)
          have q10 : ev (.tmp 10) = .bool false := (he (.tmp 10)).trans (hp 7 10 rfl)
          simp only [List.getElem_toArray, List.getElem_cons_succ, List.getElem_cons_zero, execOp, Option.map_some, Option.map_none]; rw [q10]
          first | (go_simp; done) | (go_simp; rfl) | rfl
        · exact RU.ObT.skip (g := 8) (d := 11) rfl rfl rfl rfl rfl rfl (fun U h => by cases h) rfl
        · exact RU.ObT.skip (g := 8) (d := 11) rfl rfl rfl rfl rfl rfl (fun U h => by cases h) rfl
        · exact RU.ObT.skip (g := 8) (d := 11) rfl rfl rfl rfl rfl rfl (fun U h => by cases h) rfl
        · exact RU.ObT.skip (g := 8) (d := 11) rfl rfl rfl rfl rfl rfl (fun U h => by cases h) rfl
        · exact RU.ObT.skip (g := 8) (d := 11) rfl rfl rfl rfl rfl rfl (fun U h => by cases h) rfl
        · exact RU.ObT.skip (g := 8) (d := 11) rfl rfl rfl rfl rfl rfl (fun U h => by cases h) rfl
        · exact RU.ObT.skip (g := 8) (d := 11) rfl rfl rfl rfl rfl rfl (fun U h => by cases h) rfl
        · exact RU.ObT.skip (g := 8) (d := 11) rfl rfl rfl rfl rfl rfl (fun U h => by cases h) rfl
        · refine RU.ObT.pure rfl rfl rfl (fun a V hf hp ev he hc W => ?_)
          have q11 : ev (.tmp 11) = .bool false := (he (.tmp 11)).trans (hp 8 11 rfl)
          have q19 : ev (.tmp 19) = undef := (he (.tmp 19)).trans (hp 16 19 rfl)
          simp only [List.getElem_toArray, List.getElem_cons_succ, List.getElem_cons_zero, execOp, Option.map_some, Option.map_none]; rw [q11, q19]
          try simp only [hc]
          first | (go_simp; done) | (go_simp; rfl) | rfl
        · refine RU.ObT.pure rfl rfl rfl (fun a V hf hp ev he hc W => ?_)
          have q20 : ev (.tmp 20) = .bool false := (he (.tmp 20)).trans (hp 17 20 rfl)
          simp only [List.getElem_toArray, List.getElem_cons_succ, List.getElem_cons_zero, execOp, Option.map_some, Option.map_none]; rw [q20]
          first | (go_simp; done) | (go_simp; rfl) | rfl
      intro W1 VW1 hOW1
      have BW1 : Hid (Below U.heap.size U W1) := hOW1
      clear hOW1
      simp only [RU.lay, RU.val, RU.at', rgd2f, Act.put]
      simp only [List.setIfInBounds_toArray, List.set_cons_succ, List.set_cons_zero]
      go_wp2_with fail
      go_ret
      exact ⟨by rw [HG.out]; rfl, BU.out.trans (BW1.out.mono BU.out.size)⟩
  · have HG : Hid (gd x = false) := by
      show gd x = false
      unfold gd; rw [HN.out, decide_eq_false h0, Bool.false_and]
    clear hq hr
    refine RU.wp_rgn' [] (rgd1f n p q r D) (fun _ => 0) (gΩ U) (by kernel_rfl) (by kernel_rfl) (show Below U.heap.size U _ from (Below.refl _ _).drew) ?_ ?_
    · refine ⟨?_, ?_, ?_, ?_, ?_, ?_, ?_, ?_, ?_, ?_, ?_, ?_, ?_, ?_, ?_, ?_, ?_, ?_, ?_, trivial⟩
      · refine RU.ObT.pure rfl rfl rfl (fun a V hf hp ev he hc W => ?_)
        have q1 : ev (.tmp 1) = .pointer (some ⟨D, 0, none⟩) := (he (.tmp 1)).trans (hf 1 rfl)
        simp only [List.getElem_toArray, List.getElem_cons_succ, List.getElem_cons_zero, execOp, Option.map_some, Option.map_none]; rw [q1]
        first | (go_simp; done) | (go_simp; rfl) | rfl
      · refine RU.ObT.silent rfl (fun a W k0 V hO hf hp hk => ?_)
        have hO' : Below U.heap.size U W := hO
        have hcell := nc_n (range_below R0.out hO' hDW.out)
        rw [HN.out] at hcell
        refine RU.ob_val rfl (RU.wanted_none rfl) (fun ev he hc => ?_) ⟨rfl, hO⟩
        have q3 : ev (.tmp 3) = .pointer (some ⟨D, 0, none⟩) := (he (.tmp 3)).trans (hp 0 3 rfl)
        simp only [List.getElem_toArray, List.getElem_cons_succ, List.getElem_cons_zero, execOp, Option.map_some, Option.map_none]; rw [q3]
        first | (go_simp; done) | (go_simp; rfl) | rfl
      · refine RU.ObT.pure rfl rfl rfl (fun a V hf hp ev he hc W => ?_)
        have q4 : ev (.tmp 4) = .int .i64 n := (he (.tmp 4)).trans (hp 1 4 rfl)
        simp only [List.getElem_toArray, List.getElem_cons_succ, List.getElem_cons_zero, execOp, Option.map_some, Option.map_none]; rw [q4]
        try simp only [hc]
        first | (go_simp; done) | (go_simp; rfl) | rfl
      · refine RU.ObT.pure rfl rfl rfl (fun a V hf hp ev he hc W => ?_)
        have q5 : ev (.tmp 5) = .bool false := (he (.tmp 5)).trans (hp 2 5 rfl)
        simp only [List.getElem_toArray, List.getElem_cons_succ, List.getElem_cons_zero, execOp, Option.map_some, Option.map_none]; rw [q5]
        first | (go_simp; done) | (go_simp; rfl) | rfl
      · exact RU.ObT.skip (g := 3) (d := 6) rfl rfl rfl rfl rfl rfl (fun U h => by cases h) rfl
      · exact RU.ObT.skip (g := 3) (d := 6) rfl rfl rfl rfl rfl rfl (fun U h => by cases h) rfl
      · exact RU.ObT.skip (g := 3) (d := 6) rfl rfl rfl rfl rfl rfl (fun U h => by cases h) rfl
      · refine RU.ObT.pure rfl rfl rfl (fun a V hf hp ev he hc W => ?_)
        have q6 : ev (.tmp 6) = .bool false := (he (.tmp 6)).trans (hp 3 6 rfl)
        have q9 : ev (.tmp 9) = undef := (he (.tmp 9)).trans (hp 6 9 rfl)
        simp only [List.getElem_toArray, List.getElem_cons_succ, List.getElem_cons_zero, execOp, Option.map_some, Option.map_none]; rw [q6, q9]
        try simp only [hc]
        first | (go_simp; done) | (go_simp; rfl) | rfl
      · refine RU.ObT.pure rfl rfl rfl (fun a V hf hp ev he hc W => ?_)
        have q10 : ev (.tmp 10) = .bool false := (he (.tmp 10)).trans (hp 7 10 rfl)
        simp only [List.getElem_toArray, List.getElem_cons_succ, List.getElem_cons_zero, execOp, Option.map_some, Option.map_none]; rw [q10]
        first | (go_simp; done) | (go_simp; rfl) | rfl
      · exact RU.ObT.skip (g := 8) (d := 11) rfl rfl rfl rfl rfl rfl (fun U h => by cases h) rfl
      · exact RU.ObT.skip (g := 8) (d := 11) rfl rfl rfl rfl rfl rfl (fun U h => by cases h) rfl
      · exact RU.ObT.skip (g := 8) (d := 11) rfl rfl rfl rfl rfl rfl (fun U h => by cases h) rfl
      · exact RU.ObT.skip (g := 8) (d := 11) rfl rfl rfl rfl rfl rfl (fun U h => by cases h) rfl
      · exact RU.ObT.skip (g := 8) (d := 11) rfl rfl rfl rfl rfl rfl (fun U h => by cases h) rfl
      · exact RU.ObT.skip (g := 8) (d := 11) rfl rfl rfl rfl rfl rfl (fun U h => by cases h) rfl
      · exact RU.ObT.skip (g := 8) (d := 11) rfl rfl rfl rfl rfl rfl (fun U h => by cases h) rfl
      · exact RU.ObT.skip (g := 8) (d := 11) rfl rfl rfl rfl rfl rfl (fun U h => by cases h) rfl
      · refine RU.ObT.pure rfl rfl rfl (fun a V hf hp ev he hc W => ?_)
        have q11 : ev (.tmp 11) = .bool false := (he (.tmp 11)).trans (hp 8 11 rfl)
        have q19 : ev (.tmp 19) = undef := (he (.tmp 19)).trans (hp 16 19 rfl)
        simp only [List.getElem_toArray, List.getElem_cons_succ, List.getElem_cons_zero, execOp, Option.map_some, Option.map_none]; rw [q11, q19]
        try simp only [hc]
        first | (go_simp; done) | (go_simp; rfl) | rfl
      · refine RU.ObT.pure rfl rfl rfl (fun a V hf hp ev he hc W => ?_)
        have q20 : ev (.tmp 20) = .bool false := (he (.tmp 20)).trans (hp 17 20 rfl)
        simp only [List.getElem_toArray, List.getElem_cons_succ, List.getElem_cons_zero, execOp, Option.map_some, Option.map_none]; rw [q20]
        first | (go_simp; done) | (go_simp; rfl) | rfl
    intro W1 VW1 hOW1
    have BW1 : Hid (Below U.heap.size U W1) := hOW1
    clear hOW1
    simp only [RU.lay, RU.val, RU.at', rgd1f, Act.put]
    simp only [List.setIfInBounds_toArray, List.set_cons_succ, List.set_cons_zero]
    go_wp2_with fail
    go_ret
    exact ⟨by rw [HG.out]; rfl, BU.out.trans (BW1.out.mono BU.out.size)⟩
def rhl1f (x : Nd) (n : Int) (p y : List Int) (c D : Nat) : Nat → Value
  | 0 => .agg (nc x).toArray
  | 1 => .bool true
  | 2 => .bool true
  | 3 => .pointer (some ⟨D, 1, none⟩)
  | 4 => .agg (bv p).toArray
  | 5 => .agg (bv y).toArray
  | 6 => .pointer (some ⟨D, 0, none⟩)
  | 7 => .int .i64 n
  | 8 => .int .i64 (c : Int)
  | 9 => .pointer (some ⟨D, 0, none⟩)
  | 10 => .int .i64 n
  | 11 => .bool (decide ((c : Int) = n))
  | 12 => .bool (decide ((c : Int) = n))
  | 13 => .bool (decide ((c : Int) = n))
  | _ => undef
def rhl2f (x : Nd) (n : Int) (p y : List Int) (c D : Nat) : Nat → Value
  | 0 => .agg (nc x).toArray
  | 1 => .bool false
  | 2 => .bool false
  | 3 => undef
  | 4 => undef
  | 5 => undef
  | 6 => undef
  | 7 => undef
  | 8 => undef
  | 9 => undef
  | 10 => undef
  | 11 => undef
  | 12 => .bool false
  | 13 => .bool false
  | _ => undef
set_option maxHeartbeats 4000000 in
theorem rHolds_any (x : Nd) (hx : x.Ok) (y : List Int) (hy : L32 y) (w : World) :
    Calls Tryd.prog 30 #[.agg (nc x).toArray, .agg (bv y).toArray] w fun e w' => e = .returned (.bool (hl x y)) ∧ Below w.heap.size w w' := by
  have s1 := nc_size hx
  have s2 : (bv y).toArray.size = 32 := by simp [bv, hy.len]
  obtain ⟨ra, rb, rs, rl⟩ := two_rows w (nc x) (bv y) 33 25
  obtain ⟨A, hA⟩ : ∃ A, (nc x).toArray = A := ⟨_, rfl⟩
  obtain ⟨B, hB⟩ : ∃ B, (bv y).toArray = B := ⟨_, rfl⟩
  rw [hA, hB] at ra rb rs rl
  rw [hA] at s1 ⊢
  rw [hB] at s2 ⊢
  obtain ⟨n, hn⟩ : ∃ n, x.n = n := ⟨_, rfl⟩
  obtain ⟨p, hp⟩ : ∃ p, x.p = p := ⟨_, rfl⟩
  have HN : Hid (x.n = n) := hn
  have HX : Hid x.Ok := hx
  have HPE : Hid (x.p = p) := hp
  have HP : Hid (L32 p) := by rw [← hp]; exact hx.p
  have HY : Hid (L32 y) := hy
  clear hn hp hx hy
  obtain ⟨c, hc⟩ : ∃ c, cm p y n.toNat = c := ⟨_, rfl⟩
  have HCM' : Hid (0 ≤ n → n ≤ 256 → ∀ W : World, Calls Tryd.prog 46 #[.agg (bv p).toArray, .agg (bv y).toArray, .int .i64 n] W fun e w' => e = .returned (.int .i64 (c : Int)) ∧ Below W.heap.size W w') := fun q1 q2 W => by
    have := rCommon_any p y W HP.out HY.out n.toNat (by omega)
    rw [Int.toNat_of_nonneg q1, hc] at this; exact this
  have HGD' : Hid (∀ W : World, Calls Tryd.prog 49 #[.agg (nc x).toArray] W fun e w' => e = .returned (.bool (gd x)) ∧ Below W.heap.size W w') := fun W => rGood_any x HX.out W
  have HHL : Hid (hl x y = (gd x && decide (n.toNat ≤ cm p y 256))) := by show hl x y = _; unfold hl; rw [HPE.out, HN.out]
  have HG0 : Hid (gd x = true → 0 ≤ n ∧ n ≤ 256) := fun h => by rw [← HN.out]; exact ⟨(gd_iff.1 h).1, (gd_iff.1 h).2.1⟩
  have HCC : Hid (cm p y n.toNat = c) := hc
  clear hc
  go_enter Tryd.func30, Tryd.ntmps30
  go_wp2_with fail
  obtain ⟨U, hU⟩ : ∃ U, (w.alloc (.cells A 33)).alloc (.cells B 25) = U := ⟨_, rfl⟩
  rw [hU] at ra rb rs rl ⊢
  obtain ⟨D, hD⟩ : ∃ D, w.heap.size = D := ⟨_, rfl⟩
  have BU : Hid (Below w.heap.size w U) := rl
  rw [hD] at ra rb rs ⊢
  have hDX : Hid (D < U.heap.size) := by show D < _; omega
  have hDY : Hid (D + 1 < U.heap.size) := by show D + 1 < _; omega
  have RX : Hid (U.rangeAt D 0 (nc x)) := ra
  have RP : Hid (U.rangeAt D 1 (bv p)) := by have := nc_p ra; rw [HPE.out] at this; exact this
  have RY : Hid (U.rangeAt (D + 1) 0 (bv y)) := rb
  clear hU ra rb rs rl hD hA hB
  cases hg : gd x with
  | true =>
    have HGD : Hid (∀ W : World, Calls Tryd.prog 49 #[.agg (nc x).toArray] W fun e w' => e = .returned (.bool true) ∧ Below W.heap.size W w') := fun W => by rw [← hg]; exact HGD'.out W
    obtain ⟨q1, q2⟩ := HG0.out hg
    have HCM : Hid (∀ W : World, Calls Tryd.prog 46 #[.agg (bv p).toArray, .agg (bv y).toArray, .int .i64 n] W fun e w' => e = .returned (.int .i64 (c : Int)) ∧ Below W.heap.size W w') := HCM'.out q1 q2
    have HR : Hid (hl x y = decide ((c : Int) = n)) := by
      show hl x y = _
      rw [HHL.out, hg, Bool.true_and]
      refine decide_eq_decide.2 ?_
      rw [← cm_full (show n.toNat ≤ 256 by omega), HCC.out]; omega
    clear hg HGD' HG0 HHL HCM' q1 q2
    refine RU.wp_rgn' [] (rhl1f x n p y c D) (fun _ => 0) (gΩ U) (by kernel_rfl) (by kernel_rfl) (show Below U.heap.size U _ from (Below.refl _ _).drew) ?_ ?_
    · refine ⟨?_, ?_, ?_, ?_, ?_, ?_, ?_, ?_, ?_, ?_, ?_, ?_, ?_, ?_, trivial⟩
      · refine RU.ObT.silent rfl (fun a W k0 V hO hf hp hk => ?_)
        have hO' : Below U.heap.size U W := hO
        have q2 : a.eval (.tmp 2) = .pointer (some ⟨D, 0, none⟩) := hf 2 rfl
        exact RU.ob_op rfl (RU.wanted_none rfl) (wp_load_mid 33 (.tmp 2) rfl (D) (0) q2 (nc x) _ (range_below RX.out hO' hDX.out) Tryd.underlying33 rfl (size_nc HX.out) ⟨rfl, hO⟩)
      · refine RU.ObT.silent rfl (fun a W k0 V hO hf hp hk => ?_)
        have hO' : Below U.heap.size U W := hO
        have e5 : a.eval (.tmp 5) = .agg (nc x).toArray := hp 0 5 rfl
        refine RU.ob_call (g := 49) (args := #[.agg (nc x).toArray]) rfl (RU.wanted_none rfl) (fun ev he hc => ?_) ((HGD.out W).mono ?_)
        · have h5 := (he (.tmp 5)).trans e5
          have hfn := he (.func 49)
          simp only [List.getElem_toArray, List.getElem_cons_succ, List.getElem_cons_zero, execOp, Option.map_some, Option.map_none]
          simp only [resolve, invoke, Sem.run_bind, Sem.run_pure, Result.andThen_ok, List.map_toArray, List.map_cons, List.map_nil, h5, hfn, Act.eval, hc]
          rfl
        · rintro e' W2 ⟨rfl, hb2⟩
          exact ⟨_, rfl, rfl, (hO'.trans (hb2.mono hO'.size) : Below U.heap.size U W2)⟩
      · refine RU.ObT.pure rfl rfl rfl (fun a V hf hp ev he hc W => ?_)
        have q6 : ev (.tmp 6) = .bool true := (he (.tmp 6)).trans (hp 1 6 rfl)
        simp only [List.getElem_toArray, List.getElem_cons_succ, List.getElem_cons_zero, execOp, Option.map_some, Option.map_none]; rw [q6]
        first | (go_simp; done) | (go_simp; rfl) | rfl
      · refine RU.ObT.silent rfl (fun a W k0 V hO hf hp hk => ?_)
        have hg : a.eval (.tmp 7) = .bool true := hp 2 7 rfl
        refine RU.ob_val rfl (RU.wanted_some rfl rfl rfl hg) (fun ev he hc => ?_) ⟨rfl, hO⟩
        have q2 : ev (.tmp 2) = .pointer (some ⟨D, 0, none⟩) := (he (.tmp 2)).trans (hf 2 rfl)
        simp only [List.getElem_toArray, List.getElem_cons_succ, List.getElem_cons_zero, execOp, Option.map_some, Option.map_none]; rw [q2]
        first | (go_simp; done) | (go_simp; rfl) | rfl
      · refine RU.ObT.silent rfl (fun a W k0 V hO hf hp hk => ?_)
        have hg : a.eval (.tmp 7) = .bool true := hp 2 7 rfl
        have hO' : Below U.heap.size U W := hO
        have q8 : a.eval (.tmp 8) = .pointer (some ⟨D, 1, none⟩) := hp 3 8 rfl
        exact RU.ob_op rfl (RU.wanted_some rfl rfl rfl hg) (wp_load_mid 25 (.tmp 8) rfl (D) (1) q8 (bv p) _ (range_below RP.out hO' hDX.out) Tryd.underlying25 rfl (size_l32 HP.out) ⟨rfl, hO⟩)
      · refine RU.ObT.silent rfl (fun a W k0 V hO hf hp hk => ?_)
        have hg : a.eval (.tmp 7) = .bool true := hp 2 7 rfl
        have hO' : Below U.heap.size U W := hO
        have q3 : a.eval (.tmp 3) = .pointer (some ⟨D + 1, 0, none⟩) := hf 3 rfl
        exact RU.ob_op rfl (RU.wanted_some rfl rfl rfl hg) (wp_load_mid 25 (.tmp 3) rfl (D + 1) (0) q3 (bv y) _ (range_below RY.out hO' hDY.out) Tryd.underlying25 rfl (size_l32 HY.out) ⟨rfl, hO⟩)
      · refine RU.ObT.silent rfl (fun a W k0 V hO hf hp hk => ?_)
        have hg : a.eval (.tmp 7) = .bool true := hp 2 7 rfl
        refine RU.ob_val rfl (RU.wanted_some rfl rfl rfl hg) (fun ev he hc => ?_) ⟨rfl, hO⟩
        have q2 : ev (.tmp 2) = .pointer (some ⟨D, 0, none⟩) := (he (.tmp 2)).trans (hf 2 rfl)
        simp only [List.getElem_toArray, List.getElem_cons_succ, List.getElem_cons_zero, execOp, Option.map_some, Option.map_none]; rw [q2]
        first | (go_simp; done) | (go_simp; rfl) | rfl
      · refine RU.ObT.silent rfl (fun a W k0 V hO hf hp hk => ?_)
        have hg : a.eval (.tmp 7) = .bool true := hp 2 7 rfl
        have hO' : Below U.heap.size U W := hO
        have hcell := nc_n (range_below RX.out hO' hDX.out)
        rw [HN.out] at hcell
        refine RU.ob_val rfl (RU.wanted_some rfl rfl rfl hg) (fun ev he hc => ?_) ⟨rfl, hO⟩
        have q11 : ev (.tmp 11) = .pointer (some ⟨D, 0, none⟩) := (he (.tmp 11)).trans (hp 6 11 rfl)
        simp only [List.getElem_toArray, List.getElem_cons_succ, List.getElem_cons_zero, execOp, Option.map_some, Option.map_none]; rw [q11]
        first | (go_simp; done) | (go_simp; rfl) | rfl
      · refine RU.ObT.silent rfl (fun a W k0 V hO hf hp hk => ?_)
        have hg : a.eval (.tmp 7) = .bool true := hp 2 7 rfl
        have hO' : Below U.heap.size U W := hO
        have e9 : a.eval (.tmp 9) = .agg (bv p).toArray := hp 4 9 rfl
        have e10 : a.eval (.tmp 10) = .agg (bv y).toArray := hp 5 10 rfl
        have e12 : a.eval (.tmp 12) = .int .i64 n := hp 7 12 rfl
        refine RU.ob_call (g := 46) (args := #[.agg (bv p).toArray, .agg (bv y).toArray, .int .i64 n]) rfl (RU.wanted_some rfl rfl rfl hg) (fun ev he hc => ?_) ((HCM.out W).mono ?_)
        · have h9 := (he (.tmp 9)).trans e9
          have h10 := (he (.tmp 10)).trans e10
          have h12 := (he (.tmp 12)).trans e12
          have hfn := he (.func 46)
          simp only [List.getElem_toArray, List.getElem_cons_succ, List.getElem_cons_zero, execOp, Option.map_some, Option.map_none]
          simp only [resolve, invoke, Sem.run_bind, Sem.run_pure, Result.andThen_ok, List.map_toArray, List.map_cons, List.map_nil, h9, h10, h12, hfn, Act.eval, hc]
          rfl
        · rintro e' W2 ⟨rfl, hb2⟩
          exact ⟨_, rfl, rfl, (hO'.trans (hb2.mono hO'.size) : Below U.heap.size U W2)⟩
      · refine RU.ObT.silent rfl (fun a W k0 V hO hf hp hk => ?_)
        have hg : a.eval (.tmp 7) = .bool true := hp 2 7 rfl
        refine RU.ob_val rfl (RU.wanted_some rfl rfl rfl hg) (fun ev he hc => ?_) ⟨rfl, hO⟩
        have q2 : ev (.tmp 2) = .pointer (some ⟨D, 0, none⟩) := (he (.tmp 2)).trans (hf 2 rfl)
        simp only [List.getElem_toArray, List.getElem_cons_succ, List.getElem_cons_zero, execOp, Option.map_some, Option.map_none]; rw [q2]
        first | (go_simp; done) | (go_simp; rfl) | rfl
      · refine RU.ObT.silent rfl (fun a W k0 V hO hf hp hk => ?_)
        have hg : a.eval (.tmp 7) = .bool true := hp 2 7 rfl
        have hO' : Below U.heap.size U W := hO
        have hcell := nc_n (range_below RX.out hO' hDX.out)
        rw [HN.out] at hcell
        refine RU.ob_val rfl (RU.wanted_some rfl rfl rfl hg) (fun ev he hc => ?_) ⟨rfl, hO⟩
        have q14 : ev (.tmp 14) = .pointer (some ⟨D, 0, none⟩) := (he (.tmp 14)).trans (hp 9 14 rfl)
        simp only [List.getElem_toArray, List.getElem_cons_succ, List.getElem_cons_zero, execOp, Option.map_some, Option.map_none]; rw [q14]
        first | (go_simp; done) | (go_simp; rfl) | rfl
      · refine RU.ObT.silent rfl (fun a W k0 V hO hf hp hk => ?_)
        have hg : a.eval (.tmp 7) = .bool true := hp 2 7 rfl
        refine RU.ob_val rfl (RU.wanted_some rfl rfl rfl hg) (fun ev he hc => ?_) ⟨rfl, hO⟩
        have q13 : ev (.tmp 13) = .int .i64 (c : Int) := (he (.tmp 13)).trans (hp 8 13 rfl)
        have q15 : ev (.tmp 15) = .int .i64 n := (he (.tmp 15)).trans (hp 10 15 rfl)
        simp only [List.getElem_toArray, List.getElem_cons_succ, List.getElem_cons_zero, execOp, Option.map_some, Option.map_none]; rw [q13, q15]
        first | (go_simp; done) | (go_simp; rfl) | rfl
      · refine RU.ObT.pure rfl rfl rfl (fun a V hf hp ev he hc W => ?_)
        have q7 : ev (.tmp 7) = .bool true := (he (.tmp 7)).trans (hp 2 7 rfl)
        have q16 : ev (.tmp 16) = .bool (decide ((c : Int) = n)) := (he (.tmp 16)).trans (hp 11 16 rfl)
        simp only [List.getElem_toArray, List.getElem_cons_succ, List.getElem_cons_zero, execOp, Option.map_some, Option.map_none]; rw [q7, q16]
        try simp only [hc]
        first | (go_simp; done) | (go_simp; rfl) | rfl
      · refine RU.ObT.pure rfl rfl rfl (fun a V hf hp ev he hc W => ?_)
        have q17 : ev (.tmp 17) = .bool (decide ((c : Int) = n)) := (he (.tmp 17)).trans (hp 12 17 rfl)
        simp only [List.getElem_toArray, List.getElem_cons_succ, List.getElem_cons_zero, execOp, Option.map_some, Option.map_none]; rw [q17]
        first | (go_simp; done) | (go_simp; rfl) | rfl
    intro W1 VW1 hOW1
    have BW1 : Hid (Below U.heap.size U W1) := hOW1
    clear hOW1
    simp only [RU.lay, RU.val, RU.at', rhl1f, Act.put]
    simp only [List.setIfInBounds_toArray, List.set_cons_succ, List.set_cons_zero]
    go_wp2_with fail
    go_ret
    exact ⟨by rw [HR.out]; rfl, BU.out.trans (BW1.out.mono BU.out.size)⟩
  | false =>
    have HGD : Hid (∀ W : World, Calls Tryd.prog 49 #[.agg (nc x).toArray] W fun e w' => e = .returned (.bool false) ∧ Below W.heap.size W w') := fun W => by rw [← hg]; exact HGD'.out W
    have HR : Hid (hl x y = false) := by show hl x y = _; rw [HHL.out, hg, Bool.false_and]
    clear hg HGD' HG0 HHL HCM'
    refine RU.wp_rgn' [] (rhl2f x n p y c D) (fun _ => 0) (gΩ U) (by kernel_rfl) (by kernel_rfl) (show Below U.heap.size U _ from (Below.refl _ _).drew) ?_ ?_
    · refine ⟨?_, ?_, ?_, ?_, ?_, ?_, ?_, ?_, ?_, ?_, ?_, ?_, ?_, ?_, trivial⟩
      · refine RU.ObT.silent rfl (fun a W k0 V hO hf hp hk => ?_)
        have hO' : Below U.heap.size U W := hO
        have q2 : a.eval (.tmp 2) = .pointer (some ⟨D, 0, none⟩) := hf 2 rfl
        exact RU.ob_op rfl (RU.wanted_none rfl) (wp_load_mid 33 (.tmp 2) rfl (D) (0) q2 (nc x) _ (range_below RX.out hO' hDX.out) Tryd.underlying33 rfl (size_nc HX.out) ⟨rfl, hO⟩)
      · refine RU.ObT.silent rfl (fun a W k0 V hO hf hp hk => ?_)
        have hO' : Below U.heap.size U W := hO
        have e5 : a.eval (.tmp 5) = .agg (nc x).toArray := hp 0 5 rfl
        refine RU.ob_call (g := 49) (args := #[.agg (nc x).toArray]) rfl (RU.wanted_none rfl) (fun ev he hc => ?_) ((HGD.out W).mono ?_)
        · have h5 := (he (.tmp 5)).trans e5
          have hfn := he (.func 49)
          simp only [List.getElem_toArray, List.getElem_cons_succ, List.getElem_cons_zero, execOp, Option.map_some, Option.map_none]
          simp only [resolve, invoke, Sem.run_bind, Sem.run_pure, Result.andThen_ok, List.map_toArray, List.map_cons, List.map_nil, h5, hfn, Act.eval, hc]
          rfl
        · rintro e' W2 ⟨rfl, hb2⟩
          exact ⟨_, rfl, rfl, (hO'.trans (hb2.mono hO'.size) : Below U.heap.size U W2)⟩
      · refine RU.ObT.pure rfl rfl rfl (fun a V hf hp ev he hc W => ?_)
        have q6 : ev (.tmp 6) = .bool false := (he (.tmp 6)).trans (hp 1 6 rfl)
        simp only [List.getElem_toArray, List.getElem_cons_succ, List.getElem_cons_zero, execOp, Option.map_some, Option.map_none]; rw [q6]
        first | (go_simp; done) | (go_simp; rfl) | rfl
      · exact RU.ObT.skip (g := 2) (d := 7) rfl rfl rfl rfl rfl rfl (fun U h => by cases h) rfl
      · exact RU.ObT.skip (g := 2) (d := 7) rfl rfl rfl rfl rfl rfl (fun U h => by cases h) rfl
      · exact RU.ObT.skip (g := 2) (d := 7) rfl rfl rfl rfl rfl rfl (fun U h => by cases h) rfl
      · exact RU.ObT.skip (g := 2) (d := 7) rfl rfl rfl rfl rfl rfl (fun U h => by cases h) rfl
      · exact RU.ObT.skip (g := 2) (d := 7) rfl rfl rfl rfl rfl rfl (fun U h => by cases h) rfl
      · exact RU.ObT.skip (g := 2) (d := 7) rfl rfl rfl rfl rfl rfl (fun U h => by cases h) rfl
      · exact RU.ObT.skip (g := 2) (d := 7) rfl rfl rfl rfl rfl rfl (fun U h => by cases h) rfl
      · exact RU.ObT.skip (g := 2) (d := 7) rfl rfl rfl rfl rfl rfl (fun U h => by cases h) rfl
      · exact RU.ObT.skip (g := 2) (d := 7) rfl rfl rfl rfl rfl rfl (fun U h => by cases h) rfl
      · refine RU.ObT.pure rfl rfl rfl (fun a V hf hp ev he hc W => ?_)
        have q7 : ev (.tmp 7) = .bool false := (he (.tmp 7)).trans (hp 2 7 rfl)
        have q16 : ev (.tmp 16) = undef := (he (.tmp 16)).trans (hp 11 16 rfl)
        simp only [List.getElem_toArray, List.getElem_cons_succ, List.getElem_cons_zero, execOp, Option.map_some, Option.map_none]; rw [q7, q16]
        try simp only [hc]
        first | (go_simp; done) | (go_simp; rfl) | rfl
      · refine RU.ObT.pure rfl rfl rfl (fun a V hf hp ev he hc W => ?_)
        have q17 : ev (.tmp 17) = .bool false := (he (.tmp 17)).trans (hp 12 17 rfl)
        simp only [List.getElem_toArray, List.getElem_cons_succ, List.getElem_cons_zero, execOp, Option.map_some, Option.map_none]; rw [q17]
        first | (go_simp; done) | (go_simp; rfl) | rfl
    intro W1 VW1 hOW1
    have BW1 : Hid (Below U.heap.size U W1) := hOW1
    clear hOW1
    simp only [RU.lay, RU.val, RU.at', rhl2f, Act.put]
    simp only [List.setIfInBounds_toArray, List.set_cons_succ, List.set_cons_zero]
    go_wp2_with fail
    go_ret
    exact ⟨by rw [HR.out]; rfl, BU.out.trans (BW1.out.mono BU.out.size)⟩
end Go.Proofs.YtpojalbpekbfdabDoor
