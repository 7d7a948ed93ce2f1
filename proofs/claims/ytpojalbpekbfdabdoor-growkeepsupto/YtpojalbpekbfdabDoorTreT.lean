/- Package tree: Good, Holds, byPrefix, apart. -/
import Derived.Test.YtpojalbpekbfdabDoorTreS
namespace Go.Proofs.YtpojalbpekbfdabDoor
open Go Go.RowKit
set_option linter.unusedSimpArgs false
set_option linter.unusedVariables false
set_option maxRecDepth 100000


theorem cmp_items (x y : List Int) (hx : x.length = 32) (hy : y.length = 32) (d : Nat) (w : World) : ∀ is : List Nat, (∀ i ∈ is, i < 32) →
    (Op.eqItems (d + 1) 5 (Tryd.prog.cellsOf 5) (bv x).toArray (bv y).toArray is).run Tryd.prog w = .ok (is.all fun i => gi x i == gi y i) w
  | [], _ => by simp [Op.eqItems]
  | i :: is, h => by
    have hi := h i (by simp)
    have hc : Tryd.prog.cellsOf 5 = 1 := by kernel_rfl
    have hp : Tryd.prog.plainKey 5 = true := by kernel_rfl
    have p1 := run_part_plain (P := Tryd.prog) w hp (xs := (bv x).toArray) (off := i) (v := .int .u8 (gi x i)) (by rw [List.getElem?_toArray]; exact bv_get x (by omega))
    have p2 := run_part_plain (P := Tryd.prog) w hp (xs := (bv y).toArray) (off := i) (v := .int .u8 (gi y i)) (by rw [List.getElem?_toArray]; exact bv_get y (by omega))
    have p3 := run_equalIn_int (P := Tryd.prog) w d 5 .u8 .u8 (gi x i) (gi y i) Tryd.underlying5
    have ih := cmp_items x y hx hy d w is (fun j hj => h j (by simp [hj]))
    rw [hc] at ih
    simp only [Op.eqItems, hc, Nat.mul_one, Sem.run_bind, p1, p2, p3, Result.andThen_ok, List.all_cons]
    cases hq : (gi x i == gi y i) with
    | true => simp only [Bool.not_true, Bool.false_eq_true, if_false, Bool.true_and]; exact ih
    | false => simp
theorem all_gi {x y : List Int} (hx : x.length = 32) (hy : y.length = 32) : ((List.range 32).all fun i => gi x i == gi y i) = decide (x = y) := by
  by_cases h : x = y
  · subst h; simp
  · rw [decide_eq_false h, List.all_eq_false]
    refine Classical.byContradiction fun hn => h ?_
    apply List.ext_getElem (by omega)
    intro i h1 h2
    have : gi x i = gi y i := by
      refine Classical.byContradiction fun hne => hn ⟨i, List.mem_range.2 (by omega), ?_⟩
      simpa using hne
    simpa [gi, h1, h2] using this

theorem eq_32 {x y : List Int} (hx : L32 x) (hy : L32 y) (w : World) : (Op.equalIn 10000 25 (.agg (bv x).toArray) (.agg (bv y).toArray)).run Tryd.prog w = .ok (decide (x = y)) w := by
  obtain ⟨i, hi⟩ : ∃ i, Tryd.prog.info? 5 = some i := by
    cases h : Tryd.prog.info? 5 with
    | none => have := size_u8'; rw [h] at this; cases this
    | some i => exact ⟨i, rfl⟩
  have := run_equalIn_array (P := Tryd.prog) w 9999 (bv x).toArray (bv y).toArray Tryd.underlying25 hi
  rw [cmp_items x y hx.len hy.len 9998 w _ (fun i hi => List.mem_range.1 hi), all_gi hx.len hy.len] at this
  exact this
theorem eql_32 {x y : List Int} (hx : L32 x) (hy : L32 y) (w : World) : (binOp .eql 25 (.agg (bv x).toArray) (.agg (bv y).toArray)).run Tryd.prog w = .ok (.bool (decide (x = y))) w := by
  have h : (Op.equalIn Op.maxDepth 25 (.agg (bv x).toArray) (.agg (bv y).toArray)).run Tryd.prog w = .ok (decide (x = y)) w := eq_32 hx hy w
  simp [binOp, h, Op.equal, go_sem]
theorem eqg_32 (op : BinOp) (x y : Operand) (a b : Array Value) (w : World) : (eqGuard op 25 x y (.agg a) (.agg b)).run Tryd.prog w = .ok () w := by
  have h : Tryd.prog.eqGuardType Tryd.prog.depth 25 = false := by kernel_rfl
  unfold eqGuard
  cases op <;> first | (simp [h, Result.andThen]; done) | kernel_rfl
theorem neq_32 {x y : List Int} (hx : L32 x) (hy : L32 y) (w : World) : (binOp .neq 25 (.agg (bv x).toArray) (.agg (bv y).toArray)).run Tryd.prog w = .ok (.bool (!decide (x = y))) w := by
  have h : (Op.equalIn Op.maxDepth 25 (.agg (bv x).toArray) (.agg (bv y).toArray)).run Tryd.prog w = .ok (decide (x = y)) w := eq_32 hx hy w
  simp [binOp, h, Op.equal, go_sem]
def gd1f (n : Int) (p q : List Int) (r : Bool) (D : Nat) : Nat → Value
  | 0 => .pointer (some ⟨D, 0, none⟩)
  | 1 => .int .i64 n
  | 2 => .bool false
  | 3 => .bool false
  | 4 => undef
  | 5 => undef
  | 6 => undef
  | 7 => .bool false
  | 8 => .bool false
  | 9 => undef
  | 10 => undef
  | 11 => undef
  | 12 => undef
  | 13 => undef
  | 14 => undef
  | 15 => undef
  | 16 => undef
  | 17 => .bool false
  | 18 => .bool false
  | _ => undef
def gd2f (n : Int) (p q : List Int) (r : Bool) (D : Nat) : Nat → Value
  | 0 => .pointer (some ⟨D, 0, none⟩)
  | 1 => .int .i64 n
  | 2 => .bool true
  | 3 => .bool true
  | 4 => .pointer (some ⟨D, 0, none⟩)
  | 5 => .int .i64 n
  | 6 => .bool false
  | 7 => .bool false
  | 8 => .bool false
  | 9 => undef
  | 10 => undef
  | 11 => undef
  | 12 => undef
  | 13 => undef
  | 14 => undef
  | 15 => undef
  | 16 => undef
  | 17 => .bool false
  | 18 => .bool false
  | _ => undef
def gd3f (n : Int) (p q : List Int) (r : Bool) (D : Nat) : Nat → Value
  | 0 => .pointer (some ⟨D, 0, none⟩)
  | 1 => .int .i64 n
  | 2 => .bool true
  | 3 => .bool true
  | 4 => .pointer (some ⟨D, 0, none⟩)
  | 5 => .int .i64 n
  | 6 => .bool true
  | 7 => .bool true
  | 8 => .bool true
  | 9 => .pointer (some ⟨D, 1, none⟩)
  | 10 => .agg (bv p).toArray
  | 11 => .pointer (some ⟨D, 1, none⟩)
  | 12 => .agg (bv p).toArray
  | 13 => .pointer (some ⟨D, 0, none⟩)
  | 14 => .int .i64 n
  | 15 => .agg (bv q).toArray
  | 16 => .bool r
  | 17 => .bool r
  | 18 => .bool r
  | _ => undef
set_option maxHeartbeats 4000000 in
theorem good_any (x : Nd) (hx : x.Ok) (w : World) :
    Calls Tryd.prog 23 #[.agg (nc x).toArray] w fun e w' => e = .returned (.bool (gd x)) ∧ Below w.heap.size w w' := by
  have s1 := nc_size hx
  have R00 := range_alloc w (nc x) 33 (0, 0)
  obtain ⟨A, hA⟩ : ∃ A, (nc x).toArray = A := ⟨_, rfl⟩
  rw [hA] at s1 R00 ⊢
  obtain ⟨n, hn⟩ : ∃ n, x.n = n := ⟨_, rfl⟩
  obtain ⟨p, hp⟩ : ∃ p, x.p = p := ⟨_, rfl⟩
  have HN : Hid (x.n = n) := hn
  have HPE : Hid (x.p = p) := hp
  have HP : Hid (L32 p) := by rw [← hp]; exact hx.p
  have hBB : Below w.heap.size w (w.alloc (.cells A 33)) := (Below.refl _ w).alloc (Nat.le_refl _) _
  clear hA hn hp
  go_enter Tryd.func23, Tryd.ntmps23
  go_wp2_with fail
  obtain ⟨U, hU⟩ : ∃ U, w.alloc (.cells A 33) = U := ⟨_, rfl⟩
  have hDW0 : w.heap.size < U.heap.size := by rw [← hU]; simp
  rw [hU] at R00 hBB ⊢
  have BU : Hid (Below w.heap.size w U) := hBB
  obtain ⟨D, hD⟩ : ∃ D, w.heap.size = D := ⟨_, rfl⟩
  rw [hD] at R00 hDW0 ⊢
  have hDW : Hid (D < U.heap.size) := hDW0
  have R0 : Hid (U.rangeAt D 0 (nc x)) := R00
  have RP : Hid (U.rangeAt D 1 (bv p)) := by have := nc_p R00; rw [HPE.out] at this; exact this
  have HDD : Hid (w.heap.size = D) := hD
  clear hU R00 hBB hDW0 hD
  obtain ⟨q, hq⟩ : ∃ q, q = fb p n.toNat := ⟨_, rfl⟩
  obtain ⟨r, hr⟩ : ∃ r, r = decide (p = q) := ⟨_, rfl⟩
  by_cases h0 : 0 ≤ n
  · by_cases h1 : n ≤ 256
    · have HG : Hid (gd x = r) := by
        show gd x = r
        unfold gd
        rw [HN.out, HPE.out, hr, hq, decide_eq_true h0, decide_eq_true h1, Bool.true_and, Bool.true_and]
        exact decide_eq_decide.2 eq_comm
      have HFB : Hid (∀ W : World, Calls Tryd.prog 38 #[.agg (bv p).toArray, .int .i64 n] W fun e w' => e = .returned (.agg (bv q).toArray) ∧ Below W.heap.size W w') := fun W => by
        have := firstBits_any p HP.out n.toNat (by omega) W
        rw [Int.toNat_of_nonneg h0, ← hq] at this; exact this
      have HEQ : Hid (∀ W : World, (binOp .eql 25 (.agg (bv p).toArray) (.agg (bv q).toArray)).run Tryd.prog W = .ok (.bool r) W) := fun W => by
        have := eql_32 HP.out (hq ▸ fb_l32 HP.out _) W
        rw [← hr] at this; exact this
      clear hq hr
      refine RU.wp_rgn' [] (gd3f n p q r D) (fun _ => 0) (gΩ U) (by kernel_rfl) (by kernel_rfl) (show Below U.heap.size U _ from (Below.refl _ _).drew) ?_ ?_
      · refine ⟨?_, ?_, ?_, ?_, ?_, ?_, ?_, ?_, ?_, ?_, ?_, ?_, ?_, ?_, ?_, ?_, ?_, ?_, ?_, trivial⟩
        · refine RU.ObT.pure rfl rfl rfl (fun a V hf hp ev he hc W => ?_)
          have q1 : ev (.tmp 1) = .pointer (some ⟨D, 0, none⟩) := (he (.tmp 1)).trans (hf 1 rfl)
          simp only [List.getElem_toArray, List.getElem_cons_succ, List.getElem_cons_zero, execOp, Option.map_some, Option.map_none]; rw [q1]
          first | (go_simp; done) | (go_simp; rfl) | rfl
        · refine RU.ObT.silent rfl (fun a W k0 V hO hf hp hk => ?_)
          have hO' : Below U.heap.size U W := hO
          have hcell := nc_n (range_below R0.out hO' hDW.out)
          rw [HN.out] at hcell
          refine RU.ob_val rfl (RU.wanted_none rfl) (fun ev he hc => ?_) ⟨rfl, hO⟩
          have q3 : ev (.tmp 3) = .pointer (some ⟨D, 0, none⟩) := (he (.tmp 3)).trans (hp 0 3 rfl)
          simp only [List.getElem_toArray, List.getElem_cons_succ, List.getElem_cons_zero, execOp, Option.map_some, Option.map_none]; rw [q3]
          first | (go_simp; done) | (go_simp; rfl) | rfl
        · refine RU.ObT.pure rfl rfl rfl (fun a V hf hp ev he hc W => ?_)
          have q4 : ev (.tmp 4) = .int .i64 n := (he (.tmp 4)).trans (hp 1 4 rfl)
          simp only [List.getElem_toArray, List.getElem_cons_succ, List.getElem_cons_zero, execOp, Option.map_some, Option.map_none]; rw [q4]
          try simp only [hc]
          first | (go_simp; done) | (go_simp; rfl) | rfl
        · refine RU.ObT.pure rfl rfl rfl (fun a V hf hp ev he hc W => ?_)
          have q5 : ev (.tmp 5) = .bool true := (he (.tmp 5)).trans (hp 2 5 rfl)
          simp only [List.getElem_toArray, List.getElem_cons_succ, List.getElem_cons_zero, execOp, Option.map_some, Option.map_none]; rw [q5]
          first | (go_simp; done) | (go_simp; rfl) | rfl
        · refine RU.ObT.silent rfl (fun a W k0 V hO hf hp hk => ?_)
          have hg : a.eval (.tmp 6) = .bool true := hp 3 6 rfl
          refine RU.ob_val rfl (RU.wanted_some rfl rfl rfl hg) (fun ev he hc => ?_) ⟨rfl, hO⟩
          have q1 : ev (.tmp 1) = .pointer (some ⟨D, 0, none⟩) := (he (.tmp 1)).trans (hf 1 rfl)
          simp only [List.getElem_toArray, List.getElem_cons_succ, List.getElem_cons_zero, execOp, Option.map_some, Option.map_none]; rw [q1]
          first | (go_simp; done) | (go_simp; rfl) | rfl
        · refine RU.ObT.silent rfl (fun a W k0 V hO hf hp hk => ?_)
          have hg : a.eval (.tmp 6) = .bool true := hp 3 6 rfl
          have hO' : Below U.heap.size U W := hO
          have hcell := nc_n (range_below R0.out hO' hDW.out)
          rw [HN.out] at hcell
          refine RU.ob_val rfl (RU.wanted_some rfl rfl rfl hg) (fun ev he hc => ?_) ⟨rfl, hO⟩
          have q7 : ev (.tmp 7) = .pointer (some ⟨D, 0, none⟩) := (he (.tmp 7)).trans (hp 4 7 rfl)
          simp only [List.getElem_toArray, List.getElem_cons_succ, List.getElem_cons_zero, execOp, Option.map_some, Option.map_none]; rw [q7]
          first | (go_simp; done) | (go_simp; rfl) | rfl
        · refine RU.ObT.silent rfl (fun a W k0 V hO hf hp hk => ?_)
          have hg : a.eval (.tmp 6) = .bool true := hp 3 6 rfl
          refine RU.ob_val rfl (RU.wanted_some rfl rfl rfl hg) (fun ev he hc => ?_) ⟨rfl, hO⟩
          have q8 : ev (.tmp 8) = .int .i64 n := (he (.tmp 8)).trans (hp 5 8 rfl)
          simp only [List.getElem_toArray, List.getElem_cons_succ, List.getElem_cons_zero, execOp, Option.map_some, Option.map_none]; rw [q8]
          try simp only [hc]
          first | (go_simp; done) | (go_simp; rfl) | rfl
        · refine RU.ObT.pure rfl rfl rfl (fun a V hf hp ev he hc W => ?_)
          have q6 : ev (.tmp 6) = .bool true := (he (.tmp 6)).trans (hp 3 6 rfl)
          have q9 : ev (.tmp 9) = .bool true := (he (.tmp 9)).trans (hp 6 9 rfl)
          simp only [List.getElem_toArray, List.getElem_cons_succ, List.getElem_cons_zero, execOp, Option.map_some, Option.map_none]; rw [q6, q9]
          try simp only [hc]
          first | (go_simp; done) | (go_simp; rfl) | rfl
        · refine RU.ObT.pure rfl rfl rfl (fun a V hf hp ev he hc W => ?_)
          have q10 : ev (.tmp 10) = .bool true := (he (.tmp 10)).trans (hp 7 10 rfl)
          simp only [List.getElem_toArray, List.getElem_cons_succ, List.getElem_cons_zero, execOp, Option.map_some, Option.map_none]; rw [q10]
          first | (go_simp; done) | (go_simp; rfl) | rfl
        · refine RU.ObT.silent rfl (fun a W k0 V hO hf hp hk => ?_)
          have hg : a.eval (.tmp 11) = .bool true := hp 8 11 rfl
          refine RU.ob_val rfl (RU.wanted_some rfl rfl rfl hg) (fun ev he hc => ?_) ⟨rfl, hO⟩
          have q1 : ev (.tmp 1) = .pointer (some ⟨D, 0, none⟩) := (he (.tmp 1)).trans (hf 1 rfl)
          simp only [List.getElem_toArray, List.getElem_cons_succ, List.getElem_cons_zero, execOp, Option.map_some, Option.map_none]; rw [q1]
          first | (go_simp; done) | (go_simp; rfl) | rfl
        · refine RU.ObT.silent rfl (fun a W k0 V hO hf hp hk => ?_)
          have hg : a.eval (.tmp 11) = .bool true := hp 8 11 rfl
          have hO' : Below U.heap.size U W := hO
          have q12 : a.eval (.tmp 12) = .pointer (some ⟨D, 1, none⟩) := hp 9 12 rfl
          exact RU.ob_op rfl (RU.wanted_some rfl rfl rfl hg) (wp_load_mid 25 (.tmp 12) rfl (D) (1) q12 (bv p) _ (range_below RP.out hO' hDW.out) Tryd.underlying25 rfl (size_l32 HP.out) ⟨rfl, hO⟩)
        · refine RU.ObT.silent rfl (fun a W k0 V hO hf hp hk => ?_)
          have hg : a.eval (.tmp 11) = .bool true := hp 8 11 rfl
          refine RU.ob_val rfl (RU.wanted_some rfl rfl rfl hg) (fun ev he hc => ?_) ⟨rfl, hO⟩
          have q1 : ev (.tmp 1) = .pointer (some ⟨D, 0, none⟩) := (he (.tmp 1)).trans (hf 1 rfl)
          simp only [List.getElem_toArray, List.getElem_cons_succ, List.getElem_cons_zero, execOp, Option.map_some, Option.map_none]; rw [q1]
          first | (go_simp; done) | (go_simp; rfl) | rfl
        · refine RU.ObT.silent rfl (fun a W k0 V hO hf hp hk => ?_)
          have hg : a.eval (.tmp 11) = .bool true := hp 8 11 rfl
          have hO' : Below U.heap.size U W := hO
          have q14 : a.eval (.tmp 14) = .pointer (some ⟨D, 1, none⟩) := hp 11 14 rfl
          exact RU.ob_op rfl (RU.wanted_some rfl rfl rfl hg) (wp_load_mid 25 (.tmp 14) rfl (D) (1) q14 (bv p) _ (range_below RP.out hO' hDW.out) Tryd.underlying25 rfl (size_l32 HP.out) ⟨rfl, hO⟩)
        · refine RU.ObT.silent rfl (fun a W k0 V hO hf hp hk => ?_)
          have hg : a.eval (.tmp 11) = .bool true := hp 8 11 rfl
          refine RU.ob_val rfl (RU.wanted_some rfl rfl rfl hg) (fun ev he hc => ?_) ⟨rfl, hO⟩
          have q1 : ev (.tmp 1) = .pointer (some ⟨D, 0, none⟩) := (he (.tmp 1)).trans (hf 1 rfl)
          simp only [List.getElem_toArray, List.getElem_cons_succ, List.getElem_cons_zero, execOp, Option.map_some, Option.map_none]; rw [q1]
          first | (go_simp; done) | (go_simp; rfl) | rfl
        · refine RU.ObT.silent rfl (fun a W k0 V hO hf hp hk => ?_)
          have hg : a.eval (.tmp 11) = .bool true := hp 8 11 rfl
          have hO' : Below U.heap.size U W := hO
          have hcell := nc_n (range_below R0.out hO' hDW.out)
          rw [HN.out] at hcell
          refine RU.ob_val rfl (RU.wanted_some rfl rfl rfl hg) (fun ev he hc => ?_) ⟨rfl, hO⟩
          have q16 : ev (.tmp 16) = .pointer (some ⟨D, 0, none⟩) := (he (.tmp 16)).trans (hp 13 16 rfl)
          simp only [List.getElem_toArray, List.getElem_cons_succ, List.getElem_cons_zero, execOp, Option.map_some, Option.map_none]; rw [q16]
          first | (go_simp; done) | (go_simp; rfl) | rfl
        · refine RU.ObT.silent rfl (fun a W k0 V hO hf hp hk => ?_)
          have hg : a.eval (.tmp 11) = .bool true := hp 8 11 rfl
          have hO' : Below U.heap.size U W := hO
          have e15 : a.eval (.tmp 15) = .agg (bv p).toArray := hp 12 15 rfl
          have e17 : a.eval (.tmp 17) = .int .i64 n := hp 14 17 rfl
          refine RU.ob_call (g := 38) (args := #[.agg (bv p).toArray, .int .i64 n]) rfl (RU.wanted_some rfl rfl rfl hg) (fun ev he hc => ?_) ((HFB.out W).mono ?_)
          · have h15 := (he (.tmp 15)).trans e15
            have h17 := (he (.tmp 17)).trans e17
            have hfn := he (.func 38)
            simp only [List.getElem_toArray, List.getElem_cons_succ, List.getElem_cons_zero, execOp, Option.map_some, Option.map_none]
            simp only [resolve, invoke, Sem.run_bind, Sem.run_pure, Result.andThen_ok, List.map_toArray, List.map_cons, List.map_nil, h15, h17, hfn, Act.eval, hc]
            rfl
          · rintro e' W2 ⟨rfl, hb2⟩
            exact ⟨_, rfl, rfl, (hO'.trans (hb2.mono hO'.size) : gΩ U k0 V W2)⟩
        · refine RU.ObT.silent rfl (fun a W k0 V hO hf hp hk => ?_)
          have hg : a.eval (.tmp 11) = .bool true := hp 8 11 rfl
          refine RU.ob_val rfl (RU.wanted_some rfl rfl rfl hg) (fun ev he hc => ?_) ⟨rfl, hO⟩
          have q13 : ev (.tmp 13) = .agg (bv p).toArray := (he (.tmp 13)).trans (hp 10 13 rfl)
          have q18 : ev (.tmp 18) = .agg (bv q).toArray := (he (.tmp 18)).trans (hp 15 18 rfl)
          simp only [List.getElem_toArray, List.getElem_cons_succ, List.getElem_cons_zero, execOp, Option.map_some, Option.map_none]; rw [q13, q18]
          simp only [Sem.run_bind, eqg_32, HEQ.out W, Result.andThen_ok, Sem.run_pure]; rfl
        · refine RU.ObT.pure rfl rfl rfl (fun a V hf hp ev he hc W => ?_)
          have q11 : ev (.tmp 11) = .bool true := (he (.tmp 11)).trans (hp 8 11 rfl)
          have q19 : ev (.tmp 19) = .bool r := (he (.tmp 19)).trans (hp 16 19 rfl)
          simp only [List.getElem_toArray, List.getElem_cons_succ, List.getElem_cons_zero, execOp, Option.map_some, Option.map_none]; rw [q11, q19]
          try simp only [hc]
          first | (go_simp; done) | (go_simp; rfl) | rfl
        · refine RU.ObT.pure rfl rfl rfl (fun a V hf hp ev he hc W => ?_)
          have q20 : ev (.tmp 20) = .bool r := (he (.tmp 20)).trans (hp 17 20 rfl)
          simp only [List.getElem_toArray, List.getElem_cons_succ, List.getElem_cons_zero, execOp, Option.map_some, Option.map_none]; rw [q20]
          first | (go_simp; done) | (go_simp; rfl) | rfl
      intro W1 VW1 hOW1
      have BW1 : Hid (Below U.heap.size U W1) := hOW1
      clear hOW1
      simp only [RU.lay, RU.val, RU.at', gd3f, Act.put]
      simp only [List.setIfInBounds_toArray, List.set_cons_succ, List.set_cons_zero]
      go_wp2_with fail
      go_ret
      exact ⟨by rw [HG.out]; rfl, BU.out.trans (BW1.out.mono BU.out.size)⟩
    · have HG : Hid (gd x = false) := by
        show gd x = false
        unfold gd; rw [HN.out, decide_eq_false h1, Bool.false_and, Bool.and_false]
      clear hq hr
      refine RU.wp_rgn' [] (gd2f n p q r D) (fun _ => 0) (gΩ U) (by kernel_rfl) (by kernel_rfl) (show Below U.heap.size U _ from (Below.refl _ _).drew) ?_ ?_
      · refine ⟨?_, ?_, ?_, ?_, ?_, ?_, ?_, ?_, ?_, ?_, ?_, ?_, ?_, ?_, ?_, ?_, ?_, ?_, ?_, trivial⟩
        · refine RU.ObT.pure rfl rfl rfl (fun a V hf hp ev he hc W => ?_)
          have q1 : ev (.tmp 1) = .pointer (some ⟨D, 0, none⟩) := (he (.tmp 1)).trans (hf 1 rfl)
          simp only [List.getElem_toArray, List.getElem_cons_succ, List.getElem_cons_zero, execOp, Option.map_some, Option.map_none]; rw [q1]
          first | (go_simp; done) | (go_simp; rfl) | rfl
        · refine RU.ObT.silent rfl (fun a W k0 V hO hf hp hk => ?_)
          have hO' : Below U.heap.size U W := hO
          have hcell := nc_n (range_below R0.out hO' hDW.out)
          rw [HN.out] at hcell
          refine RU.ob_val rfl (RU.wanted_none rfl) (fun ev he hc => ?_) ⟨rfl, hO⟩
          have q3 : ev (.tmp 3) = .pointer (some ⟨D, 0, none⟩) := (he (.tmp 3)).trans (hp 0 3 rfl)
          simp only [List.getElem_toArray, List.getElem_cons_succ, List.getElem_cons_zero, execOp, Option.map_some, Option.map_none]; rw [q3]
          first | (go_simp; done) | (go_simp; rfl) | rfl
        · refine RU.ObT.pure rfl rfl rfl (fun a V hf hp ev he hc W => ?_)
          have q4 : ev (.tmp 4) = .int .i64 n := (he (.tmp 4)).trans (hp 1 4 rfl)
          simp only [List.getElem_toArray, List.getElem_cons_succ, List.getElem_cons_zero, execOp, Option.map_some, Option.map_none]; rw [q4]
          try simp only [hc]
          first | (go_simp; done) | (go_simp; rfl) | rfl
        · refine RU.ObT.pure rfl rfl rfl (fun a V hf hp ev he hc W => ?_)
          have q5 : ev (.tmp 5) = .bool true := (he (.tmp 5)).trans (hp 2 5 rfl)
          simp only [List.getElem_toArray, List.getElem_cons_succ, List.getElem_cons_zero, execOp, Option.map_some, Option.map_none]; rw [q5]
          first | (go_simp; done) | (go_simp; rfl) | rfl
        · refine RU.ObT.silent rfl (fun a W k0 V hO hf hp hk => ?_)
          have hg : a.eval (.tmp 6) = .bool true := hp 3 6 rfl
          refine RU.ob_val rfl (RU.wanted_some rfl rfl rfl hg) (fun ev he hc => ?_) ⟨rfl, hO⟩
          have q1 : ev (.tmp 1) = .pointer (some ⟨D, 0, none⟩) := (he (.tmp 1)).trans (hf 1 rfl)
          simp only [List.getElem_toArray, List.getElem_cons_succ, List.getElem_cons_zero, execOp, Option.map_some, Option.map_none]; rw [q1]
          first | (go_simp; done) | (go_simp; rfl) | rfl
        · refine RU.ObT.silent rfl (fun a W k0 V hO hf hp hk => ?_)
          have hg : a.eval (.tmp 6) = .bool true := hp 3 6 rfl
          have hO' : Below U.heap.size U W := hO
          have hcell := nc_n (range_below R0.out hO' hDW.out)
          rw [HN.out] at hcell
          refine RU.ob_val rfl (RU.wanted_some rfl rfl rfl hg) (fun ev he hc => ?_) ⟨rfl, hO⟩
          have q7 : ev (.tmp 7) = .pointer (some ⟨D, 0, none⟩) := (he (.tmp 7)).trans (hp 4 7 rfl)
          simp only [List.getElem_toArray, List.getElem_cons_succ, List.getElem_cons_zero, execOp, Option.map_some, Option.map_none]; rw [q7]
          first | (go_simp; done) | (go_simp; rfl) | rfl
        · refine RU.ObT.silent rfl (fun a W k0 V hO hf hp hk => ?_)
          have hg : a.eval (.tmp 6) = .bool true := hp 3 6 rfl
          refine RU.ob_val rfl (RU.wanted_some rfl rfl rfl hg) (fun ev he hc => ?_) ⟨rfl, hO⟩
          have q8 : ev (.tmp 8) = .int .i64 n := (he (.tmp 8)).trans (hp 5 8 rfl)
          simp only [List.getElem_toArray, List.getElem_cons_succ, List.getElem_cons_zero, execOp, Option.map_some, Option.map_none]; rw [q8]
          try simp only [hc]
          first | (go_simp; done) | (go_simp; rfl) | rfl
        · refine RU.ObT.pure rfl rfl rfl (fun a V hf hp ev he hc W => ?_)
          have q6 : ev (.tmp 6) = .bool true := (he (.tmp 6)).trans (hp 3 6 rfl)
          have q9 : ev (.tmp 9) = .bool false := (he (.tmp 9)).trans (hp 6 9 rfl)
          simp only [List.getElem_toArray, List.getElem_cons_succ, List.getElem_cons_zero, execOp, Option.map_some, Option.map_none]; rw [q6, q9]
          try simp only [hc]
          first | (go_simp; done) | (go_simp; rfl) | rfl
        · refine RU.ObT.pure rfl rfl rfl (fun a V hf hp ev he hc W => ?_)
          have q10 : ev (.tmp 10) = .bool false := (he (.tmp 10)).trans (hp 7 10 rfl)
          simp only [List.getElem_toArray, List.getElem_cons_succ, List.getElem_cons_zero, execOp, Option.map_some, Option.map_none]; rw [q10]
          first | (go_simp; done) | (go_simp; rfl) | rfl
        · exact RU.ObT.skip (g := 8) (d := 11) rfl rfl rfl rfl rfl rfl (fun U h => by cases h) rfl
        · exact RU.ObT.skip (g := 8) (d := 11) rfl rfl rfl rfl rfl rfl (fun U h => by cases h) rfl
        · exact RU.ObT.skip (g := 8) (d := 11) rfl rfl rfl rfl rfl rfl (fun U h => by cases h) rfl
        · exact RU.ObT.skip (g := 8) (d := 11) rfl rfl rfl rfl rfl rfl (fun U h => by cases h) rfl
        · exact RU.ObT.skip (g := 8) (d := 11) rfl rfl rfl rfl rfl rfl (fun U h => by cases h) rfl
        · exact RU.ObT.skip (g := 8) (d := 11) rfl rfl rfl rfl rfl rfl (fun U h => by cases h) rfl
        · exact RU.ObT.skip (g := 8) (d := 11) rfl rfl rfl rfl rfl rfl (fun U h => by cases h) rfl
        · exact RU.ObT.skip (g := 8) (d := 11) rfl rfl rfl rfl rfl rfl (fun U h => by cases h) rfl
        · refine RU.ObT.pure rfl rfl rfl (fun a V hf hp ev he hc W => ?_)
          have q11 : ev (.tmp 11) = .bool false := (he (.tmp 11)).trans (hp 8 11 rfl)
          have q19 : ev (.tmp 19) = undef := (he (.tmp 19)).trans (hp 16 19 rfl)
          simp only [List.getElem_toArray, List.getElem_cons_succ, List.getElem_cons_zero, execOp, Option.map_some, Option.map_none]; rw [q11, q19]
          try simp only [hc]
          first | (go_simp; done) | (go_simp; rfl) | rfl
        · refine RU.ObT.pure rfl rfl rfl (fun a V hf hp ev he hc W => ?_)
          have q20 : ev (.tmp 20) = .bool false := (he (.tmp 20)).trans (hp 17 20 rfl)
          simp only [List.getElem_toArray, List.getElem_cons_succ, List.getElem_cons_zero, execOp, Option.map_some, Option.map_none]; rw [q20]
          first | (go_simp; done) | (go_simp; rfl) | rfl
      intro W1 VW1 hOW1
      have BW1 : Hid (Below U.heap.size U W1) := hOW1
      clear hOW1
      simp only [RU.lay, RU.val, RU.at', gd2f, Act.put]
      simp only [List.setIfInBounds_toArray, List.set_cons_succ, List.set_cons_zero]
      go_wp2_with fail
      go_ret
      exact ⟨by rw [HG.out]; rfl, BU.out.trans (BW1.out.mono BU.out.size)⟩
  · have HG : Hid (gd x = false) := by
      show gd x = false
      unfold gd; rw [HN.out, decide_eq_false h0, Bool.false_and]
    clear hq hr
    refine RU.wp_rgn' [] (gd1f n p q r D) (fun _ => 0) (gΩ U) (by kernel_rfl) (by kernel_rfl) (show Below U.heap.size U _ from (Below.refl _ _).drew) ?_ ?_
    · refine ⟨?_, ?_, ?_, ?_, ?_, ?_, ?_, ?_, ?_, ?_, ?_, ?_, ?_, ?_, ?_, ?_, ?_, ?_, ?_, trivial⟩
      · refine RU.ObT.pure rfl rfl rfl (fun a V hf hp ev he hc W => ?_)
        have q1 : ev (.tmp 1) = .pointer (some ⟨D, 0, none⟩) := (he (.tmp 1)).trans (hf 1 rfl)
        simp only [List.getElem_toArray, List.getElem_cons_succ, List.getElem_cons_zero, execOp, Option.map_some, Option.map_none]; rw [q1]
        first | (go_simp; done) | (go_simp; rfl) | rfl
      · refine RU.ObT.silent rfl (fun a W k0 V hO hf hp hk => ?_)
        have hO' : Below U.heap.size U W := hO
        have hcell := nc_n (range_below R0.out hO' hDW.out)
        rw [HN.out] at hcell
        refine RU.ob_val rfl (RU.wanted_none rfl) (fun ev he hc => ?_) ⟨rfl, hO⟩
        have q3 : ev (.tmp 3) = .pointer (some ⟨D, 0, none⟩) := (he (.tmp 3)).trans (hp 0 3 rfl)
        simp only [List.getElem_toArray, List.getElem_cons_succ, List.getElem_cons_zero, execOp, Option.map_some, Option.map_none]; rw [q3]
        first | (go_simp; done) | (go_simp; rfl) | rfl
      · refine RU.ObT.pure rfl rfl rfl (fun a V hf hp ev he hc W => ?_)
        have q4 : ev (.tmp 4) = .int .i64 n := (he (.tmp 4)).trans (hp 1 4 rfl)
        simp only [List.getElem_toArray, List.getElem_cons_succ, List.getElem_cons_zero, execOp, Option.map_some, Option.map_none]; rw [q4]
        try simp only [hc]
        first | (go_simp; done) | (go_simp; rfl) | rfl
      · refine RU.ObT.pure rfl rfl rfl (fun a V hf hp ev he hc W => ?_)
        have q5 : ev (.tmp 5) = .bool false := (he (.tmp 5)).trans (hp 2 5 rfl)
        simp only [List.getElem_toArray, List.getElem_cons_succ, List.getElem_cons_zero, execOp, Option.map_some, Option.map_none]; rw [q5]
        first | (go_simp; done) | (go_simp; rfl) | rfl
      · exact RU.ObT.skip (g := 3) (d := 6) rfl rfl rfl rfl rfl rfl (fun U h => by cases h) rfl
      · exact RU.ObT.skip (g := 3) (d := 6) rfl rfl rfl rfl rfl rfl (fun U h => by cases h) rfl
      · exact RU.ObT.skip (g := 3) (d := 6) rfl rfl rfl rfl rfl rfl (fun U h => by cases h) rfl
      · refine RU.ObT.pure rfl rfl rfl (fun a V hf hp ev he hc W => ?_)
        have q6 : ev (.tmp 6) = .bool false := (he (.tmp 6)).trans (hp 3 6 rfl)
        have q9 : ev (.tmp 9) = undef := (he (.tmp 9)).trans (hp 6 9 rfl)
        simp only [List.getElem_toArray, List.getElem_cons_succ, List.getElem_cons_zero, execOp, Option.map_some, Option.map_none]; rw [q6, q9]
        try simp only [hc]
        first | (go_simp; done) | (go_simp; rfl) | rfl
      · refine RU.ObT.pure rfl rfl rfl (fun a V hf hp ev he hc W => ?_)
        have q10 : ev (.tmp 10) = .bool false := (he (.tmp 10)).trans (hp 7 10 rfl)
        simp only [List.getElem_toArray, List.getElem_cons_succ, List.getElem_cons_zero, execOp, Option.map_some, Option.map_none]; rw [q10]
        first | (go_simp; done) | (go_simp; rfl) | rfl
      · exact RU.ObT.skip (g := 8) (d := 11) rfl rfl rfl rfl rfl rfl (fun U h => by cases h) rfl
      · exact RU.ObT.skip (g := 8) (d := 11) rfl rfl rfl rfl rfl rfl (fun U h => by cases h) rfl
      · exact RU.ObT.skip (g := 8) (d := 11) rfl rfl rfl rfl rfl rfl (fun U h => by cases h) rfl
      · exact RU.ObT.skip (g := 8) (d := 11) rfl rfl rfl rfl rfl rfl (fun U h => by cases h) rfl
      · exact RU.ObT.skip (g := 8) (d := 11) rfl rfl rfl rfl rfl rfl (fun U h => by cases h) rfl
      · exact RU.ObT.skip (g := 8) (d := 11) rfl rfl rfl rfl rfl rfl (fun U h => by cases h) rfl
      · exact RU.ObT.skip (g := 8) (d := 11) rfl rfl rfl rfl rfl rfl (fun U h => by cases h) rfl
      · exact RU.ObT.skip (g := 8) (d := 11) rfl rfl rfl rfl rfl rfl (fun U h => by cases h) rfl
      · refine RU.ObT.pure rfl rfl rfl (fun a V hf hp ev he hc W => ?_)
        have q11 : ev (.tmp 11) = .bool false := (he (.tmp 11)).trans (hp 8 11 rfl)
        have q19 : ev (.tmp 19) = undef := (he (.tmp 19)).trans (hp 16 19 rfl)
        simp only [List.getElem_toArray, List.getElem_cons_succ, List.getElem_cons_zero, execOp, Option.map_some, Option.map_none]; rw [q11, q19]
        try simp only [hc]
        first | (go_simp; done) | (go_simp; rfl) | rfl
      · refine RU.ObT.pure rfl rfl rfl (fun a V hf hp ev he hc W => ?_)
        have q20 : ev (.tmp 20) = .bool false := (he (.tmp 20)).trans (hp 17 20 rfl)
        simp only [List.getElem_toArray, List.getElem_cons_succ, List.getElem_cons_zero, execOp, Option.map_some, Option.map_none]; rw [q20]
        first | (go_simp; done) | (go_simp; rfl) | rfl
    intro W1 VW1 hOW1
    have BW1 : Hid (Below U.heap.size U W1) := hOW1
    clear hOW1
    simp only [RU.lay, RU.val, RU.at', gd1f, Act.put]
    simp only [List.setIfInBounds_toArray, List.set_cons_succ, List.set_cons_zero]
    go_wp2_with fail
    go_ret
    exact ⟨by rw [HG.out]; rfl, BU.out.trans (BW1.out.mono BU.out.size)⟩
end Go.Proofs.YtpojalbpekbfdabDoor
