/- Package tree: Holds, byPrefix, apart. -/
import Derived.Test.YtpojalbpekbfdabDoorTreT
namespace Go.Proofs.YtpojalbpekbfdabDoor
open Go Go.RowKit
set_option linter.unusedSimpArgs false
set_option linter.unusedVariables false
set_option maxRecDepth 100000

/-- A load of a row under a guard that holds. -/
theorem load_g {P : Program} {ops : Array Oper} {rest : List Oper} {op : Oper} {a : Act} {w : World} {Q : Exit → Act → World → Prop} (hw : Region.wanted op (yielded ops a.tmps) = true) (ty : TypeId) (x : Operand) (ho : op.op = .load ty x)
    (b o : Nat) (hx : a.eval x = .pointer (some ⟨b, o, none⟩)) (cs : List Value) (d : TypeDesc) (hc : w.rangeAt b o cs)
    (hu : P.underlying ty = some d) (hd : d.isRow = true) (hi : (P.info? ty).map (·.size) = some cs.length)
    (h : wpList P ops Q rest (a.put op.dst (.agg cs.toArray)) w) : wpList P ops Q (op :: rest) a w := by
  unfold wpList
  rw [if_pos hw]
  exact .inl (wp_load_mid ty x ho b o hx cs d hc hu hd hi h)
theorem sl_range {W : World} {b o : Nat} {x : List Int} (hx : L32 x) (h : W.rangeAt b o (bv x)) (hb : b < W.heap.size) : Sl W (.slice (some ⟨b, o, none⟩) 32 32) x :=
  ⟨_, 32, by rw [hx.len], by rw [hx.len]; exact Nat.le_refl _, .inr ⟨b, o, rfl, hb, fun i hi => h i _ (bv_get x hi)⟩⟩
/-- Two rows in new blocks. -/
theorem two_rows (w : World) (l m : List Value) (s t : TypeId) : ((w.alloc (.cells l.toArray s)).alloc (.cells m.toArray t)).rangeAt w.heap.size 0 l ∧ ((w.alloc (.cells l.toArray s)).alloc (.cells m.toArray t)).rangeAt (w.heap.size + 1) 0 m ∧ ((w.alloc (.cells l.toArray s)).alloc (.cells m.toArray t)).heap.size = w.heap.size + 2 ∧ Below w.heap.size w ((w.alloc (.cells l.toArray s)).alloc (.cells m.toArray t)) := by
  refine ⟨?_, ?_, by simp, ((Below.refl _ w).alloc (Nat.le_refl _) _).alloc (by simp) _⟩
  · exact range_below (range_alloc w l s (0, 0)) ((Below.refl _ _).alloc (Nat.le_refl _) _) (by simp)
  · have := range_alloc (w.alloc (.cells l.toArray s)) m t (0, 0)
    rw [World.size_alloc] at this; exact this
def hl1f (x : Nd) (n : Int) (p y : List Int) (c D : Nat) : Nat → Value
  | 0 => .agg (nc x).toArray
  | 1 => .bool true
  | 2 => .bool true
  | 3 => .pointer (some ⟨D, 1, none⟩)
  | 4 => .agg (bv p).toArray
  | 5 => .agg (bv y).toArray
  | 6 => .int .i64 (c : Int)
  | 7 => .pointer (some ⟨D, 0, none⟩)
  | 8 => .int .i64 n
  | 9 => .bool (decide (n ≤ (c : Int)))
  | 10 => .bool (decide (n ≤ (c : Int)))
  | 11 => .bool (decide (n ≤ (c : Int)))
  | _ => undef
def hl2f (x : Nd) (n : Int) (p y : List Int) (c D : Nat) : Nat → Value
  | 0 => .agg (nc x).toArray
  | 1 => .bool false
  | 2 => .bool false
  | 3 => undef
  | 4 => undef
  | 5 => undef
  | 6 => undef
  | 7 => undef
  | 8 => undef
  | 9 => undef
  | 10 => .bool false
  | 11 => .bool false
  | _ => undef
set_option maxHeartbeats 4000000 in
theorem holds_any (x : Nd) (hx : x.Ok) (y : List Int) (hy : L32 y) (w : World) :
    Calls Tryd.prog 40 #[.agg (nc x).toArray, .agg (bv y).toArray] w fun e w' => e = .returned (.bool (hl x y)) ∧ Below w.heap.size w w' := by
  have s1 := nc_size hx
  have s2 : (bv y).toArray.size = 32 := by simp [bv, hy.len]
  obtain ⟨ra, rb, rs, rl⟩ := two_rows w (nc x) (bv y) 33 25
  obtain ⟨A, hA⟩ : ∃ A, (nc x).toArray = A := ⟨_, rfl⟩
  obtain ⟨B, hB⟩ : ∃ B, (bv y).toArray = B := ⟨_, rfl⟩
  rw [hA, hB] at ra rb rs rl
  rw [hA] at s1 ⊢
  rw [hB] at s2 ⊢
  obtain ⟨n, hn⟩ : ∃ n, x.n = n := ⟨_, rfl⟩
  obtain ⟨p, hp⟩ : ∃ p, x.p = p := ⟨_, rfl⟩
  have HN : Hid (x.n = n) := hn
  have HX : Hid x.Ok := hx
  have HPE : Hid (x.p = p) := hp
  have HP : Hid (L32 p) := by rw [← hp]; exact hx.p
  have HY : Hid (L32 y) := hy
  clear hn hp hx hy
  obtain ⟨c, hc⟩ : ∃ c, cm p y 256 = c := ⟨_, rfl⟩
  have HCM : Hid (∀ W : World, Calls Tryd.prog 65 #[.agg (bv p).toArray, .agg (bv y).toArray] W fun e w' => e = .returned (.int .i64 (c : Int)) ∧ Below W.heap.size W w') := fun W => by rw [← hc]; exact common_any p y W HP.out HY.out
  have HGD' : Hid (∀ W : World, Calls Tryd.prog 23 #[.agg (nc x).toArray] W fun e w' => e = .returned (.bool (gd x)) ∧ Below W.heap.size W w') := fun W => good_any x HX.out W
  have HHL : Hid (hl x y = (gd x && decide (n.toNat ≤ c))) := by show hl x y = _; unfold hl; rw [HPE.out, HN.out, hc]
  have HG0 : Hid (gd x = true → 0 ≤ n) := fun h => by rw [← HN.out]; exact (gd_iff.1 h).1
  clear hc
  go_enter Tryd.func40, Tryd.ntmps40
  go_wp2_with fail
  obtain ⟨U, hU⟩ : ∃ U, (w.alloc (.cells A 33)).alloc (.cells B 25) = U := ⟨_, rfl⟩
  rw [hU] at ra rb rs rl ⊢
  obtain ⟨D, hD⟩ : ∃ D, w.heap.size = D := ⟨_, rfl⟩
  have BU : Hid (Below w.heap.size w U) := rl
  rw [hD] at ra rb rs ⊢
  have hDX : Hid (D < U.heap.size) := by show D < _; omega
  have hDY : Hid (D + 1 < U.heap.size) := by show D + 1 < _; omega
  have RX : Hid (U.rangeAt D 0 (nc x)) := ra
  have RP : Hid (U.rangeAt D 1 (bv p)) := by have := nc_p ra; rw [HPE.out] at this; exact this
  have RY : Hid (U.rangeAt (D + 1) 0 (bv y)) := rb
  clear hU ra rb rs rl hD hA hB
  cases hg : gd x with
  | true =>
    have HGD : Hid (∀ W : World, Calls Tryd.prog 23 #[.agg (nc x).toArray] W fun e w' => e = .returned (.bool true) ∧ Below W.heap.size W w') := fun W => by rw [← hg]; exact HGD'.out W
    have HR : Hid (hl x y = decide (n ≤ (c : Int))) := by
      have h0 := HG0.out hg
      show hl x y = _
      rw [HHL.out, hg, Bool.true_and]
      exact decide_eq_decide.2 (by omega)
    clear hg HGD' HG0 HHL
    refine RU.wp_rgn' [] (hl1f x n p y c D) (fun _ => 0) (gΩ U) (by kernel_rfl) (by kernel_rfl) (show Below U.heap.size U _ from (Below.refl _ _).drew) ?_ ?_
    · refine ⟨?_, ?_, ?_, ?_, ?_, ?_, ?_, ?_, ?_, ?_, ?_, ?_, trivial⟩
      · refine RU.ObT.silent rfl (fun a W k0 V hO hf hp hk => ?_)
        have hO' : Below U.heap.size U W := hO
        have q2 : a.eval (.tmp 2) = .pointer (some ⟨D, 0, none⟩) := hf 2 rfl
        exact RU.ob_op rfl (RU.wanted_none rfl) (wp_load_mid 33 (.tmp 2) rfl (D) (0) q2 (nc x) _ (range_below RX.out hO' hDX.out) Tryd.underlying33 rfl (size_nc HX.out) ⟨rfl, hO⟩)
      · refine RU.ObT.silent rfl (fun a W k0 V hO hf hp hk => ?_)
        have hO' : Below U.heap.size U W := hO
        have e5 : a.eval (.tmp 5) = .agg (nc x).toArray := hp 0 5 rfl
        refine RU.ob_call (g := 23) (args := #[.agg (nc x).toArray]) rfl (RU.wanted_none rfl) (fun ev he hc => ?_) ((HGD.out W).mono ?_)
        · have h5 := (he (.tmp 5)).trans e5
          have hfn := he (.func 23)
          simp only [List.getElem_toArray, List.getElem_cons_succ, List.getElem_cons_zero, execOp, Option.map_some, Option.map_none]
          simp only [resolve, invoke, Sem.run_bind, Sem.run_pure, Result.andThen_ok, List.map_toArray, List.map_cons, List.map_nil, h5, hfn, Act.eval, hc]
          rfl
        · rintro e' W2 ⟨rfl, hb2⟩
          exact ⟨_, rfl, rfl, (hO'.trans (hb2.mono hO'.size) : Below U.heap.size U W2)⟩
      · refine RU.ObT.pure rfl rfl rfl (fun a V hf hp ev he hc W => ?_)
        have q6 : ev (.tmp 6) = .bool true := (he (.tmp 6)).trans (hp 1 6 rfl)
        simp only [List.getElem_toArray, List.getElem_cons_succ, List.getElem_cons_zero, execOp, Option.map_some, Option.map_none]; rw [q6]
        first | (go_simp; done) | (go_simp; rfl) | rfl
      · refine RU.ObT.silent rfl (fun a W k0 V hO hf hp hk => ?_)
        have hg : a.eval (.tmp 7) = .bool true := hp 2 7 rfl
        refine RU.ob_val rfl (RU.wanted_some rfl rfl rfl hg) (fun ev he hc => ?_) ⟨rfl, hO⟩
        have q2 : ev (.tmp 2) = .pointer (some ⟨D, 0, none⟩) := (he (.tmp 2)).trans (hf 2 rfl)
        simp only [List.getElem_toArray, List.getElem_cons_succ, List.getElem_cons_zero, execOp, Option.map_some, Option.map_none]; rw [q2]
        first | (go_simp; done) | (go_simp; rfl) | rfl
      · refine RU.ObT.silent rfl (fun a W k0 V hO hf hp hk => ?_)
        have hg : a.eval (.tmp 7) = .bool true := hp 2 7 rfl
        have hO' : Below U.heap.size U W := hO
        have q8 : a.eval (.tmp 8) = .pointer (some ⟨D, 1, none⟩) := hp 3 8 rfl
        exact RU.ob_op rfl (RU.wanted_some rfl rfl rfl hg) (wp_load_mid 25 (.tmp 8) rfl (D) (1) q8 (bv p) _ (range_below RP.out hO' hDX.out) Tryd.underlying25 rfl (size_l32 HP.out) ⟨rfl, hO⟩)
      · refine RU.ObT.silent rfl (fun a W k0 V hO hf hp hk => ?_)
        have hg : a.eval (.tmp 7) = .bool true := hp 2 7 rfl
        have hO' : Below U.heap.size U W := hO
        have q3 : a.eval (.tmp 3) = .pointer (some ⟨D + 1, 0, none⟩) := hf 3 rfl
        exact RU.ob_op rfl (RU.wanted_some rfl rfl rfl hg) (wp_load_mid 25 (.tmp 3) rfl (D + 1) (0) q3 (bv y) _ (range_below RY.out hO' hDY.out) Tryd.underlying25 rfl (size_l32 HY.out) ⟨rfl, hO⟩)
      · refine RU.ObT.silent rfl (fun a W k0 V hO hf hp hk => ?_)
        have hg : a.eval (.tmp 7) = .bool true := hp 2 7 rfl
        have hO' : Below U.heap.size U W := hO
        have e9 : a.eval (.tmp 9) = .agg (bv p).toArray := hp 4 9 rfl
        have e10 : a.eval (.tmp 10) = .agg (bv y).toArray := hp 5 10 rfl
        refine RU.ob_call (g := 65) (args := #[.agg (bv p).toArray, .agg (bv y).toArray]) rfl (RU.wanted_some rfl rfl rfl hg) (fun ev he hc => ?_) ((HCM.out W).mono ?_)
        · have h9 := (he (.tmp 9)).trans e9
          have h10 := (he (.tmp 10)).trans e10
          have hfn := he (.func 65)
          simp only [List.getElem_toArray, List.getElem_cons_succ, List.getElem_cons_zero, execOp, Option.map_some, Option.map_none]
          simp only [resolve, invoke, Sem.run_bind, Sem.run_pure, Result.andThen_ok, List.map_toArray, List.map_cons, List.map_nil, h9, h10, hfn, Act.eval, hc]
          rfl
        · rintro e' W2 ⟨rfl, hb2⟩
          exact ⟨_, rfl, rfl, (hO'.trans (hb2.mono hO'.size) : Below U.heap.size U W2)⟩
      · refine RU.ObT.silent rfl (fun a W k0 V hO hf hp hk => ?_)
        have hg : a.eval (.tmp 7) = .bool true := hp 2 7 rfl
        refine RU.ob_val rfl (RU.wanted_some rfl rfl rfl hg) (fun ev he hc => ?_) ⟨rfl, hO⟩
        have q2 : ev (.tmp 2) = .pointer (some ⟨D, 0, none⟩) := (he (.tmp 2)).trans (hf 2 rfl)
        simp only [List.getElem_toArray, List.getElem_cons_succ, List.getElem_cons_zero, execOp, Option.map_some, Option.map_none]; rw [q2]
        first | (go_simp; done) | (go_simp; rfl) | rfl
      · refine RU.ObT.silent rfl (fun a W k0 V hO hf hp hk => ?_)
        have hg : a.eval (.tmp 7) = .bool true := hp 2 7 rfl
        have hO' : Below U.heap.size U W := hO
        have hcell := nc_n (range_below RX.out hO' hDX.out)
        rw [HN.out] at hcell
        refine RU.ob_val rfl (RU.wanted_some rfl rfl rfl hg) (fun ev he hc => ?_) ⟨rfl, hO⟩
        have q12 : ev (.tmp 12) = .pointer (some ⟨D, 0, none⟩) := (he (.tmp 12)).trans (hp 7 12 rfl)
        simp only [List.getElem_toArray, List.getElem_cons_succ, List.getElem_cons_zero, execOp, Option.map_some, Option.map_none]; rw [q12]
        first | (go_simp; done) | (go_simp; rfl) | rfl
      · refine RU.ObT.silent rfl (fun a W k0 V hO hf hp hk => ?_)
        have hg : a.eval (.tmp 7) = .bool true := hp 2 7 rfl
        refine RU.ob_val rfl (RU.wanted_some rfl rfl rfl hg) (fun ev he hc => ?_) ⟨rfl, hO⟩
        have q11 : ev (.tmp 11) = .int .i64 (c : Int) := (he (.tmp 11)).trans (hp 6 11 rfl)
        have q13 : ev (.tmp 13) = .int .i64 n := (he (.tmp 13)).trans (hp 8 13 rfl)
        simp only [List.getElem_toArray, List.getElem_cons_succ, List.getElem_cons_zero, execOp, Option.map_some, Option.map_none]; rw [q11, q13]
        first | (go_simp; done) | (go_simp; rfl) | rfl
      · refine RU.ObT.pure rfl rfl rfl (fun a V hf hp ev he hc W => ?_)
        have q7 : ev (.tmp 7) = .bool true := (he (.tmp 7)).trans (hp 2 7 rfl)
        have q14 : ev (.tmp 14) = .bool (decide (n ≤ (c : Int))) := (he (.tmp 14)).trans (hp 9 14 rfl)
        simp only [List.getElem_toArray, List.getElem_cons_succ, List.getElem_cons_zero, execOp, Option.map_some, Option.map_none]; rw [q7, q14]
        try simp only [hc]
        first | (go_simp; done) | (go_simp; rfl) | rfl
      · refine RU.ObT.pure rfl rfl rfl (fun a V hf hp ev he hc W => ?_)
        have q15 : ev (.tmp 15) = .bool (decide (n ≤ (c : Int))) := (he (.tmp 15)).trans (hp 10 15 rfl)
        simp only [List.getElem_toArray, List.getElem_cons_succ, List.getElem_cons_zero, execOp, Option.map_some, Option.map_none]; rw [q15]
        first | (go_simp; done) | (go_simp; rfl) | rfl
    intro W1 VW1 hOW1
    have BW1 : Hid (Below U.heap.size U W1) := hOW1
    clear hOW1
    simp only [RU.lay, RU.val, RU.at', hl1f, Act.put]
    simp only [List.setIfInBounds_toArray, List.set_cons_succ, List.set_cons_zero]
    go_wp2_with fail
    go_ret
    exact ⟨by rw [HR.out]; rfl, BU.out.trans (BW1.out.mono BU.out.size)⟩
  | false =>
    have HGD : Hid (∀ W : World, Calls Tryd.prog 23 #[.agg (nc x).toArray] W fun e w' => e = .returned (.bool false) ∧ Below W.heap.size W w') := fun W => by rw [← hg]; exact HGD'.out W
    have HR : Hid (hl x y = false) := by show hl x y = _; rw [HHL.out, hg, Bool.false_and]
    clear hg HGD' HG0 HHL
    refine RU.wp_rgn' [] (hl2f x n p y c D) (fun _ => 0) (gΩ U) (by kernel_rfl) (by kernel_rfl) (show Below U.heap.size U _ from (Below.refl _ _).drew) ?_ ?_
    · refine ⟨?_, ?_, ?_, ?_, ?_, ?_, ?_, ?_, ?_, ?_, ?_, ?_, trivial⟩
      · refine RU.ObT.silent rfl (fun a W k0 V hO hf hp hk => ?_)
        have hO' : Below U.heap.size U W := hO
        have q2 : a.eval (.tmp 2) = .pointer (some ⟨D, 0, none⟩) := hf 2 rfl
        exact RU.ob_op rfl (RU.wanted_none rfl) (wp_load_mid 33 (.tmp 2) rfl (D) (0) q2 (nc x) _ (range_below RX.out hO' hDX.out) Tryd.underlying33 rfl (size_nc HX.out) ⟨rfl, hO⟩)
      · refine RU.ObT.silent rfl (fun a W k0 V hO hf hp hk => ?_)
        have hO' : Below U.heap.size U W := hO
        have e5 : a.eval (.tmp 5) = .agg (nc x).toArray := hp 0 5 rfl
        refine RU.ob_call (g := 23) (args := #[.agg (nc x).toArray]) rfl (RU.wanted_none rfl) (fun ev he hc => ?_) ((HGD.out W).mono ?_)
        · have h5 := (he (.tmp 5)).trans e5
          have hfn := he (.func 23)
          simp only [List.getElem_toArray, List.getElem_cons_succ, List.getElem_cons_zero, execOp, Option.map_some, Option.map_none]
          simp only [resolve, invoke, Sem.run_bind, Sem.run_pure, Result.andThen_ok, List.map_toArray, List.map_cons, List.map_nil, h5, hfn, Act.eval, hc]
          rfl
        · rintro e' W2 ⟨rfl, hb2⟩
          exact ⟨_, rfl, rfl, (hO'.trans (hb2.mono hO'.size) : Below U.heap.size U W2)⟩
      · refine RU.ObT.pure rfl rfl rfl (fun a V hf hp ev he hc W => ?_)
        have q6 : ev (.tmp 6) = .bool false := (he (.tmp 6)).trans (hp 1 6 rfl)
        simp only [List.getElem_toArray, List.getElem_cons_succ, List.getElem_cons_zero, execOp, Option.map_some, Option.map_none]; rw [q6]
        first | (go_simp; done) | (go_simp; rfl) | rfl
      · exact RU.ObT.skip (g := 2) (d := 7) rfl rfl rfl rfl rfl rfl (fun U h => by cases h) rfl
      · exact RU.ObT.skip (g := 2) (d := 7) rfl rfl rfl rfl rfl rfl (fun U h => by cases h) rfl
      · exact RU.ObT.skip (g := 2) (d := 7) rfl rfl rfl rfl rfl rfl (fun U h => by cases h) rfl
      · exact RU.ObT.skip (g := 2) (d := 7) rfl rfl rfl rfl rfl rfl (fun U h => by cases h) rfl
      · exact RU.ObT.skip (g := 2) (d := 7) rfl rfl rfl rfl rfl rfl (fun U h => by cases h) rfl
      · exact RU.ObT.skip (g := 2) (d := 7) rfl rfl rfl rfl rfl rfl (fun U h => by cases h) rfl
      · exact RU.ObT.skip (g := 2) (d := 7) rfl rfl rfl rfl rfl rfl (fun U h => by cases h) rfl
      · refine RU.ObT.pure rfl rfl rfl (fun a V hf hp ev he hc W => ?_)
        have q7 : ev (.tmp 7) = .bool false := (he (.tmp 7)).trans (hp 2 7 rfl)
        have q14 : ev (.tmp 14) = undef := (he (.tmp 14)).trans (hp 9 14 rfl)
        simp only [List.getElem_toArray, List.getElem_cons_succ, List.getElem_cons_zero, execOp, Option.map_some, Option.map_none]; rw [q7, q14]
        try simp only [hc]
        first | (go_simp; done) | (go_simp; rfl) | rfl
      · refine RU.ObT.pure rfl rfl rfl (fun a V hf hp ev he hc W => ?_)
        have q15 : ev (.tmp 15) = .bool false := (he (.tmp 15)).trans (hp 10 15 rfl)
        simp only [List.getElem_toArray, List.getElem_cons_succ, List.getElem_cons_zero, execOp, Option.map_some, Option.map_none]; rw [q15]
        first | (go_simp; done) | (go_simp; rfl) | rfl
    intro W1 VW1 hOW1
    have BW1 : Hid (Below U.heap.size U W1) := hOW1
    clear hOW1
    simp only [RU.lay, RU.val, RU.at', hl2f, Act.put]
    simp only [List.setIfInBounds_toArray, List.set_cons_succ, List.set_cons_zero]
    go_wp2_with fail
    go_ret
    exact ⟨by rw [HR.out]; rfl, BU.out.trans (BW1.out.mono BU.out.size)⟩
def bpf (D : Nat) (z : Int) : Nat → Value
  | 0 => .pointer (some ⟨D, 1, none⟩)
  | 1 => .slice (some ⟨D, 1, none⟩) 32 32
  | 2 => .pointer (some ⟨D + 1, 1, none⟩)
  | 3 => .slice (some ⟨D + 1, 1, none⟩) 32 32
  | 4 => .int .i64 z
  | 5 => .int .i64 z
  | _ => undef
set_option maxHeartbeats 4000000 in
theorem byPrefix_any (a b : Nd) (ha : a.Ok) (hb : b.Ok) (w : World) :
    Calls Tryd.prog 39 #[.agg (nc a).toArray, .agg (nc b).toArray] w fun e w' => e = .returned (.int .i64 (cmpI a.p b.p)) ∧ Below w.heap.size w w' := by
  have s1 := nc_size ha
  have s2 := nc_size hb
  obtain ⟨ra, rb, rs, rl⟩ := two_rows w (nc a) (nc b) 33 33
  obtain ⟨A, hA⟩ : ∃ A, (nc a).toArray = A := ⟨_, rfl⟩
  obtain ⟨B, hB⟩ : ∃ B, (nc b).toArray = B := ⟨_, rfl⟩
  rw [hA, hB] at ra rb rs rl
  rw [hA] at s1 ⊢
  rw [hB] at s2 ⊢
  have HA : Hid a.Ok := ha
  have HB : Hid b.Ok := hb
  obtain ⟨z, hz⟩ : ∃ z, cmpI a.p b.p = z := ⟨_, rfl⟩
  have HZ : Hid (cmpI a.p b.p = z) := hz
  rw [hz]
  clear ha hb hz
  go_enter Tryd.func39, Tryd.ntmps39
  go_wp2_with fail
  obtain ⟨U, hU⟩ : ∃ U, (w.alloc (.cells A 33)).alloc (.cells B 33) = U := ⟨_, rfl⟩
  rw [hU] at ra rb rs rl ⊢
  obtain ⟨D, hD⟩ : ∃ D, w.heap.size = D := ⟨_, rfl⟩
  have BU : Hid (Below w.heap.size w U) := rl
  rw [hD] at ra rb rs ⊢
  have hDX : Hid (D < U.heap.size) := by show D < _; omega
  have hDY : Hid (D + 1 < U.heap.size) := by show D + 1 < _; omega
  have RA : Hid (U.rangeAt D 1 (bv a.p)) := nc_p ra
  have RB : Hid (U.rangeAt (D + 1) 1 (bv b.p)) := nc_p rb
  clear hU ra rb rs rl hD hA hB
  refine RU.wp_rgn' [] (bpf D z) (fun _ => 0) (gΩ U) (by kernel_rfl) (by kernel_rfl) (show Below U.heap.size U _ from (Below.refl _ _).drew) ?_ ?_
  · refine ⟨?_, ?_, ?_, ?_, ?_, ?_, trivial⟩
    · refine RU.ObT.pure rfl rfl rfl (fun a' V hf hp ev he hc W => ?_)
      have q2 : ev (.tmp 2) = .pointer (some ⟨D, 0, none⟩) := (he (.tmp 2)).trans (hf 2 rfl)
      simp only [List.getElem_toArray, List.getElem_cons_succ, List.getElem_cons_zero, execOp, Option.map_some, Option.map_none]; rw [q2]
      first | (go_simp; done) | (go_simp; rfl) | rfl
    · refine RU.ObT.pure rfl rfl rfl (fun a' V hf hp ev he hc W => ?_)
      have q5 : ev (.tmp 5) = .pointer (some ⟨D, 1, none⟩) := (he (.tmp 5)).trans (hp 0 5 rfl)
      simp only [List.getElem_toArray, List.getElem_cons_succ, List.getElem_cons_zero, execOp, Option.map_some, Option.map_none]; rw [q5]
      first | (go_simp; done) | (go_simp; rfl) | rfl
    · refine RU.ObT.pure rfl rfl rfl (fun a' V hf hp ev he hc W => ?_)
      have q3 : ev (.tmp 3) = .pointer (some ⟨D + 1, 0, none⟩) := (he (.tmp 3)).trans (hf 3 rfl)
      simp only [List.getElem_toArray, List.getElem_cons_succ, List.getElem_cons_zero, execOp, Option.map_some, Option.map_none]; rw [q3]
      first | (go_simp; done) | (go_simp; rfl) | rfl
    · refine RU.ObT.pure rfl rfl rfl (fun a' V hf hp ev he hc W => ?_)
      have q7 : ev (.tmp 7) = .pointer (some ⟨D + 1, 1, none⟩) := (he (.tmp 7)).trans (hp 2 7 rfl)
      simp only [List.getElem_toArray, List.getElem_cons_succ, List.getElem_cons_zero, execOp, Option.map_some, Option.map_none]; rw [q7]
      first | (go_simp; done) | (go_simp; rfl) | rfl
    · refine RU.ObT.silent rfl (fun a' W k0 V hO hf hp hk => ?_)
      have hO' : Below U.heap.size U W := hO
      have e6 : a'.eval (.tmp 6) = .slice (some ⟨D, 1, none⟩) 32 32 := hp 1 6 rfl
      have e8 : a'.eval (.tmp 8) = .slice (some ⟨D + 1, 1, none⟩) 32 32 := hp 3 8 rfl
      refine RU.ob_call (g := 21) (args := #[.slice (some ⟨D, 1, none⟩) 32 32, .slice (some ⟨D + 1, 1, none⟩) 32 32]) rfl (RU.wanted_none rfl) (fun ev he hc => ?_) ((compare_any a.p b.p _ _ W (sl_range HA.out.p (range_below RA.out hO' hDX.out) (Nat.lt_of_lt_of_le hDX.out hO'.size)) (sl_range HB.out.p (range_below RB.out hO' hDY.out) (Nat.lt_of_lt_of_le hDY.out hO'.size))).mono ?_)
      · have h6 := (he (.tmp 6)).trans e6
        have h8 := (he (.tmp 8)).trans e8
        have hfn := he (.func 21)
        simp only [List.getElem_toArray, List.getElem_cons_succ, List.getElem_cons_zero, execOp, Option.map_some, Option.map_none]
        simp only [resolve, invoke, Sem.run_bind, Sem.run_pure, Result.andThen_ok, List.map_toArray, List.map_cons, List.map_nil, h6, h8, hfn, Act.eval, hc]
        rfl
      · rintro e' W2 ⟨rfl, rfl⟩
        exact ⟨_, rfl, by rw [HZ.out]; rfl, hO⟩
    · refine RU.ObT.pure rfl rfl rfl (fun a' V hf hp ev he hc W => ?_)
      have q9 : ev (.tmp 9) = .int .i64 z := (he (.tmp 9)).trans (hp 4 9 rfl)
      simp only [List.getElem_toArray, List.getElem_cons_succ, List.getElem_cons_zero, execOp, Option.map_some, Option.map_none]; rw [q9]
      first | (go_simp; done) | (go_simp; rfl) | rfl
  intro W1 VW1 hOW1
  have BW1 : Hid (Below U.heap.size U W1) := hOW1
  clear hOW1
  simp only [RU.lay, RU.val, RU.at', bpf, Act.put]
  simp only [List.setIfInBounds_toArray, List.set_cons_succ, List.set_cons_zero]
  go_wp2_with fail
  go_ret
  exact ⟨rfl, BU.out.trans (BW1.out.mono BU.out.size)⟩
set_option maxHeartbeats 4000000 in
theorem apart_any (a b : Nd) (ha : a.Ok) (hb : b.Ok) (w : World) :
    Calls Tryd.prog 24 #[.agg (nc a).toArray, .agg (nc b).toArray] w fun e w' => e = .returned (.bool (ap2 a b)) ∧ Below w.heap.size w w' := by
  have s1 := nc_size ha
  have s2 := nc_size hb
  obtain ⟨ra, rb, rs, rl⟩ := two_rows w (nc a) (nc b) 33 33
  obtain ⟨A, hA⟩ : ∃ A, (nc a).toArray = A := ⟨_, rfl⟩
  obtain ⟨B, hB⟩ : ∃ B, (nc b).toArray = B := ⟨_, rfl⟩
  rw [hA, hB] at ra rb rs rl
  rw [hA] at s1 ⊢
  rw [hB] at s2 ⊢
  have HA : Hid a.Ok := ha
  have HB : Hid b.Ok := hb
  have HC : Hid (0 ≤ cmpI a.p b.p ↔ ltb a.p b.p = false) := cmp_ltb a.p b.p (by rw [ha.p.len, hb.p.len]) ha.p.byt hb.p.byt
  obtain ⟨z, hz⟩ : ∃ z, cmpI a.p b.p = z := ⟨_, rfl⟩
  have HBP : Hid (∀ W : World, Calls Tryd.prog 39 #[.agg (nc a).toArray, .agg (nc b).toArray] W fun e w' => e = .returned (.int .i64 z) ∧ Below W.heap.size W w') := fun W => by rw [← hz]; exact byPrefix_any a b ha hb W
  rw [hz] at HC
  clear ha hb hz
  go_enter Tryd.func24, Tryd.ntmps24
  go_upto_region 1 with (fail)
  obtain ⟨U, hU⟩ : ∃ U, (w.alloc (.cells A 33)).alloc (.cells B 33) = U := ⟨_, rfl⟩
  rw [hU] at ra rb rs rl ⊢
  obtain ⟨D, hD⟩ : ∃ D, w.heap.size = D := ⟨_, rfl⟩
  have BU : Hid (Below w.heap.size w U) := rl
  rw [hD] at ra rb rs ⊢
  have hDX : Hid (D < U.heap.size) := by show D < _; omega
  have hDY : Hid (D + 1 < U.heap.size) := by show D + 1 < _; omega
  have RA : Hid (U.rangeAt D 0 (nc a)) := ra
  have RB : Hid (U.rangeAt (D + 1) 0 (nc b)) := rb
  clear hU ra rb rs rl hD hA hB
  by_cases hneg : z < 0
  · have hlt : ltb a.p b.p = true := by
      cases e : ltb a.p b.p with
      | true => rfl
      | false => have := HC.out.2 e; omega
    have HR : Hid (ap2 a b = !hl a b.p) := by show ap2 a b = _; unfold ap2; rw [hlt, Bool.true_and]
    clear hlt
    go_wp2_with (first
      | (refine load_g rfl 33 (.tmp 2) rfl D 0 rfl (nc a) _ RA.out Tryd.underlying33 rfl (size_nc HA.out) ?_)
      | (refine load_g rfl 33 (.tmp 3) rfl (D + 1) 0 rfl (nc b) _ RB.out Tryd.underlying33 rfl (size_nc HB.out) ?_)
      | (go_at_call 39; refine (HBP.out U).mono ?_; rintro e w2 ⟨rfl, h5⟩; have B2 : Hid (Below U.heap.size U w2) := h5; clear h5)
      | (refine load_g rfl 33 (.tmp 2) rfl D 0 rfl (nc a) _ (range_below RA.out B2.out hDX.out) Tryd.underlying33 rfl (size_nc HA.out) ?_)
      | (refine load_g rfl 25 (.tmp 11) rfl (D + 1) 1 rfl (bv b.p) _ (range_below (nc_p RB.out) B2.out hDY.out) Tryd.underlying25 rfl (size_l32 HB.out.p) ?_)
      | (go_at_call 40; refine (holds_any a HA.out b.p HB.out.p w2).mono ?_; rintro e w3 ⟨rfl, h5⟩; have B3 : Hid (Below w2.heap.size w2 w3) := h5; clear h5))
    go_ret
    exact ⟨by rw [HR.out]; rfl, BU.out.trans ((B2.out.trans (B3.out.mono B2.out.size)).mono BU.out.size)⟩
  · have hlt : ltb a.p b.p = false := HC.out.1 (by omega)
    have HR : Hid (ap2 a b = false) := by show ap2 a b = _; unfold ap2; rw [hlt, Bool.false_and]
    clear hlt
    go_wp2_with (first
      | (refine load_g rfl 33 (.tmp 2) rfl D 0 rfl (nc a) _ RA.out Tryd.underlying33 rfl (size_nc HA.out) ?_)
      | (refine load_g rfl 33 (.tmp 3) rfl (D + 1) 0 rfl (nc b) _ RB.out Tryd.underlying33 rfl (size_nc HB.out) ?_)
      | (go_at_call 39; refine (HBP.out U).mono ?_; rintro e w2 ⟨rfl, h5⟩; have B2 : Hid (Below U.heap.size U w2) := h5; clear h5))
    go_ret
    exact ⟨by rw [HR.out]; rfl, BU.out.trans (B2.out.mono BU.out.size)⟩
end Go.Proofs.YtpojalbpekbfdabDoor
