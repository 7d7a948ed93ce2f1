/- The reference: NodeBytes. -/
import Derived.Test.YtpojalbpekbfdaaDoorTrgA
import Derived.Test.YtpojalbpekbfdaaDoorShaP
import Derived.Deep.AppendLies
import Derived.Laws.AppendOwnNone
namespace Go.Proofs.YtpojalbpekbfdaaDoor
open Go Go.RowKit
set_option linter.unusedSimpArgs false
set_option linter.unusedVariables false
set_option maxRecDepth 100000

/-- Three slices in a new row. -/
theorem ll_three {W : World} {u1 u2 u3 : Value} {p1 p2 p3 : List Int} (T : TypeId) (h1 : Sl W u1 p1) (h2 : Sl W u2 p2) (h3 : Sl W u3 p3) : LL (W.alloc (.cells #[u1, u2, u3] T)) (.slice (some ⟨W.heap.size, 0, none⟩) 3 3) [p1, p2, p3] := by
  have hb : Below W.heap.size W (W.alloc (.cells #[u1, u2, u3] T)) := (Below.refl _ W).alloc (Nat.le_refl _) _
  refine ⟨_, 3, rfl, by simp, .inr ⟨W.heap.size, 0, rfl, by simp, fun i hi => ?_⟩⟩
  match i, hi with
  | 0, _ => exact ⟨u1, cell_alloc W #[u1, u2, u3] T _ 0, h1.below hb (Nat.le_refl _)⟩
  | 1, _ => exact ⟨u2, cell_alloc W #[u1, u2, u3] T _ 1, h2.below hb (Nat.le_refl _)⟩
  | 2, _ => exact ⟨u3, cell_alloc W #[u1, u2, u3] T _ 2, h3.below hb (Nat.le_refl _)⟩
def nbΩ (U : World) (x : Nd) (n : Int) : Nat → (Nat → Value) → World → Prop
  | 0, _, W => Below U.heap.size U W
  | 1, V, W => Below U.heap.size U W ∧ (∃ E, V 0 = .slice (some ⟨E, 0, none⟩) 2 2) ∧ Sl W (V 0) [n / 256, n % 256]
  | 2, V, W => Below U.heap.size U W ∧ (∃ E, V 1 = .slice (some ⟨E, 0, none⟩) 3 3) ∧ LL W (V 1) [[n / 256, n % 256], x.p, x.h]
  | 3, V, W => Below U.heap.size U W ∧ Ow U.heap.size W (V 2) (nbs x)
  | _ + 4, V, W => Below U.heap.size U W ∧ Ow U.heap.size W (V 3) (nbs x)
theorem nbΩ.below {U : World} {x : Nd} {n : Int} {k : Nat} {V : Nat → Value} {W : World} (h : nbΩ U x n k V W) : Below U.heap.size U W := by
  match k, h with
  | 0, h => exact h
  | 1, h => exact h.1
  | 2, h => exact h.1
  | 3, h => exact h.1
  | k + 4, h => exact h.1
def nbK : Nat → Nat
  | 0 | 1 | 2 | 3 | 4 | 5 | 6 => 0
  | _ => 1
def nbf (n : Int) (D : Nat) : Nat → Value
  | 0 => .pointer (some ⟨D, 0, none⟩)
  | 1 => .int .i64 n
  | 2 => .int .i64 (n / 256)
  | 3 => .int .u8 (n / 256)
  | 4 => .pointer (some ⟨D, 0, none⟩)
  | 5 => .int .i64 n
  | 6 => .int .u8 (n % 256)
  | 7 => undef
  | 8 => .pointer (some ⟨D, 1, none⟩)
  | 9 => .slice (some ⟨D, 1, none⟩) 32 32
  | 10 => .pointer (some ⟨D, 33, none⟩)
  | 11 => .slice (some ⟨D, 33, none⟩) 32 32
  | 12 => undef
  | 13 => undef
  | 14 => undef
  | _ => undef
set_option maxHeartbeats 4000000 in
theorem rNodeBytes_any (x : Nd) (hx : x.Ok) (hn0 : 0 ≤ x.n) (hn1 : x.n ≤ 256) (w : World) :
    Calls Tryd.prog 57 #[.agg (nc x).toArray] w fun e w' => ∃ v', e = .returned v' ∧ Ow w.heap.size w' v' (nbs x) ∧ Below w.heap.size w w' := by
  have s1 := nc_size hx
  have ra := range_alloc w (nc x) 44 (0, 0)
  obtain ⟨A, hA⟩ : ∃ A, (nc x).toArray = A := ⟨_, rfl⟩
  rw [hA] at ra s1 ⊢
  have HX : Hid x.Ok := hx
  obtain ⟨n, hn⟩ : ∃ n, x.n = n := ⟨_, rfl⟩
  have HN : Hid (x.n = n) := hn
  have HJ : Hid (jo [[n / 256, n % 256], x.p, x.h] [[n / 256, n % 256], x.p, x.h].length = nbs x) := by show _ = nbs x; unfold nbs; rw [hn]; rfl
  have HLN : Hid (∀ i, i < [[n / 256, n % 256], x.p, x.h].length → (mi [[n / 256, n % 256], x.p, x.h] i).length ≤ 1048576) := fun i hi => by
    match i, hi with
    | 0, _ => show 2 ≤ _; omega
    | 1, _ => show x.p.length ≤ _; rw [hx.p.len]; omega
    | 2, _ => show x.h.length ≤ _; rw [hx.h.len]; omega
  rw [hn] at hn0 hn1
  have hw1 : IntKind.u8.wrap (n / 256) = n / 256 := by rw [IntKind.wrap_u8]; omega
  have hw2 : IntKind.u8.wrap n = n % 256 := by rw [IntKind.wrap_u8]
  have rl : Below w.heap.size w (w.alloc (.cells A 44)) := (Below.refl _ w).alloc (Nat.le_refl _) _
  clear hx hA hn
  go_enter Tryd.func57, Tryd.ntmps57
  go_wp2_with fail
  obtain ⟨U, hU⟩ : ∃ U, w.alloc (.cells A 44) = U := ⟨_, rfl⟩
  have sU : w.heap.size < U.heap.size := by rw [← hU]; simp
  rw [hU] at ra rl ⊢
  have BU : Hid (Below w.heap.size w U) := rl
  obtain ⟨D, hD⟩ : ∃ D, w.heap.size = D := ⟨_, rfl⟩
  rw [hD] at ra sU ⊢
  have RX : Hid (U.rangeAt D 0 (nc x)) := ra
  have hDX : Hid (D < U.heap.size) := sU
  clear hU ra rl sU hD
  refine RU.wp_rgn' [7, 12, 13, 14] (nbf n D) nbK (nbΩ U x n) (by kernel_rfl) (by kernel_rfl) (show Below U.heap.size U _ from (Below.refl _ _).drew) ?_ ?_
  · refine ⟨?_, ?_, ?_, ?_, ?_, ?_, ?_, ?_, ?_, ?_, ?_, ?_, ?_, ?_, ?_, trivial⟩
    · refine RU.ObT.pure rfl rfl rfl (fun a V hf hp ev he hc W => ?_)
      have q1 : ev (.tmp 1) = .pointer (some ⟨D, 0, none⟩) := (he (.tmp 1)).trans (hf 1 rfl)
      simp only [List.getElem_toArray, List.getElem_cons_succ, List.getElem_cons_zero, execOp, Option.map_some, Option.map_none]; rw [q1]
      first | (go_simp; done) | (go_simp; rfl) | rfl
    · refine RU.ObT.silent rfl (fun a W k0 V hO hf hp hk => ?_)
      have hO' : Below U.heap.size U W := nbΩ.below hO
      have hcell := nc_n (range_below RX.out hO' hDX.out)
      rw [HN.out] at hcell
      refine RU.ob_val rfl (RU.wanted_none rfl) (fun ev he hc => ?_) ⟨rfl, hO⟩
      have q3 : ev (.tmp 3) = .pointer (some ⟨D, 0, none⟩) := (he (.tmp 3)).trans (hp 0 3 rfl)
      simp only [List.getElem_toArray, List.getElem_cons_succ, List.getElem_cons_zero, execOp, Option.map_some, Option.map_none]; rw [q3]
      first | (go_simp; done) | (go_simp; rfl) | rfl
    · refine RU.ObT.pure rfl rfl rfl (fun a V hf hp ev he hc W => ?_)
      have q4 : ev (.tmp 4) = .int .i64 n := (he (.tmp 4)).trans (hp 1 4 rfl)
      simp only [List.getElem_toArray, List.getElem_cons_succ, List.getElem_cons_zero, execOp, Option.map_some, Option.map_none]; rw [q4]
      try simp only [hc]
      first | (go_simp; done) | (go_simp; rfl) | rfl
    · refine RU.ObT.pure rfl rfl rfl (fun a V hf hp ev he hc W => ?_)
      have q5 : ev (.tmp 5) = .int .i64 (n / 256) := (he (.tmp 5)).trans (hp 2 5 rfl)
      simp only [List.getElem_toArray, List.getElem_cons_succ, List.getElem_cons_zero, execOp, Option.map_some, Option.map_none]; rw [q5]
      first | (go_simp; done) | (go_simp; rfl) | rfl
    · refine RU.ObT.pure rfl rfl rfl (fun a V hf hp ev he hc W => ?_)
      have q1 : ev (.tmp 1) = .pointer (some ⟨D, 0, none⟩) := (he (.tmp 1)).trans (hf 1 rfl)
      simp only [List.getElem_toArray, List.getElem_cons_succ, List.getElem_cons_zero, execOp, Option.map_some, Option.map_none]; rw [q1]
      first | (go_simp; done) | (go_simp; rfl) | rfl
    · refine RU.ObT.silent rfl (fun a W k0 V hO hf hp hk => ?_)
      have hO' : Below U.heap.size U W := nbΩ.below hO
      have hcell := nc_n (range_below RX.out hO' hDX.out)
      rw [HN.out] at hcell
      refine RU.ob_val rfl (RU.wanted_none rfl) (fun ev he hc => ?_) ⟨rfl, hO⟩
      have q7 : ev (.tmp 7) = .pointer (some ⟨D, 0, none⟩) := (he (.tmp 7)).trans (hp 4 7 rfl)
      simp only [List.getElem_toArray, List.getElem_cons_succ, List.getElem_cons_zero, execOp, Option.map_some, Option.map_none]; rw [q7]
      first | (go_simp; done) | (go_simp; rfl) | rfl
    · refine RU.ObT.pure rfl rfl rfl (fun a V hf hp ev he hc W => ?_)
      have q8 : ev (.tmp 8) = .int .i64 n := (he (.tmp 8)).trans (hp 5 8 rfl)
      simp only [List.getElem_toArray, List.getElem_cons_succ, List.getElem_cons_zero, execOp, Option.map_some, Option.map_none]; rw [q8]
      first | (go_simp; done) | (go_simp; rfl) | rfl
    · refine RU.ObT.loud (j := 0) rfl (fun a W V hO hf hp => ?_)
      have hO' : Below U.heap.size U W := hO
      have q6 : a.eval (.tmp 6) = .int .u8 (n / 256) := hp 3 6 rfl
      have q9 : a.eval (.tmp 9) = .int .u8 (n % 256) := hp 6 9 rfl
      refine RU.ob_run (v := .slice (some ⟨W.heap.size, 0, none⟩) 2 2) (w' := W.alloc (.cells #[.int .u8 (n / 256), .int .u8 (n % 256)] 5)) rfl (RU.wanted_none rfl) (fun ev he hc => ?_) ⟨_, rfl, hO'.alloc hO'.size _, ⟨_, rfl⟩, sl_two W _ _ _⟩
      have e1 := (he (.tmp 6)).trans q6
      have e2 := (he (.tmp 9)).trans q9
      simp only [List.getElem_toArray, List.getElem_cons_succ, List.getElem_cons_zero, execOp]
      simp only [List.map_toArray, List.map_cons, List.map_nil, e1, e2]
      go_simp
    · refine RU.ObT.pure rfl rfl rfl (fun a V hf hp ev he hc W => ?_)
      have q1 : ev (.tmp 1) = .pointer (some ⟨D, 0, none⟩) := (he (.tmp 1)).trans (hf 1 rfl)
      simp only [List.getElem_toArray, List.getElem_cons_succ, List.getElem_cons_zero, execOp, Option.map_some, Option.map_none]; rw [q1]
      first | (go_simp; done) | (go_simp; rfl) | rfl
    · refine RU.ObT.pure rfl rfl rfl (fun a V hf hp ev he hc W => ?_)
      have q11 : ev (.tmp 11) = .pointer (some ⟨D, 1, none⟩) := (he (.tmp 11)).trans (hp 8 11 rfl)
      simp only [List.getElem_toArray, List.getElem_cons_succ, List.getElem_cons_zero, execOp, Option.map_some, Option.map_none]; rw [q11]
      first | (go_simp; done) | (go_simp; rfl) | rfl
    · refine RU.ObT.pure rfl rfl rfl (fun a V hf hp ev he hc W => ?_)
      have q1 : ev (.tmp 1) = .pointer (some ⟨D, 0, none⟩) := (he (.tmp 1)).trans (hf 1 rfl)
      simp only [List.getElem_toArray, List.getElem_cons_succ, List.getElem_cons_zero, execOp, Option.map_some, Option.map_none]; rw [q1]
      first | (go_simp; done) | (go_simp; rfl) | rfl
    · refine RU.ObT.pure rfl rfl rfl (fun a V hf hp ev he hc W => ?_)
      have q13 : ev (.tmp 13) = .pointer (some ⟨D, 33, none⟩) := (he (.tmp 13)).trans (hp 10 13 rfl)
      simp only [List.getElem_toArray, List.getElem_cons_succ, List.getElem_cons_zero, execOp, Option.map_some, Option.map_none]; rw [q13]
      first | (go_simp; done) | (go_simp; rfl) | rfl
    · refine RU.ObT.loud (j := 1) rfl (fun a W V hO hf hp => ?_)
      obtain ⟨hO', ⟨E, hE⟩, hsl⟩ := hO
      have q10 : a.eval (.tmp 10) = .slice (some ⟨E, 0, none⟩) 2 2 := (hp 7 10 rfl).trans hE
      have q12 : a.eval (.tmp 12) = .slice (some ⟨D, 1, none⟩) 32 32 := hp 9 12 rfl
      have q14 : a.eval (.tmp 14) = .slice (some ⟨D, 33, none⟩) 32 32 := hp 11 14 rfl
      rw [hE] at hsl
      have hr := range_below RX.out hO' hDX.out
      have hd : D < W.heap.size := Nat.lt_of_lt_of_le hDX.out hO'.size
      refine RU.ob_run (v := .slice (some ⟨W.heap.size, 0, none⟩) 3 3) (w' := W.alloc (.cells #[.slice (some ⟨E, 0, none⟩) 2 2, .slice (some ⟨D, 1, none⟩) 32 32, .slice (some ⟨D, 33, none⟩) 32 32] 61)) rfl (RU.wanted_none rfl) (fun ev he hc => ?_) ⟨_, rfl, hO'.alloc hO'.size _, ⟨_, rfl⟩, ll_three _ hsl (sl_range HX.out.p (nc_p hr) hd) (sl_range HX.out.h (nc_h HX.out hr) hd)⟩
      have e1 := (he (.tmp 10)).trans q10
      have e2 := (he (.tmp 12)).trans q12
      have e3 := (he (.tmp 14)).trans q14
      simp only [List.getElem_toArray, List.getElem_cons_succ, List.getElem_cons_zero, execOp]
      simp only [List.map_toArray, List.map_cons, List.map_nil, e1, e2, e3]
      go_simp
    · refine RU.ObT.loud (j := 2) rfl (fun a W V hO hf hp => ?_)
      obtain ⟨hO', ⟨E, hE⟩, hll⟩ := hO
      have e15 : a.eval (.tmp 15) = V 1 := hp 12 15 rfl
      refine RU.ob_call (g := 56) (args := #[V 1]) rfl (RU.wanted_none rfl) (fun ev he hc => ?_) ((rJoin_any _ (V 1) W hll HLN.out (by simp)).mono ?_)
      · have h15 := (he (.tmp 15)).trans e15
        have hfn := he (.func 56)
        simp only [List.getElem_toArray, List.getElem_cons_succ, List.getElem_cons_zero, execOp, Option.map_some, Option.map_none]
        simp only [resolve, invoke, Sem.run_bind, Sem.run_pure, Result.andThen_ok, List.map_toArray, List.map_cons, List.map_nil, h15, hfn, Act.eval, hc]
        rfl
      · rintro e' W2 ⟨v', rfl, g1, g2⟩
        rw [HJ.out] at g1
        exact ⟨_, rfl, _, rfl, hO'.trans (g2.mono hO'.size), g1.mono hO'.size⟩
    · refine RU.ObT.loud (j := 3) rfl (fun a W V hO hf hp => ?_)
      have q16 : a.eval (.tmp 16) = V 2 := hp 13 16 rfl
      refine RU.ob_val (v := V 2) rfl (RU.wanted_none rfl) (fun ev he hc => ?_) ⟨_, rfl, hO⟩
      have e1 := (he (.tmp 16)).trans q16
      simp only [List.getElem_toArray, List.getElem_cons_succ, List.getElem_cons_zero, execOp]
      rw [e1]
      first | rfl | go_simp
  intro W1 VW1 hOW1
  have P1 : Hid (Below U.heap.size U W1 ∧ Ow U.heap.size W1 (VW1 3) (nbs x)) := hOW1
  clear hOW1
  simp only [RU.lay, RU.val, show RU.at' [7, 12, 13, 14] 0 = none from rfl, show RU.at' [7, 12, 13, 14] 1 = none from rfl, show RU.at' [7, 12, 13, 14] 2 = none from rfl, show RU.at' [7, 12, 13, 14] 3 = none from rfl, show RU.at' [7, 12, 13, 14] 4 = none from rfl, show RU.at' [7, 12, 13, 14] 5 = none from rfl, show RU.at' [7, 12, 13, 14] 6 = none from rfl, show RU.at' [7, 12, 13, 14] 7 = some 0 from rfl, show RU.at' [7, 12, 13, 14] 8 = none from rfl, show RU.at' [7, 12, 13, 14] 9 = none from rfl, show RU.at' [7, 12, 13, 14] 10 = none from rfl, show RU.at' [7, 12, 13, 14] 11 = none from rfl, show RU.at' [7, 12, 13, 14] 12 = some 1 from rfl, show RU.at' [7, 12, 13, 14] 13 = some 2 from rfl, show RU.at' [7, 12, 13, 14] 14 = some 3 from rfl, nbf, Act.put]
  simp only [List.setIfInBounds_toArray, List.set_cons_succ, List.set_cons_zero]
  go_wp2_with fail
  go_ret
  exact ⟨_, rfl, P1.out.2.mono BU.out.size, BU.out.trans (P1.out.1.mono BU.out.size)⟩
end Go.Proofs.YtpojalbpekbfdaaDoor
/- The reference: Top. -/
namespace Go.Proofs.YtpojalbpekbfdaaDoor
open Go Go.RowKit
set_option linter.unusedSimpArgs false
set_option linter.unusedVariables false
set_option maxRecDepth 100000

/-- Two slices in a new row. -/
theorem ll_two {W : World} {u1 u2 : Value} {p1 p2 : List Int} (T : TypeId) (h1 : Sl W u1 p1) (h2 : Sl W u2 p2) : LL (W.alloc (.cells #[u1, u2] T)) (.slice (some ⟨W.heap.size, 0, none⟩) 2 2) [p1, p2] := by
  have hb : Below W.heap.size W (W.alloc (.cells #[u1, u2] T)) := (Below.refl _ W).alloc (Nat.le_refl _) _
  refine ⟨_, 2, rfl, by simp, .inr ⟨W.heap.size, 0, rfl, by simp, fun i hi => ?_⟩⟩
  match i, hi with
  | 0, _ => exact ⟨u1, cell_alloc W #[u1, u2] T _ 0, h1.below hb (Nat.le_refl _)⟩
  | 1, _ => exact ⟨u2, cell_alloc W #[u1, u2] T _ 1, h2.below hb (Nat.le_refl _)⟩
set_option maxHeartbeats 4000000 in
theorem rTop_any (x : Nd) (hx : x.Ok) (hn0 : 0 ≤ x.n) (hn1 : x.n ≤ 256) (w : World) :
    Calls Tryd.prog 33 #[.agg (nc x).toArray] w fun e w' => ∃ v', e = .returned v' ∧ Ow w.heap.size w' v' ([3] ++ nbs x) ∧ Below w.heap.size w w' := by
  have s1 := nc_size hx
  have ra := range_alloc w (nc x) 44 (0, 0)
  have HNB : Hid (∀ W : World, Calls Tryd.prog 57 #[.agg (nc x).toArray] W fun e w' => ∃ v', e = .returned v' ∧ Ow W.heap.size w' v' (nbs x) ∧ Below W.heap.size W w') := fun W => rNodeBytes_any x hx hn0 hn1 W
  obtain ⟨A, hA⟩ : ∃ A, (nc x).toArray = A := ⟨_, rfl⟩
  rw [hA] at ra s1 ⊢
  have HX : Hid x.Ok := hx
  have HL : Hid (∀ i, i < [[3], nbs x].length → (mi [[3], nbs x] i).length ≤ 1048576) := fun i hi => by
    match i, hi with
    | 0, _ => show 1 ≤ _; omega
    | 1, _ => show (nbs x).length ≤ _; rw [nbs_length hx]; omega
  have HJ : Hid (jo [[3], nbs x] [[3], nbs x].length = [3] ++ nbs x) := rfl
  have rl : Below w.heap.size w (w.alloc (.cells A 44)) := (Below.refl _ w).alloc (Nat.le_refl _) _
  have sU : (w.alloc (.cells A 44)).heap.size = w.heap.size + 1 := by simp
  obtain ⟨U, hU⟩ : ∃ U, w.alloc (.cells A 44) = U := ⟨_, rfl⟩
  rw [hU] at ra rl sU
  have BU : Hid (Below w.heap.size w U) := rl
  obtain ⟨D, hD⟩ : ∃ D, w.heap.size = D := ⟨_, rfl⟩
  have HD : Hid (w.heap.size = D) := hD
  rw [hD] at ra sU
  have RX : Hid (U.rangeAt D 0 (nc x)) := ra
  have SU : Hid (U.heap.size = D + 1) := sU
  have O1 : Hid (Ow U.heap.size (U.alloc (.cells #[.int .u8 3] 5)) (.slice (some ⟨U.heap.size, 0, none⟩) 1 1) [3]) := ow_one U 3
  have BA : Hid (Below U.heap.size U (U.alloc (.cells #[.int .u8 3] 5))) := (Below.refl _ U).alloc (Nat.le_refl _) _
  clear hx hA ra rl sU
  go_enter Tryd.func33, Tryd.ntmps33
  go_upto_region 1 with (fail)
  try rw [hU]
  try rw [hD]
  clear hU hD
  go_wp2_with (first
    | (refine ld 44 (.tmp 1) rfl rfl D 0 rfl (nc x) _ (range_below RX.out BA.out (by have := SU.out; omega)) Tryd.underlying44 rfl (size_nc HX.out) ?_)
    | (go_at_call 57; refine (HNB.out _).mono ?_; rintro e w1 ⟨v1, rfl, g1, g2⟩; obtain ⟨ad1, cp1, hv1, -, -⟩ := g1.sl; obtain ⟨n1, hn1⟩ : ∃ n, (nbs x).length = n := ⟨_, rfl⟩; rw [hn1] at hv1; subst hv1; have P1 : Hid (Sl w1 (.slice ad1 n1 cp1) (nbs x)) := g1.sl; have B1 : Hid (Below U.heap.size U w1) := BA.out.trans (g2.mono BA.out.size); have S1 : Hid (Sl w1 (.slice (some ⟨U.heap.size, 0, none⟩) 1 1) [3]) := O1.out.sl.below g2 (Nat.le_refl _); clear g1 g2 hn1)
    | (go_at_call 56; refine (rJoin_any [[3], nbs x] _ _ (ll_two _ S1.out P1.out) HL.out (by simp)).mono ?_; rintro e w2 ⟨v2, rfl, g1, g2⟩; rw [HJ.out] at g1; have O2 : Hid (Ow (World.heap _).size w2 v2 ([3] ++ nbs x)) := g1; have B2 : Hid (Below w1.heap.size w1 w2) := (Below.alloc (Below.refl _ w1) (Nat.le_refl _) _).trans (g2.mono (by simp)); have O3 : Hid (Ow w.heap.size w2 v2 ([3] ++ nbs x)) := g1.mono (by rw [size_al]; have q1 := B1.out.size; have q2 := BU.out.size; omega); clear g1 g2)
    )
  go_ret
  exact ⟨_, rfl, O3.out, BU.out.trans ((B1.out.trans (B2.out.mono B1.out.size)).mono BU.out.size)⟩
end Go.Proofs.YtpojalbpekbfdaaDoor
/- The reference's own small functions: 'rotr32', 'k256', and a message with what is laid behind it: 'padded'. -/
namespace Go.Proofs.YtpojalbpekbfdaaDoor.Sh
open Go Go.RowKit
attribute [local go_sem] u_xor u_and u_or u_add u_shl u_shr

theorem or_comm32 (a b : BitVec 32) : a ||| b = b ||| a := BitVec.or_comm a b
set_option maxHeartbeats 400000 in
theorem rrotr (x : BitVec 32) (k : Int) (h1 : 1 ≤ k) (h2 : k ≤ 31) (w : World) :
    Calls Tryd.prog 55 #[U x, .int .u64 k] w fun e w' => e = .returned (U (rotr x k.toNat)) ∧ w' = w := by
  obtain ⟨n, rfl⟩ := Int.eq_ofNat_of_zero_le (show 0 ≤ k by omega)
  have hw : IntKind.u64.wrap (32 - (n : Int)) = ((32 - n : Nat) : Int) := by rw [IntKind.wrap_u64]; omega
  have m1 : min n 32 = n := by omega
  have m2 : min (32 - n) 32 = 32 - n := by omega
  have HE : Hid (x >>> n ||| x <<< (32 - n) = rotr x n) := by unfold rotr; exact or_comm32 _ _
  go_enter Tryd.func55, Tryd.ntmps55
  go_wp2
  go_ret
  exact ⟨congrArg (fun y => Ending.returned (U y)) HE.out, rfl⟩

/-- The first k bytes of f. -/
def bl (f : Nat → BitVec 8) (k : Nat) : List Value := (List.range k).map fun i => B (f i)
theorem bl_length (f : Nat → BitVec 8) (k : Nat) : (bl f k).length = k := by simp [bl]
theorem bl_succ (f : Nat → BitVec 8) (k : Nat) : bl f (k + 1) = bl f k ++ [B (f k)] := by simp [bl, List.range_succ]
theorem bl_congr (f g : Nat → BitVec 8) (k : Nat) (h : ∀ i, i < k → f i = g i) : bl f k = bl g k := by
  unfold bl
  exact List.map_congr_left fun i hi => by rw [h i (by simpa using hi)]
theorem bl_one (f : Nat → BitVec 8) (k : Nat) : ∀ v ∈ bl f k, v.oneCell' = true := bytes_one k f
theorem bl_zero (f : Nat → BitVec 8) : bl f 0 = [] := rfl
/-- A row of the call's own: what has been gathered. -/
structure Own (w wr : World) (v : Value) (k : Nat) (f : Nat → BitVec 8) : Prop where
  below : Below w.heap.size w wr
  own : wr.ownsRow w.heap.size 5 1 v k (bl f k)
theorem Own.blk {w wr : World} {v : Value} {k : Nat} {f : Nat → BitVec 8} (h : Own w wr v k f) : ∀ b, v.ownBlock = some b → w.heap.size ≤ b := by
  intro b hb
  rcases h.own.2 with ⟨rfl, _⟩ | ⟨g, cap, cur, rfl, hg, _⟩
  · simp [Value.ownBlock] at hb
  · simp [Value.ownBlock] at hb; omega
theorem info_u8 : ∃ i, Tryd.prog.info? 5 = some i ∧ i.zero = some (.int .u8 0) ∧ i.size = 1 ∧ i.bytes = 1 := by
  have h1 : (Tryd.prog.info? 5).map (·.size) = some 1 := by kernel_rfl
  have h2 : (Tryd.prog.info? 5).map (·.bytes) = some 1 := by kernel_rfl
  have h3 : (Tryd.prog.info? 5).map (·.zero) = some (some (.int .u8 0)) := by kernel_rfl
  cases hq : Tryd.prog.info? 5 with
  | none => rw [hq] at h1; cases h1
  | some i =>
    rw [hq] at h1 h2 h3
    exact ⟨i, rfl, Option.some.inj h3, Option.some.inj h1, Option.some.inj h2⟩
theorem Own.alloc {w wr : World} {v : Value} {k : Nat} {f : Nat → BitVec 8} (h : Own w wr v k f) (o : Obj) : Own w (wr.alloc o) v k f :=
  ⟨h.below.alloc (by have := h.below.size; omega) o, h.own.alloc o⟩
theorem Own.drewN {w wr : World} {v : Value} {k : Nat} {f : Nat → BitVec 8} (h : Own w wr v k f) (n : Nat) : Own w (wr.drewN n) v k f :=
  ⟨below_drewN h.below n, h.own⟩
theorem Own.congr {w wr : World} {v : Value} {k : Nat} {f g : Nat → BitVec 8} (h : Own w wr v k f) (hg : ∀ i, i < k → f i = g i) : Own w wr v k g :=
  ⟨h.below, by rw [← bl_congr f g k hg]; exact h.own⟩
/-- append of bytes onto a row of the call's own. -/
theorem app_own {ops : Array Oper} {rest : List Oper} {o : Oper} {a : Act} {Q : Exit → Act → World → Prop} {w wr : World} (hgd : o.guard = none) (s x : Operand) (ho : o.op = .call { callee := .builtin .append, args := #[s, x], argTypes := #[61, 61] })
    (v : Value) (k : Nat) (f : Nat → BitVec 8) (hs : a.eval s = v) (h0 : Own w wr v k f) (ad : Addr) (m c : Nat) (hx : a.eval x = .slice (some ad) m c) (f' : Nat → BitVec 8) (hf : ∀ i, i < k → f i = f' i)
    (hg : ∀ i, i < m → wr.cell? (ad.add i) = some (B (f' (k + i)))) (hk : k + m ≤ 140737488355328)
    (h : ∀ v' w', Own w w' v' (k + m) f' → wr.heap.size ≤ w'.heap.size → wpList Tryd.prog ops Q rest (a.put o.dst v') w') : wpList Tryd.prog ops Q (o :: rest) a wr := by
  obtain ⟨i, hi, hz, hsz, hby⟩ := info_u8
  have hb := h0.below.size
  refine wpList_append_own_at wr hgd s x 61 ho w.heap.size 5 i (.int .u8 0) 1 1 Tryd.underlying61 hi hz hsz hby rfl (by decide) v k (bl f k) hs h0.own ad m c (bl (fun j => f' (k + j)) m) hx (by rw [bl_length]; omega) ?_ (bl_one _ _) (by unfold maxLen; omega) (by omega) hb ?_
  · intro j u hu
    obtain ⟨hj, hv⟩ := List.getElem?_eq_some_iff.1 hu
    rw [bl_length] at hj
    rw [hg j hj, ← hv]
    simp [bl]
  · intro v' w' h1 h2 h3 h4
    refine h v' w' ⟨h0.below.grown h2 hb (fun b hb' => h0.blk b hb'), ?_⟩ h2.size
    have e : bl f k ++ bl (fun j => f' (k + j)) m = bl f' (k + m) := by
      rw [bl_congr f f' k hf]
      apply List.ext_getElem?
      intro j
      by_cases hj : j < k
      · rw [List.getElem?_append_left (by rw [bl_length]; exact hj)]
        simp [bl, hj, show j < k + m by omega]
      · rw [List.getElem?_append_right (by rw [bl_length]; omega), bl_length]
        by_cases hj2 : j < k + m
        · simp [bl, show j - k < m by omega, hj2, show k + (j - k) = j by omega]
        · rw [List.getElem?_eq_none (by rw [bl_length]; omega), List.getElem?_eq_none (by rw [bl_length]; omega)]
    rw [← e]; exact h1
/-- n bytes behind a slice, nil or not. -/
def Src (w : World) (ad : Option Addr) (n cap : Nat) (m : Nat → BitVec 8) : Prop :=
  (n = 0 ∧ cap = 0) ∨ ∃ b off, ad = some ⟨b, off, none⟩ ∧ b < w.heap.size ∧ ∀ i, i < n → w.cell? ⟨b, off + i, none⟩ = some (B (m i))
theorem Src.below {w w' : World} {ad : Option Addr} {n cap B0 : Nat} {m : Nat → BitVec 8} (h : Src w ad n cap m) (hb : Below B0 w w') (hB : w.heap.size ≤ B0) : Src w' ad n cap m := by
  rcases h with h | ⟨b, off, rfl, hlt, hm⟩
  · exact .inl h
  · exact .inr ⟨b, off, rfl, Nat.lt_of_lt_of_le hlt hb.size, fun i hi => (hb.cell (p := ⟨b, off + i, none⟩) (Nat.lt_of_lt_of_le hlt hB)).trans (hm i hi)⟩
theorem Src.congr {w : World} {ad : Option Addr} {n cap : Nat} {m m' : Nat → BitVec 8} (h : Src w ad n cap m) (he : ∀ i, i < n → m i = m' i) : Src w ad n cap m' := by
  rcases h with h | ⟨b, off, rfl, hlt, hm⟩
  · exact .inl h
  · exact .inr ⟨b, off, rfl, hlt, fun i hi => (he i hi) ▸ hm i hi⟩
theorem Bytes.src {w : World} {v : Value} {n hb : Nat} {m : Nat → BitVec 8} (h : Bytes w v n m hb) : ∃ ad cap, v = .slice ad n cap ∧ Src w ad n cap m := by
  rcases h with ⟨⟨ad, rfl⟩, rfl⟩ | ⟨b, off, cap, rfl, _, hlt, _, hm⟩
  · exact ⟨ad, 0, rfl, .inl ⟨rfl, rfl⟩⟩
  · exact ⟨_, cap, rfl, .inr ⟨b, off, rfl, hlt, hm⟩⟩
/-- append of whatever bytes onto a row of the call's own. -/
theorem app_src {ops : Array Oper} {rest : List Oper} {o : Oper} {a : Act} {Q : Exit → Act → World → Prop} {w wr : World} (hgd : o.guard = none) (s x : Operand) (ho : o.op = .call { callee := .builtin .append, args := #[s, x], argTypes := #[61, 61] })
    (v : Value) (k : Nat) (f : Nat → BitVec 8) (hs : a.eval s = v) (h0 : Own w wr v k f) (ad : Option Addr) (m c : Nat) (hx : a.eval x = .slice ad m c) (f' : Nat → BitVec 8) (hf : ∀ i, i < k → f i = f' i)
    (hg : Src wr ad m c (fun i => f' (k + i))) (hk : k + m ≤ 140737488355328)
    (h : ∀ v' w', Own w w' v' (k + m) f' → wr.heap.size ≤ w'.heap.size → wpList Tryd.prog ops Q rest (a.put o.dst v') w') : wpList Tryd.prog ops Q (o :: rest) a wr := by
  rcases hg with ⟨rfl, rfl⟩ | ⟨b, off, rfl, _, hm⟩
  · cases ad with
    | some A => exact app_own hgd s x ho v k f hs h0 A 0 0 hx f' hf (fun i hi => absurd hi (Nat.not_lt_zero i)) hk h
    | none =>
    obtain ⟨i, hi, _⟩ := info_u8
    exact wpList_append_own_none hgd s x 61 ho w.heap.size 5 i 1 Tryd.underlying61 hi v k (bl f k) hs h0.own hx (h v wr (h0.congr hf) (Nat.le_refl _))
  · exact app_own hgd s x ho v k f hs h0 ⟨b, off, none⟩ m c hx f' hf (fun i hi => by rw [addr_add0]; exact hm i hi) hk h
end Go.Proofs.YtpojalbpekbfdaaDoor.Sh
