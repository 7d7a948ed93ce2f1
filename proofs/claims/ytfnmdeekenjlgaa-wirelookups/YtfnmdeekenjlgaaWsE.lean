/- The reference: Join, NodeBytes, nodes. -/
import Derived.Test.YtfnmdeekenjlgaaWsD
import Derived.Test.YtfnmdeekenjlgaaWirD
namespace Go.Proofs.Ytfnmdeekenjlgaa
open Go Go.RowKit
set_option linter.unusedSimpArgs false
set_option linter.unusedVariables false
set_option maxRecDepth 100000

def nbs (x : Nd) : List Int := [x.n / 256, x.n % 256] ++ x.p ++ x.h
def jo (xss : List (List Int)) : Nat → List Int
  | 0 => []
  | k + 1 => jo xss k ++ mi xss k
theorem jo_le {xss : List (List Int)} {B : Nat} (h : ∀ i, i < xss.length → (mi xss i).length ≤ B) : ∀ k, k ≤ xss.length → (jo xss k).length ≤ k * B
  | 0, _ => by simp [jo]
  | k + 1, hk => by
    have h1 := jo_le h k (by omega)
    have h2 := h k (by omega)
    simp only [jo, List.length_append, Nat.succ_mul]; omega
set_option maxHeartbeats 2000000 in
theorem rJoin_any (xss : List (List Int)) (v : Value) (w : World) (hs : LL w v xss) (hL : ∀ i, i < xss.length → (mi xss i).length ≤ 1048576) (hn : xss.length ≤ 1000) :
    Calls Try.prog 67 #[v] w fun e w' => ∃ v', e = .returned v' ∧ Ow w.heap.size w' v' (jo xss xss.length) ∧ Below w.heap.size w w' := by
  obtain ⟨ad, cap, rfl, hc, hx⟩ := hs
  have HX : Hid (xss = [] ∧ (ad = none → cap = 0) ∨ ∃ b o, ad = some ⟨b, o, none⟩ ∧ b < w.heap.size ∧ ∀ i, i < xss.length → ∃ u, w.cell? ⟨b, o + i, none⟩ = some u ∧ Sl w u (mi xss i)) := hx
  have HL : Hid (∀ i, i < xss.length → (mi xss i).length ≤ 1048576) := hL
  have HB : Hid (∀ k, k ≤ xss.length → (jo xss k).length ≤ k * 1048576) := fun k hk => jo_le hL k hk
  clear hx hL hc
  go_enter Try.func67, Try.ntmps67
  go_wp2_with fail
  go_loopw [3, 7] (fun ov i wr => ∃ k : Nat, k ≤ xss.length ∧ i = .int .i64 (k : Int) ∧ Ow w.heap.size wr ov (jo xss k) ∧ Below w.heap.size w wr) (fun _ i _ => xss.length - (intOf i).toNat)
  case atStart => exact ⟨0, Nat.zero_le _, rfl, Ow.nil _ _, Below.refl _ _⟩
  case round =>
    obtain ⟨k, hkl, rfl, how, h4⟩ := hrel
    have H4 : Hid (Below w.heap.size w wr) := h4
    have HO : Hid (Ow w.heap.size wr u3 (jo xss k)) := how
    clear h4 how
    by_cases hlt : k < xss.length
    · rcases HX.out with ⟨rfl, _⟩ | ⟨b, o, rfl, hlb, hm⟩
      · simp at hlt
      · obtain ⟨u, hc0, hu⟩ := hm k hlt
        have c0 : wr.cell? ⟨b, o + k, none⟩ = some u := (H4.out.cell (p := ⟨b, o + k, none⟩) hlb).trans hc0
        have HS : Hid (Sl wr u (mi xss k)) := hu.below H4.out (Nat.le_refl _)
        have HLK : Hid ((jo xss k).length + (mi xss k).length ≤ 140737488355328) := by
          have h1 := HB.out k hkl
          have h2 := HL.out k hlt
          have h3 := Nat.mul_le_mul_right 1048576 (show k ≤ 1000 by omega)
          show _ ≤ _; omega
        obtain ⟨ua, uc, hue, -, -⟩ := hu
        obtain ⟨ul, hul⟩ : ∃ n, (mi xss k).length = n := ⟨_, rfl⟩
        rw [hul] at hue
        subst hue
        clear hm hc0 hlb hul
        go_wp2_with (at_builtin; refine app_u8 (B0 := w.heap.size) rfl _ _ rfl H4.out.size u3 (jo xss k) rfl HO.out _ rfl (mi xss k) HS.out HLK.out ?_; intro v1 w1 g1 g2 g3 g4; have O1 : Hid (Ow w.heap.size w1 v1 (jo xss (k + 1))) := g1; have B1 : Hid (Below w.heap.size wr w1) := g3; clear g1 g2 g3 g4)
        exact ⟨⟨k + 1, hlt, by go_num, O1.out, H4.out.trans B1.out⟩, by simp [intOf]; omega⟩
    · obtain rfl : k = xss.length := by omega
      go_wp2_with fail
      go_ret
      exact ⟨_, rfl, HO.out, H4.out⟩
theorem sl_two (w : World) (y z : Int) (t : TypeId) : Sl (w.alloc (.cells #[.int .u8 y, .int .u8 z] t)) (.slice (some ⟨w.heap.size, 0, none⟩) 2 2) [y, z] := by
  refine ⟨_, 2, rfl, Nat.le_refl _, .inr ⟨_, 0, rfl, by simp, fun i hi => ?_⟩⟩
  rw [Nat.zero_add, cell_alloc]
  have : i = 0 ∨ i = 1 := by simp at hi; omega
  rcases this with rfl | rfl <;> rfl
theorem ll_three {W : World} {u1 u2 u3 : Value} {p1 p2 p3 : List Int} (T : TypeId) (h1 : Sl W u1 p1) (h2 : Sl W u2 p2) (h3 : Sl W u3 p3) : LL (W.alloc (.cells #[u1, u2, u3] T)) (.slice (some ⟨W.heap.size, 0, none⟩) 3 3) [p1, p2, p3] := by
  have hb : Below W.heap.size W (W.alloc (.cells #[u1, u2, u3] T)) := (Below.refl _ W).alloc (Nat.le_refl _) _
  refine ⟨_, 3, rfl, by simp, .inr ⟨W.heap.size, 0, rfl, by simp, fun i hi => ?_⟩⟩
  match i, hi with
  | 0, _ => exact ⟨u1, cell_alloc W #[u1, u2, u3] T _ 0, h1.below hb (Nat.le_refl _)⟩
  | 1, _ => exact ⟨u2, cell_alloc W #[u1, u2, u3] T _ 1, h2.below hb (Nat.le_refl _)⟩
  | 2, _ => exact ⟨u3, cell_alloc W #[u1, u2, u3] T _ 2, h3.below hb (Nat.le_refl _)⟩
def nbΩ (U : World) (x : Nd) (n : Int) : Nat → (Nat → Value) → World → Prop
  | 0, _, W => Below U.heap.size U W
  | 1, V, W => Below U.heap.size U W ∧ (∃ E, V 0 = .slice (some ⟨E, 0, none⟩) 2 2) ∧ Sl W (V 0) [n / 256, n % 256]
  | 2, V, W => Below U.heap.size U W ∧ (∃ E, V 1 = .slice (some ⟨E, 0, none⟩) 3 3) ∧ LL W (V 1) [[n / 256, n % 256], x.p, x.h]
  | 3, V, W => Below U.heap.size U W ∧ Ow U.heap.size W (V 2) (nbs x)
  | _ + 4, V, W => Below U.heap.size U W ∧ Ow U.heap.size W (V 3) (nbs x)
theorem nbΩ.below {U : World} {x : Nd} {n : Int} {k : Nat} {V : Nat → Value} {W : World} (h : nbΩ U x n k V W) : Below U.heap.size U W := by
  match k, h with
  | 0, h => exact h
  | 1, h => exact h.1
  | 2, h => exact h.1
  | 3, h => exact h.1
  | k + 4, h => exact h.1
def nbK : Nat → Nat
  | 0 | 1 | 2 | 3 | 4 | 5 | 6 => 0
  | _ => 1
def nbf (n : Int) (D : Nat) : Nat → Value
  | 0 => .pointer (some ⟨D, 0, none⟩)
  | 1 => .int .i64 n
  | 2 => .int .i64 (n / 256)
  | 3 => .int .u8 (n / 256)
  | 4 => .pointer (some ⟨D, 0, none⟩)
  | 5 => .int .i64 n
  | 6 => .int .u8 (n % 256)
  | 7 => undef
  | 8 => .pointer (some ⟨D, 1, none⟩)
  | 9 => .slice (some ⟨D, 1, none⟩) 32 32
  | 10 => .pointer (some ⟨D, 33, none⟩)
  | 11 => .slice (some ⟨D, 33, none⟩) 32 32
  | 12 => undef
  | 13 => undef
  | 14 => undef
  | _ => undef
set_option maxHeartbeats 4000000 in
theorem rNodeBytes_any (x : Nd) (hx : x.Ok) (hn0 : 0 ≤ x.n) (hn1 : x.n ≤ 256) (w : World) :
    Calls Try.prog 57 #[.agg (nc x).toArray] w fun e w' => ∃ v', e = .returned v' ∧ Ow w.heap.size w' v' (nbs x) ∧ Below w.heap.size w w' := by
  have s1 := nc_size hx
  have ra := range_alloc w (nc x) 94 (0, 0)
  obtain ⟨A, hA⟩ : ∃ A, (nc x).toArray = A := ⟨_, rfl⟩
  rw [hA] at ra s1 ⊢
  have HX : Hid x.Ok := hx
  obtain ⟨n, hn⟩ : ∃ n, x.n = n := ⟨_, rfl⟩
  have HN : Hid (x.n = n) := hn
  have HJ : Hid (jo [[n / 256, n % 256], x.p, x.h] [[n / 256, n % 256], x.p, x.h].length = nbs x) := by show _ = nbs x; unfold nbs; rw [hn]; rfl
  have HLN : Hid (∀ i, i < [[n / 256, n % 256], x.p, x.h].length → (mi [[n / 256, n % 256], x.p, x.h] i).length ≤ 1048576) := fun i hi => by
    match i, hi with
    | 0, _ => show 2 ≤ _; omega
    | 1, _ => show x.p.length ≤ _; rw [hx.p.len]; omega
    | 2, _ => show x.h.length ≤ _; rw [hx.h.len]; omega
  rw [hn] at hn0 hn1
  have hw1 : IntKind.u8.wrap (n / 256) = n / 256 := by rw [IntKind.wrap_u8]; omega
  have hw2 : IntKind.u8.wrap n = n % 256 := by rw [IntKind.wrap_u8]
  have rl : Below w.heap.size w (w.alloc (.cells A 94)) := (Below.refl _ w).alloc (Nat.le_refl _) _
  clear hx hA hn
  go_enter Try.func57, Try.ntmps57
  go_wp2_with fail
  obtain ⟨U, hU⟩ : ∃ U, w.alloc (.cells A 94) = U := ⟨_, rfl⟩
  have sU : w.heap.size < U.heap.size := by rw [← hU]; simp
  rw [hU] at ra rl ⊢
  have BU : Hid (Below w.heap.size w U) := rl
  obtain ⟨D, hD⟩ : ∃ D, w.heap.size = D := ⟨_, rfl⟩
  rw [hD] at ra sU ⊢
  have RX : Hid (U.rangeAt D 0 (nc x)) := ra
  have hDX : Hid (D < U.heap.size) := sU
  clear hU ra rl sU hD
  refine RU.wp_rgn' [7, 12, 13, 14] (nbf n D) nbK (nbΩ U x n) (by kernel_rfl) (by kernel_rfl) (show Below U.heap.size U _ from (Below.refl _ _).drew) ?_ ?_
  · refine ⟨?_, ?_, ?_, ?_, ?_, ?_, ?_, ?_, ?_, ?_, ?_, ?_, ?_, ?_, ?_, trivial⟩
    · refine RU.ObT.pure rfl rfl rfl (fun a V hf hp ev he hc W => ?_)
      have q1 : ev (.tmp 1) = .pointer (some ⟨D, 0, none⟩) := (he (.tmp 1)).trans (hf 1 rfl)
      simp only [List.getElem_toArray, List.getElem_cons_succ, List.getElem_cons_zero, execOp, Option.map_some, Option.map_none]; rw [q1]
      first | (go_simp; done) | (go_simp; rfl) | rfl
    · refine RU.ObT.silent rfl (fun a W k0 V hO hf hp hk => ?_)
      have hO' : Below U.heap.size U W := nbΩ.below hO
      have hcell := nc_n (range_below RX.out hO' hDX.out)
      rw [HN.out] at hcell
      refine RU.ob_val rfl (RU.wanted_none rfl) (fun ev he hc => ?_) ⟨rfl, hO⟩
      have q3 : ev (.tmp 3) = .pointer (some ⟨D, 0, none⟩) := (he (.tmp 3)).trans (hp 0 3 rfl)
      simp only [List.getElem_toArray, List.getElem_cons_succ, List.getElem_cons_zero, execOp, Option.map_some, Option.map_none]; rw [q3]
      first | (go_simp; done) | (go_simp; rfl) | rfl
    · refine RU.ObT.pure rfl rfl rfl (fun a V hf hp ev he hc W => ?_)
      have q4 : ev (.tmp 4) = .int .i64 n := (he (.tmp 4)).trans (hp 1 4 rfl)
      simp only [List.getElem_toArray, List.getElem_cons_succ, List.getElem_cons_zero, execOp, Option.map_some, Option.map_none]; rw [q4]
      try simp only [hc]
      first | (go_simp; done) | (go_simp; rfl) | rfl
    · refine RU.ObT.pure rfl rfl rfl (fun a V hf hp ev he hc W => ?_)
      have q5 : ev (.tmp 5) = .int .i64 (n / 256) := (he (.tmp 5)).trans (hp 2 5 rfl)
      simp only [List.getElem_toArray, List.getElem_cons_succ, List.getElem_cons_zero, execOp, Option.map_some, Option.map_none]; rw [q5]
      first | (go_simp; done) | (go_simp; rfl) | rfl
    · refine RU.ObT.pure rfl rfl rfl (fun a V hf hp ev he hc W => ?_)
      have q1 : ev (.tmp 1) = .pointer (some ⟨D, 0, none⟩) := (he (.tmp 1)).trans (hf 1 rfl)
      simp only [List.getElem_toArray, List.getElem_cons_succ, List.getElem_cons_zero, execOp, Option.map_some, Option.map_none]; rw [q1]
      first | (go_simp; done) | (go_simp; rfl) | rfl
    · refine RU.ObT.silent rfl (fun a W k0 V hO hf hp hk => ?_)
      have hO' : Below U.heap.size U W := nbΩ.below hO
      have hcell := nc_n (range_below RX.out hO' hDX.out)
      rw [HN.out] at hcell
      refine RU.ob_val rfl (RU.wanted_none rfl) (fun ev he hc => ?_) ⟨rfl, hO⟩
      have q7 : ev (.tmp 7) = .pointer (some ⟨D, 0, none⟩) := (he (.tmp 7)).trans (hp 4 7 rfl)
      simp only [List.getElem_toArray, List.getElem_cons_succ, List.getElem_cons_zero, execOp, Option.map_some, Option.map_none]; rw [q7]
      first | (go_simp; done) | (go_simp; rfl) | rfl
    · refine RU.ObT.pure rfl rfl rfl (fun a V hf hp ev he hc W => ?_)
      have q8 : ev (.tmp 8) = .int .i64 n := (he (.tmp 8)).trans (hp 5 8 rfl)
      simp only [List.getElem_toArray, List.getElem_cons_succ, List.getElem_cons_zero, execOp, Option.map_some, Option.map_none]; rw [q8]
      first | (go_simp; done) | (go_simp; rfl) | rfl
    · refine RU.ObT.loud (j := 0) rfl (fun a W V hO hf hp => ?_)
      have hO' : Below U.heap.size U W := hO
      have q6 : a.eval (.tmp 6) = .int .u8 (n / 256) := hp 3 6 rfl
      have q9 : a.eval (.tmp 9) = .int .u8 (n % 256) := hp 6 9 rfl
      refine RU.ob_run (v := .slice (some ⟨W.heap.size, 0, none⟩) 2 2) (w' := W.alloc (.cells #[.int .u8 (n / 256), .int .u8 (n % 256)] 5)) rfl (RU.wanted_none rfl) (fun ev he hc => ?_) ⟨_, rfl, hO'.alloc hO'.size _, ⟨_, rfl⟩, sl_two W _ _ _⟩
      have e1 := (he (.tmp 6)).trans q6
      have e2 := (he (.tmp 9)).trans q9
      simp only [List.getElem_toArray, List.getElem_cons_succ, List.getElem_cons_zero, execOp]
      simp only [List.map_toArray, List.map_cons, List.map_nil, e1, e2]
      go_simp
    · refine RU.ObT.pure rfl rfl rfl (fun a V hf hp ev he hc W => ?_)
      have q1 : ev (.tmp 1) = .pointer (some ⟨D, 0, none⟩) := (he (.tmp 1)).trans (hf 1 rfl)
      simp only [List.getElem_toArray, List.getElem_cons_succ, List.getElem_cons_zero, execOp, Option.map_some, Option.map_none]; rw [q1]
      first | (go_simp; done) | (go_simp; rfl) | rfl
    · refine RU.ObT.pure rfl rfl rfl (fun a V hf hp ev he hc W => ?_)
      have q11 : ev (.tmp 11) = .pointer (some ⟨D, 1, none⟩) := (he (.tmp 11)).trans (hp 8 11 rfl)
      simp only [List.getElem_toArray, List.getElem_cons_succ, List.getElem_cons_zero, execOp, Option.map_some, Option.map_none]; rw [q11]
      first | (go_simp; done) | (go_simp; rfl) | rfl
    · refine RU.ObT.pure rfl rfl rfl (fun a V hf hp ev he hc W => ?_)
      have q1 : ev (.tmp 1) = .pointer (some ⟨D, 0, none⟩) := (he (.tmp 1)).trans (hf 1 rfl)
      simp only [List.getElem_toArray, List.getElem_cons_succ, List.getElem_cons_zero, execOp, Option.map_some, Option.map_none]; rw [q1]
      first | (go_simp; done) | (go_simp; rfl) | rfl
    · refine RU.ObT.pure rfl rfl rfl (fun a V hf hp ev he hc W => ?_)
      have q13 : ev (.tmp 13) = .pointer (some ⟨D, 33, none⟩) := (he (.tmp 13)).trans (hp 10 13 rfl)
      simp only [List.getElem_toArray, List.getElem_cons_succ, List.getElem_cons_zero, execOp, Option.map_some, Option.map_none]; rw [q13]
      first | (go_simp; done) | (go_simp; rfl) | rfl
    · refine RU.ObT.loud (j := 1) rfl (fun a W V hO hf hp => ?_)
      obtain ⟨hO', ⟨E, hE⟩, hsl⟩ := hO
      have q10 : a.eval (.tmp 10) = .slice (some ⟨E, 0, none⟩) 2 2 := (hp 7 10 rfl).trans hE
      have q12 : a.eval (.tmp 12) = .slice (some ⟨D, 1, none⟩) 32 32 := hp 9 12 rfl
      have q14 : a.eval (.tmp 14) = .slice (some ⟨D, 33, none⟩) 32 32 := hp 11 14 rfl
      rw [hE] at hsl
      have hr := range_below RX.out hO' hDX.out
      have hd : D < W.heap.size := Nat.lt_of_lt_of_le hDX.out hO'.size
      refine RU.ob_run (v := .slice (some ⟨W.heap.size, 0, none⟩) 3 3) (w' := W.alloc (.cells #[.slice (some ⟨E, 0, none⟩) 2 2, .slice (some ⟨D, 1, none⟩) 32 32, .slice (some ⟨D, 33, none⟩) 32 32] 34)) rfl (RU.wanted_none rfl) (fun ev he hc => ?_) ⟨_, rfl, hO'.alloc hO'.size _, ⟨_, rfl⟩, ll_three _ hsl (sl_range HX.out.p (nc_p hr) hd) (sl_range HX.out.h (nc_h HX.out hr) hd)⟩
      have e1 := (he (.tmp 10)).trans q10
      have e2 := (he (.tmp 12)).trans q12
      have e3 := (he (.tmp 14)).trans q14
      simp only [List.getElem_toArray, List.getElem_cons_succ, List.getElem_cons_zero, execOp]
      simp only [List.map_toArray, List.map_cons, List.map_nil, e1, e2, e3]
      go_simp
    · refine RU.ObT.loud (j := 2) rfl (fun a W V hO hf hp => ?_)
      obtain ⟨hO', ⟨E, hE⟩, hll⟩ := hO
      have e15 : a.eval (.tmp 15) = V 1 := hp 12 15 rfl
      refine RU.ob_call (g := 67) (args := #[V 1]) rfl (RU.wanted_none rfl) (fun ev he hc => ?_) ((rJoin_any _ (V 1) W hll HLN.out (by simp)).mono ?_)
      · have h15 := (he (.tmp 15)).trans e15
        have hfn := he (.func 67)
        simp only [List.getElem_toArray, List.getElem_cons_succ, List.getElem_cons_zero, execOp, Option.map_some, Option.map_none]
        simp only [resolve, invoke, Sem.run_bind, Sem.run_pure, Result.andThen_ok, List.map_toArray, List.map_cons, List.map_nil, h15, hfn, Act.eval, hc]
        rfl
      · rintro e' W2 ⟨v', rfl, g1, g2⟩
        rw [HJ.out] at g1
        exact ⟨_, rfl, _, rfl, hO'.trans (g2.mono hO'.size), g1.mono hO'.size⟩
    · refine RU.ObT.loud (j := 3) rfl (fun a W V hO hf hp => ?_)
      have q16 : a.eval (.tmp 16) = V 2 := hp 13 16 rfl
      refine RU.ob_val (v := V 2) rfl (RU.wanted_none rfl) (fun ev he hc => ?_) ⟨_, rfl, hO⟩
      have e1 := (he (.tmp 16)).trans q16
      simp only [List.getElem_toArray, List.getElem_cons_succ, List.getElem_cons_zero, execOp]
      rw [e1]
      first | rfl | go_simp
  intro W1 VW1 hOW1
  have P1 : Hid (Below U.heap.size U W1 ∧ Ow U.heap.size W1 (VW1 3) (nbs x)) := hOW1
  clear hOW1
  simp only [RU.lay, RU.val, show RU.at' [7, 12, 13, 14] 0 = none from rfl, show RU.at' [7, 12, 13, 14] 1 = none from rfl, show RU.at' [7, 12, 13, 14] 2 = none from rfl, show RU.at' [7, 12, 13, 14] 3 = none from rfl, show RU.at' [7, 12, 13, 14] 4 = none from rfl, show RU.at' [7, 12, 13, 14] 5 = none from rfl, show RU.at' [7, 12, 13, 14] 6 = none from rfl, show RU.at' [7, 12, 13, 14] 7 = some 0 from rfl, show RU.at' [7, 12, 13, 14] 8 = none from rfl, show RU.at' [7, 12, 13, 14] 9 = none from rfl, show RU.at' [7, 12, 13, 14] 10 = none from rfl, show RU.at' [7, 12, 13, 14] 11 = none from rfl, show RU.at' [7, 12, 13, 14] 12 = some 1 from rfl, show RU.at' [7, 12, 13, 14] 13 = some 2 from rfl, show RU.at' [7, 12, 13, 14] 14 = some 3 from rfl, nbf, Act.put]
  simp only [List.setIfInBounds_toArray, List.set_cons_succ, List.set_cons_zero]
  go_wp2_with fail
  go_ret
  exact ⟨_, rfl, P1.out.2.mono BU.out.size, BU.out.trans (P1.out.1.mono BU.out.size)⟩
theorem ndb_nbs {x : Nd} (h0 : 0 ≤ x.n) (h1 : x.n ≤ 256) : nbs x = ndb x := by
  have e : be 2 x.n = [x.n / 256, x.n % 256] := by
    simp [be, dg, List.range_succ]
    omega
  unfold nbs ndb
  rw [e]; simp
def lok (ls : List Nd) : Prop := ∀ x ∈ ls, 0 ≤ x.n ∧ x.n ≤ 256
/-- What nodes gives. -/
def RNb (B : Nat) (ls : List Nd) (v' : Value) (ok : Bool) (w' : World) : Prop := (lok ls ∧ ok = true ∧ Ow B w' v' (ls.flatMap ndb)) ∨ (¬ lok ls ∧ ok = false ∧ v' = .slice none 0 0)
set_option maxHeartbeats 8000000 in
theorem rnodes_any (ls : List Nd) (hk : ∀ x ∈ ls, x.Ok) (hlen : ls.length * 66 ≤ 140000000000000) (v : Value) (w : World) (hv : NS w v ls) :
    Calls Try.prog 23 #[v] w fun e w' => ∃ v' ok, e = .returned (.tuple #[v', .bool ok]) ∧ RNb w.heap.size ls v' ok w' ∧ Below w.heap.size w w' := by
  obtain ⟨ad, cap, rfl, hc, hx⟩ := hv
  have HXX : Hid ((ls = [] ∧ (ad = none → cap = 0)) ∨ ∃ b o, ad = some ⟨b, o, none⟩ ∧ b < w.heap.size ∧ ∀ (i : Nat) (x : Nd), ls[i]? = some x → w.rangeAt b (o + i * 65) (nc x)) := hx
  have HK : Hid (∀ x ∈ ls, x.Ok) := hk
  have HC : Hid (∀ k, ((ls.take k).flatMap ndb).length ≤ 140000000000000) := fun k => by
    show _ ≤ _
    rw [fm_len ndb 66 (fun x hx => ndb_len (hk x (List.mem_of_mem_take hx))), List.length_take]
    exact Nat.le_trans (Nat.mul_le_mul_right _ (Nat.min_le_right _ _)) hlen
  obtain ⟨n, hn⟩ : ∃ n, ls.length = n := ⟨_, rfl⟩
  have HN : Hid (ls.length = n) := hn
  rw [hn] at hc hlen ⊢
  have hn9 : n ≤ 140000000000000 := by omega
  clear hx hk hn
  go_enter Try.func23, Try.ntmps23
  go_wp2_with fail
  go_loopw [4, 8] (fun ov i wr => ∃ k : Nat, k ≤ n ∧ i = .int .i64 (k : Int) ∧ Ow w.heap.size wr ov ((ls.take k).flatMap ndb) ∧ (∀ (j : Nat) (x : Nd), j < k → ls[j]? = some x → 0 ≤ x.n ∧ x.n ≤ 256) ∧ Below w.heap.size w wr) (fun _ i _ => n - (intOf i).toNat)
  case atStart => exact ⟨0, Nat.zero_le _, rfl, Ow.nil _ _, fun j x h => by omega, Below.refl _ _⟩
  case round =>
    obtain ⟨k, hkn, rfl, h1, hq, h2⟩ := hrel
    have O1 : Hid (Ow w.heap.size wr u4 ((ls.take k).flatMap ndb)) := h1
    have HQ : Hid (∀ (j : Nat) (x : Nd), j < k → ls[j]? = some x → 0 ≤ x.n ∧ x.n ≤ 256) := hq
    have B1 : Hid (Below w.heap.size w wr) := h2
    clear h1 h2 hq
    by_cases hlt : k < n
    · obtain ⟨x, hx⟩ : ∃ x, ls[k]? = some x := ⟨ls[k]'(by rw [HN.out]; exact hlt), List.getElem?_eq_getElem (by rw [HN.out]; exact hlt)⟩
      have HX : Hid x.Ok := HK.out x (List.mem_of_getElem? hx)
      have HXK : Hid (ls[k]? = some x) := hx
      have HSN : Hid ((ls.take (k + 1)).flatMap ndb = (ls.take k).flatMap ndb ++ ndb x) := fm_snoc ndb hx
      rcases HXX.out with ⟨h0, _⟩ | ⟨b, o, rfl, hlb, hm⟩
      · rw [h0] at hx; simp at hx
      · have HRX : Hid (wr.rangeAt b (o + k * 65) (nc x)) := range_below (hm k x hx) B1.out hlb
        have hcl : wr.cell? ⟨b, o + k * 65, none⟩ = some (.int .i64 x.n) := nc_n HRX.out
        have HCK := HC.out k
        obtain ⟨L0, hL0⟩ : ∃ L, (ls.take k).flatMap ndb = L := ⟨_, rfl⟩
        rw [hL0] at HSN O1 HCK
        have HL0 : Hid (L0.length ≤ 140000000000000) := HCK
        obtain ⟨z, hz⟩ : ∃ z, x.n = z := ⟨_, rfl⟩
        have HZ : Hid (x.n = z) := hz
        rw [hz] at hcl
        clear hm hlb hx hL0 HCK hz
        by_cases hb : 0 ≤ z ∧ z ≤ 256
        · have h01 : ¬ z < 0 := by omega
          have h02 : ¬ z > 256 := by omega
          have HZB : Hid (0 ≤ x.n ∧ x.n ≤ 256) := by show _ ∧ _; rw [HZ.out]; exact hb
          have HNB : Hid (∀ W : World, Calls Try.prog 57 #[.agg (nc x).toArray] W fun e w' => ∃ v', e = .returned v' ∧ Ow W.heap.size w' v' (ndb x) ∧ Below W.heap.size W w') := fun W => by
            have := rNodeBytes_any x HX.out HZB.out.1 HZB.out.2 W
            rw [ndb_nbs HZB.out.1 HZB.out.2] at this
            exact this
          go_upto_region 7 with (fail)
          clear hcl h01 h02
          have HB : Hid (L0.length + (ndb x).length ≤ 140737488355328) := by show _ ≤ _; have h1 := HL0.out; have h2 := ndb_len HX.out; omega
          go_wp2_with (first
            | (refine ld 94 (.tmp 28) rfl rfl b (o + k * 65) rfl (nc x) _ HRX.out Try.underlying94 rfl (size_nc HX.out) ?_)
            | (go_at_call 57; refine (HNB.out wr).mono ?_; rintro e w2 ⟨v2, rfl, q1, q2⟩; have S2 : Hid (Sl w2 v2 (ndb x)) := q1.sl; have P2 : Hid (Ow w.heap.size w2 u4 L0) := O1.out.below q2; have B2 : Hid (Below w.heap.size w w2) := B1.out.trans (q2.mono B1.out.size); clear q1 q2)
            | (at_builtin; refine app_u8 (B0 := w.heap.size) rfl (.tmp 25) (.tmp 30) rfl B2.out.size u4 L0 rfl P2.out v2 rfl (ndb x) S2.out HB.out ?_; intro v3 w3 q1 q2 q3 q4; have O3 : Hid (Ow w.heap.size w3 v3 (L0 ++ ndb x)) := q1; have B3 : Hid (Below w.heap.size w w3) := B2.out.trans q3; clear q1 q2 q3 q4))
          exact ⟨⟨k + 1, hlt, by go_num, by rw [HSN.out]; exact O3.out, fun j y hj hy => by
            rcases Nat.lt_or_ge j k with q | q
            · exact HQ.out j y q hy
            · obtain rfl : j = k := by omega
              rw [HXK.out] at hy; cases hy; exact HZB.out, B3.out⟩, by simp [intOf]; omega⟩
        · have HNO : Hid (¬ lok ls) := fun h => by have := h x (List.mem_of_getElem? HXK.out); rw [HZ.out] at this; exact hb this
          by_cases h0 : z < 0
          · clear hb
            go_wp2_with fail
            go_ret2
            first | exact ⟨_, _, rfl, .inr ⟨HNO.out, rfl, rfl⟩, B1.out⟩ | exact ⟨_, .inl ⟨rfl, .inr ⟨HNO.out, rfl, rfl⟩, B1.out⟩⟩
          · have h02 : z > 256 := by omega
            clear hb
            go_wp2_with fail
            go_ret2
            first | exact ⟨_, _, rfl, .inr ⟨HNO.out, rfl, rfl⟩, B1.out⟩ | exact ⟨_, .inl ⟨rfl, .inr ⟨HNO.out, rfl, rfl⟩, B1.out⟩⟩
    · obtain rfl : k = n := by omega
      have HT : Hid (ls.take k = ls) := by show _ = _; rw [← HN.out, List.take_length]
      have O9 : Hid (Ow w.heap.size wr u4 (ls.flatMap ndb)) := by have := O1.out; rw [HT.out] at this; exact this
      have HOK : Hid (lok ls) := fun x hx => by
        obtain ⟨j, hj, rfl⟩ := List.getElem_of_mem hx
        exact HQ.out j _ (by rw [HN.out] at hj; exact hj) (List.getElem?_eq_getElem hj)
      go_wp2_with fail
      go_ret2
      exact ⟨_, _, rfl, .inl ⟨HOK.out, rfl, O9.out⟩, B1.out⟩
end Go.Proofs.Ytfnmdeekenjlgaa
