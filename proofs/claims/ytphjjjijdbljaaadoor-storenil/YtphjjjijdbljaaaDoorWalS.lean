/- Open; refuse; Records. -/
import Derived.Test.YtphjjjijdbljaaaDoorWalR
namespace Go.Proofs.YtphjjjijdbljaaaDoor
open Go Go.RowKit
set_option linter.unusedSimpArgs false
set_option linter.unusedVariables false
set_option maxRecDepth 100000

def lobj (g : Nat) : Obj := .cells (lc (l0 g) (.slice none 0 0)).toArray 70 (0, 0)
theorem WX.boxed {F : Nat → Prop} {w : World} {g : Nat} {s : Dk} (h : PD F w g s) (hb : Sbt s) (hT : Tb w) (hA : Ap F) :
    WX (fun b => F b ∨ b = w.heap.size) F (fun b => b = w.heap.size) (w.alloc (lobj g)) g s w.heap.size (l0 g) (.slice none 0 0) [] := by
  have hbb : Below w.heap.size w (w.alloc (lobj g)) := (Below.refl _ w).alloc (Nat.le_refl _) _
  have hs : (w.alloc (lobj g)).heap.size = w.heap.size + 1 := by simp
  refine ⟨h.below hbb, ⟨?_, z64_length, z64_length, OL.nil _ _, rfl, fun b e => by simp [Value.ownBlock] at e, fun i u hu => by simp at hu, fun b e => by rw [hs]; omega⟩, rfl, fun b e hf => ?_, fun b hf => .inl hf, fun b e => .inr e, hb, hT.below hbb, ?_, fun b x => ?_⟩
  · show (w.heap.push (lobj g))[w.heap.size]? = _
    simp [lobj]
  · have := h.lt hf; omega
  · exact ⟨fun x => x.elim hA.1 (fun y => by have := hT.lt.1; omega), fun x => x.elim hA.2 (fun y => by have := hT.lt.2; omega)⟩
  · rw [hs]
    rcases x with x | x
    · have := h.lt x; omega
    · omega
set_option maxHeartbeats 1000000 in
theorem open_small {F : Nat → Prop} {w : World} {g : Nat} {s : Dk} (h : PD F w g s) (hn : s.n < 64) :
    Calls Tryd.prog 12 #[.pointer (some ⟨g, 0, none⟩)] w fun e w' => e = .returned (.tuple #[.pointer none, .int .i64 1]) ∧ w' = w := by
  have HP : Hid (PD F w g s) := h
  obtain ⟨n, hnn⟩ : ∃ n, s.n = n := ⟨_, rfl⟩
  have HN : Hid (s.n = n) := hnn
  rw [hnn] at hn
  have g0 : (n : Int) < 64 := by omega
  clear h hnn
  go_enter Tryd.func12, Tryd.ntmps12
  go_wp2_with (go_at_call 24; refine (sectors_any HP.out).mono ?_; rintro e w' ⟨rfl, rfl⟩; rw [HN.out])
  go_ret2
  exact ⟨rfl, rfl⟩
set_option maxHeartbeats 1000000 in
theorem open_nil (w : World) : Calls Tryd.prog 12 #[.pointer none] w fun e w' => e = .returned (.tuple #[.pointer none, .int .i64 1]) ∧ w' = w := by
  go_enter Tryd.func12, Tryd.ntmps12
  go_wp2_with (go_at_call 24; refine (nil_sectors w).mono ?_; rintro e w' ⟨rfl, rfl⟩)
  go_ret2
  exact ⟨rfl, rfl⟩
set_option maxHeartbeats 1000000 in
theorem open_core {F : Nat → Prop} {w : World} {g : Nat} {s : Dk} (h : PD F w g s) (h64 : 64 ≤ s.n) (hw : s.wt = []) (hd : s.dn = false) (R : World → Prop)
    (hL : Calls Tryd.prog 28 #[.pointer (some ⟨w.heap.size, 0, none⟩)] (w.alloc (lobj g)) fun e w' => e = .returned (.tuple #[]) ∧ R w') :
    Calls Tryd.prog 12 #[.pointer (some ⟨g, 0, none⟩)] w fun e w' => e = .returned (.tuple #[.pointer (some ⟨w.heap.size, 0, none⟩), .int .i64 0]) ∧ R w' := by
  have HP : Hid (PD F w g s) := h
  obtain ⟨n, hnn⟩ : ∃ n, s.n = n := ⟨_, rfl⟩
  have HN : Hid (s.n = n) := hnn
  rw [hnn] at h64
  have g0 : ¬ ((n : Int) < 64) := by omega
  have HW : Hid (s.wt.length = 0) := by rw [hw]; rfl
  have HL : Hid (Calls Tryd.prog 28 #[.pointer (some ⟨w.heap.size, 0, none⟩)] (w.alloc (lobj g)) fun e w' => e = .returned (.tuple #[]) ∧ R w') := hL
  have HBT : Hid (Tryd.prog.built 70 [(0, .pointer (some ⟨g, 0, none⟩))] = some (lc (l0 g) (.slice none 0 0)).toArray) := by show _ = _; kernel_rfl
  clear h hnn hL hw
  go_enter Tryd.func12, Tryd.ntmps12
  go_wp2_with (first
    | (go_at_call 24; refine (sectors_any HP.out).mono ?_; rintro e w1 ⟨rfl, rfl⟩; rw [HN.out])
    | (go_at_call 25; refine (waiting_any HP.out).mono ?_; rintro e w2 ⟨rfl, rfl⟩; rw [HW.out])
    | (go_at_call 27; refine (down_any HP.out).mono ?_; rintro e w3 ⟨rfl, rfl⟩; rw [hd])
    | (refine wpList_buildTo rfl 70 _ rfl (some 20) rfl (lc (l0 g) (.slice none 0 0)).toArray (by simp only [List.map_toArray, List.map_cons, List.map_nil]; exact HBT.out) ?_))
  refine Calls.mono (show Calls Tryd.prog 28 #[.pointer (some ⟨w3.heap.size, 0, none⟩)] (w3.alloc (.cells (lc (l0 g) (.slice none 0 0)).toArray 70)) _ from HL.out) ?_
  rintro e w4 ⟨rfl, h4⟩
  have H4 : Hid (R w4) := h4
  clear h4 HL
  go_wp2_with fail
  go_ret2
  exact ⟨rfl, H4.out⟩
/-- Open of a disk on which nothing lies. -/
theorem open_blank {F : Nat → Prop} {w : World} {g : Nat} {s : Dk} (h : PD F w g s) (hb : Sbt s) (hT : Tb w) (hA : Ap F) (h64 : 64 ≤ s.n) (hw : s.wt = []) (hd : s.dn = false) (hq : ∀ i, i < 2 → tk s (hfF s.n i) (hfT s.n i) = none) :
    Calls Tryd.prog 12 #[.pointer (some ⟨g, 0, none⟩)] w fun e w' => e = .returned (.tuple #[.pointer (some ⟨w.heap.size, 0, none⟩), .int .i64 0]) ∧ AftL F w w' g s w.heap.size { l0 g with f0 := rdV s (hfF s.n 0 : Int), f1 := rdV s (hfF s.n 1 : Int) } := by
  refine open_core h h64 hw hd _ ((load_blank ⟨F, _, _, _, WX.boxed h hb hT hA⟩ hq).mono fun e w' ⟨h1, h2⟩ => ⟨h1, ?_⟩)
  exact AftL.trans (chg_of_below ((Below.refl _ w).alloc (Nat.le_refl _) _)) (fun b hb => hb.imp id (fun x => by omega)) h2
set_option maxHeartbeats 1000000 in
theorem refuse_nil (w : World) (v : Value) : Calls Tryd.prog 51 #[.pointer none, v] w fun e w' => e = .returned (.int .i64 1) ∧ w' = w := by
  go_enter Tryd.func51, Tryd.ntmps51
  go_wp2
  go_ret
  exact ⟨rfl, rfl⟩
set_option maxHeartbeats 1000000 in
theorem refuse_lost {S : Nat → Prop} {w : World} {g : Nat} {s : Dk} {lg : Nat} {l : Lo} (h : WL S w g s lg l) (hl : l.lo = true) (v : Value) :
    Calls Tryd.prog 51 #[.pointer (some ⟨lg, 0, none⟩), v] w fun e w' => e = .returned (.int .i64 9) ∧ w' = w := by
  obtain ⟨F, H, rv, us, hx⟩ := h
  obtain ⟨c0, -, -, -, c132⟩ := hx.lw.lb.cells hx.lw.f0 hx.lw.f1
  rw [hl] at c132
  clear hx
  go_enter Tryd.func51, Tryd.ntmps51
  go_wp2
  go_ret
  exact ⟨rfl, rfl⟩
/-- What is answered of the lengths. -/
def rfE (xss : List (List Int)) : Int := if ∃ m ∈ xss, 65536 < m.length then 6 else 0
theorem rfE_yes {xss : List (List Int)} {k : Nat} (hk : k < xss.length) (h : 65536 < (mi xss k).length) : rfE xss = 6 := by
  unfold rfE; rw [if_pos ⟨mi xss k, by rw [mi_get hk]; exact List.getElem_mem hk, h⟩]
theorem rfE_no {xss : List (List Int)} (h : ∀ j, j < xss.length → (mi xss j).length ≤ 65536) : rfE xss = 0 := by
  unfold rfE; rw [if_neg]
  rintro ⟨m, hm, hl⟩
  obtain ⟨j, hj, rfl⟩ := List.getElem_of_mem hm
  have := h j hj
  rw [mi_get hj] at this; omega
set_option maxHeartbeats 1000000 in
theorem refuse_any {S : Nat → Prop} {w : World} {g : Nat} {s : Dk} {lg : Nat} {l : Lo} (h : WL S w g s lg l) (hl : l.lo = false) (xss : List (List Int)) (v : Value) (hv : LL w v xss) (hn : xss.length ≤ 140737488355328) :
    Calls Tryd.prog 51 #[.pointer (some ⟨lg, 0, none⟩), v] w fun e w' => e = .returned (.int .i64 (rfE xss)) ∧ w' = w := by
  obtain ⟨F, H, rv, us, hx⟩ := h
  obtain ⟨c0, -, -, -, c132⟩ := hx.lw.lb.cells hx.lw.f0 hx.lw.f1
  rw [hl] at c132
  clear hx
  obtain ⟨ad, cap, rfl, hc, hxx⟩ := hv
  have HX : Hid (xss = [] ∧ (ad = none → cap = 0) ∨ ∃ b o, ad = some ⟨b, o, none⟩ ∧ b < w.heap.size ∧ ∀ i, i < xss.length → ∃ u, w.cell? ⟨b, o + i, none⟩ = some u ∧ Sl w u (mi xss i)) := hxx
  clear hxx hc
  go_enter Tryd.func51, Tryd.ntmps51
  go_wp2
  go_loop [22] (fun i => ∃ k : Nat, k ≤ xss.length ∧ i = .int .i64 k ∧ ∀ j, j < k → (mi xss j).length ≤ 65536) (fun i => xss.length - (intOf i).toNat)
  case atStart => exact ⟨0, Nat.zero_le _, rfl, fun j hj => by omega⟩
  case round =>
    obtain ⟨k, hk, rfl, hall⟩ := hrel
    have HA : Hid (∀ j, j < k → (mi xss j).length ≤ 65536) := hall
    clear hall
    by_cases hlt : k < xss.length
    · rcases HX.out with ⟨rfl, _⟩ | ⟨b, o, rfl, hlb, hm⟩
      · simp at hlt
      · obtain ⟨u, hc0, hu⟩ := hm k hlt
        obtain ⟨ad, cp, rfl, -, -⟩ := hu
        clear hm
        obtain ⟨L, hLL⟩ : ∃ L, (mi xss k).length = L := ⟨_, rfl⟩
        have EL : Hid ((mi xss k).length = L) := hLL
        rw [hLL] at hc0
        clear hLL
        by_cases hb : 65536 < L
        · have E : Hid (rfE xss = 6) := rfE_yes hlt (by rw [EL.out]; exact hb)
          have hb' : (65536 : Int) < (L : Int) := by omega
          go_wp2
          go_ret
          exact ⟨by rw [E.out]; rfl, rfl⟩
        · have hb' : ¬ (65536 : Int) < (L : Int) := by omega
          go_wp2
          go_round
          case rel => exact ⟨k + 1, by omega, by go_num, fun j hj => by
            by_cases e : j = k
            · subst e; rw [EL.out]; omega
            · exact HA.out j (by omega)⟩
          case measure => simp [intOf]; omega
    · obtain rfl : k = xss.length := by omega
      have E : Hid (rfE xss = 0) := rfE_no HA.out
      go_wp2
      go_ret
      exact ⟨by rw [E.out]; rfl, rfl⟩
end Go.Proofs.YtphjjjijdbljaaaDoor
/- Records. -/
namespace Go.Proofs.YtphjjjijdbljaaaDoor
open Go Go.RowKit
set_option linter.unusedSimpArgs false
set_option linter.unusedVariables false
set_option maxRecDepth 100000

set_option maxHeartbeats 1000000 in
theorem clone_big (xs : List Int) (v : Value) (w : World) (hs : Sl w v xs) (hl : xs.length ≤ 140737488355328) (hv : ∃ ad l c, v = .slice (some ad) l c) :
    Calls Tryd.prog 30 #[v] w fun e w' => ∃ v', e = .returned v' ∧ Ow w.heap.size w' v' xs ∧ Below w.heap.size w w' := by
  have HS : Hid (Sl w v xs) := hs
  obtain ⟨ad, l, c, rfl⟩ := hv
  obtain rfl : l = xs.length := by obtain ⟨_, _, h, _⟩ := hs; simp at h; exact h.2.1
  clear hs
  have hnn := not_nil ad xs.length c w
  go_enter Tryd.func30, Tryd.ntmps30
  go_wp2_with (at_builtin; refine app_u8 (B0 := w.heap.size) rfl _ _ rfl (by simp) _ [] rfl (Ow.lit w [] #[] 0 rfl rfl (by simp)) _ rfl xs (HS.out.below ((Below.refl _ w).alloc (Nat.le_refl _) _) (Nat.le_refl _)) (by simp; omega) ?_; intro v1 w1 h1 h2 h3 h4; rw [List.nil_append] at h1; have H1 : Hid (Ow w.heap.size w1 v1 xs) := h1; have H3 : Hid (Below w.heap.size w w1) := ((Below.refl _ w).alloc (Nat.le_refl _) _).trans h3; clear h1 h2 h3 h4)
  go_ret
  exact ⟨_, rfl, H1.out, H3.out⟩
theorem is_nil (w : World) : (binOp .eql 71 (.slice none 0 0) (.slice none 0 0)).run Tryd.prog w = .ok (.bool true) w := by kernel_rfl
set_option maxHeartbeats 1000000 in
theorem clone_nil (w : World) : Calls Tryd.prog 30 #[.slice none 0 0] w fun e w' => e = .returned (.slice none 0 0) ∧ w' = w := by
  have hnn := is_nil w
  go_enter Tryd.func30, Tryd.ntmps30
  go_wp2
  go_ret
  exact ⟨rfl, rfl⟩
theorem clone_ow {B : Nat} (xs : List Int) (v : Value) (w : World) (hs : Ow B w v xs) (hl : xs.length ≤ 140737488355328) :
    Calls Tryd.prog 30 #[v] w fun e w' => ∃ v', e = .returned v' ∧ Ow w.heap.size w' v' xs ∧ Below w.heap.size w w' := by
  rcases hs.2 with ⟨rfl, h0⟩ | ⟨g, cap, cur, rfl, _⟩
  · have : xs = [] := List.length_eq_zero_iff.1 h0
    subst this
    exact (clone_nil w).mono fun e w' ⟨h1, h2⟩ => ⟨_, h1, Ow.nil _ _, by rw [h2]; exact Below.refl _ _⟩
  · exact clone_big xs _ w hs.sl hl ⟨_, _, _, rfl⟩
set_option maxHeartbeats 1000000 in
theorem records_nil (w : World) : Calls Tryd.prog 13 #[.pointer none] w fun e w' => e = .returned (.slice none 0 0) ∧ w' = w := by
  go_enter Tryd.func13, Tryd.ntmps13
  go_wp2
  go_ret
  exact ⟨rfl, rfl⟩
/-- What Records leaves: the list in new memory. -/
def RcP (S : Nat → Prop) (w w' : World) (g : Nat) (s : Dk) (lg : Nat) (l : Lo) (v : Value) : Prop := ∃ S' w1 us, WL S' w1 g s lg l ∧ Chg S w w1 ∧ (∀ b, S' b → S b ∨ w.heap.size ≤ b) ∧ OL w1.heap.size w' v us l.rs ∧ Below w1.heap.size w1 w'
set_option maxHeartbeats 2000000 in
theorem records_core {S : Nat → Prop} {w : World} {g : Nat} {s : Dk} {lg : Nat} {l1 : Lo} (hn : l1.rs.length ≤ 1000000000) (hm : ∀ m ∈ l1.rs, m.length ≤ 140737488355328)
    (hR : Calls Tryd.prog 29 #[.pointer (some ⟨lg, 0, none⟩)] w fun e w' => e = .returned (.tuple #[]) ∧ AftL S w w' g s lg l1) :
    Calls Tryd.prog 13 #[.pointer (some ⟨lg, 0, none⟩)] w fun e w' => ∃ v, e = .returned v ∧ RcP S w w' g s lg l1 v := by
  have HR : Hid (Calls Tryd.prog 29 #[.pointer (some ⟨lg, 0, none⟩)] w fun e w' => e = .returned (.tuple #[]) ∧ AftL S w w' g s lg l1) := hR
  have HM : Hid (∀ m ∈ l1.rs, m.length ≤ 140737488355328) := hm
  clear hR hm
  go_enter Tryd.func13, Tryd.ntmps13
  go_wp2_with fail
  refine HR.out.mono ?_
  rintro e w1 ⟨rfl, S1, ⟨F1, H1, rv1, us1, hx1⟩, hc1, hd1⟩
  have X1 : Hid (WX S1 F1 H1 w1 g s lg l1 rv1 us1) := hx1
  have C1 : Hid (Chg S w w1) := hc1
  have D1 : Hid (∀ b, S1 b → S b ∨ w.heap.size ≤ b) := hd1
  obtain ⟨-, -, c130, -, -⟩ := hx1.lw.lb.cells hx1.lw.f0 hx1.lw.f1
  obtain ⟨ad, cap, hv, -, hcc⟩ := hx1.lw.ol.ll
  subst hv
  clear hx1 hc1 hd1 HR
  have HCC : Hid (l1.rs = [] ∧ (ad = none → cap = 0) ∨ ∃ b o, ad = some ⟨b, o, none⟩ ∧ b < w1.heap.size ∧ ∀ i, i < l1.rs.length → ∃ u, w1.cell? ⟨b, o + i, none⟩ = some u ∧ Ow 0 w1 u (mi l1.rs i)) := by
    show _ ∨ _
    rcases hcc with x | ⟨b, o, e1, e2, e3⟩
    · exact .inl x
    · refine .inr ⟨b, o, e1, e2, fun i hi => ?_⟩
      have hol := X1.out.lw.ol
      have hlu : i < us1.length := by rw [hol.len]; exact hi
      rcases hol.row.2 with ⟨h1, _⟩ | ⟨g', cap', cur, hv, hb, hg, hc, _, hs, ht⟩
      · rw [e1] at h1; cases h1
      · rw [e1] at hv
        simp only [Value.slice.injEq, Option.some.injEq, Addr.mk.injEq, and_true] at hv
        obtain ⟨⟨rfl, rfl⟩, _, rfl⟩ := hv
        have hu : us1[i]? = some us1[i] := List.getElem?_eq_getElem hlu
        refine ⟨us1[i], ?_, hol.mem i _ hu⟩
        have e : (cur.toList.take (us1.length * 1))[i]? = some us1[i] := by rw [ht]; exact hu
        rw [List.getElem?_take, if_pos (by omega), Array.getElem?_toList] at e
        simp only [World.cell?, hg, Nat.zero_add, Option.isSome_none, Bool.false_eq_true, if_false, e]
  clear hcc
  go_wp2_with fail
  go_loopw [3, 15] (fun ov i wr => ∃ (k : Nat) (us : List Value), k ≤ l1.rs.length ∧ i = .int .i64 (k : Int) ∧ OL w1.heap.size wr ov us (l1.rs.take k) ∧ Below w1.heap.size w1 wr) (fun _ i _ => l1.rs.length - (intOf i).toNat)
  case atStart => exact ⟨0, [], Nat.zero_le _, rfl, OL.nil _ _, Below.refl _ _⟩
  case round =>
    obtain ⟨k, us, hk, rfl, h2, h3⟩ := hrel
    have H2 : Hid (OL w1.heap.size wr _ us (l1.rs.take k)) := h2
    have H3 : Hid (Below w1.heap.size w1 wr) := h3
    clear h2 h3
    by_cases hlt : k < l1.rs.length
    · rcases HCC.out with ⟨h0, _⟩ | ⟨b, o, rfl, hlb, hm⟩
      · rw [h0] at hlt; simp at hlt
      · obtain ⟨u, hc0, hu⟩ := hm k hlt
        have hc1 : wr.cell? ⟨b, o + k, none⟩ = some u := (H3.out.cell (p := ⟨b, o + k, none⟩) hlb).trans hc0
        obtain ⟨m, hmm⟩ : ∃ m, mi l1.rs k = m := ⟨_, rfl⟩
        have EM : Hid (mi l1.rs k = m) := hmm
        rw [hmm] at hu
        have HU : Hid (Ow 0 wr u m) := hu.below H3.out
        obtain ⟨uad, ucp, hue, -, -⟩ := hu.sl
        subst hue
        have HML : Hid (m.length ≤ 140737488355328) := HM.out m (by rw [← hmm, mi_get hlt]; exact List.getElem_mem hlt)
        have HUS : Hid (us.length = k) := by show us.length = k; rw [H2.out.len, List.length_take]; omega
        have hZR : Hid (w1.heap.size ≤ wr.heap.size) := H3.out.size
        clear hm hc0 hu hmm
        go_wp2_with (first
          | (go_at_call 30; refine (clone_ow m _ wr HU.out HML.out).mono ?_; rintro e w3 ⟨v3, rfl, h15, h16⟩; obtain ⟨ad3, cp3, hv3, -, -⟩ := h15.sl; subst hv3; have H15 : Hid (Ow wr.heap.size w3 (.slice ad3 m.length cp3) m) := h15; have H16 : Hid (Below wr.heap.size wr w3) := h16; clear h15 h16)
          | (at_builtin; refine app_sl (B0 := w1.heap.size) rfl (.tmp 19) (.tmp 22) rfl (by have h2 := hZR.out; have h3 := H16.out.size; simp; omega) _ us (l1.rs.take k) rfl ((H2.out.below H16.out).alloc _) (.slice ad3 m.length cp3) m ⟨w3.heap.size, 0, none⟩ 1 rfl (cell_alloc w3 #[.slice ad3 m.length cp3] _ _ 0) ((H15.out.mono hZR.out).alloc _) (fun b hb => ⟨by have := H15.out.lt b hb; simp; omega, fun e => by have h1 := H15.out.blk b hb; have h2 := (H2.out.blk b e).2; omega⟩) (fun b hb i u' hi e => by have h1 := H15.out.blk b hb; have h2 := (H2.out.apart i u' hi b e).1; omega) (by rw [HUS.out]; omega) ?_; intro v4 w4 h4 h5 h6; have H20 : Hid (OL w1.heap.size w4 v4 _ (l1.rs.take k ++ [m])) := h4; have B34 : Hid (Below w1.heap.size w3 w4) := ((Below.refl _ w3).alloc (by have h2 := hZR.out; have h3 := H16.out.size; omega) _).trans h6; clear h4 h5 h6))
        exact ⟨⟨k + 1, _, hlt, by go_num, by rw [take_snoc _ _ hlt, EM.out]; exact H20.out, H3.out.trans ((H16.out.mono hZR.out).trans B34.out)⟩, by simp [intOf]; omega⟩
    · obtain rfl : k = l1.rs.length := by omega
      go_wp2_with fail
      go_ret
      have H2' := H2.out
      rw [List.take_length] at H2'
      exact ⟨_, rfl, S1, w1, us, ⟨F1, H1, _, us1, X1.out⟩, C1.out, D1.out, H2', H3.out⟩
end Go.Proofs.YtphjjjijdbljaaaDoor
