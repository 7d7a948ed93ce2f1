/- Package store: do, lay, Apply of one change on a new table. -/
import Derived.Test.YtphjjjijdbljaaaDoorStoL
namespace Go.Proofs.YtphjjjijdbljaaaDoor
open Go Go.RowKit
set_option linter.unusedSimpArgs false
set_option linter.unusedVariables false
set_option maxRecDepth 100000

set_option maxHeartbeats 2000000 in
theorem do_one {w : World} {st lg : Nat} {room taken : Int} {lost : Bool} (h : SX w st lg room taken (.slice none 0 0) 0 lost) (c : Cg) (hf : fine c = true) (hg : c.gn = false) (v : Value) (hv : CS w v [c]) :
    Calls Tryd.prog 31 #[.pointer (some ⟨st, 3, none⟩), v] w fun e w' => e = .returned (.tuple #[]) ∧ CnP w w' st lg room taken c (wg c) lost := by
  obtain ⟨ad, cap, rfl, -, hx⟩ := hv
  rcases hx with ⟨hx, _⟩ | ⟨bb, bo, rfl, hlb, hm⟩
  · cases hx
  have HR : Hid (w.rangeAt bb (bo + 0 * 3) (cc c).toList) := hm 0 c rfl
  have HX : Hid (SX w st lg room taken (.slice none 0 0) 0 lost) := h
  have HF : Hid (fine c = true) := hf
  have HG : Hid (c.gn = false) := hg
  clear hm hf h hg
  go_enter Tryd.func31, Tryd.ntmps31
  go_wp2_with fail
  go_loopw [8] (fun i wr => (i = .int .i64 0 ∧ wr = w) ∨ (i = .int .i64 1 ∧ CnP w wr st lg room taken c (wg c) lost)) (fun i _ => 1 - (intOf i).toNat)
  case atStart => exact .inl ⟨rfl, rfl⟩
  case round =>
    rcases hrel with ⟨rfl, rfl⟩ | ⟨rfl, hq⟩
    · have c0 : wr.cell? ⟨bb, bo, none⟩ = some (.string c.k) := by simpa using HR.out 0 _ rfl
      have c1 : wr.cell? ⟨bb, bo + 1, none⟩ = some (.string c.v) := by simpa using HR.out 1 _ rfl
      have c2 : wr.cell? ⟨bb, bo + 2, none⟩ = some (.bool c.gn) := by simpa using HR.out 2 _ rfl
      have HB : Hid (Below wr.heap.size wr (wr.alloc (.cells #[.string c.k, .string c.v, .bool c.gn] 38 (0, 0)))) := (Below.refl _ _).alloc (Nat.le_refl _) _
      go_wp2_with (go_at_call 45; refine (change_new (HX.out.below HB.out) c HF.out HG.out).mono ?_; rintro e w2 ⟨rfl, h5⟩; have H5 : Hid (CnP (wr.alloc (.cells #[.string c.k, .string c.v, .bool c.gn] 38 (0, 0))) w2 st lg room taken c (wg c) lost) := h5; clear h5)
      refine ⟨.inr ⟨by go_num, ?_⟩, by simp [intOf]⟩
      obtain ⟨v', y1, y2, y3, y4⟩ := H5.out
      exact ⟨v', y1, y2, fun b hb => Nat.le_trans HB.out.size (y3 b hb), (gb_below HB.out _).trans y4⟩
    · have HQ : Hid (CnP w wr st lg room taken c (wg c) lost) := hq
      clear hq
      go_wp2_with fail
      go_end0
      exact ⟨rfl, HQ.out⟩
theorem SX.chg {S : Nat → Prop} {w w' : World} {st lg : Nat} {room taken : Int} {v : Value} {wt : Int} {lost : Bool} (h : SX w st lg room taken v wt lost) (hc : Chg S w w') (hs : ¬ S st) : SX w' st lg room taken v wt lost := by
  unfold SX; rw [hc.other st h.lt hs]; exact h
theorem CS.chg {S : Nat → Prop} {w w' : World} {v : Value} {l : List Cg} (h : CS w v l) (hc : Chg S w w') (hs : ∀ b, v.ownBlock = some b → ¬ S b) : CS w' v l := by
  obtain ⟨ad, cap, rfl, hcp, h⟩ := h
  refine ⟨ad, cap, rfl, hcp, ?_⟩
  rcases h with h | ⟨b, o, rfl, hlt, hm⟩
  · exact .inl h
  · refine .inr ⟨b, o, rfl, Nat.lt_of_lt_of_le hlt hc.size, fun i c hi j v hv => ?_⟩
    exact (cell_blk (hc.other b hlt (hs b rfl)) _).trans (hm i c hi j v hv)
theorem chg_grown {S : Nat → Prop} {w w' : World} {r : Nat} (h : w.grownBy w' (some r)) (hr : S r) : Chg S w w' := ⟨h.os, h.tape, h.output, h.size, fun b hb hn => h.block b hb (fun e => by cases e; exact hn hr)⟩
theorem Chg.wide {S T : Nat → Prop} {w w' : World} (h : Chg S w w') (hs : ∀ b, S b → T b) : Chg T w w' := ⟨h.os, h.tape, h.output, h.size, fun b hb hn => h.other b hb (fun x => hn (hs b x))⟩
theorem ll_one {W : World} {u : Value} {p : List Int} (T : TypeId) (h : Sl W u p) : LL (W.alloc (.cells #[u] T)) (.slice (some ⟨W.heap.size, 0, none⟩) 1 1) [p] := by
  refine ⟨_, 1, rfl, by simp, .inr ⟨W.heap.size, 0, rfl, by simp, fun i hi => ?_⟩⟩
  obtain rfl : i = 0 := by simpa using hi
  exact ⟨u, cell_alloc W #[u] T _ 0, h.below ((Below.refl _ W).alloc (Nat.le_refl _) _) (Nat.le_refl _)⟩
/-- What one change leaves. -/
def ApP (S : Nat → Prop) (w w' : World) (st lg : Nat) (room T : Int) (c : Cg) : Prop := ∃ v', SX w' st lg room T v' (wg c : Int) false ∧ CS w' v' [c] ∧ Chg (fun b => S b ∨ b = st) w w' ∧ ∀ b, v'.ownBlock = some b → b ≠ st
def lyf (st T : Nat) (v1 : Value) : Nat → Value
  | 0 | 1 => .pointer (some ⟨st, 0, none⟩) | 2 => .pointer (some ⟨st, 2, none⟩) | 3 => .int .i64 0 | 4 => v1 | 6 | 7 | 8 => .int .i64 (T : Int) | _ => undef
def lyΩ (w1 : World) (p : List Int) : Nat → (Nat → Value) → World → Prop
  | 0, _, W => Below w1.heap.size w1 W
  | _ + 1, U, W => Below w1.heap.size w1 W ∧ (∃ D, U 0 = .slice (some ⟨D, 0, none⟩) 1 1) ∧ LL W (U 0) [p]
theorem lyΩ.below {w1 : World} {p : List Int} {k : Nat} {U : Nat → Value} {W : World} (h : lyΩ w1 p k U W) : Below w1.heap.size w1 W := by
  match k, h with
  | 0, h => exact h
  | k + 1, h => exact h.1
def lyK : Nat → Nat := fun _ => 1
set_option maxHeartbeats 4000000 in
theorem slay_one {S : Nat → Prop} {w : World} {g n lg st : Nat} {room : Nat} (hl : WL S w g (dk0 n) lg (l0 g)) (h : SX w st lg (room : Int) 0 (.slice none 0 0) 0 false) (hst : ¬ S st) (c : Cg) (hf : fine c = true) (hg : c.gn = false) (v : Value) (hv : CS w v [c]) (hvb : ∀ b, v.ownBlock = some b → ¬ S b ∧ b ≠ st)
    (p : List Int) (hp : encB (rl [c] 1) = p) (hpb : Byt p) (hpl : p.length ≤ 65536) (hn : fl (16 + p.length) < n / 2) (hr : p.length + 64 ≤ room) (hr2 : room ≤ 1000000000) :
    Calls Tryd.prog 20 #[.pointer (some ⟨st, 0, none⟩), v] w fun e w' => e = .returned (.int .i64 0) ∧ ApP S w w' st lg (room : Int) ((p.length + 64 : Nat) : Int) c := by
  have HL : Hid (WL S w g (dk0 n) lg (l0 g)) := hl
  have HX : Hid (SX w st lg (room : Int) 0 (.slice none 0 0) 0 false) := h
  have HS : Hid (¬ S st) := hst
  have HF : Hid (fine c = true) := hf
  have HG : Hid (c.gn = false) := hg
  have HV : Hid (CS w v [c]) := hv
  have HVB : Hid (∀ b, v.ownBlock = some b → ¬ S b ∧ b ≠ st) := hvb
  have HP : Hid (encB (rl [c] 1) = p) := hp
  have HPB : Hid (Byt p) := hpb
  have HN : Hid (fl (16 + p.length) < n / 2) := hn
  obtain ⟨T, hT⟩ : ∃ T, p.length + 64 = T := ⟨_, rfl⟩
  have HT : Hid (tb [p] [p].length = T) := by show tb [p] 1 = T; rw [← hT]; simp [tb, mi]
  have HPL : Hid (p.length ≤ 65536) := hpl
  have HLN : Hid (∀ i, i < [p].length → (mi [p] i).length ≤ 1048576) := fun i hi => by
    obtain rfl : i = 0 := by simpa using hi
    show p.length ≤ _; omega
  have hTr : ¬ ((room : Int) < (T : Int)) := by omega
  rw [hT]
  clear hl h hst hf hg hvb hp hpb hn hT
  obtain ⟨adv, cpv, rfl, -, -⟩ := hv
  go_enter Tryd.func20, Tryd.ntmps20
  go_wp2_with (go_at_call 34; refine (recordOf_any [c] _ w HV.out (by simp) (fun j c' hj => by match j, hj with | 0, hj => simp at hj; subst hj; exact HF.out | j + 1, hj => simp at hj)).mono ?_; rintro e w1 ⟨v1, rfl, h1, h2⟩; have O1 : Hid (Ow w.heap.size w1 v1 p) := (by have := h1; rw [show [c].length = 1 from rfl, HP.out] at this; exact this); have B1 : Hid (Below w.heap.size w w1) := h2; have X1 : Hid (SX w1 st lg (room : Int) 0 (.slice none 0 0) 0 false) := HX.out.below h2; clear h1 h2)
  obtain ⟨ad1, cp1, hv1, -, -⟩ := O1.out.sl
  subst hv1
  refine RU.wp_rgn' [5] (lyf st T (.slice ad1 p.length cp1)) lyK (lyΩ w1 p) (by kernel_rfl) (by kernel_rfl) (show Below w1.heap.size w1 _ from (Below.refl _ _).drew) ?_ ?_
  · refine ⟨?_, ?_, ?_, ?_, ?_, ?_, ?_, ?_, ?_, trivial⟩
    · refine RU.ObT.pure rfl rfl rfl (fun a V hf hp ev he hc W => ?_)
      have q0 : ev (.tmp 0) = .pointer (some ⟨st, 0, none⟩) := (he (.tmp 0)).trans (hf 0 rfl)
      simp only [List.getElem_toArray, List.getElem_cons_succ, List.getElem_cons_zero, execOp, Option.map_some, Option.map_none]; rw [q0]
      first | (go_simp; done) | (go_simp; rfl) | rfl
    · refine RU.ObT.pure rfl rfl rfl (fun a V hf hp ev he hc W => ?_)
      have q10 : ev (.tmp 10) = .pointer (some ⟨st, 0, none⟩) := (he (.tmp 10)).trans (hp 0 10 rfl)
      simp only [List.getElem_toArray, List.getElem_cons_succ, List.getElem_cons_zero, execOp, Option.map_some, Option.map_none]; rw [q10]
      first | (go_simp; done) | (go_simp; rfl) | rfl
    · refine RU.ObT.pure rfl rfl rfl (fun a V hf hp ev he hc W => ?_)
      have q11 : ev (.tmp 11) = .pointer (some ⟨st, 0, none⟩) := (he (.tmp 11)).trans (hp 1 11 rfl)
      simp only [List.getElem_toArray, List.getElem_cons_succ, List.getElem_cons_zero, execOp, Option.map_some, Option.map_none]; rw [q11]
      first | (go_simp; done) | (go_simp; rfl) | rfl
    · refine RU.ObT.silent rfl (fun a W k0 V hO hf hp hk => ?_)
      have hO' : Below w1.heap.size w1 W := lyΩ.below hO
      have hs := (X1.out.below hO').cells.2.2.1
      refine RU.ob_val rfl (RU.wanted_none rfl) (fun ev he hc => ?_) ⟨rfl, hO⟩
      have q12 : ev (.tmp 12) = .pointer (some ⟨st, 2, none⟩) := (he (.tmp 12)).trans (hp 2 12 rfl)
      simp only [List.getElem_toArray, List.getElem_cons_succ, List.getElem_cons_zero, execOp, Option.map_some, Option.map_none]; rw [q12]
      first | (go_simp; done) | (go_simp; rfl) | rfl
    · refine RU.ObT.pure rfl rfl rfl (fun a V hf hp ev he hc W => ?_)
      have q5 : ev (.tmp 5) = .slice ad1 p.length cp1 := (he (.tmp 5)).trans (hf 5 rfl)
      simp only [List.getElem_toArray, List.getElem_cons_succ, List.getElem_cons_zero, execOp, Option.map_some, Option.map_none]; rw [q5]
      first | (go_simp; done) | (go_simp; rfl) | rfl
    · refine RU.ObT.loud (j := 0) rfl (fun a W V hO hf hp => ?_)
      have hO' : Below w1.heap.size w1 W := hO
      have q14 : a.eval (.tmp 14) = .slice ad1 p.length cp1 := hp 4 14 rfl
      refine RU.ob_run (v := .slice (some ⟨W.heap.size, 0, none⟩) 1 1) (w' := W.alloc (.cells #[.slice ad1 p.length cp1] 71)) rfl (RU.wanted_none rfl) (fun ev he hc => ?_) ⟨_, rfl, hO'.alloc hO'.size _, ⟨_, rfl⟩, ll_one _ (O1.out.sl.below hO' (Nat.le_refl _))⟩
      have e1 := (he (.tmp 14)).trans q14
      simp only [List.getElem_toArray, List.getElem_cons_succ, List.getElem_cons_zero, execOp]
      simp only [List.map_toArray, List.map_cons, List.map_nil, e1]
      go_simp
    · refine RU.ObT.silent' rfl (fun a W k0 V hO hf hp hlow hk => ?_)
      obtain ⟨k1, rfl⟩ : ∃ k1, k0 = k1 + 1 := ⟨k0 - 1, by have := hlow 0 rfl; omega⟩
      obtain ⟨hO', ⟨D, hU⟩, hLL⟩ := id hO
      have e15 : a.eval (.tmp 15) = V 0 := hp 5 15 rfl
      refine RU.ob_call (g := 15) (args := #[V 0]) rfl (RU.wanted_none rfl) (fun ev he hc => ?_) ((takenBy_any [p] (V 0) W hLL HLN.out (by simp)).mono ?_)
      · have h15 := (he (.tmp 15)).trans e15
        have hfn := he (.func 15)
        simp only [List.getElem_toArray, List.getElem_cons_succ, List.getElem_cons_zero, execOp, Option.map_some, Option.map_none]
        simp only [resolve, invoke, Sem.run_bind, Sem.run_pure, Result.andThen_ok, List.map_toArray, List.map_cons, List.map_nil, h15, hfn, Act.eval, hc]
        rfl
      · rintro e' W2 ⟨rfl, rfl⟩
        exact ⟨_, rfl, by rw [HT.out]; rfl, hO⟩
    · refine RU.ObT.pure rfl rfl rfl (fun a V hf hp ev he hc W => ?_)
      have q13 : ev (.tmp 13) = .int .i64 0 := (he (.tmp 13)).trans (hp 3 13 rfl)
      have q16 : ev (.tmp 16) = .int .i64 (T : Int) := (he (.tmp 16)).trans (hp 6 16 rfl)
      simp only [List.getElem_toArray, List.getElem_cons_succ, List.getElem_cons_zero, execOp, Option.map_some, Option.map_none]; rw [q13, q16]
      have hTT : (T : Int) ≤ 1000000000 := by omega
      have hwr : IntKind.i64.wrap (T : Int) = (T : Int) := by rw [IntKind.wrap_i64]; omega
      first | (go_simp; done) | (go_simp; rfl) | rfl
    · refine RU.ObT.pure rfl rfl rfl (fun a V hf hp ev he hc W => ?_)
      have q17 : ev (.tmp 17) = .int .i64 (T : Int) := (he (.tmp 17)).trans (hp 7 17 rfl)
      simp only [List.getElem_toArray, List.getElem_cons_succ, List.getElem_cons_zero, execOp, Option.map_some, Option.map_none]; rw [q17]
      first | (go_simp; done) | (go_simp; rfl) | rfl
  intro w2 V2 hO2
  have B2 : Hid (Below w1.heap.size w1 w2) := lyΩ.below hO2
  have X2 : Hid (SX w2 st lg (room : Int) 0 (.slice none 0 0) 0 false) := X1.out.below B2.out
  obtain ⟨u0, u1, u2, u3, u4, u5⟩ := X2.out.cells
  clear hO2
  simp only [RU.lay, RU.val, RU.at', lyf, Act.put]
  simp only [List.setIfInBounds_toArray, List.set_cons_succ, List.set_cons_zero]
  go_wp2_with (go_at_call 36; refine (append_new (n := n) (g := g) ((HL.out.below B1.out).below B2.out) p _ (O1.out.sl.below B2.out (Nat.le_refl _)) HPB.out HPL.out HN.out).mono ?_; rintro e w3 ⟨rfl, S3, -, h3, -⟩; have C3 : Hid (Chg S w2 w3) := h3; have X3 : Hid (SX w3 st lg (room : Int) 0 (.slice none 0 0) 0 false) := X2.out.chg h3 HS.out; have q0 := X3.out.cells.2.2.1; have q1 := X3.out.froz 2; clear h3)
  obtain ⟨w4, hw4⟩ : ∃ W, w3.setCell ⟨st, 2, none⟩ (.int .i64 (T : Int)) = W := ⟨_, rfl⟩
  have hset := X3.out.setT (T : Int)
  rw [hw4] at hset ⊢
  have X4 : Hid (SX w4 st lg (room : Int) (T : Int) (.slice none 0 0) 0 false) := hset.1
  have C4 : Hid (Chg (fun b => S b ∨ b = st) w w4) := (((chg_of_below B1.out).trans (chg_of_below B2.out)).trans ((C3.out.wide (fun b hb => .inl hb)).trans (chg_grown hset.2 (.inr rfl))))
  have V4 : Hid (CS w4 (.slice adv [c].length cpv) [c]) := HV.out.chg C4.out (fun b hb x => x.elim (HVB.out b hb).1 (HVB.out b hb).2)
  clear hset hw4 q0 q1
  go_wp2_with (go_at_call 31; refine (do_one X4.out c HF.out HG.out _ V4.out).mono ?_; rintro e w5 ⟨rfl, h5⟩; have H5 : Hid (CnP w4 w5 st lg (room : Int) (T : Int) c (wg c) false) := h5; clear h5)
  go_ret
  obtain ⟨v', y1, y2, y3, y4⟩ := H5.out
  exact ⟨rfl, v', y1, y2, C4.out.trans (chg_grown y4 (.inr rfl)), fun b hb e => by have h1 := y3 b hb; have h2 := X4.out.lt; omega⟩
end Go.Proofs.YtphjjjijdbljaaaDoor
