/- Append where there is a log already. -/
import Derived.Test.YthfpakjfdncphaaDoorWalS
namespace Go.Proofs.YthfpakjfdncphaaDoor
open Go Go.RowKit
set_option linter.unusedSimpArgs false
set_option linter.unusedVariables false
set_option maxRecDepth 100000

theorem clone_sl (xs : List Int) (v : Value) (w : World) (hs : Sl w v xs) (hl : xs.length ≤ 140737488355328) :
    Calls Tryd.prog 29 #[v] w fun e w' => ∃ v', e = .returned v' ∧ Ow w.heap.size w' v' xs ∧ Below w.heap.size w w' := by
  obtain ⟨ad, cap, rfl, hc, h⟩ := hs
  cases ad with
  | some x => exact clone_big xs _ w ⟨_, cap, rfl, hc, h⟩ hl ⟨_, _, _, rfl⟩
  | none =>
    rcases h with ⟨rfl, h0⟩ | ⟨b, o, e, _⟩
    · obtain rfl := h0 rfl
      exact (clone_nil w).mono fun e w' ⟨h1, h2⟩ => ⟨_, h1, Ow.nil _ _, by rw [h2]; exact Below.refl _ _⟩
    · cases e
theorem run_rec (w : World) (ad : Option Addr) (n c : Nat) : (Instr.buildSlice 31 1 #[(0, .slice ad n c)]).run Tryd.prog w = .ok (.slice (some ⟨w.heap.size, 0, none⟩) 1 1) (w.alloc (.cells #[.slice ad n c] 32)) := by
  obtain ⟨i, hi, hz, hs⟩ : ∃ i, Tryd.prog.info? 32 = some i ∧ i.zero = some (.slice none 0 0) ∧ i.size = 1 := by
    cases h : Tryd.prog.info? 32 with
    | none => have : (Tryd.prog.info? 32).map (·.size) = some 1 := by kernel_rfl
              rw [h] at this; cases this
    | some i => have e : (Tryd.prog.info? 32).bind (·.zero) = some (.slice none 0 0) := by kernel_rfl
                have e2 : (Tryd.prog.info? 32).map (·.size) = some 1 := by kernel_rfl
                rw [h] at e e2; exact ⟨i, rfl, e, Option.some.inj e2⟩
  refine run_buildSlice w 31 32 1 _ #[.slice ad n c] i _ Tryd.underlying31 hi hz (by omega) (by omega) ?_
  have := _root_.Go.Great.fill_whole (s := i.size) (by omega) [.slice ad n c] ((Array.range (1 * i.size)).map ((Value.slice none 0 0).cells[· % (Value.slice none 0 0).cells.size]!)) (by intro v hv; simp at hv; subst hv; simp [Value.cells, hs]) (by simp)
  simpa [Value.cells] using this
/-- What Append answers and leaves where there is a log already. -/
def apR (s : Dk) (l : Lo) (p : List Int) : Int × Dk × Lo :=
  if l.en + fl p.length < hfT s.n l.t then
    if (lay s (l.en : Int) p).1 = 0 then (0, (lay s (l.en : Int) p).2, { l with rs := l.rs ++ [p], en := l.en + fl p.length, lo := false })
    else ((lay s (l.en : Int) p).1, (lay s (l.en : Int) p).2, { l with lo := decide ((lay s (l.en : Int) p).1 = 9) })
  else (5, s, l)
structure PuL (S F H : Nat → Prop) (w2 : World) (g : Nat) (s : Dk) (lg : Nat) (l : Lo) (rv : Value) (us : List Value) (p : List Int) (v6 v5 : Value) (W : World) : Prop where
  fz : W.frozen? ⟨lg, 130, none⟩ = false
  cl : W.cell? ⟨lg, 130, none⟩ = some rv
  pu : ∃ S' H', WX S' F H' (W.setCell ⟨lg, 130, none⟩ v5) g s lg { l with rs := l.rs ++ [p] } v5 (us ++ [v6]) ∧ Chg S w2 (W.setCell ⟨lg, 130, none⟩ v5) ∧ ∀ b, S' b → S b ∨ w2.heap.size ≤ b
def aΩ (S F H : Nat → Prop) (w2 : World) (g : Nat) (s : Dk) (lg : Nat) (l : Lo) (rv : Value) (us : List Value) (p : List Int) : Nat → (Nat → Value) → World → Prop
  | 0, _, W => Below w2.heap.size w2 W
  | 1, U, W => Below w2.heap.size w2 W ∧ Ow w2.heap.size W (U 0) p
  | 2, U, W => Below w2.heap.size w2 W ∧ ∃ W1 b, Below w2.heap.size w2 W1 ∧ Ow w2.heap.size W1 (U 0) p ∧ b = W1.heap.size ∧ W = W1.alloc (.cells #[U 0] 32) ∧ U 1 = .slice (some ⟨b, 0, none⟩) 1 1
  | 3, U, W => PuL S F H w2 g s lg l rv us p (U 0) (U 2) W
  | _, U, W => ∃ S' H', WX S' F H' W g s lg { l with rs := l.rs ++ [p] } (U 2) (us ++ [U 0]) ∧ Chg S w2 W ∧ ∀ b, S' b → S b ∨ w2.heap.size ≤ b
def af (lg : Nat) (rv v1 : Value) : Nat → Value
  | 3 => .pointer (some ⟨lg, 130, none⟩)
  | 4 => rv
  | 5 => v1
  | 10 => .pointer (some ⟨lg, 130, none⟩)
  | _ => .pointer (some ⟨lg, 0, none⟩)
def aK : Nat → Nat := fun i => if i = 5 then 0 else if i = 0 ∨ i = 9 ∨ i = 10 then 3 else 2

set_option maxHeartbeats 4000000 in
theorem append_more {S : Nat → Prop} {w : World} {g : Nat} {s : Dk} {lg : Nat} {l : Lo} (h : WL S w g s lg l) (hlo : l.lo = false) (hdn : s.dn = false) (e0 : l.f0 = rdV s (hfF s.n 0 : Int)) (e1 : l.f1 = rdV s (hfF s.n 1 : Int)) (h0 : l.t ≠ 0) (ht : l.t < 18446744073709551616) (he : l.en ≤ 65536) (hr : l.rs.length ≤ 999999999)
    (hen : tk s l.en (hfT s.n l.t) = none) (p : List Int) (v : Value) (hv : Sq w v p) (hb : Byt p) (hF : ∀ b, slB v = some b → b < w.heap.size ∧ ¬ S b) (hp : p.length ≤ 65536) (hN : s.wt.length ≤ 549755813888) :
    Calls Tryd.prog 12 #[.pointer (some ⟨lg, 0, none⟩), v] w fun e w' => e = .returned (.int .i64 (apR s l p).1) ∧ AftL S w w' g (apR s l p).2.1 lg (apR s l p).2.2 := by
  have HW : Hid (WL S w g s lg l) := h
  have HV : Hid (Sl w v p) := hv.sl
  have HVQ : Hid (Sq w v p) := hv
  have HBY : Hid (Byt p) := hb
  have E0 : Hid (l.f0 = rdV s (hfF s.n 0 : Int)) := e0
  have E1 : Hid (l.f1 = rdV s (hfF s.n 1 : Int)) := e1
  have HE : Hid (tk s l.en (hfT s.n l.t) = none) := hen
  have HFF : Hid (∀ b, slB v = some b → b < w.heap.size ∧ ¬ S b) := hF
  have HR : Hid (l.rs.length ≤ 999999999) := hr
  obtain ⟨ad, cap, rfl, -⟩ := hv.sl
  clear hv h e0 e1 hen hF hb hr
  go_enter Tryd.func12, Tryd.ntmps12
  go_wp2_with fail
  have B1 : Below w.heap.size w (w.alloc (.cells #[.slice ad p.length cap] 32)) := (Below.refl _ w).alloc (Nat.le_refl _) _
  refine (refuse_any (HW.out.below B1) hlo [p] _ (LL.one HV.out _) (by simp)).mono ?_
  rintro e w1 ⟨rfl, hw1⟩
  have HB1 : Hid (Below w.heap.size w w1) := by show Below _ _ _; rw [hw1]; exact B1
  rw [rfE_one hp]
  clear hw1 B1
  go_wp2_with fail
  refine (refresh_any (HW.out.below HB1.out) hlo hdn E0.out E1.out h0 ht he (by have := HR.out; omega)).mono ?_
  rintro e w2 ⟨rfl, ns, e', hf1, hf2, S1, hw2, hc2, hd2⟩
  obtain ⟨hns, hee⟩ := Frs.one (ns := []) (e := l.en) (e1 := l.en) rfl HE.out hf1 hf2
  subst hee
  subst hns
  have hll : ({ l with rs := l.rs ++ [], en := l.en } : Lo) = l := by rw [List.append_nil]
  rw [hll] at hw2
  obtain ⟨F, H, rv, us, hx⟩ := hw2
  have HX : Hid (WX S1 F H w2 g s lg l rv us) := hx
  have C2 : Hid (Chg S w w2) := (chg_of_below HB1.out).trans hc2
  have D2 : Hid (∀ b, S1 b → S b ∨ w.heap.size ≤ b) := fun b x => (hd2 b x).elim .inl (fun y => .inr (Nat.le_trans HB1.out.size y))
  have HV2 : Hid (Sq w2 (.slice ad p.length cap) p) := HVQ.out.chg C2.out (fun b e => (HFF.out b e).2)
  have FF : Hid (∀ b, slB (.slice ad p.length cap) = some b → ¬ S1 b) := fun b e x => (D2.out b x).elim (HFF.out b e).2 (fun y => by have := (HFF.out b e).1; omega)
  obtain ⟨c0, c1, c130, c131, c132⟩ := hx.lw.lb.cells hx.lw.f0 hx.lw.f1
  rw [hx.dk] at c0
  have hn2 := hx.pd.n2
  clear hx hc2 hd2 hf1 hf2 hll
  obtain ⟨tt, htt⟩ : ∃ tt, l.t = tt := ⟨_, rfl⟩
  have HTT : Hid (l.t = tt) := htt
  rw [htt] at c1 ht h0
  obtain ⟨T, hT⟩ : ∃ T, hfT s.n tt = T := ⟨_, rfl⟩
  have HT : Hid (hfT s.n tt = T) := hT
  have hTb : T ≤ 65536 := by
    rw [← hT]; unfold hfT
    have : tt % 2 = 0 ∨ tt % 2 = 1 := by omega
    rcases this with h | h <;> rw [h] <;> omega
  have g0 : ¬ ((tt : Int) = 0) := by omega
  obtain ⟨en, hen⟩ : ∃ en, l.en = en := ⟨_, rfl⟩
  have HEN : Hid (l.en = en) := hen
  rw [hen] at c131 he
  clear htt hT hen
  go_wp2_with fail
  refine (half_any HX.out.pd c0 (by omega) tt ht).mono ?_
  rintro e w3 ⟨rfl, rfl⟩
  rw [HT.out]
  go_wp2_with fail
  refine (fits_any en p.length T w3 (by omega) (by omega)).mono ?_
  rintro e w4 ⟨rfl, rfl⟩
  by_cases hfit : en + fl p.length < T
  · have hfd : decide (en + fl p.length < T) = true := decide_eq_true hfit
    have hap : apR s l p = if (lay s (en : Int) p).1 = 0 then (0, (lay s (en : Int) p).2, { l with rs := l.rs ++ [p], en := en + fl p.length, lo := false }) else ((lay s (en : Int) p).1, (lay s (en : Int) p).2, { l with lo := decide ((lay s (en : Int) p).1 = 9) }) := by
      unfold apR
      rw [HEN.out, HTT.out, HT.out, if_pos hfit]
    have HAP : Hid (apR s l p = if (lay s (en : Int) p).1 = 0 then (0, (lay s (en : Int) p).2, { l with rs := l.rs ++ [p], en := en + fl p.length, lo := false }) else ((lay s (en : Int) p).1, (lay s (en : Int) p).2, { l with lo := decide ((lay s (en : Int) p).1 = 9) })) := hap
    rw [hfd]
    clear hap
    have HFIT : Hid (en + fl p.length < T) := hfit
    go_wp2_with fail
    refine (wlay_any ⟨F, H, rv, us, HX.out⟩ (en : Int) p ad cap HV2.out HBY.out FF.out ⟨by omega, by omega⟩ (by omega) hN).mono ?_
    rintro e w5 ⟨rfl, haft⟩
    have HA : Hid (AftL S1 w4 w5 g (lay s (en : Int) p).2 lg { l with lo := decide ((lay s (en : Int) p).1 = 9) }) := haft
    clear haft
    obtain ⟨z, hzz⟩ : ∃ z, (lay s (en : Int) p).1 = z := ⟨_, rfl⟩
    have HZZ : Hid ((lay s (en : Int) p).1 = z) := hzz
    rw [hzz]
    clear hzz
    by_cases hz : z = 0
    · subst hz
      have hA := HA.out
      rw [HZZ.out] at hA
      obtain ⟨S5, ⟨F5, H5, rv5, us5, hx5⟩, hc5, hd5⟩ := hA
      have hx5' : WX S5 F5 H5 w5 g (lay s (en : Int) p).2 lg { l with lo := false } rv5 us5 := hx5
      have X5 : Hid (WX S5 F5 H5 w5 g (lay s (en : Int) p).2 lg { l with lo := false } rv5 us5) := hx5'
      have C5 : Hid (Chg S1 w4 w5) := hc5
      have D5 : Hid (∀ b, S5 b → S1 b ∨ w4.heap.size ≤ b) := hd5
      have HV5 : Hid (Sq w5 (.slice ad p.length cap) p) := HV2.out.chg C5.out FF.out
      obtain ⟨k0, k1, k130, k131, k132⟩ := hx5'.lw.lb.cells hx5'.lw.f0 hx5'.lw.f1
      have HUL : Hid ((us5.length + 1) * 24 ≤ 140737488355328) := by
        show _ ≤ _
        have h1 := hx5'.lw.ol.len
        have h2 := HR.out
        have h3 : us5.length = l.rs.length := h1
        omega
      obtain ⟨ad5, n5, cp5, hrv⟩ := hx5'.lw.ol.shape
      subst hrv
      clear hx5 hx5' hc5 hd5 HA
      obtain ⟨rv5, hrv5⟩ : ∃ x, Value.slice ad5 n5 cp5 = x := ⟨_, rfl⟩
      have HRV : Hid (Value.slice ad5 n5 cp5 = rv5) := hrv5
      rw [hrv5] at X5 k130
      clear hrv5
      go_wp2_with fail
      have st0 : aΩ S5 F5 H5 w5 g (lay s (en : Int) p).2 lg { l with lo := false } rv5 us5 p 0 (fun _ => undef) { w5 with drawn := w5.drawn + 1 } := (Below.refl _ _).drew
      refine RU.wp_rgn' [6, 7, 8, 11] (af lg rv5 (Value.slice ad p.length cap)) aK (aΩ S5 F5 H5 w5 g (lay s (en : Int) p).2 lg { l with lo := false } rv5 us5 p) (by kernel_rfl) (by kernel_rfl) st0 ?_ ?_
      · refine ⟨?_, ?_, ?_, ?_, ?_, ?_, ?_, ?_, ?_, ?_, ?_, ?_, trivial⟩
        · refine RU.ObT.pure rfl rfl rfl (fun a V hf hp ev he hc W => ?_)
          have q0 : ev (.tmp 0) = .pointer (some ⟨lg, 0, none⟩) := (he (.tmp 0)).trans (hf 0 rfl)
          simp only [List.getElem_toArray, List.getElem_cons_succ, List.getElem_cons_zero, execOp, Option.map_some, Option.map_none]; rw [q0]
          first | (go_simp; done) | (go_simp; rfl) | rfl
        · refine RU.ObT.pure rfl rfl rfl (fun a V hf hp ev he hc W => ?_)
          have q0 : ev (.tmp 0) = .pointer (some ⟨lg, 0, none⟩) := (he (.tmp 0)).trans (hf 0 rfl)
          simp only [List.getElem_toArray, List.getElem_cons_succ, List.getElem_cons_zero, execOp, Option.map_some, Option.map_none]; rw [q0]
          first | (go_simp; done) | (go_simp; rfl) | rfl
        · refine RU.ObT.pure rfl rfl rfl (fun a V hf hp ev he hc W => ?_)
          have q56 : ev (.tmp 56) = .pointer (some ⟨lg, 0, none⟩) := (he (.tmp 56)).trans (hp 1 56 rfl)
          simp only [List.getElem_toArray, List.getElem_cons_succ, List.getElem_cons_zero, execOp, Option.map_some, Option.map_none]; rw [q56]
          first | (go_simp; done) | (go_simp; rfl) | rfl
        · refine RU.ObT.pure rfl rfl rfl (fun a V hf hp ev he hc W => ?_)
          have q57 : ev (.tmp 57) = .pointer (some ⟨lg, 0, none⟩) := (he (.tmp 57)).trans (hp 2 57 rfl)
          simp only [List.getElem_toArray, List.getElem_cons_succ, List.getElem_cons_zero, execOp, Option.map_some, Option.map_none]; rw [q57]
          first | (go_simp; done) | (go_simp; rfl) | rfl
        · refine RU.ObT.silent rfl (fun a W k0 V hO hf hp hk => ?_)
          have hcell : W.cell? ⟨lg, 130, none⟩ = some rv5 := by
            have hB : Below w5.heap.size w5 W := by
              have hk' : k0 ≤ 2 := hk
              have : k0 = 0 ∨ k0 = 1 ∨ k0 = 2 := by omega
              rcases this with rfl | rfl | rfl
              · exact hO
              · exact hO.1
              · exact hO.1
            have hq := X5.out.below hB
            exact (hq.lw.lb.cells hq.lw.f0 hq.lw.f1).2.2.1
          refine RU.ob_val rfl (RU.wanted_none rfl) (fun ev he hc => ?_) ⟨rfl, hO⟩
          have q58 : ev (.tmp 58) = .pointer (some ⟨lg, 130, none⟩) := (he (.tmp 58)).trans (hp 3 58 rfl)
          simp only [List.getElem_toArray, List.getElem_cons_succ, List.getElem_cons_zero, execOp, Option.map_some, Option.map_none]; rw [q58]
          first | (go_simp; done) | (go_simp; rfl) | rfl
        · refine RU.ObT.pure rfl rfl rfl (fun a V hf hp ev he hc W => ?_)
          have q1 : ev (.tmp 1) = Value.slice ad p.length cap := (he (.tmp 1)).trans (hf 1 rfl)
          simp only [List.getElem_toArray, List.getElem_cons_succ, List.getElem_cons_zero, execOp, Option.map_some, Option.map_none]; rw [q1]
          first | (go_simp; done) | (go_simp; rfl) | rfl
        · refine RU.ObT.loud (j := 0) rfl (fun a W V hO hf hp => ?_)
          have hB0 : Below w5.heap.size w5 W := hO
          have e60 : a.eval (.tmp 60) = Value.slice ad p.length cap := hp 5 60 rfl
          refine RU.ob_call (g := 29) (args := #[Value.slice ad p.length cap]) rfl (RU.wanted_none rfl) (fun ev he hc => ?_) ((clone_sl p _ W (HV5.out.sl.below hB0 (Nat.le_refl _)) (by omega)).mono ?_)
          · have h60 := (he (.tmp 60)).trans e60
            have hfn := he (.func 29)
            simp only [List.getElem_toArray, List.getElem_cons_succ, List.getElem_cons_zero, execOp, Option.map_some, Option.map_none]
            simp only [resolve, invoke, Sem.run_bind, Sem.run_pure, Result.andThen_ok, List.map_toArray, List.map_cons, List.map_nil, h60, hfn, Act.eval, hc]
            rfl
          · rintro e' W2 ⟨v6, rfl, ho6, hb6⟩
            exact ⟨_, rfl, v6, rfl, hB0.trans (hb6.mono hB0.size), ho6.mono hB0.size⟩
        · refine RU.ObT.loud (j := 1) rfl (fun a W V hO hf hp => ?_)
          have q61 : a.eval (.tmp 61) = V 0 := hp 6 61 rfl
          refine RU.ob_run (w' := W.alloc (.cells #[V 0] 32)) (v := .slice (some ⟨W.heap.size, 0, none⟩) 1 1) rfl (RU.wanted_none rfl) (fun ev he hc => ?_) ⟨_, rfl, hO.1.alloc hO.1.size _, W, W.heap.size, hO.1, hO.2, rfl, rfl, rfl⟩
          have e1 := (he (.tmp 61)).trans q61
          obtain ⟨ad6, cp6, hv6, -, -⟩ := hO.2.sl
          simp only [List.getElem_toArray, List.getElem_cons_succ, List.getElem_cons_zero, execOp]
          rw [hv6] at e1 ⊢
          simp only [List.map_toArray, List.map_cons, List.map_nil, e1]
          simp only [Sem.run_bind, run_rec, Result.andThen_ok, Sem.run_pure]
        · refine RU.ObT.loud (j := 2) rfl (fun a W V hO hf hp => ?_)
          obtain ⟨hB, W1, b, hB1, ho6, rfl, rfl, hU1⟩ := hO
          have q59 : a.eval (.tmp 59) = rv5 := hp 4 59 rfl
          have q62 : a.eval (.tmp 62) = .slice (some ⟨W1.heap.size, 0, none⟩) 1 1 := (hp 7 62 rfl).trans hU1
          have X1 := X5.out.below hB1
          refine RD.ob_list rfl (RD.wanted_none rfl) ?_
          refine app_slw rfl (.tmp 59) (.tmp 62) rfl rv5 us5 l.rs q59 (X1.lw.ol.alloc _) (V 0) p ⟨W1.heap.size, 0, none⟩ 1 q62 (cell_alloc W1 #[V 0] _ _ 0) ((ho6.mono (Nat.zero_le _)).alloc _) (fun b hb => ⟨by have := ho6.lt b hb; simp; omega, fun e => by have h1 := ho6.blk b hb; have h2 := X5.out.lw.hlt b (X5.out.lw.hrv b e).1; omega⟩) (fun b hb i u' hi e => by have h1 := ho6.blk b hb; have h2 := X5.out.lw.hlt b (X5.out.lw.hus i u' hi b e).1; omega) HUL.out ?_
          intro v5 wq o5 g5 e5
          obtain ⟨fz, cl⟩ := frz_after X1 g5
          refine ⟨v5, rfl, fz, cl, ?_⟩
          obtain ⟨S', H', x1, x2, x3⟩ := X1.push (B := w5.heap.size) g5 o5 e5 (fun b hb => ⟨ho6.blk b hb, ho6.lt b hb⟩) (fun b hb => hb.elim (fun x => X5.out.lw.hlt b x) (fun x => X5.out.pd.lt x)) hB1.size X5.out.tb.lt
          exact ⟨S', H', x1, (chg_of_below hB1).trans x2, x3⟩
        · refine RU.ObT.pure rfl rfl rfl (fun a V hf hp ev he hc W => ?_)
          have q55 : ev (.tmp 55) = .pointer (some ⟨lg, 0, none⟩) := (he (.tmp 55)).trans (hp 0 55 rfl)
          simp only [List.getElem_toArray, List.getElem_cons_succ, List.getElem_cons_zero, execOp, Option.map_some, Option.map_none]; rw [q55]
          first | (go_simp; done) | (go_simp; rfl) | rfl
        · refine RU.ObT.pure rfl rfl rfl (fun a V hf hp ev he hc W => ?_)
          have q64 : ev (.tmp 64) = .pointer (some ⟨lg, 0, none⟩) := (he (.tmp 64)).trans (hp 9 64 rfl)
          simp only [List.getElem_toArray, List.getElem_cons_succ, List.getElem_cons_zero, execOp, Option.map_some, Option.map_none]; rw [q64]
          first | (go_simp; done) | (go_simp; rfl) | rfl
        · refine RU.ObT.loud (j := 3) rfl (fun a W V hO hf hp => ?_)
          have q65 : a.eval (.tmp 65) = .pointer (some ⟨lg, 130, none⟩) := hp 10 65 rfl
          have q63 : a.eval (.tmp 63) = V 2 := hp 8 63 rfl
          have hfr := hO.fz
          have hcl := hO.cl
          obtain ⟨S', H', x1, x2, x3⟩ := hO.pu
          obtain ⟨adv, nv, cpv, hsh⟩ := x1.lw.ol.shape
          refine RU.ob_skip (w' := W.setCell ⟨lg, 130, none⟩ (V 2)) rfl (RU.wanted_none rfl) (fun ev he hc => ?_) ⟨_, rfl, S', H', x1, x2, x3⟩
          have e1 := (he (.tmp 65)).trans q65
          have e2 := (he (.tmp 63)).trans q63
          simp only [List.getElem_toArray, List.getElem_cons_succ, List.getElem_cons_zero, execOp]
          rw [hsh] at e2 ⊢
          rw [e1, e2]
          obtain ⟨ad5', n5', cp5', hrvs⟩ : ∃ x y z, rv5 = Value.slice x y z := ⟨_, _, _, HRV.out.symm⟩
          rw [hrvs] at hcl
          first | (go_simp; done) | (go_simp; rfl) | rfl
      · intro w7 V7 hO7
        obtain ⟨S7, H7, hx7, hc7, hd7⟩ := hO7
        obtain ⟨ad7, n7, cp7, hrv7⟩ := hx7.lw.ol.shape
        have X7 : Hid (WX S7 F5 H7 w7 g (lay s (en : Int) p).2 lg { l with lo := false, rs := l.rs ++ [p] } (V7 2) (us5 ++ [V7 0])) := hx7
        have C7 : Hid (Chg S5 w5 w7) := hc7
        have D7 : Hid (∀ b, S7 b → S5 b ∨ w5.heap.size ≤ b) := hd7
        obtain ⟨-, -, -, j131, -⟩ := hx7.lw.lb.cells hx7.lw.f0 hx7.lw.f1
        simp only [RU.lay, RU.val, RU.at', af, Act.put]
        simp only [List.setIfInBounds_toArray, List.set_cons_succ, List.set_cons_zero]
        clear hx7 hc7 hd7 hrv7
        have j131' : w7.cell? ⟨lg, 131, none⟩ = some (.int .i64 (en : Int)) := by rw [← HEN.out]; exact j131
        clear j131
        obtain ⟨u0, hu0⟩ : ∃ x, V7 0 = x := ⟨_, rfl⟩
        obtain ⟨u1, hu1⟩ : ∃ x, V7 1 = x := ⟨_, rfl⟩
        obtain ⟨u2, hu2⟩ : ∃ x, V7 2 = x := ⟨_, rfl⟩
        obtain ⟨u3, hu3⟩ : ∃ x, V7 3 = x := ⟨_, rfl⟩
        try simp only [hu0, hu1, hu2, hu3]
        rw [hu0, hu2] at X7
        clear hu0 hu1 hu2 hu3
        obtain ⟨f, hf⟩ : ∃ f, fl p.length = f := ⟨_, rfl⟩
        have HFL : Hid (fl p.length = f) := hf
        have hfb : en + f ≤ 65536 ∧ 1 ≤ f := by rw [← hf]; exact ⟨by omega, by unfold fl; omega⟩
        have hwr := add_at en f (by omega)
        clear hf
        have X7d : Hid (eΩ S7 F5 H7 w7 g (lay s (en : Int) p).2 lg { l with lo := false, rs := l.rs ++ [p] } u2 (us5 ++ [u0]) (en + f) 0 (fun _ => undef) { w7 with drawn := w7.drawn + 1 }) := ⟨X7.out.below (Below.refl _ _).drew, chg_of_below (Below.refl _ _).drew⟩
        go_wp2_with fail
        refine RU.wp_rgn' [10] (ef lg en p.length f (Value.slice ad p.length cap)) hK0 (eΩ S7 F5 H7 w7 g (lay s (en : Int) p).2 lg { l with lo := false, rs := l.rs ++ [p] } u2 (us5 ++ [u0]) (en + f)) (by kernel_rfl) (by kernel_rfl) X7d.out ?_ ?_
        · refine ⟨?_, ?_, ?_, ?_, ?_, ?_, ?_, ?_, ?_, ?_, ?_, trivial⟩
          · refine RU.ObT.pure rfl rfl rfl (fun a V hf hp ev he hc W => ?_)
            have q0 : ev (.tmp 0) = .pointer (some ⟨lg, 0, none⟩) := (he (.tmp 0)).trans (hf 0 rfl)
            simp only [List.getElem_toArray, List.getElem_cons_succ, List.getElem_cons_zero, execOp, Option.map_some, Option.map_none]; rw [q0]
            first | (go_simp; done) | (go_simp; rfl) | rfl
          · refine RU.ObT.pure rfl rfl rfl (fun a V hf hp ev he hc W => ?_)
            have q66 : ev (.tmp 66) = .pointer (some ⟨lg, 0, none⟩) := (he (.tmp 66)).trans (hp 0 66 rfl)
            simp only [List.getElem_toArray, List.getElem_cons_succ, List.getElem_cons_zero, execOp, Option.map_some, Option.map_none]; rw [q66]
            first | (go_simp; done) | (go_simp; rfl) | rfl
          · refine RU.ObT.pure rfl rfl rfl (fun a V hf hp ev he hc W => ?_)
            have q67 : ev (.tmp 67) = .pointer (some ⟨lg, 0, none⟩) := (he (.tmp 67)).trans (hp 1 67 rfl)
            simp only [List.getElem_toArray, List.getElem_cons_succ, List.getElem_cons_zero, execOp, Option.map_some, Option.map_none]; rw [q67]
            first | (go_simp; done) | (go_simp; rfl) | rfl
          · refine RU.ObT.silent rfl (fun a W k0 V hO hf hp hk => ?_)
            obtain rfl : k0 = 0 := Nat.le_zero.1 hk
            have hcell : W.cell? ⟨lg, 131, none⟩ = some (.int .i64 (en : Int)) := by rw [← HEN.out]; exact (hO.1.lw.lb.cells hO.1.lw.f0 hO.1.lw.f1).2.2.2.1
            refine RU.ob_val rfl (RU.wanted_none rfl) (fun ev he hc => ?_) ⟨rfl, hO⟩
            have q68 : ev (.tmp 68) = .pointer (some ⟨lg, 131, none⟩) := (he (.tmp 68)).trans (hp 2 68 rfl)
            simp only [List.getElem_toArray, List.getElem_cons_succ, List.getElem_cons_zero, execOp, Option.map_some, Option.map_none]; rw [q68]
            first | (go_simp; done) | (go_simp; rfl) | rfl
          · refine RU.ObT.pure rfl rfl rfl (fun a V hf hp ev he hc W => ?_)
            have q1 : ev (.tmp 1) = Value.slice ad p.length cap := (he (.tmp 1)).trans (hf 1 rfl)
            simp only [List.getElem_toArray, List.getElem_cons_succ, List.getElem_cons_zero, execOp, Option.map_some, Option.map_none]; rw [q1]
            first | (go_simp; done) | (go_simp; rfl) | rfl
          · refine RU.ObT.pure rfl rfl rfl (fun a V hf hp ev he hc W => ?_)
            have q70 : ev (.tmp 70) = Value.slice ad p.length cap := (he (.tmp 70)).trans (hp 4 70 rfl)
            simp only [List.getElem_toArray, List.getElem_cons_succ, List.getElem_cons_zero, execOp, Option.map_some, Option.map_none]; simp only [resolve, invoke, builtin, Sem.run_bind, Sem.run_pure, Result.andThen_ok, List.map_toArray, List.map_cons, List.map_nil, q70]
            first | (go_simp; done) | (go_simp; rfl) | rfl
          · refine RU.ObT.silent rfl (fun a W k0 V hO hf hp hk => ?_)
            have e71 : a.eval (.tmp 71) = .int .i64 (p.length : Int) := hp 5 71 rfl
            refine RU.ob_call (g := 30) (args := #[.int .i64 (p.length : Int)]) rfl (RU.wanted_none rfl) (fun ev he hc => ?_) ((frameLength_any p.length W (by omega)).mono ?_)
            · have h71 := (he (.tmp 71)).trans e71
              have hfn := he (.func 30)
              simp only [List.getElem_toArray, List.getElem_cons_succ, List.getElem_cons_zero, execOp, Option.map_some, Option.map_none]
              simp only [resolve, invoke, Sem.run_bind, Sem.run_pure, Result.andThen_ok, List.map_toArray, List.map_cons, List.map_nil, h71, hfn, Act.eval, hc]
              rfl
            · rintro e' W2 ⟨rfl, rfl⟩
              exact ⟨_, rfl, by rw [HFL.out]; rfl, hO⟩
          · refine RU.ObT.pure rfl rfl rfl (fun a V hf hp ev he hc W => ?_)
            have q69 : ev (.tmp 69) = .int .i64 (en : Int) := (he (.tmp 69)).trans (hp 3 69 rfl)
            have q72 : ev (.tmp 72) = .int .i64 (f : Int) := (he (.tmp 72)).trans (hp 6 72 rfl)
            simp only [List.getElem_toArray, List.getElem_cons_succ, List.getElem_cons_zero, execOp, Option.map_some, Option.map_none]; rw [q69, q72]
            have := hwr
            first | (go_simp; done) | (go_simp; rfl) | rfl
          · refine RU.ObT.pure rfl rfl rfl (fun a V hf hp ev he hc W => ?_)
            have q66 : ev (.tmp 66) = .pointer (some ⟨lg, 0, none⟩) := (he (.tmp 66)).trans (hp 0 66 rfl)
            simp only [List.getElem_toArray, List.getElem_cons_succ, List.getElem_cons_zero, execOp, Option.map_some, Option.map_none]; rw [q66]
            first | (go_simp; done) | (go_simp; rfl) | rfl
          · refine RU.ObT.pure rfl rfl rfl (fun a V hf hp ev he hc W => ?_)
            have q74 : ev (.tmp 74) = .pointer (some ⟨lg, 0, none⟩) := (he (.tmp 74)).trans (hp 8 74 rfl)
            simp only [List.getElem_toArray, List.getElem_cons_succ, List.getElem_cons_zero, execOp, Option.map_some, Option.map_none]; rw [q74]
            first | (go_simp; done) | (go_simp; rfl) | rfl
          · refine RU.ObT.loud (j := 0) rfl (fun a W' V hO hf hp => ?_)
            have q75 : a.eval (.tmp 75) = .pointer (some ⟨lg, 131, none⟩) := hp 9 75 rfl
            have q73 : a.eval (.tmp 73) = .int .i64 ((en + f : Nat) : Int) := hp 7 73 rfl
            have hcell := (hO.1.lw.lb.cells hO.1.lw.f0 hO.1.lw.f1).2.2.2.1
            have hfr := hO.1.lw.lb.froz 131
            have hse := hO.1.setE (en + f)
            refine RU.ob_skip (w' := W'.setCell ⟨lg, 131, none⟩ (.int .i64 ((en + f : Nat) : Int))) rfl (RU.wanted_none rfl) (fun ev he hc => ?_) ⟨_, rfl, hse.1, hO.2.trans hse.2⟩
            have e1 := (he (.tmp 75)).trans q75
            have e2 := (he (.tmp 73)).trans q73
            simp only [List.getElem_toArray, List.getElem_cons_succ, List.getElem_cons_zero, execOp]
            rw [e1, e2]
            go_simp
        · intro w8 V8 hO8
          have X8 : Hid (WX S7 F5 H7 w8 g (lay s (en : Int) p).2 lg { l with lo := false, rs := l.rs ++ [p], en := en + f } u2 (us5 ++ [u0])) := hO8.1
          have C8 : Hid (Chg S7 w7 w8) := hO8.2
          simp only [RU.lay, RU.val, RU.at', ef, Act.put]
          simp only [List.setIfInBounds_toArray, List.set_cons_succ, List.set_cons_zero]
          clear hO8
          go_wp2_with fail
          go_ret
          rw [HAP.out, if_pos HZZ.out]
          refine ⟨rfl, AftL.trans C2.out D2.out (AftL.trans C5.out D5.out (AftL.trans C7.out D7.out ⟨S7, ⟨F5, H7, u2, us5 ++ [u0], ?_⟩, C8.out, fun b hb => .inl hb⟩))⟩
          have := X8.out
          rw [← HFL.out] at this
          exact this
    · have HZ0 : Hid (z ≠ 0) := hz
      go_wp2_with fail
      go_ret
      rw [HAP.out, if_neg (by rw [HZZ.out]; exact HZ0.out)]
      exact ⟨(by rw [HZZ.out]; rfl), AftL.trans C2.out D2.out HA.out⟩
  · have hfd : decide (en + fl p.length < T) = false := decide_eq_false hfit
    have hap : apR s l p = (5, s, l) := by
      unfold apR
      rw [HEN.out, HTT.out, HT.out, if_neg hfit]
    have HAP : Hid (apR s l p = (5, s, l)) := hap
    rw [hfd]
    clear hap
    go_wp2_with fail
    go_ret
    rw [HAP.out]
    exact ⟨rfl, S1, ⟨F, H, rv, us, HX.out⟩, C2.out, D2.out⟩
end Go.Proofs.YthfpakjfdncphaaDoor
