/- The reference: Inner, Sum256 of lists. -/
import Derived.Test.YtpojalbpekbfdabDoorTrrG
import Derived.Test.YtpojalbpekbfdabDoorRefE
namespace Go.Proofs.YtpojalbpekbfdabDoor
open Go Go.RowKit
set_option linter.unusedSimpArgs false
set_option linter.unusedVariables false
set_option maxRecDepth 100000

theorem Sq.src {w : World} {v : Value} {xs : List Int} (h : Sq w v xs) (hb : Byt xs) : ∃ ad cap, v = .slice ad xs.length cap ∧ Sh.Src w ad xs.length cap (hm xs) := by
  obtain ⟨ad, cap, rfl, hc, hcell⟩ := h.sl
  refine ⟨ad, cap, rfl, ?_⟩
  cases ad with
  | none =>
    obtain rfl := h.none' _ _ rfl
    exact .inl ⟨by omega, rfl⟩
  | some A =>
    by_cases hc0 : cap = 0
    · subst hc0; exact .inl ⟨by omega, rfl⟩
    obtain ⟨h1, h2⟩ := h.some' A _ _ rfl hc0
    obtain ⟨b, o, sp⟩ := A
    simp only at h1 h2; subst h1
    refine .inr ⟨b, o, rfl, h2, fun i hi => ?_⟩
    rcases hcell with ⟨rfl, _⟩ | ⟨b', o', he, _, hm'⟩
    · simp at hi
    · cases he
      rw [hm' i hi]
      have := hb.get hi
      exact congrArg some (byte_of _ this.1 this.2)
theorem rsum_sl (xs h : List Int) (v : Value) (hh : hs xs = h) (hl : xs.length ≤ 1000000) (w : World) (hb : Byt xs) (hv : Sq w v xs) :
    Calls Tryd.prog 44 #[v] w fun e w' => e = .returned (.agg (bv h).toArray) ∧ Below w.heap.size w w' := by
  subst hh
  obtain ⟨ad, cap, rfl, hsr⟩ := hv.src hb
  refine (Sh.rsum_walk (hm xs) ad xs.length cap (by omega) w hsr).mono fun e w' ⟨h1, h2⟩ => ⟨?_, h2⟩
  rw [h1, srow_bv]; rfl
/-- What Inner has done. -/
structure InI (U : World) (a b : Nd) (d : Nat → Bool) (V : Nat → Value) (W : World) : Prop where
  be : Below U.heap.size U W
  p0 : d 0 = true → Sl W (V 0) [2]
  p1 : d 1 = true → V 1 = .agg (nc a).toArray
  p2 : d 2 = true → Sl W (V 2) (nbs a)
  p3 : d 3 = true → V 3 = .agg (nc b).toArray
  p4 : d 4 = true → Sl W (V 4) (nbs b)
  p5 : d 5 = true → LL W (V 5) [[2], nbs a, nbs b]
  p6 : d 6 = true → Ow U.heap.size W (V 6) ([2] ++ nbs a ++ nbs b)
  p7 : d 7 = true → Ow U.heap.size W (V 7) ([2] ++ nbs a ++ nbs b)
theorem InI.grow {U : World} {a b : Nd} {d : Nat → Bool} {V : Nat → Value} {W W2 : World} (h : InI U a b d V W) (hb : Below W.heap.size W W2) : InI U a b d V W2 :=
  ⟨h.be.trans (hb.mono h.be.size), fun q => (h.p0 q).below hb (Nat.le_refl _), h.p1, fun q => (h.p2 q).below hb (Nat.le_refl _), h.p3, fun q => (h.p4 q).below hb (Nat.le_refl _), fun q => (h.p5 q).below hb, fun q => (h.p6 q).below hb, fun q => (h.p7 q).below hb⟩
set_option maxHeartbeats 4000000 in
theorem rInner_any (a b : Nd) (ha : a.Ok) (hb : b.Ok) (ha0 : 0 ≤ a.n) (ha1 : a.n ≤ 256) (hb0 : 0 ≤ b.n) (hb1 : b.n ≤ 256) (w : World) :
    Calls Tryd.prog 48 #[.agg (nc a).toArray, .agg (nc b).toArray] w fun e w' => ∃ v', e = .returned v' ∧ Ow w.heap.size w' v' ([2] ++ nbs a ++ nbs b) ∧ Below w.heap.size w w' := by
  have s1 := nc_size ha
  have s2 := nc_size hb
  have HNA : Hid (∀ W : World, Calls Tryd.prog 71 #[.agg (nc a).toArray] W fun e w' => ∃ v', e = .returned v' ∧ Ow W.heap.size w' v' (nbs a) ∧ Below W.heap.size W w') := fun W => rNodeBytes_any a ha ha0 ha1 W
  have HNB : Hid (∀ W : World, Calls Tryd.prog 71 #[.agg (nc b).toArray] W fun e w' => ∃ v', e = .returned v' ∧ Ow W.heap.size w' v' (nbs b) ∧ Below W.heap.size W w') := fun W => rNodeBytes_any b hb hb0 hb1 W
  have HL : Hid (∀ i, i < [[2], nbs a, nbs b].length → (mi [[2], nbs a, nbs b] i).length ≤ 1048576) := fun i hi => by
    match i, hi with
    | 0, _ => show 1 ≤ _; omega
    | 1, _ => show (nbs a).length ≤ _; rw [nbs_length ha]; omega
    | 2, _ => show (nbs b).length ≤ _; rw [nbs_length hb]; omega
  obtain ⟨ra, rb, rs, rl⟩ := two_rows w (nc a) (nc b) 33 33
  obtain ⟨A, hA⟩ : ∃ A, (nc a).toArray = A := ⟨_, rfl⟩
  obtain ⟨B, hB⟩ : ∃ B, (nc b).toArray = B := ⟨_, rfl⟩
  rw [hA, hB] at ra rb rs rl
  rw [hA] at s1 ⊢
  rw [hB] at s2 ⊢
  have HA : Hid a.Ok := ha
  have HB : Hid b.Ok := hb
  clear ha hb
  go_enter Tryd.func48, Tryd.ntmps48
  go_wp2_with fail
  obtain ⟨U, hU⟩ : ∃ U, (w.alloc (.cells A 33)).alloc (.cells B 33) = U := ⟨_, rfl⟩
  rw [hU] at ra rb rs rl ⊢
  obtain ⟨D, hD⟩ : ∃ D, w.heap.size = D := ⟨_, rfl⟩
  have BU : Hid (Below w.heap.size w U) := rl
  rw [hD] at ra rb rs ⊢
  have hDX : Hid (D < U.heap.size) := by show D < _; omega
  have hDY : Hid (D + 1 < U.heap.size) := by show D + 1 < _; omega
  have RA : Hid (U.rangeAt D 0 (nc a)) := ra
  have RB : Hid (U.rangeAt (D + 1) 0 (nc b)) := rb
  clear hU ra rb rs rl hD hA hB
  refine RG.wp_rgn' (InI U a b) (by kernel_rfl) (by kernel_rfl) ⟨(Below.refl _ _).drew, (fun h => by cases h), (fun h => by cases h), (fun h => by cases h), (fun h => by cases h), (fun h => by cases h), (fun h => by cases h), (fun h => by cases h), (fun h => by cases h)⟩ ?_ ?_
  · refine ⟨?_, ?_, ?_, ?_, ?_, ?_, ?_, ?_, trivial⟩
    · intro x W d V hI hd hpx hbk hf hp
      have hb : Below W.heap.size W (W.alloc (.cells #[.int .u8 2] 5)) := (Below.refl _ W).alloc (Nat.le_refl _) _
      have hJ := hI.grow hb
      refine RU.ob_run (v := .slice (some ⟨W.heap.size, 0, none⟩) 1 1) (w' := W.alloc (.cells #[.int .u8 2] 5)) rfl (RU.wanted_none rfl) (fun ev he hc => ?_) ⟨_, rfl, hJ.be, fun _ => Sl.one W 2 _, hJ.p1, hJ.p2, hJ.p3, hJ.p4, hJ.p5, hJ.p6, hJ.p7⟩
      simp only [List.getElem_toArray, List.getElem_cons_succ, List.getElem_cons_zero, execOp]
      simp only [List.map_toArray, List.map_cons, List.map_nil, hc]
      go_simp
    · intro x W d V hI hd hpx hbk hf hp
      exact RU.ob_op rfl (RU.wanted_none rfl) (wp_load_mid 33 (.tmp 2) rfl D 0 (hf 2 rfl) (nc a) _ (range_below RA.out hI.be hDX.out) Tryd.underlying33 rfl (size_nc HA.out) ⟨_, rfl, hI.be, hI.p0, fun _ => rfl, hI.p2, hI.p3, hI.p4, hI.p5, hI.p6, hI.p7⟩)
    · intro x W d V hI hd hpx hbk hf hp
      have e6 : x.eval (.tmp 6) = .agg (nc a).toArray := (hp 1 6 rfl).trans (hI.p1 (hpx 1 rfl))
      refine RU.ob_call (g := 71) (args := #[.agg (nc a).toArray]) rfl (RU.wanted_none rfl) (fun ev he hc => ?_) ((HNA.out W).mono ?_)
      · have h6 := (he (.tmp 6)).trans e6
        have hfn := he (.func 71)
        simp only [List.getElem_toArray, List.getElem_cons_succ, List.getElem_cons_zero, execOp, Option.map_some, Option.map_none]
        simp only [resolve, invoke, Sem.run_bind, Sem.run_pure, Result.andThen_ok, List.map_toArray, List.map_cons, List.map_nil, h6, hfn, Act.eval, hc]
        rfl
      · rintro e' W2 ⟨v', rfl, g1, g2⟩
        have hJ := hI.grow g2
        exact ⟨_, rfl, _, rfl, hJ.be, hJ.p0, hJ.p1, fun _ => g1.sl, hJ.p3, hJ.p4, hJ.p5, hJ.p6, hJ.p7⟩
    · intro x W d V hI hd hpx hbk hf hp
      exact RU.ob_op rfl (RU.wanted_none rfl) (wp_load_mid 33 (.tmp 3) rfl (D + 1) 0 (hf 3 rfl) (nc b) _ (range_below RB.out hI.be hDY.out) Tryd.underlying33 rfl (size_nc HB.out) ⟨_, rfl, hI.be, hI.p0, hI.p1, hI.p2, fun _ => rfl, hI.p4, hI.p5, hI.p6, hI.p7⟩)
    · intro x W d V hI hd hpx hbk hf hp
      have e6 : x.eval (.tmp 8) = .agg (nc b).toArray := (hp 3 8 rfl).trans (hI.p3 (hpx 3 rfl))
      refine RU.ob_call (g := 71) (args := #[.agg (nc b).toArray]) rfl (RU.wanted_none rfl) (fun ev he hc => ?_) ((HNB.out W).mono ?_)
      · have h6 := (he (.tmp 8)).trans e6
        have hfn := he (.func 71)
        simp only [List.getElem_toArray, List.getElem_cons_succ, List.getElem_cons_zero, execOp, Option.map_some, Option.map_none]
        simp only [resolve, invoke, Sem.run_bind, Sem.run_pure, Result.andThen_ok, List.map_toArray, List.map_cons, List.map_nil, h6, hfn, Act.eval, hc]
        rfl
      · rintro e' W2 ⟨v', rfl, g1, g2⟩
        have hJ := hI.grow g2
        exact ⟨_, rfl, _, rfl, hJ.be, hJ.p0, hJ.p1, hJ.p2, hJ.p3, fun _ => g1.sl, hJ.p5, hJ.p6, hJ.p7⟩
    · intro x W d V hI hd hpx hbk hf hp
      have e5 : x.eval (.tmp 5) = V 0 := hp 0 5 rfl
      have e7 : x.eval (.tmp 7) = V 2 := hp 2 7 rfl
      have e9 : x.eval (.tmp 9) = V 4 := hp 4 9 rfl
      have q0 := hI.p0 (hpx 0 rfl)
      have q2 := hI.p2 (hpx 2 rfl)
      have q4 := hI.p4 (hpx 4 rfl)
      obtain ⟨a0, c0, hv0, -, -⟩ := id q0
      obtain ⟨a2, c2, hv2, -, -⟩ := id q2
      obtain ⟨a4, c4, hv4, -, -⟩ := id q4
      have hb : Below W.heap.size W (W.alloc (.cells #[V 0, V 2, V 4] 51)) := (Below.refl _ W).alloc (Nat.le_refl _) _
      have hJ := hI.grow hb
      refine RU.ob_run (v := .slice (some ⟨W.heap.size, 0, none⟩) 3 3) (w' := W.alloc (.cells #[V 0, V 2, V 4] 51)) rfl (RU.wanted_none rfl) (fun ev he hc => ?_) ⟨_, rfl, hJ.be, hJ.p0, hJ.p1, hJ.p2, hJ.p3, hJ.p4, fun _ => ll_three _ q0 q2 q4, hJ.p6, hJ.p7⟩
      have h5 := (he (.tmp 5)).trans e5
      have h7 := (he (.tmp 7)).trans e7
      have h9 := (he (.tmp 9)).trans e9
      simp only [List.getElem_toArray, List.getElem_cons_succ, List.getElem_cons_zero, execOp]
      simp only [List.map_toArray, List.map_cons, List.map_nil, h5, h7, h9]
      rw [hv0, hv2, hv4]
      go_simp
    · intro x W d V hI hd hpx hbk hf hp
      have e10 : x.eval (.tmp 10) = V 5 := hp 5 10 rfl
      refine RU.ob_call (g := 45) (args := #[V 5]) rfl (RU.wanted_none rfl) (fun ev he hc => ?_) ((rJoin_any _ (V 5) W (hI.p5 (hpx 5 rfl)) HL.out (by simp)).mono ?_)
      · have h10 := (he (.tmp 10)).trans e10
        have hfn := he (.func 45)
        simp only [List.getElem_toArray, List.getElem_cons_succ, List.getElem_cons_zero, execOp, Option.map_some, Option.map_none]
        simp only [resolve, invoke, Sem.run_bind, Sem.run_pure, Result.andThen_ok, List.map_toArray, List.map_cons, List.map_nil, h10, hfn, Act.eval, hc]
        rfl
      · rintro e' W2 ⟨v', rfl, g1, g2⟩
        have hJ := hI.grow g2
        exact ⟨_, rfl, _, rfl, hJ.be, hJ.p0, hJ.p1, hJ.p2, hJ.p3, hJ.p4, hJ.p5, fun _ => g1.mono hI.be.size, hJ.p7⟩
    · intro x W d V hI hd hpx hbk hf hp
      have q11 : x.eval (.tmp 11) = V 6 := hp 6 11 rfl
      refine RU.ob_val (v := V 6) rfl (RU.wanted_none rfl) (fun ev he hc => ?_) ⟨_, rfl, hI.be, hI.p0, hI.p1, hI.p2, hI.p3, hI.p4, hI.p5, hI.p6, fun _ => hI.p6 (hpx 6 rfl)⟩
      have e1 := (he (.tmp 11)).trans q11
      simp only [List.getElem_toArray, List.getElem_cons_succ, List.getElem_cons_zero, execOp]
      rw [e1]
      first | rfl | go_simp
  intro W1 d1 V1 hal hI
  have P1 : Hid (Ow U.heap.size W1 (V1 7) ([2] ++ nbs a ++ nbs b)) := hI.p7 (hal 7 (by decide))
  have B1 : Hid (Below U.heap.size U W1) := hI.be
  clear hI hal
  simp only [RU.lay, Act.put]
  simp only [List.setIfInBounds_toArray, List.set_cons_succ, List.set_cons_zero]
  go_wp2_with fail
  go_ret
  exact ⟨_, rfl, P1.out.mono BU.out.size, BU.out.trans (B1.out.mono BU.out.size)⟩
end Go.Proofs.YtpojalbpekbfdabDoor
