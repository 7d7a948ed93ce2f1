/- The walk of GrowChain. -/
import Derived.Test.YtpojalbpekbfdaaGreatDoorGrnL
import Derived.Test.YtpojalbpekbfdaaGreatDoorTroA
import Derived.Test.YtpojalbpekbfdaaGreatDoorTrfC
import Derived.Test.YtpojalbpekbfdaaGreatDoorTrmC
namespace Go.Proofs.YtpojalbpekbfdaaGreatDoor
open Go Go.RowKit
set_option linter.unusedSimpArgs false
set_option linter.unusedVariables false
set_option maxRecDepth 100000

theorem field_h {x : Nd} (h : x.Ok) (w : World) : (Instr.field 41 (.agg (nc x).toArray) 2).run Tryz.prog w = .ok (.agg (bv x.h).toArray) w := by
  have p2 := part32 w (nc x).toArray 33
  rw [ext_h h] at p2
  obtain ⟨C, hC⟩ : ∃ C, (nc x).toArray = C := ⟨_, rfl⟩
  rw [hC] at p2 ⊢
  have hu := run_underlying (P := Tryz.prog) Tryz.underlying41 (w := w)
  simp only [Instr.field, Sem.run_bind, hu, Result.andThen_ok, asAgg, Sem.run_pure]
  exact p2
theorem dst_id_go : ∀ (ls acc : List Lf), (acc ++ ls).Pairwise (fun a b => a.p ≠ b.p) → ls.foldl dsA acc = acc ++ ls
  | [], acc, _ => by simp
  | a :: r, acc, h => by
    have h1 : dsN acc a = true := by
      unfold dsN
      rw [List.all_eq_true]
      intro z hz
      have := (List.pairwise_append.1 h).2.2 z hz a (by simp)
      simpa using this
    show r.foldl dsA (dsA acc a) = _
    rw [show dsA acc a = acc ++ [a] by unfold dsA; rw [if_pos h1], dst_id_go r (acc ++ [a]) (by rw [List.append_assoc]; exact h), List.append_assoc]
    rfl
theorem dst_id {ls : List Lf} (hk : ∀ x ∈ ls, x.Ok) (ho : okl ls) : dst ls = ls := by
  have := dst_id_go ls [] (by rw [List.nil_append]; exact (okl_ne hk ho).imp ne_of_pf)
  rwa [List.nil_append] at this
def gn15f (v7 vo : Value) (b19 : Nat) (Rc py H : List Int) : Nat → Option Value
  | 0 => some (v7)
  | 1 => some (.agg (bv Rc).toArray)
  | 2 => some (vo)
  | 3 => some (.pointer (some ⟨b19, 0, none⟩))
  | 4 => some (.agg (bv py).toArray)
  | 5 => some (.tuple #[.agg (bv H).toArray, .bool true, .int .i64 0])
  | 6 => some (.tuple #[.agg (bv H).toArray, .bool true, .int .i64 0])
  | 7 => some (.agg (bv H).toArray)
  | 8 => some (.bool true)
  | 9 => some (.int .i64 0)
  | 12 => some (.bool true)
  | 13 => some (.int .i64 0)
  | _ => none
def gn16f (b10 b19 : Nat) (x : Lf) (nx : Nd) (H : List Int) : Nat → Value
  | 0 => .int .i64 0
  | 1 => .bool true
  | 2 => .bool true
  | 3 => .bool true
  | 4 => .bool true
  | 5 => .bool true
  | 6 => .agg (bv H).toArray
  | 7 => .agg (lfc x).toArray
  | 8 => .agg (nc nx).toArray
  | 9 => .agg (bv H).toArray
  | 10 => .bool true
  | 11 => .bool true
  | 12 => .bool true
  | _ => undef
set_option maxHeartbeats 16000000 in
theorem growChain_any (la lb lc : List Lf) (hka : ∀ x ∈ la, x.Ok) (hkb : ∀ x ∈ lb, x.Ok) (hkc : ∀ x ∈ lc, x.Ok) (hlen : la.length + lb.length + lc.length ≤ 1000000000000) (t : Int) (va vb vc : Value) (w : World) (hva : LS w va la) (hvb : LS w vb lb) (hvc : LS w vc lc) (hT : Tb w) :
    Calls Tryz.prog 3 #[va, vb, vc, .int .i64 t] w fun e w' => e = .returned (.bool true) ∧ Below w.heap.size w w' := by
  obtain ⟨hk1, ho1⟩ := apartL_ok hka hkb
  obtain ⟨l1, l2⟩ := apartL_len la lb
  have HAW : Hid (Calls Tryz.prog 4 #[] w fun e w' => e = .returned (.bool true) ∧ Below w.heap.size w w') := awake_any w hT
  have HAP1 : Hid (∀ W : World, Below w.heap.size w W → Calls Tryz.prog 5 #[va, vb] W fun e w' => ∃ v1 v2, e = .returned (.tuple #[v1, v2]) ∧ LS w' v1 (dst la) ∧ LS w' v2 (apd (dst la) lb) ∧ Below W.heap.size W w') := fun W q => apartL_any la lb hka hkb (by omega) va vb W (hva.below q) (hvb.below q)
  obtain ⟨X, hX⟩ : ∃ X, dst la = X := ⟨_, rfl⟩
  rw [hX] at hk1 ho1 l1 l2 HAP1
  obtain ⟨Y, hY⟩ : ∃ Y, apd X lb = Y := ⟨_, rfl⟩
  rw [hY] at hk1 ho1 l2 HAP1
  obtain ⟨Q, hQ⟩ : ∃ Q, X ++ Y = Q := ⟨_, rfl⟩
  have lQ : Q.length = X.length + Y.length := by rw [← hQ, List.length_append]
  have hkQ : ∀ x ∈ Q, x.Ok := by rw [← hQ]; exact hk1
  have hoQ : okl Q := by rw [← hQ]; exact ho1
  obtain ⟨hk2, ho2⟩ := apartL_ok hkQ hkc
  obtain ⟨-, l3⟩ := apartL_len Q lc
  have HAP2 : Hid (∀ (v : Value) (W : World), LS W v Q → Below w.heap.size w W → Calls Tryz.prog 5 #[v, vc] W fun e w' => ∃ v1 v2, e = .returned (.tuple #[v1, v2]) ∧ LS w' v1 (dst Q) ∧ LS w' v2 (apd (dst Q) lc) ∧ Below W.heap.size W w') := fun v W q1 q => apartL_any Q lc hkQ hkc (by omega) v vc W q1 (hvc.below q)
  rw [dst_id hkQ hoQ] at hk2 ho2 l3 HAP2
  obtain ⟨Z3, hZ3⟩ : ∃ Z3, apd Q lc = Z3 := ⟨_, rfl⟩
  rw [hZ3] at hk2 ho2 l3 HAP2
  have hx1 : ∀ x ∈ X, x.Ok := fun x hx => hk1 x (List.mem_append_left _ hx)
  have hx2 : ∀ x ∈ Y, x.Ok := fun x hx => hk1 x (List.mem_append_right _ hx)
  have hx3 : ∀ x ∈ Z3, x.Ok := fun x hx => hk2 x (List.mem_append_right _ hx)
  obtain ⟨o1, o2, -⟩ := okl_left hk1 ho1
  obtain ⟨hck1, hap1, -, -⟩ := ck_honest hk1 ho1
  obtain ⟨f1, f1'⟩ := sty_fit hk1 ho1
  obtain ⟨hck2, hap2, -, -⟩ := ck_honest hk2 ho2
  obtain ⟨f2, f2'⟩ := sty_fit hk2 ho2
  obtain ⟨P, hP⟩ : ∃ P, Q ++ Z3 = P := ⟨_, rfl⟩
  have lP : P.length = Q.length + Z3.length := by rw [← hP, List.length_append]
  rw [hQ] at hck1
  have hkP : ∀ x ∈ P, x.Ok := by rw [← hP]; exact hk2
  have hoP : okl P := by rw [← hP]; exact ho2
  rw [hP] at hck2
  have HCX : Hid (∀ (v : Value) (W : World), LS W v X → Calls Tryz.prog 6 #[v] W fun e w' => ∃ v', e = .returned v' ∧ LO W.heap.size w' v' X ∧ Below W.heap.size W w') := fun v W q => copyLeaves_own X hx1 (by omega) v W q
  have HCY : Hid (∀ (v : Value) (W : World), LS W v Y → Calls Tryz.prog 6 #[v] W fun e w' => ∃ v', e = .returned v' ∧ LO W.heap.size w' v' Y ∧ Below W.heap.size W w') := fun v W q => copyLeaves_own Y hx2 (by omega) v W q
  have HCQ : Hid (∀ (v : Value) (W : World), LS W v Q → Calls Tryz.prog 6 #[v] W fun e w' => ∃ v', e = .returned v' ∧ LO W.heap.size w' v' Q ∧ Below W.heap.size W w') := fun v W q => copyLeaves_own Q hkQ (by omega) v W q
  have HCZ : Hid (∀ (v : Value) (W : World), LS W v Z3 → Calls Tryz.prog 6 #[v] W fun e w' => ∃ v', e = .returned v' ∧ LO W.heap.size w' v' Z3 ∧ Below W.heap.size W w') := fun v W q => copyLeaves_own Z3 hx3 (by omega) v W q
  have HST1 : Hid (∀ (v u : Value) (W : World), LS W v X → LS W u Y → Below w.heap.size w W → Calls Tryz.prog 7 #[v, u] W fun e w' => ∃ v', e = .returned (.tuple #[v', .int .i64 0]) ∧ NS w' v' (sty X Y) ∧ Below W.heap.size W w') := fun v u W q1 q2 q3 => by
    refine (Stays_any X Y hk1 (by omega) v u W q1 q2 (hT.below q3)).mono fun e w' ⟨v', er, r1, r2, r3⟩ => ?_
    rcases r2 with ⟨_, rfl, q⟩ | ⟨q, _⟩
    · exact ⟨v', r1, q.ns, r3⟩
    · exact absurd ho1 q
  have HST2 : Hid (∀ (v u : Value) (W : World), LS W v Q → LS W u Z3 → Below w.heap.size w W → Calls Tryz.prog 7 #[v, u] W fun e w' => ∃ v', e = .returned (.tuple #[v', .int .i64 0]) ∧ NS w' v' (sty Q Z3) ∧ Below W.heap.size W w') := fun v u W q1 q2 q3 => by
    refine (Stays_any Q Z3 hk2 (by omega) v u W q1 q2 (hT.below q3)).mono fun e w' ⟨v', er, r1, r2, r3⟩ => ?_
    rcases r2 with ⟨_, rfl, q⟩ | ⟨q, _⟩
    · exact ⟨v', r1, q.ns, r3⟩
    · exact absurd ho2 q
  have HR1 : Hid (∀ (v : Value) (W : World), LS W v (X) → Calls Tryz.prog 9 #[v] W fun e w' => e = .returned (.agg (bv (rt (so X))).toArray) ∧ Below W.heap.size W w') := fun v W q => rootL_any (X) hx1 (by omega) _ 0 (.inl ⟨o1, rfl, rfl⟩) (rt_l32 _) v W q
  have HR2 : Hid (∀ (v : Value) (W : World), LS W v (Q) → Calls Tryz.prog 9 #[v] W fun e w' => e = .returned (.agg (bv (rt (so Q))).toArray) ∧ Below W.heap.size W w') := fun v W q => rootL_any (Q) hkQ (by omega) _ 0 (.inl ⟨hoQ, rfl, rfl⟩) (rt_l32 _) v W q
  have HR3 : Hid (∀ (v : Value) (W : World), LS W v (P) → Calls Tryz.prog 9 #[v] W fun e w' => e = .returned (.agg (bv (rt (so P))).toArray) ∧ Below W.heap.size W w') := fun v W q => rootL_any (P) hkP (by omega) _ 0 (.inl ⟨hoP, rfl, rfl⟩) (rt_l32 _) v W q
  have HK1 : Hid (∀ (v u : Value) (W : World), NS W v (sty X Y) → LS W u Y → Below w.heap.size w W → Calls Tryz.prog 8 #[.agg (bv (rt (so X))).toArray, .agg (bv (rt (so Q))).toArray, v, u] W fun e w' => e = .returned (.int .i64 0) ∧ Below W.heap.size W w') := fun v u W q1 q2 q3 => by
    refine (Check_any _ _ (rt_l32 _) (rt_l32 _) (sty X Y) f1 Y hx2 (by omega) v u W q1 q2 (hT.below q3)).mono fun e w' ⟨er, r1, r2, r3⟩ => ?_
    rw [cko_uniq f1 hx2 r2 hck1] at r1
    exact ⟨r1, r3⟩
  have HK2 : Hid (∀ (v u : Value) (W : World), NS W v (sty Q Z3) → LS W u Z3 → Below w.heap.size w W → Calls Tryz.prog 8 #[.agg (bv (rt (so Q))).toArray, .agg (bv (rt (so P))).toArray, v, u] W fun e w' => e = .returned (.int .i64 0) ∧ Below W.heap.size W w') := fun v u W q1 q2 q3 => by
    refine (Check_any _ _ (rt_l32 _) (rt_l32 _) (sty Q Z3) f2 Z3 hx3 (by omega) v u W q1 q2 (hT.below q3)).mono fun e w' ⟨er, r1, r2, r3⟩ => ?_
    rw [cko_uniq f2 hx3 r2 hck2] at r1
    exact ⟨r1, r3⟩
  have HOP : Hid (∀ (x : Lf), x ∈ X → ∀ (v : Value) (W : World), LS W v P → Calls Tryz.prog 10 #[v, .agg (bv x.p).toArray] W fun e w' => ∃ v', e = .returned (.tuple #[v', .int .i64 0]) ∧ NS w' v' (opl x.p (so P)) ∧ Below W.heap.size W w') := fun x hx v W q => by
    refine (rOpen_any P hkP (by omega) x.p (hx1 x hx).p v W q).mono fun e w' ⟨v', er, r1, r2, r3⟩ => ?_
    rcases r2 with ⟨_, rfl, q⟩ | ⟨q, _⟩
    · exact ⟨v', r1, q, r3⟩
    · exact absurd hoP q
  have HFO : Hid (∀ (x : Lf), x ∈ X → ∀ (v : Value) (W : World), NS W v (opl x.p (so P)) → Calls Tryz.prog 11 #[.agg (bv (rt (so P))).toArray, v, .agg (bv x.p).toArray] W fun e w' => e = .returned (.tuple #[.agg (bv (ln x).h).toArray, .bool true, .int .i64 0]) ∧ Below W.heap.size W w') := fun x hx v W q => by
    have hxP : x ∈ P := by rw [← hP, ← hQ]; exact List.mem_append_left _ (List.mem_append_left _ hx)
    have hw := (wo_fit (hd := fun n => hl n x.p) (own := true) (so P).length (so P) (so_rsn hkP hoP))
    rw [wo_opl x.p _ _ (so_rsn hkP hoP).ris (Nat.le_refl _), so_len hoP] at hw
    have := rFound_any (rt (so P)) (rt_l32 _) (opl x.p (so P)) hw.1 (by have := hw.2; omega) x.p (hx1 x hx).p v W q
    rw [back_yes hkP hoP (hx1 x hx).p hxP rfl] at this
    exact this
  have HXK : Hid (∀ x ∈ X, x.Ok) := hx1
  have HYK : Hid (∀ x ∈ Y, x.Ok) := hx2
  have HZKK : Hid (∀ x ∈ Z3, x.Ok) := hx3
  have HQE : Hid (X ++ Y = Q) := hQ
  have HPE : Hid (Q ++ Z3 = P) := hP
  have HSZ : Hid (X.length + Y.length + Z3.length ≤ 1000000000000 ∧ Q.length = X.length + Y.length) := by show _ ∧ _; omega
  obtain ⟨Ra, hRa⟩ : ∃ R, rt (so X) = R := ⟨_, rfl⟩
  obtain ⟨Rb, hRb⟩ : ∃ R, rt (so Q) = R := ⟨_, rfl⟩
  obtain ⟨Rc, hRc⟩ : ∃ R, rt (so P) = R := ⟨_, rfl⟩
  obtain ⟨S1, hS1⟩ : ∃ S, sty X Y = S := ⟨_, rfl⟩
  obtain ⟨S2, hS2⟩ : ∃ S, sty Q Z3 = S := ⟨_, rfl⟩
  rw [hRa] at HR1 HK1
  rw [hRb] at HR2 HK1 HK2
  rw [hRc] at HR3 HK2 HFO
  rw [hS1] at HST1 HK1
  rw [hS2] at HST2 HK2
  have hz := zero_32
  rw [show List.replicate 32 (0 : Int) = z32 from rfl] at hz
  obtain ⟨Z, hZ⟩ : ∃ Z, (bv z32).toArray = Z := ⟨_, rfl⟩
  have HZE : Hid ((bv z32).toArray = Z) := hZ
  rw [hZ] at hz
  have hzl := zero_lf
  obtain ⟨Zl, hZl⟩ : ∃ Z, (lfc lfz).toArray = Z := ⟨_, rfl⟩
  have HZL : Hid (Zl.size = 64) := by show Zl.size = 64; rw [← hZl, List.size_toArray]; exact lfc_length lfz_ok
  rw [hZl] at hzl
  clear hka hkb hkc hlen hva hvb hvc hT hk1 ho1 l1 l2 hX hY hQ lQ hkQ hoQ hk2 ho2 l3 hZ3 hx1 hx2 hx3 o1 o2 hck1 hap1 f1 f1' hck2 hap2 f2 f2' hP lP hkP hoP hRa hRb hRc hS1 hS2 hZ hZl
  go_enter Tryz.func3, Tryz.ntmps3
  go_wp2_with fail
  refine (HAW.out).mono ?_
  rintro e w1 ⟨rfl, g1⟩
  have C1 : Hid (Below w.heap.size w w1) := g1
  clear g1
  go_wp2_with fail
  refine (HAP1.out w1 C1.out).mono ?_
  rintro e w2 ⟨vx, vy, rfl, g1, g2, g3⟩
  have NX2 : Hid (LS w2 vx X) := g1
  have NY2 : Hid (LS w2 vy Y) := g2
  have C2 : Hid (Below w.heap.size w w2) := Below.tr' C1.out g3
  clear g1 g2 g3
  obtain ⟨adx, cpx, hvx, hcx, hxx⟩ := id NX2.out
  obtain ⟨m, hm⟩ : ∃ m, X.length = m := ⟨_, rfl⟩
  have HXM : Hid (X.length = m) := hm
  rw [hm] at hvx
  subst hvx
  have HXX : Hid (X = [] ∧ (adx = none → cpx = 0) ∨ ∃ b o, adx = some ⟨b, o, none⟩ ∧ b < w2.heap.size ∧ ∀ (i : Nat) (x : Lf), X[i]? = some x → w2.rangeAt b (o + i * 64) (lfc x)) := hxx
  clear hm hcx hxx
  go_wp2_with fail
  refine (HCX.out (.slice adx m cpx) w2 NX2.out).mono ?_
  rintro e w3 ⟨v3, rfl, g1, g2⟩
  have O3 : Hid (LO w2.heap.size w3 v3 X) := g1
  have G3 : Hid (Below w2.heap.size w2 w3) := g2
  clear g1 g2
  go_upto_region 5 with (at_builtin; refine wp_appl rfl (.tmp 34) (.tmp 35) rfl rfl w2.heap.size v3 vy X Y rfl rfl O3.out HYK.out (NY2.out.below G3.out) (by have := HSZ.out; omega) ?_; intro v4 w4 g1 g2; have O4 : Hid (LS w4 v4 Q) := (by rw [← HQE.out]; exact g1.ls); have G4 : Hid (Below w2.heap.size w2 w4) := G3.out.trans g2; clear g1 g2)
  have C4 : Hid (Below w.heap.size w w4) := Below.tr' C2.out G4.out
  go_wp2_with fail
  refine (HAP2.out v4 w4 O4.out C4.out).mono ?_
  rintro e w5 ⟨vd, vz, rfl, g1, g2, g3⟩
  have NZ5 : Hid (LS w5 vz Z3) := g2
  have G5 : Hid (Below w4.heap.size w4 w5) := g3
  clear g1 g2 g3
  go_wp2_with fail
  refine (HCQ.out v4 w5 (O4.out.below G5.out)).mono ?_
  rintro e w6 ⟨v6, rfl, g1, g2⟩
  have O6 : Hid (LO w5.heap.size w6 v6 Q) := g1
  have G6 : Hid (Below w5.heap.size w5 w6) := g2
  clear g1 g2
  go_upto_region 7 with (at_builtin; refine wp_appl rfl (.tmp 44) (.tmp 45) rfl rfl w5.heap.size v6 vz Q Z3 rfl rfl O6.out HZKK.out (NZ5.out.below G6.out) (by have := HSZ.out; omega) ?_; intro v7 w7 g1 g2; have E7 : Hid (LS w7 v7 P) := (by rw [← HPE.out]; exact g1.ls); have G57 : Hid (Below w5.heap.size w5 w7) := G6.out.trans g2; clear g1 g2)
  have G47 : Hid (Below w4.heap.size w4 w7) := Below.tr' G5.out G57.out
  have G27 : Hid (Below w2.heap.size w2 w7) := Below.tr' G4.out G47.out
  have C7 : Hid (Below w.heap.size w w7) := Below.tr' C2.out G27.out
  have X7 : Hid (LS w7 (.slice adx m cpx) X) := NX2.out.below G27.out
  have Y7 : Hid (LS w7 vy Y) := NY2.out.below G27.out
  have Q7 : Hid (LS w7 v4 Q) := O4.out.below G47.out
  have Z7 : Hid (LS w7 vz Z3) := NZ5.out.below G57.out
  clear NX2 NY2 O3 G3 O4 G4 C4 NZ5 G5 O6 G6 G57 G47
  go_wp2_with fail
  refine (HCX.out (.slice adx m cpx) w7 X7.out).mono ?_
  rintro e w8 ⟨v8, rfl, g1, g2⟩
  have O8 : Hid (LS w8 v8 X) := g1.ls
  have G8 : Hid (Below w7.heap.size w7 w8) := g2
  clear g1 g2
  go_wp2_with fail
  refine (HCY.out vy w8 (Y7.out.below G8.out)).mono ?_
  rintro e w9 ⟨v9, rfl, g1, g2⟩
  have O9 : Hid (LS w9 v9 Y) := g1.ls
  have O89 : Hid (LS w9 v8 X) := O8.out.below g2
  have G9 : Hid (Below w7.heap.size w7 w9) := Below.tr' G8.out g2
  clear g1 g2
  go_wp2_with fail
  refine (HST1.out v8 v9 w9 O89.out O9.out (Below.tr' C7.out G9.out)).mono ?_
  rintro e w10 ⟨v10, rfl, g1, g2⟩
  have N10 : Hid (NS w10 v10 S1) := g1
  have G10 : Hid (Below w7.heap.size w7 w10) := Below.tr' G9.out g2
  clear g1 g2 O8 O9 O89 G8 G9
  go_wp2_with fail
  refine (HCQ.out v4 w10 (Q7.out.below G10.out)).mono ?_
  rintro e w11 ⟨v11, rfl, g1, g2⟩
  have O11 : Hid (LS w11 v11 Q) := g1.ls
  have H11 : Hid (Below w10.heap.size w10 w11) := g2
  have G11 : Hid (Below w7.heap.size w7 w11) := Below.tr' G10.out g2
  clear g1 g2
  go_wp2_with fail
  refine (HCZ.out vz w11 (Z7.out.below G11.out)).mono ?_
  rintro e w12 ⟨v12, rfl, g1, g2⟩
  have O12 : Hid (LS w12 v12 Z3) := g1.ls
  have O112 : Hid (LS w12 v11 Q) := O11.out.below g2
  have H12 : Hid (Below w10.heap.size w10 w12) := Below.tr' H11.out g2
  have G12 : Hid (Below w7.heap.size w7 w12) := Below.tr' G11.out g2
  clear g1 g2
  go_wp2_with fail
  refine (HST2.out v11 v12 w12 O112.out O12.out (Below.tr' C7.out G12.out)).mono ?_
  rintro e w13 ⟨v13, rfl, g1, g2⟩
  have N13 : Hid (NS w13 v13 S2) := g1
  have M10 : Hid (NS w13 v10 S1) := N10.out.below (Below.tr' H12.out g2)
  have G13 : Hid (Below w7.heap.size w7 w13) := Below.tr' G12.out g2
  clear g1 g2 O11 O12 O112 H11 H12 G11 G12 N10 G10
  go_wp2_with fail
  refine (HR1.out (.slice adx m cpx) w13 (X7.out.below G13.out)).mono ?_
  rintro e w14 ⟨rfl, g1⟩
  have J14 : Hid (Below w13.heap.size w13 w14) := g1
  clear g1
  go_wp2_with fail
  refine (HR2.out v4 w14 (Q7.out.below (Below.tr' G13.out J14.out))).mono ?_
  rintro e w15 ⟨rfl, g1⟩
  have J15 : Hid (Below w13.heap.size w13 w15) := Below.tr' J14.out g1
  clear g1
  go_wp2_with fail
  refine (HCY.out vy w15 (Y7.out.below (Below.tr' G13.out J15.out))).mono ?_
  rintro e w16 ⟨v16, rfl, g1, g2⟩
  have O16 : Hid (LS w16 v16 Y) := g1.ls
  have J16 : Hid (Below w13.heap.size w13 w16) := Below.tr' J15.out g2
  clear g1 g2
  go_wp2_with fail
  refine (HK1.out v10 v16 w16 (M10.out.below J16.out) O16.out (Below.tr' C7.out (Below.tr' G13.out J16.out))).mono ?_
  rintro e w17 ⟨rfl, g1⟩
  have J17 : Hid (Below w13.heap.size w13 w17) := Below.tr' J16.out g1
  clear g1 O16 J14 J15 J16
  go_wp2_with fail
  refine (HR2.out v4 w17 (Q7.out.below (Below.tr' G13.out J17.out))).mono ?_
  rintro e w18 ⟨rfl, g1⟩
  have J18 : Hid (Below w13.heap.size w13 w18) := Below.tr' J17.out g1
  clear g1
  go_wp2_with fail
  refine (HR3.out v7 w18 (E7.out.below (Below.tr' G13.out J18.out))).mono ?_
  rintro e w19 ⟨rfl, g1⟩
  have J19 : Hid (Below w13.heap.size w13 w19) := Below.tr' J18.out g1
  clear g1
  go_wp2_with fail
  refine (HCZ.out vz w19 (Z7.out.below (Below.tr' G13.out J19.out))).mono ?_
  rintro e w20 ⟨v20, rfl, g1, g2⟩
  have O20 : Hid (LS w20 v20 Z3) := g1.ls
  have J20 : Hid (Below w13.heap.size w13 w20) := Below.tr' J19.out g2
  clear g1 g2
  go_wp2_with fail
  refine (HK2.out v13 v20 w20 (N13.out.below J20.out) O20.out (Below.tr' C7.out (Below.tr' G13.out J20.out))).mono ?_
  rintro e w21 ⟨rfl, g1⟩
  have G21 : Hid (Below w7.heap.size w7 w21) := Below.tr' G13.out (Below.tr' J20.out g1)
  clear g1 O20 J17 J18 J19 J20 M10 N13 G13
  have C21 : Hid (Below w.heap.size w w21) := Below.tr' C7.out G21.out
  by_cases hm0 : 0 < m
  case neg =>
    obtain rfl : m = 0 := by omega
    go_wp2_with fail
    go_ret
    exact ⟨rfl, C21.out⟩
  rcases HXX.out with ⟨h0, _⟩ | ⟨b, o, rfl, hlb, hxm⟩
  · have := HXM.out; rw [h0] at this; simp at this; omega
  obtain ⟨i, hwi, him⟩ : ∃ i : Nat, wrap64 ((IntKind.u64.wrap t).tmod (m : Int)) = (i : Int) ∧ i < m := by
    have h0 : 0 ≤ IntKind.u64.wrap t := by simp [IntKind.wrap, IntKind.bits, IntKind.signed]; omega
    have h1 := Int.tmod_nonneg (m : Int) h0
    have h2 := Int.tmod_lt_of_pos (IntKind.u64.wrap t) (show (0 : Int) < (m : Int) by omega)
    have h3 := HXM.out
    have h4 := HSZ.out
    refine ⟨((IntKind.u64.wrap t).tmod (m : Int)).toNat, ?_, by omega⟩
    unfold wrap64; omega
  obtain ⟨x, hx⟩ : ∃ x, X[i]? = some x := ⟨X[i]'(by have := HXM.out; omega), List.getElem?_eq_getElem _⟩
  have HXI : Hid (x ∈ X) := List.mem_of_getElem? hx
  have HX : Hid x.Ok := HXK.out x HXI.out
  have RX : Hid (w21.rangeAt b (o + i * 64) (lfc x)) := range_below (hxm i x hx) (Below.tr' G27.out G21.out) hlb
  have E21 : Hid (LS w21 v7 P) := E7.out.below G21.out
  have hi9 : (i : Int) < (m : Int) := by omega
  have hm9 : m ≤ 1000000000000 := by have h3 := HXM.out; have h4 := HSZ.out; omega
  obtain ⟨py, hpy⟩ : ∃ p, x.p = p := ⟨_, rfl⟩
  have HPY : Hid (L32 py) := by rw [← hpy]; exact HX.out.p
  obtain ⟨nx, hnx⟩ : ∃ n, ln x = n := ⟨_, rfl⟩
  have HNX : Hid nx.Ok := by rw [← hnx]; exact ln_ok HX.out
  obtain ⟨H, hH⟩ : ∃ p, nx.h = p := ⟨_, rfl⟩
  have HHL : Hid (L32 H) := by rw [← hH]; exact HNX.out.h
  have HOX : Hid (∀ (v : Value) (W : World), LS W v P → Calls Tryz.prog 10 #[v, .agg (bv py).toArray] W fun e w' => ∃ v', e = .returned (.tuple #[v', .int .i64 0]) ∧ NS w' v' (opl py (so P)) ∧ Below W.heap.size W w') := fun v W q => by rw [← hpy]; exact HOP.out x HXI.out v W q
  have HFX : Hid (∀ (v : Value) (W : World), NS W v (opl py (so P)) → Calls Tryz.prog 11 #[.agg (bv Rc).toArray, v, .agg (bv py).toArray] W fun e w' => e = .returned (.tuple #[.agg (bv H).toArray, .bool true, .int .i64 0]) ∧ Below W.heap.size W w') := fun v W q => by
    have := HFO.out x HXI.out v W (by rw [hpy]; exact q)
    rw [hpy, hnx, hH] at this; exact this
  have HLF : Hid (∀ W : World, Calls Tryz.prog 12 #[.agg (lfc x).toArray] W fun e w' => e = .returned (.agg (nc nx).toArray) ∧ Below W.heap.size W w') := fun W => by rw [← hnx]; exact rLeafNode_any x.p x.q HX.out.p HX.out.q W
  have HFH : Hid (∀ W : World, (Instr.field 41 (.agg (nc nx).toArray) 2).run Tryz.prog W = .ok (.agg (bv H).toArray) W) := fun W => by rw [← hH]; exact field_h HNX.out W
  have HEH : Hid (∀ W : World, (binOp .eql 32 (.agg (bv H).toArray) (.agg (bv H).toArray)).run Tryz.prog W = .ok (.bool true) W) := fun W => by have := eql_32 HHL.out HHL.out W; rw [decide_eq_true rfl] at this; exact this
  have HXP : Hid (x.p = py) := hpy
  obtain ⟨XA, hXA⟩ : ∃ X, (lfc x).toArray = X := ⟨_, rfl⟩
  have HXA : Hid ((lfc x).toArray = XA) := hXA
  clear hx hlb hxm hpy hnx hH
  go_upto_region 14 with (first
    | (refine load_g rfl 35 (.tmp 102) rfl b (o + i * 64) rfl (lfc x) _ RX.out Tryz.underlying35 rfl (size_lfc HX.out) ?_; rw [hXA])
    | (refine wpList_store_mid rfl 35 (.tmp 19) (.tmp 103) rfl w21.heap.size 0 (lfc x).toArray rfl (by rw [HXA.out]; rfl) (there_new w21 (by rw [List.size_toArray, lfc_length HX.out, HZL.out])) (by rw [List.size_toArray]; exact size_lfc HX.out) (lfc_one x) ?_; simp only [List.toList_toArray]))
  obtain ⟨w22, hw22⟩ : ∃ U, (w21.alloc (.cells Zl 35)).setCells w21.heap.size 0 (lfc x) = U := ⟨_, rfl⟩
  rw [hw22]
  obtain ⟨r1, r2, r3⟩ := laid_row (by rw [lfc_length HX.out, HZL.out]) (by rw [lfc_length HX.out]; omega) hw22
  obtain ⟨b19, hb19⟩ : ∃ q, w21.heap.size = q := ⟨_, rfl⟩
  have E22 : Hid (LS w22 v7 P) := E21.out.below r2
  have C22 : Hid (Below w.heap.size w w22) := Below.tr' C21.out r2
  rw [hb19] at r1 r3 ⊢
  have RX22 : Hid (w22.rangeAt b19 0 (lfc x)) := r1
  have LX22 : Hid (b19 < w22.heap.size) := r3
  have RP22 : Hid (w22.rangeAt b19 0 (bv py)) := by rw [← HXP.out]; exact lf_p r1
  clear r1 r2 r3 hw22 hb19 hwi hXA hzl
  go_upto_region 15 with (first
    | (refine ld 32 (.tmp 106) rfl rfl b19 0 rfl (bv py) _ RP22.out Tryz.underlying32 rfl (size_l32 HPY.out) ?_)
    | (go_at_call 10; refine (HOX.out v7 w22 E22.out).mono ?_; rintro e w23 ⟨vo, rfl, g1, g2⟩; have N23 : Hid (NS w23 vo (opl py (so P))) := g1; have G23 : Hid (Below w22.heap.size w22 w23) := g2; clear g1 g2))
  have E23 : Hid (LS w23 v7 P) := E22.out.below G23.out
  have C23 : Hid (Below w.heap.size w w23) := Below.tr' C22.out G23.out
  have RP23 : Hid (w23.rangeAt b19 0 (bv py)) := range_below RP22.out G23.out LX22.out
  have L19 : Hid (b19 < w23.heap.size) := Nat.lt_of_lt_of_le LX22.out G23.out.size
  have RX23 : Hid (w23.rangeAt b19 0 (lfc x)) := range_below RX22.out G23.out LX22.out
  have HFN : Hid (∀ W : World, Below w23.heap.size w23 W → Calls Tryz.prog 11 #[.agg (bv Rc).toArray, vo, .agg (bv py).toArray] W fun e w' => e = .returned (.tuple #[.agg (bv H).toArray, .bool true, .int .i64 0]) ∧ Below W.heap.size W w') := fun W q => HFX.out vo W (N23.out.below q)
  refine RG.wp_rgn' (GI w23 (gn15f v7 vo b19 Rc py H) (fun _ _ _ => True) [(10, 11, bv H, bv z32)]) (by kernel_rfl) (by kernel_rfl) GI.start ?_ ?_
  · refine ⟨?_, ?_, ?_, ?_, ?_, ?_, ?_, ?_, ?_, ?_, ?_, ?_, ?_, ?_, trivial⟩
    · intro a W d V hI hd hpx hbk hf hp
      have hO' : Below w23.heap.size w23 W := hI.be
      refine RU.ob_val (v := v7) rfl (RU.wanted_none rfl) (fun ev he hc => ?_) ⟨_, rfl, hI.step (fun _ _ _ _ _ _ => trivial) (Below.refl _ _) 0 _ (by simp) (fun u hu => by first | (cases hu; rfl) | cases hu) (trivial)⟩
      have q14 : ev (.tmp 14) = v7 := (he (.tmp 14)).trans (hf 14 rfl)
      simp only [List.getElem_toArray, List.getElem_cons_succ, List.getElem_cons_zero, execOp, Option.map_some, Option.map_none]; rw [q14]
      first | (go_simp; done) | (go_simp; rfl) | rfl
    · intro a W d V hI hd hpx hbk hf hp
      have hO' : Below w23.heap.size w23 W := hI.be
      have e112 : a.eval (.tmp 112) = v7 := (hp 0 112 rfl).trans (hI.kn 0 _ rfl (hpx 0 rfl))
      have hno : ∀ x ∈ ([(10, 11, bv H, bv z32)] : List Al), d x.2.1 = false := by simp only [List.mem_cons, List.not_mem_nil, or_false, forall_eq_or_imp, forall_eq]; exact hbk 11 rfl
      refine RU.ob_call (g := 9) (args := #[v7]) rfl (RU.wanted_none rfl) (fun ev he hc => ?_) ((HR3.out v7 W (E23.out.below hO')).mono ?_)
      · have h112 := (he (.tmp 112)).trans e112
        have hfn := he (.func 9)
        simp only [List.getElem_toArray, List.getElem_cons_succ, List.getElem_cons_zero, execOp, Option.map_some, Option.map_none]
        simp only [resolve, invoke, Sem.run_bind, Sem.run_pure, Result.andThen_ok, List.map_toArray, List.map_cons, List.map_nil, h112, hfn, Act.eval, hc]
        rfl
      · rintro e' W2 ⟨rfl, hb2⟩
        exact ⟨_, rfl, ⟨_, rfl, hI.step (fun _ _ _ _ _ _ => trivial) hb2 1 _ (by simp) (fun u hu => by first | (cases hu; rfl) | cases hu) (trivial)⟩⟩
    · intro a W d V hI hd hpx hbk hf hp
      have hO' : Below w23.heap.size w23 W := hI.be
      refine RU.ob_val (v := vo) rfl (RU.wanted_none rfl) (fun ev he hc => ?_) ⟨_, rfl, hI.step (fun _ _ _ _ _ _ => trivial) (Below.refl _ _) 2 _ (by simp) (fun u hu => by first | (cases hu; rfl) | cases hu) (trivial)⟩
      have q20 : ev (.tmp 20) = vo := (he (.tmp 20)).trans (hf 20 rfl)
      simp only [List.getElem_toArray, List.getElem_cons_succ, List.getElem_cons_zero, execOp, Option.map_some, Option.map_none]; rw [q20]
      first | (go_simp; done) | (go_simp; rfl) | rfl
    · intro a W d V hI hd hpx hbk hf hp
      have hO' : Below w23.heap.size w23 W := hI.be
      refine RU.ob_val (v := .pointer (some ⟨b19, 0, none⟩)) rfl (RU.wanted_none rfl) (fun ev he hc => ?_) ⟨_, rfl, hI.step (fun _ _ _ _ _ _ => trivial) (Below.refl _ _) 3 _ (by simp) (fun u hu => by first | (cases hu; rfl) | cases hu) (trivial)⟩
      have q19 : ev (.tmp 19) = .pointer (some ⟨b19, 0, none⟩) := (he (.tmp 19)).trans (hf 19 rfl)
      simp only [List.getElem_toArray, List.getElem_cons_succ, List.getElem_cons_zero, execOp, Option.map_some, Option.map_none]; rw [q19]
      first | (go_simp; done) | (go_simp; rfl) | rfl
    · intro a W d V hI hd hpx hbk hf hp
      have hO' : Below w23.heap.size w23 W := hI.be
      have q115 : a.eval (.tmp 115) = .pointer (some ⟨b19, 0, none⟩) := (hp 3 115 rfl).trans (hI.kn 3 _ rfl (hpx 3 rfl))
      exact RU.ob_op rfl (RU.wanted_none rfl) (wp_load_mid 32 (.tmp 115) rfl (b19) (0) q115 (bv py) _ (range_below RP23.out hO' L19.out) Tryz.underlying32 rfl (size_l32 HPY.out) ⟨_, rfl, hI.step (fun _ _ _ _ _ _ => trivial) (Below.refl _ _) 4 _ (by simp) (fun u hu => by first | (cases hu; rfl) | cases hu) (trivial)⟩)
    · intro a W d V hI hd hpx hbk hf hp
      have hO' : Below w23.heap.size w23 W := hI.be
      have e113 : a.eval (.tmp 113) = .agg (bv Rc).toArray := (hp 1 113 rfl).trans (hI.kn 1 _ rfl (hpx 1 rfl))
      have e114 : a.eval (.tmp 114) = vo := (hp 2 114 rfl).trans (hI.kn 2 _ rfl (hpx 2 rfl))
      have e116 : a.eval (.tmp 116) = .agg (bv py).toArray := (hp 4 116 rfl).trans (hI.kn 4 _ rfl (hpx 4 rfl))
      have hno : ∀ x ∈ ([(10, 11, bv H, bv z32)] : List Al), d x.2.1 = false := by simp only [List.mem_cons, List.not_mem_nil, or_false, forall_eq_or_imp, forall_eq]; exact hbk 11 rfl
      refine RU.ob_call (g := 11) (args := #[.agg (bv Rc).toArray, vo, .agg (bv py).toArray]) rfl (RU.wanted_none rfl) (fun ev he hc => ?_) ((HFN.out W hO').mono ?_)
      · have h113 := (he (.tmp 113)).trans e113
        have h114 := (he (.tmp 114)).trans e114
        have h116 := (he (.tmp 116)).trans e116
        have hfn := he (.func 11)
        simp only [List.getElem_toArray, List.getElem_cons_succ, List.getElem_cons_zero, execOp, Option.map_some, Option.map_none]
        simp only [resolve, invoke, Sem.run_bind, Sem.run_pure, Result.andThen_ok, List.map_toArray, List.map_cons, List.map_nil, h113, h114, h116, hfn, Act.eval, hc]
        rfl
      · rintro e' W2 ⟨rfl, hb2⟩
        exact ⟨_, rfl, ⟨_, rfl, hI.step (fun _ _ _ _ _ _ => trivial) hb2 5 _ (by simp) (fun u hu => by first | (cases hu; rfl) | cases hu) (trivial)⟩⟩
    · intro a W d V hI hd hpx hbk hf hp
      have hO' : Below w23.heap.size w23 W := hI.be
      refine RU.ob_val (v := .tuple #[.agg (bv H).toArray, .bool true, .int .i64 0]) rfl (RU.wanted_none rfl) (fun ev he hc => ?_) ⟨_, rfl, hI.step (fun _ _ _ _ _ _ => trivial) (Below.refl _ _) 6 _ (by simp) (fun u hu => by first | (cases hu; rfl) | cases hu) (trivial)⟩
      have q117 : ev (.tmp 117) = .tuple #[.agg (bv H).toArray, .bool true, .int .i64 0] := (he (.tmp 117)).trans ((hp 5 117 rfl).trans (hI.kn 5 _ rfl (hpx 5 rfl)))
      simp only [List.getElem_toArray, List.getElem_cons_succ, List.getElem_cons_zero, execOp, Option.map_some, Option.map_none]; rw [q117]
      first | (go_simp; done) | (go_simp; rfl) | rfl
    · intro a W d V hI hd hpx hbk hf hp
      have hO' : Below w23.heap.size w23 W := hI.be
      refine RU.ob_val (v := .agg (bv H).toArray) rfl (RU.wanted_none rfl) (fun ev he hc => ?_) ⟨_, rfl, hI.step (fun _ _ _ _ _ _ => trivial) (Below.refl _ _) 7 _ (by simp) (fun u hu => by first | (cases hu; rfl) | cases hu) (trivial)⟩
      have q111 : ev (.tmp 111) = .tuple #[.agg (bv H).toArray, .bool true, .int .i64 0] := (he (.tmp 111)).trans ((hp 6 111 rfl).trans (hI.kn 6 _ rfl (hpx 6 rfl)))
      simp only [List.getElem_toArray, List.getElem_cons_succ, List.getElem_cons_zero, execOp, Option.map_some, Option.map_none]; rw [q111]
      first | (go_simp; done) | (go_simp; rfl) | rfl
    · intro a W d V hI hd hpx hbk hf hp
      have hO' : Below w23.heap.size w23 W := hI.be
      refine RU.ob_val (v := .bool true) rfl (RU.wanted_none rfl) (fun ev he hc => ?_) ⟨_, rfl, hI.step (fun _ _ _ _ _ _ => trivial) (Below.refl _ _) 8 _ (by simp) (fun u hu => by first | (cases hu; rfl) | cases hu) (trivial)⟩
      have q111 : ev (.tmp 111) = .tuple #[.agg (bv H).toArray, .bool true, .int .i64 0] := (he (.tmp 111)).trans ((hp 6 111 rfl).trans (hI.kn 6 _ rfl (hpx 6 rfl)))
      simp only [List.getElem_toArray, List.getElem_cons_succ, List.getElem_cons_zero, execOp, Option.map_some, Option.map_none]; rw [q111]
      first | (go_simp; done) | (go_simp; rfl) | rfl
    · intro a W d V hI hd hpx hbk hf hp
      have hO' : Below w23.heap.size w23 W := hI.be
      refine RU.ob_val (v := .int .i64 0) rfl (RU.wanted_none rfl) (fun ev he hc => ?_) ⟨_, rfl, hI.step (fun _ _ _ _ _ _ => trivial) (Below.refl _ _) 9 _ (by simp) (fun u hu => by first | (cases hu; rfl) | cases hu) (trivial)⟩
      have q111 : ev (.tmp 111) = .tuple #[.agg (bv H).toArray, .bool true, .int .i64 0] := (he (.tmp 111)).trans ((hp 6 111 rfl).trans (hI.kn 6 _ rfl (hpx 6 rfl)))
      simp only [List.getElem_toArray, List.getElem_cons_succ, List.getElem_cons_zero, execOp, Option.map_some, Option.map_none]; rw [q111]
      first | (go_simp; done) | (go_simp; rfl) | rfl
    · intro a W d V hI hd hpx hbk hf hp
      have hO' : Below w23.heap.size w23 W := hI.be
      refine RU.ob_run (v := .pointer (some ⟨W.heap.size, 0, none⟩)) (w' := W.alloc (.cells (bv z32).toArray 32)) rfl (RU.wanted_none rfl) (fun ev he hc => ?_) ⟨_, rfl, hI.alloc (fun _ _ _ _ _ _ => trivial) (10, 11, bv H, bv z32) (by simp) 32 (hbk 11 rfl) (by simp) (by simp) rfl (fun _ _ => trivial)⟩
      simp only [List.getElem_toArray, List.getElem_cons_succ, List.getElem_cons_zero, execOp]
      first | (go_simp; done) | (go_simp; rfl) | (go_simp; rw [HZE.out])
    · intro a W d V hI hd hpx hbk hf hp
      have hO' : Below w23.heap.size w23 W := hI.be
      have d9 : d 10 = true := hpx 10 rfl
      obtain ⟨b, hV, -, -, hth, -⟩ := hI.pt (10, 11, bv H, bv z32) (by simp) d9
      have qp : a.eval (.tmp 22) = .pointer (some ⟨b, 0, none⟩) := (hp 10 22 rfl).trans hV
      have qv : a.eval (.tmp 118) = .agg (bv H).toArray := (hp 7 118 rfl).trans (hI.kn 7 _ rfl (hpx 7 rfl))
      exact RU.ob_op rfl (RU.wanted_none rfl) (wp_store_mid 32 (.tmp 22) (.tmp 118) rfl b 0 (bv H).toArray qp qv (by rw [List.size_toArray, (show (bv H).length = (bv z32).length by rw [bv_length, bv_length, HHL.out.len, z32_l32.len])]; exact hth) (by rw [List.size_toArray]; exact size_l32 HHL.out) (bv_one' _) ⟨_, rfl, by simp only [List.toList_toArray]; exact hI.store (10, 11, bv H, bv z32) (by simp) d9 hV _ (by simp) (by simp) rfl (show (bv H).length = (bv z32).length by rw [bv_length, bv_length, HHL.out.len, z32_l32.len]) (by simp)⟩)
    · intro a W d V hI hd hpx hbk hf hp
      have hO' : Below w23.heap.size w23 W := hI.be
      refine RU.ob_val (v := .bool true) rfl (RU.wanted_none rfl) (fun ev he hc => ?_) ⟨_, rfl, hI.step (fun _ _ _ _ _ _ => trivial) (Below.refl _ _) 12 _ (by simp) (fun u hu => by first | (cases hu; rfl) | cases hu) (trivial)⟩
      have q119 : ev (.tmp 119) = .bool true := (he (.tmp 119)).trans ((hp 8 119 rfl).trans (hI.kn 8 _ rfl (hpx 8 rfl)))
      simp only [List.getElem_toArray, List.getElem_cons_succ, List.getElem_cons_zero, execOp, Option.map_some, Option.map_none]; rw [q119]
      first | (go_simp; done) | (go_simp; rfl) | rfl
    · intro a W d V hI hd hpx hbk hf hp
      have hO' : Below w23.heap.size w23 W := hI.be
      refine RU.ob_val (v := .int .i64 0) rfl (RU.wanted_none rfl) (fun ev he hc => ?_) ⟨_, rfl, hI.step (fun _ _ _ _ _ _ => trivial) (Below.refl _ _) 13 _ (by simp) (fun u hu => by first | (cases hu; rfl) | cases hu) (trivial)⟩
      have q120 : ev (.tmp 120) = .int .i64 0 := (he (.tmp 120)).trans ((hp 9 120 rfl).trans (hI.kn 9 _ rfl (hpx 9 rfl)))
      simp only [List.getElem_toArray, List.getElem_cons_succ, List.getElem_cons_zero, execOp, Option.map_some, Option.map_none]; rw [q120]
      first | (go_simp; done) | (go_simp; rfl) | rfl
  intro w24 dw24 Vw24 hal hI
  have Bw24 : Hid (Below w23.heap.size w23 w24) := hI.be
  have hs0 : Vw24 0 = v7 := hI.kn 0 _ rfl (hal 0 (by decide))
  have hs1 : Vw24 1 = .agg (bv Rc).toArray := hI.kn 1 _ rfl (hal 1 (by decide))
  have hs2 : Vw24 2 = vo := hI.kn 2 _ rfl (hal 2 (by decide))
  have hs3 : Vw24 3 = .pointer (some ⟨b19, 0, none⟩) := hI.kn 3 _ rfl (hal 3 (by decide))
  have hs4 : Vw24 4 = .agg (bv py).toArray := hI.kn 4 _ rfl (hal 4 (by decide))
  have hs5 : Vw24 5 = .tuple #[.agg (bv H).toArray, .bool true, .int .i64 0] := hI.kn 5 _ rfl (hal 5 (by decide))
  have hs6 : Vw24 6 = .tuple #[.agg (bv H).toArray, .bool true, .int .i64 0] := hI.kn 6 _ rfl (hal 6 (by decide))
  have hs7 : Vw24 7 = .agg (bv H).toArray := hI.kn 7 _ rfl (hal 7 (by decide))
  have hs8 : Vw24 8 = .bool true := hI.kn 8 _ rfl (hal 8 (by decide))
  have hs9 : Vw24 9 = .int .i64 0 := hI.kn 9 _ rfl (hal 9 (by decide))
  obtain ⟨b10, hs10, hb10, hl10, -, hr10⟩ := hI.pt (10, 11, bv H, bv z32) (by simp) (hal 10 (by decide))
  have hs10 : Vw24 10 = .pointer (some ⟨b10, 0, none⟩) := hs10
  have R10w24 : Hid (w24.rangeAt b10 0 (bv H)) := by have h9 : dw24 11 = true := hal 11 (by decide); simp only [h9, if_true] at hr10; exact hr10
  have L10w24 : Hid (b10 < w24.heap.size) := hl10
  have G10w24 : Hid (w23.heap.size ≤ b10) := hb10
  have hs12 : Vw24 12 = .bool true := hI.kn 12 _ rfl (hal 12 (by decide))
  have hs13 : Vw24 13 = .int .i64 0 := hI.kn 13 _ rfl (hal 13 (by decide))
  simp only [RU.lay, Act.put, hs0, hs1, hs2, hs3, hs4, hs5, hs6, hs7, hs8, hs9, hs10, hs12, hs13]
  simp only [List.setIfInBounds_toArray, List.set_cons_succ, List.set_cons_zero]
  clear hI hal hs0 hs1 hs2 hs3 hs4 hs5 hs6 hs7 hs8 hs9 hs10 hs12 hs13 hb10 hl10 hr10
  have RX24 : Hid (w24.rangeAt b19 0 (lfc x)) := range_below RX23.out Bw24.out L19.out
  have LX24 : Hid (b19 < w24.heap.size) := Nat.lt_of_lt_of_le L19.out Bw24.out.size
  clear hz
  go_upto_region 16 with (fail)
  refine RU.wp_rgn' [] (gn16f b10 b19 x nx H) (fun _ => 0) (gΩ w24) (by kernel_rfl) (by kernel_rfl) (show Below w24.heap.size w24 _ from (Below.refl _ _).drew) ?_ ?_
  · refine ⟨?_, ?_, ?_, ?_, ?_, ?_, ?_, ?_, ?_, ?_, ?_, ?_, ?_, trivial⟩
    · refine RU.ObT.pure rfl rfl rfl (fun a V hf hp ev he hc W => ?_)
      have q24 : ev (.tmp 24) = .int .i64 0 := (he (.tmp 24)).trans (hf 24 rfl)
      simp only [List.getElem_toArray, List.getElem_cons_succ, List.getElem_cons_zero, execOp, Option.map_some, Option.map_none]; rw [q24]
      first | (go_simp; done) | (go_simp; rfl) | rfl
    · refine RU.ObT.pure rfl rfl rfl (fun a V hf hp ev he hc W => ?_)
      have q121 : ev (.tmp 121) = .int .i64 0 := (he (.tmp 121)).trans (hp 0 121 rfl)
      simp only [List.getElem_toArray, List.getElem_cons_succ, List.getElem_cons_zero, execOp, Option.map_some, Option.map_none]; rw [q121]
      try simp only [hc]
      first | (go_simp; done) | (go_simp; rfl) | rfl
    · refine RU.ObT.pure rfl rfl rfl (fun a V hf hp ev he hc W => ?_)
      have q122 : ev (.tmp 122) = .bool true := (he (.tmp 122)).trans (hp 1 122 rfl)
      simp only [List.getElem_toArray, List.getElem_cons_succ, List.getElem_cons_zero, execOp, Option.map_some, Option.map_none]; rw [q122]
      first | (go_simp; done) | (go_simp; rfl) | rfl
    · refine RU.ObT.silent rfl (fun a W k0 V hO hf hp hk => ?_)
      have hg : a.eval (.tmp 123) = .bool true := hp 2 123 rfl
      refine RU.ob_val rfl (RU.wanted_some rfl rfl rfl hg) (fun ev he hc => ?_) ⟨rfl, hO⟩
      have q23 : ev (.tmp 23) = .bool true := (he (.tmp 23)).trans (hf 23 rfl)
      simp only [List.getElem_toArray, List.getElem_cons_succ, List.getElem_cons_zero, execOp, Option.map_some, Option.map_none]; rw [q23]
      first | (go_simp; done) | (go_simp; rfl) | rfl
    · refine RU.ObT.pure rfl rfl rfl (fun a V hf hp ev he hc W => ?_)
      have q123 : ev (.tmp 123) = .bool true := (he (.tmp 123)).trans (hp 2 123 rfl)
      have q124 : ev (.tmp 124) = .bool true := (he (.tmp 124)).trans (hp 3 124 rfl)
      simp only [List.getElem_toArray, List.getElem_cons_succ, List.getElem_cons_zero, execOp, Option.map_some, Option.map_none]; rw [q123, q124]
      try simp only [hc]
      first | (go_simp; done) | (go_simp; rfl) | rfl
    · refine RU.ObT.pure rfl rfl rfl (fun a V hf hp ev he hc W => ?_)
      have q125 : ev (.tmp 125) = .bool true := (he (.tmp 125)).trans (hp 4 125 rfl)
      simp only [List.getElem_toArray, List.getElem_cons_succ, List.getElem_cons_zero, execOp, Option.map_some, Option.map_none]; rw [q125]
      first | (go_simp; done) | (go_simp; rfl) | rfl
    · refine RU.ObT.silent rfl (fun a W k0 V hO hf hp hk => ?_)
      have hg : a.eval (.tmp 126) = .bool true := hp 5 126 rfl
      have hO' : Below w24.heap.size w24 W := hO
      have q22 : a.eval (.tmp 22) = .pointer (some ⟨b10, 0, none⟩) := hf 22 rfl
      exact RU.ob_op rfl (RU.wanted_some rfl rfl rfl hg) (wp_load_mid 32 (.tmp 22) rfl (b10) (0) q22 (bv H) _ (range_below R10w24.out hO' L10w24.out) Tryz.underlying32 rfl (size_l32 HHL.out) ⟨rfl, hO⟩)
    · refine RU.ObT.silent rfl (fun a W k0 V hO hf hp hk => ?_)
      have hg : a.eval (.tmp 126) = .bool true := hp 5 126 rfl
      have hO' : Below w24.heap.size w24 W := hO
      have q19 : a.eval (.tmp 19) = .pointer (some ⟨b19, 0, none⟩) := hf 19 rfl
      exact RU.ob_op rfl (RU.wanted_some rfl rfl rfl hg) (wp_load_mid 35 (.tmp 19) rfl (b19) (0) q19 (lfc x) _ (range_below RX24.out hO' LX24.out) Tryz.underlying35 rfl (size_lfc HX.out) ⟨rfl, hO⟩)
    · refine RU.ObT.silent rfl (fun a W k0 V hO hf hp hk => ?_)
      have hg : a.eval (.tmp 126) = .bool true := hp 5 126 rfl
      have hO' : Below w24.heap.size w24 W := hO
      have e128 : a.eval (.tmp 128) = .agg (lfc x).toArray := hp 7 128 rfl
      refine RU.ob_call (g := 12) (args := #[.agg (lfc x).toArray]) rfl (RU.wanted_some rfl rfl rfl hg) (fun ev he hc => ?_) ((HLF.out W).mono ?_)
      · have h128 := (he (.tmp 128)).trans e128
        have hfn := he (.func 12)
        simp only [List.getElem_toArray, List.getElem_cons_succ, List.getElem_cons_zero, execOp, Option.map_some, Option.map_none]
        simp only [resolve, invoke, Sem.run_bind, Sem.run_pure, Result.andThen_ok, List.map_toArray, List.map_cons, List.map_nil, h128, hfn, Act.eval, hc]
        rfl
      · rintro e' W9 ⟨rfl, hb2⟩
        exact ⟨_, rfl, rfl, (hO'.trans (hb2.mono hO'.size) : Below w24.heap.size w24 W9)⟩
    · refine RU.ObT.silent rfl (fun a W k0 V hO hf hp hk => ?_)
      have hg : a.eval (.tmp 126) = .bool true := hp 5 126 rfl
      refine RU.ob_val rfl (RU.wanted_some rfl rfl rfl hg) (fun ev he hc => ?_) ⟨rfl, hO⟩
      have q129 : ev (.tmp 129) = .agg (nc nx).toArray := (he (.tmp 129)).trans (hp 8 129 rfl)
      simp only [List.getElem_toArray, List.getElem_cons_succ, List.getElem_cons_zero, execOp, Option.map_some, Option.map_none]; rw [q129]
      simp only [Sem.run_bind, HFH.out W, Result.andThen_ok, Sem.run_pure]; rfl
    · refine RU.ObT.silent rfl (fun a W k0 V hO hf hp hk => ?_)
      have hg : a.eval (.tmp 126) = .bool true := hp 5 126 rfl
      refine RU.ob_val rfl (RU.wanted_some rfl rfl rfl hg) (fun ev he hc => ?_) ⟨rfl, hO⟩
      have q127 : ev (.tmp 127) = .agg (bv H).toArray := (he (.tmp 127)).trans (hp 6 127 rfl)
      have q130 : ev (.tmp 130) = .agg (bv H).toArray := (he (.tmp 130)).trans (hp 9 130 rfl)
      simp only [List.getElem_toArray, List.getElem_cons_succ, List.getElem_cons_zero, execOp, Option.map_some, Option.map_none]; rw [q127, q130]
      simp only [Sem.run_bind, eqg_32, HEH.out W, Result.andThen_ok, Sem.run_pure]; rfl
    · refine RU.ObT.pure rfl rfl rfl (fun a V hf hp ev he hc W => ?_)
      have q126 : ev (.tmp 126) = .bool true := (he (.tmp 126)).trans (hp 5 126 rfl)
      have q131 : ev (.tmp 131) = .bool true := (he (.tmp 131)).trans (hp 10 131 rfl)
      simp only [List.getElem_toArray, List.getElem_cons_succ, List.getElem_cons_zero, execOp, Option.map_some, Option.map_none]; rw [q126, q131]
      try simp only [hc]
      first | (go_simp; done) | (go_simp; rfl) | rfl
    · refine RU.ObT.pure rfl rfl rfl (fun a V hf hp ev he hc W => ?_)
      have q132 : ev (.tmp 132) = .bool true := (he (.tmp 132)).trans (hp 11 132 rfl)
      simp only [List.getElem_toArray, List.getElem_cons_succ, List.getElem_cons_zero, execOp, Option.map_some, Option.map_none]; rw [q132]
      first | (go_simp; done) | (go_simp; rfl) | rfl
  intro w25 Vw25 hOw25
  have Bw25 : Hid (Below w24.heap.size w24 w25) := hOw25
  clear hOw25
  simp only [RU.lay, RU.val, RU.at', gn16f, Act.put]
  simp only [List.setIfInBounds_toArray, List.set_cons_succ, List.set_cons_zero]
  have C25 : Hid (Below w.heap.size w w25) := Below.tr' C23.out (Below.tr' Bw24.out Bw25.out)
  go_wp2_with fail
  go_ret
  exact ⟨rfl, C25.out⟩
end Go.Proofs.YtpojalbpekbfdaaGreatDoor
