/- The law's root; a tree that has grown is accepted (mathematics). -/
import Derived.Test.YtmialcflofkomaaDoorGrnL
import Derived.Test.YtmialcflofkomaaDoorTrtA
namespace Go.Proofs.YtmialcflofkomaaDoor
open Go Go.RowKit
set_option linter.unusedSimpArgs false
set_option linter.unusedVariables false
set_option maxRecDepth 100000

set_option maxHeartbeats 4000000 in
theorem rootL_any (ls : List Lf) (hk : ∀ x ∈ ls, x.Ok) (hlen : ls.length ≤ 2500000000000) (R : List Int) (er : Int) (hR : RO ls R er) (hL : L32 R) (v : Value) (w : World) (hv : LS w v ls) :
    Calls Tryd.prog 19 #[v] w fun e w' => e = .returned (.agg (bv R).toArray) ∧ Below w.heap.size w w' := by
  have HL : Hid (L32 R) := hL
  have hz := zero_32
  rw [show List.replicate 32 (0 : Int) = z32 from rfl] at hz
  have rz : (w.alloc (.cells (bv z32).toArray 31)).heap[w.heap.size]? = some (.cells (bv z32).toArray 31 (0, 0)) := by show (w.heap.push _)[w.heap.size]? = _; simp
  have rl : Below w.heap.size w (w.alloc (.cells (bv z32).toArray 31)) := (Below.refl _ w).alloc (Nat.le_refl _) _
  have rs : (w.alloc (.cells (bv z32).toArray 31)).heap.size = w.heap.size + 1 := by simp
  have HBZ : Hid (∀ W : World, (Instr.build 31 #[]).run Tryd.prog W = .ok (.agg (bv z32).toArray) W) := build_32
  obtain ⟨Z, hZ⟩ : ∃ Z, (bv z32).toArray = Z := ⟨_, rfl⟩
  have HZ : Hid ((bv z32).toArray = Z) := hZ
  have hZs : Z.size = 32 := by rw [← hZ]; simp [bv, z32]
  have HZS : Hid (Z.size = 32) := hZs
  rw [hZ] at hz rz rl rs
  clear hZ
  obtain ⟨U, hU⟩ : ∃ U, w.alloc (.cells Z 31) = U := ⟨_, rfl⟩
  rw [hU] at rz rl rs
  have BU : Hid (Below w.heap.size w U) := rl
  obtain ⟨D, hD⟩ : ∃ D, w.heap.size = D := ⟨_, rfl⟩
  have HD : Hid (w.heap.size = D) := hD
  rw [hD] at rz rs
  have RZ : Hid (U.heap[D]? = some (.cells Z 31 (0, 0))) := rz
  have SU : Hid (U.heap.size = D + 1) := rs
  have HTH : Hid (∀ w1 : World, Below U.heap.size U w1 → w1.there D 0 32) := fun w1 B1 => there_of_row' ((B1.block _ (by have := SU.out; omega)).trans RZ.out) 0 32 (by rw [HZS.out]; exact Nat.le_refl _)
  clear rz rl rs hZs
  have HRO : Hid (Calls Tryd.prog 38 #[v] U fun e w' => e = .returned (.tuple #[.agg (bv R).toArray, .int .i64 er]) ∧ Below U.heap.size U w') := rRootOf_any ls hk hlen R er hR v U (hv.below BU.out)
  clear hk hlen hR hL hv
  go_enter Tryd.func19, Tryd.ntmps19
  go_upto_region 1 with (fail)
  try rw [hU]
  try rw [hD]
  clear hU hD
  go_upto_region 2 with (first
    | (go_at_call 38; refine HRO.out.mono ?_; rintro e w1 ⟨rfl, g1⟩; have B1 : Hid (Below U.heap.size U w1) := g1; clear g1)
    | (refine wpList_store_mid rfl 31 (.tmp 3) (.tmp 8) rfl w1.heap.size 0 (bv R).toArray rfl rfl (there_new w1 (by rw [List.size_toArray, bv_length, HL.out.len, HZS.out])) (by rw [List.size_toArray]; exact size_l32 HL.out) (bv_one' _) ?_; simp only [List.toList_toArray]))
  obtain ⟨a9, ha9⟩ : ∃ a9, (w1.alloc (.cells Z 31)).setCells w1.heap.size 0 (bv R) = a9 := ⟨_, rfl⟩
  rw [ha9]
  obtain ⟨r1, r2, r3⟩ := laid_row (by rw [bv_length, HL.out.len, HZS.out]) (by rw [bv_length, HL.out.len]; omega) ha9
  obtain ⟨b9, hb9⟩ : ∃ q, w1.heap.size = q := ⟨_, rfl⟩
  have B9 : Hid (Below U.heap.size U a9) := Below.tr' B1.out r2
  rw [hb9] at r1 ⊢
  have R9 : Hid (a9.rangeAt b9 0 (bv R)) := r1
  clear r1 r2 r3 ha9 hb9 hz
  go_wp2_with (first
    | (refine wpList_load_mid rfl 31 (.tmp 3) rfl b9 0 rfl (bv R) _ R9.out Tryd.underlying31 rfl (size_l32 HL.out) ?_)
    | (refine wpList_store_mid rfl 31 (.tmp 2) (.tmp 10) rfl D 0 (bv R).toArray rfl rfl (by rw [List.size_toArray, bv_length, HL.out.len]; exact HTH.out a9 B9.out) (by rw [List.size_toArray]; exact size_l32 HL.out) (bv_one' _) ?_; simp only [List.toList_toArray]))
  have qq : (a9.setCells D 0 (bv R)).rangeAt D 0 (bv R) := World.rangeAt_setCells_same _ _ _ _ (by rw [bv_length, HL.out.len]; exact HTH.out a9 B9.out)
  have hbl : Below w.heap.size w (a9.setCells D 0 (bv R)) := below_setCells (by rw [HD.out]; exact Nat.le_refl _) _ _ (BU.out.trans (B9.out.mono BU.out.size))
  refine bodyPost_ret (v := .agg (bv R).toArray) ?_ rfl ⟨rfl, hbl⟩
  simp only [results, Tryd.results19]
  simp [Act.put, asAddr, run_loadVar_mid _ D 0 31 (bv R) _ qq Tryd.underlying31 rfl (size_l32 HL.out)]
/-- Nothing that stays is held. -/
theorem wo_free {hd : Nd → Bool} : ∀ (f : Nat) (l : List Nd), (∀ x ∈ l, hd x = false) → ∀ n ∈ wo hd true f l, hd n = false
  | 0, _, _, n, hn => by cases hn
  | f + 1, [], _, n, hn => by cases hn
  | f + 1, x :: r, h, n, hn => by
    simp only [wo] at hn
    split at hn
    · next hc =>
      obtain rfl : n = ovl (x :: r) := by simpa using hn
      rcases hc with q | ⟨rfl, _⟩
      · exact q
      · rw [ovl_one]; exact h x (by simp)
    · split at hn
      · cases hn
      · rcases List.mem_append.1 hn with q | q
        · exact wo_free f _ (fun y hy => h y (List.mem_of_mem_take hy)) n q
        · exact wo_free f _ (fun y hy => h y (List.mem_of_mem_drop hy)) n q
theorem so_nil : so ([] : List Lf) = [] := List.length_eq_zero_iff.1 (so_len (so_uniq (ls := []) (fun x hx => by cases hx) (List.Perm.refl _) rfl).1)
/-- What stays has the old root, and with what is added the new one. -/
theorem ck_honest {X Y : List Lf} (hk : ∀ x ∈ X ++ Y, x.Ok) (ho : okl (X ++ Y)) : CKo (rt (so X)) (rt (so (X ++ Y))) (sty X Y) Y 0 ∧ apt (sty X Y) = true ∧ (so X ≠ [] → Cu (so X) (sty X Y)) ∧ (∀ n ∈ sty X Y, ∀ z ∈ Y, hl n z.p = false) := by
  obtain ⟨o1, o2, o3⟩ := okl_left hk ho
  have hk1 : ∀ x ∈ X, x.Ok := fun x hx => hk x (List.mem_append_left _ hx)
  have hk2 : ∀ x ∈ Y, x.Ok := fun x hx => hk x (List.mem_append_right _ hx)
  have a1 := so_apn hk1 o1
  have a2 := so_apn hk2 o2
  have hd := so_dis o1 o2 o3
  have h256 : ∀ x ∈ so X, x.n = 256 := fun x hx => (map_ok hk1 (so_spec o1).1 x hx).2.2
  have e0 : sty X Y = wo (anyH (so Y)) false (so X).length (so X) := st_wo 256 0 (so X) (so Y) _ rfl a1 a2 h256 (fun x _ z _ => shr_zero _ _) hd (Nat.le_refl _)
  have hno : ∀ x ∈ so X, anyH (so Y) x = false := fun x hx => by
    unfold anyH
    rw [List.any_eq_false]
    intro z hz e
    exact hd x hx z hz (shr_eq (a1.ok x hx).p (a2.ok z hz).p (hl_beg (k := 256) (Nat.le_refl _) (by rw [h256 x hx]; omega) e))
  rw [wo_noown _ _ hno] at e0
  have hcu : so X ≠ [] → Cu (so X) (sty X Y) := fun h => by rw [e0]; exact wo_cu _ _ _ (Nat.le_refl _) a1.ris h
  have hap : apt (sty X Y) = true ∧ rt (sty X Y) = rt (so X) := by
    by_cases h : so X = []
    · rw [e0, h, wo_nil]; exact ⟨rfl, rfl⟩
    · exact ⟨(cu_main (hcu h) a1).2.1.ap, rt_cu (hcu h) a1 h⟩
  have hall := so_apn hk ho
  have hperm : (so (X ++ Y)).Perm (so X ++ so Y) := (so_spec ho).1.trans (by rw [List.map_append]; exact ((so_spec o1).1.append (so_spec o2).1).symm)
  have hex : ∃ s : List Nd, s.Perm (sty X Y ++ Y.map ln) ∧ apt s = true ∧ rt s = rt (so (X ++ Y)) := by
    by_cases h : so (X ++ Y) = []
    · have h2 := hperm
      rw [h] at h2
      obtain ⟨q1, q2⟩ := List.append_eq_nil_iff.1 h2.symm.eq_nil
      have q3 : Y.map ln = [] := by have := (so_spec o2).1; rw [q2] at this; exact this.symm.eq_nil
      refine ⟨[], ?_, rfl, by rw [h]⟩
      rw [e0, q1, wo_nil, q3]
      exact List.Perm.refl _
    · obtain ⟨m, m1, m2⟩ := cu_st 256 0 (so X) (so Y) (so (X ++ Y)) rfl a1 a2 (fun x _ z _ => shr_zero _ _) hd hperm hall h
      refine ⟨m, m2.trans ?_, (cu_main m1 hall).2.1.ap, rt_cu m1 hall h⟩
      exact List.Perm.append_left _ (so_spec o2).1
  obtain ⟨s, s1, s2, s3⟩ := hex
  refine ⟨.inr (.inr ⟨hap.1, s, s1, s2, ?_⟩), hap.1, hcu, fun n hn z hz => ?_⟩
  · unfold smE; rw [hap.2, s3, if_pos ⟨rfl, rfl⟩]
  · rw [e0] at hn
    have := wo_free _ _ hno n hn
    unfold anyH at this
    rw [List.any_eq_false] at this
    have q := this (ln z) ((so_spec o2).1.mem_iff.2 (List.mem_map.2 ⟨z, hz, rfl⟩))
    have q' : hl n (ln z).p = false := by simpa using q
    exact q'
end Go.Proofs.YtmialcflofkomaaDoor
/- The walk of GrowStays. -/
namespace Go.Proofs.YtmialcflofkomaaDoor
open Go Go.RowKit
set_option linter.unusedSimpArgs false
set_option linter.unusedVariables false
set_option maxRecDepth 100000

theorem sty_fit {ls ms : List Lf} (hk : ∀ x ∈ ls ++ ms, x.Ok) (h : okl (ls ++ ms)) : (∀ x ∈ sty ls ms, x.Ok) ∧ (sty ls ms).length ≤ ls.length := by
  have hk1 : ∀ x ∈ ls, x.Ok := fun x hx => hk x (List.mem_append_left _ hx)
  obtain ⟨o1, o2, o3⟩ := okl_left hk h
  have := wo_fit (hd := fun n => (ms.map (·.p)).any (fun y => hl n y)) (own := false) (so ls).length (so ls) (so_rsn hk1 o1)
  rw [sty_wo hk h _ (Nat.le_refl _), so_len o1] at this
  exact this
/-- What both Stays give. -/
theorem stays_both (ls ms : List Lf) (hk : ∀ x ∈ ls ++ ms, x.Ok) (hlen : ls.length + ms.length ≤ 1400000000000) :
    ∃ (L : List Nd) (E : Int), (∀ x ∈ L, x.Ok) ∧ L.length ≤ ls.length ∧
      (∀ (v u : Value) (W : World), LS W v ls → LS W u ms → Calls Tryd.prog 9 #[v, u] W fun e w' => ∃ v', e = .returned (.tuple #[v', .int .i64 E]) ∧ NS w' v' L ∧ Below W.heap.size W w') ∧
      (∀ (v u : Value) (W : World), LS W v ls → LS W u ms → Tb W → Calls Tryd.prog 10 #[v, u] W fun e w' => ∃ v', e = .returned (.tuple #[v', .int .i64 E]) ∧ NO W.heap.size w' v' L ∧ Below W.heap.size W w') := by
  by_cases ho : okl (ls ++ ms)
  · obtain ⟨f1, f2⟩ := sty_fit hk ho
    refine ⟨sty ls ms, 0, f1, f2, fun v u W h1 h2 => ?_, fun v u W h1 h2 h3 => ?_⟩
    · refine (rStays_any ls ms hk hlen v u W h1 h2).mono fun e w' ⟨v', er, q1, q2, q3⟩ => ?_
      rcases q2 with ⟨_, rfl, q⟩ | ⟨q, _⟩
      · exact ⟨v', q1, q, q3⟩
      · exact absurd ho q
    · refine (Stays_any ls ms hk hlen v u W h1 h2 h3).mono fun e w' ⟨v', er, q1, q2, q3⟩ => ?_
      rcases q2 with ⟨_, rfl, q⟩ | ⟨q, _⟩
      · exact ⟨v', q1, q, q3⟩
      · exact absurd ho q
  · refine ⟨[], 1, (fun x hx => by cases hx), by simp, fun v u W h1 h2 => ?_, fun v u W h1 h2 h3 => ?_⟩
    · refine (rStays_any ls ms hk hlen v u W h1 h2).mono fun e w' ⟨v', er, q1, q2, q3⟩ => ?_
      rcases q2 with ⟨q, _⟩ | ⟨_, rfl, rfl⟩
      · exact absurd q ho
      · exact ⟨_, q1, ⟨none, 0, rfl, Nat.le_refl _, .inl ⟨rfl, fun _ => rfl⟩⟩, q3⟩
    · refine (Stays_any ls ms hk hlen v u W h1 h2 h3).mono fun e w' ⟨v', er, q1, q2, q3⟩ => ?_
      rcases q2 with ⟨q, _⟩ | ⟨_, rfl, rfl⟩
      · exact absurd q ho
      · exact ⟨_, q1, NO.nil' q3.size, q3⟩
set_option maxHeartbeats 4000000 in
theorem growStays_any (ls ms : List Lf) (hk1 : ∀ x ∈ ls, x.Ok) (hk2 : ∀ x ∈ ms, x.Ok) (hlen : ls.length + ms.length ≤ 1400000000000) (v u : Value) (w : World) (hv : LS w v ls) (hu : LS w u ms) (hT : Tb w) :
    Calls Tryd.prog 3 #[v, u] w fun e w' => e = .returned (.bool true) ∧ Below w.heap.size w w' := by
  have hk : ∀ x ∈ ls ++ ms, x.Ok := fun x hx => by
    rcases List.mem_append.1 hx with q | q
    · exact hk1 x q
    · exact hk2 x q
  obtain ⟨L, E, f1, f2, f3, f4⟩ := stays_both ls ms hk hlen
  have VW : Hid (LS w v ls) := hv
  have VU : Hid (LS w u ms) := hu
  have HAW : Hid (Calls Tryd.prog 8 #[] w fun e w' => e = .returned (.bool true) ∧ Below w.heap.size w w') := awake_any w hT
  have HRS : Hid (∀ W : World, Below w.heap.size w W → Calls Tryd.prog 9 #[v, u] W fun e w' => ∃ v', e = .returned (.tuple #[v', .int .i64 E]) ∧ NS w' v' L ∧ Below W.heap.size W w') := fun W q => f3 v u W (hv.below q) (hu.below q)
  have HPS : Hid (∀ (v u : Value) (W : World), LS W v ls → LS W u ms → Below w.heap.size w W → Calls Tryd.prog 10 #[v, u] W fun e w' => ∃ v', e = .returned (.tuple #[v', .int .i64 E]) ∧ NO W.heap.size w' v' L ∧ Below W.heap.size W w') := fun v u W q1 q2 q3 => f4 v u W q1 q2 (hT.below q3)
  have HC1 : Hid (∀ W : World, LS W v ls → Calls Tryd.prog 11 #[v] W fun e w' => ∃ v', e = .returned v' ∧ LO W.heap.size w' v' ls ∧ Below W.heap.size W w') := fun W q => copyLeaves_own ls hk1 (by omega) v W q
  have HC2 : Hid (∀ W : World, LS W u ms → Calls Tryd.prog 11 #[u] W fun e w' => ∃ v', e = .returned v' ∧ LO W.heap.size w' v' ms ∧ Below W.heap.size W w') := fun W q => copyLeaves_own ms hk2 (by omega) u W q
  have HSM : Hid (∀ (v u : Value) (W : World), NS W v L → NS W u L → Calls Tryd.prog 12 #[v, u] W fun e w' => e = .returned (.bool true) ∧ Below W.heap.size W w') := fun v u W q1 q2 => sameNodes_any L f1 (by omega) v u W q1 q2
  clear hk hk1 hk2 hlen hv hu hT f1 f2 f3 f4
  go_enter Tryd.func3, Tryd.ntmps3
  go_wp2_with fail
  refine HAW.out.mono ?_
  rintro e w1 ⟨rfl, g1⟩
  have C1 : Hid (Below w.heap.size w w1) := g1
  clear g1
  go_wp2_with fail
  refine (HRS.out w1 C1.out).mono ?_
  rintro e w2 ⟨v2, rfl, g1, g2⟩
  have N2 : Hid (NS w2 v2 L) := g1
  have C2 : Hid (Below w.heap.size w w2) := Below.tr' C1.out g2
  clear g1 g2
  go_wp2_with fail
  refine (HC1.out w2 (VW.out.below C2.out)).mono ?_
  rintro e w3 ⟨v3, rfl, g1, g2⟩
  have O3 : Hid (LS w3 v3 ls) := g1.ls
  have G3 : Hid (Below w2.heap.size w2 w3) := g2
  have C3 : Hid (Below w.heap.size w w3) := Below.tr' C2.out g2
  clear g1 g2
  go_wp2_with fail
  refine (HC2.out w3 (VU.out.below C3.out)).mono ?_
  rintro e w4 ⟨v4, rfl, g1, g2⟩
  have O4 : Hid (LS w4 v4 ms) := g1.ls
  have G4 : Hid (Below w3.heap.size w3 w4) := g2
  have C4 : Hid (Below w.heap.size w w4) := Below.tr' C3.out g2
  clear g1 g2
  go_wp2_with fail
  refine (HPS.out v3 v4 w4 (O3.out.below G4.out) O4.out C4.out).mono ?_
  rintro e w5 ⟨v5, rfl, g1, g2⟩
  have N5 : Hid (NS w5 v5 L) := g1.ns
  have N25 : Hid (NS w5 v2 L) := N2.out.below (Below.tr' G3.out (Below.tr' G4.out g2))
  have C5 : Hid (Below w.heap.size w w5) := Below.tr' C4.out g2
  clear g1 g2
  go_wp2_with (go_at_call 12; refine (HSM.out v5 v2 w5 N5.out N25.out).mono ?_; rintro e w6 ⟨rfl, g1⟩; have C6 : Hid (Below w.heap.size w w6) := Below.tr' C5.out g1; clear g1)
  go_ret
  exact ⟨rfl, C6.out⟩
end Go.Proofs.YtmialcflofkomaaDoor
/- The walk of GrowAccepts. -/
namespace Go.Proofs.YtmialcflofkomaaDoor
open Go Go.RowKit
set_option linter.unusedSimpArgs false
set_option linter.unusedVariables false
set_option maxRecDepth 100000

set_option maxHeartbeats 8000000 in
theorem growAccepts_any (ls ms : List Lf) (hk1 : ∀ x ∈ ls, x.Ok) (hk2 : ∀ x ∈ ms, x.Ok) (hlen : ls.length + ms.length ≤ 1200000000000) (v u : Value) (w : World) (hv : LS w v ls) (hu : LS w u ms) (hT : Tb w) :
    Calls Tryd.prog 5 #[v, u] w fun e w' => e = .returned (.bool true) ∧ Below w.heap.size w w' := by
  obtain ⟨hk, ho⟩ := apartL_ok hk1 hk2
  obtain ⟨l1, l2⟩ := apartL_len ls ms
  have HAW : Hid (Calls Tryd.prog 8 #[] w fun e w' => e = .returned (.bool true) ∧ Below w.heap.size w w') := awake_any w hT
  have HAP : Hid (∀ W : World, Below w.heap.size w W → Calls Tryd.prog 18 #[v, u] W fun e w' => ∃ v1 v2, e = .returned (.tuple #[v1, v2]) ∧ LS w' v1 (dst ls) ∧ LS w' v2 (apd (dst ls) ms) ∧ Below W.heap.size W w') := fun W q => apartL_any ls ms hk1 hk2 (by omega) v u W (hv.below q) (hu.below q)
  obtain ⟨X, hX⟩ : ∃ X, dst ls = X := ⟨_, rfl⟩
  rw [hX] at hk ho l1 l2 HAP
  obtain ⟨Y, hY⟩ : ∃ Y, apd X ms = Y := ⟨_, rfl⟩
  rw [hY] at hk ho l2 HAP
  have hx1 : ∀ x ∈ X, x.Ok := fun x hx => hk x (List.mem_append_left _ hx)
  have hx2 : ∀ x ∈ Y, x.Ok := fun x hx => hk x (List.mem_append_right _ hx)
  obtain ⟨o1, o2, -⟩ := okl_left hk ho
  obtain ⟨hck, hap, -, -⟩ := ck_honest hk ho
  obtain ⟨f1, f2⟩ := sty_fit hk ho
  have HST : Hid (∀ (v u : Value) (W : World), LS W v X → LS W u Y → Below w.heap.size w W → Calls Tryd.prog 10 #[v, u] W fun e w' => ∃ v', e = .returned (.tuple #[v', .int .i64 0]) ∧ NS w' v' (sty X Y) ∧ Below W.heap.size W w') := fun v u W q1 q2 q3 => by
    refine (Stays_any X Y hk (by omega) v u W q1 q2 (hT.below q3)).mono fun e w' ⟨v', er, r1, r2, r3⟩ => ?_
    rcases r2 with ⟨_, rfl, q⟩ | ⟨q, _⟩
    · exact ⟨v', r1, q.ns, r3⟩
    · exact absurd ho q
  have HR1 : Hid (∀ (v : Value) (W : World), LS W v X → Calls Tryd.prog 19 #[v] W fun e w' => e = .returned (.agg (bv (rt (so X))).toArray) ∧ Below W.heap.size W w') := fun v W q => rootL_any X hx1 (by omega) _ 0 (.inl ⟨o1, rfl, rfl⟩) (rt_l32 _) v W q
  have HR2 : Hid (∀ (v : Value) (W : World), LS W v (X ++ Y) → Calls Tryd.prog 19 #[v] W fun e w' => e = .returned (.agg (bv (rt (so (X ++ Y)))).toArray) ∧ Below W.heap.size W w') := fun v W q => rootL_any (X ++ Y) hk (by rw [List.length_append]; omega) _ 0 (.inl ⟨ho, rfl, rfl⟩) (rt_l32 _) v W q
  have HCK : Hid (∀ (v u : Value) (W : World), NS W v (sty X Y) → LS W u Y → Below w.heap.size w W → Calls Tryd.prog 13 #[.agg (bv (rt (so X))).toArray, .agg (bv (rt (so (X ++ Y)))).toArray, v, u] W fun e w' => e = .returned (.int .i64 0) ∧ Below W.heap.size W w') := fun v u W q1 q2 q3 => by
    refine (Check_any _ _ (rt_l32 _) (rt_l32 _) (sty X Y) f1 Y hx2 (by omega) v u W q1 q2 (hT.below q3)).mono fun e w' ⟨er, r1, r2, r3⟩ => ?_
    rw [cko_uniq f1 hx2 r2 hck] at r1
    exact ⟨r1, r3⟩
  have HCX : Hid (∀ (v : Value) (W : World), LS W v X → Calls Tryd.prog 11 #[v] W fun e w' => ∃ v', e = .returned v' ∧ LO W.heap.size w' v' X ∧ Below W.heap.size W w') := fun v W q => copyLeaves_own X hx1 (by omega) v W q
  have HCY : Hid (∀ (v : Value) (W : World), LS W v Y → Calls Tryd.prog 11 #[v] W fun e w' => ∃ v', e = .returned v' ∧ LO W.heap.size w' v' Y ∧ Below W.heap.size W w') := fun v W q => copyLeaves_own Y hx2 (by omega) v W q
  have HYK : Hid (∀ x ∈ Y, x.Ok) := hx2
  have HSZ : Hid (X.length + Y.length ≤ 3000000000000) := by show _ ≤ _; omega
  obtain ⟨Ra, hRa⟩ : ∃ R, rt (so X) = R := ⟨_, rfl⟩
  obtain ⟨Rb, hRb⟩ : ∃ R, rt (so (X ++ Y)) = R := ⟨_, rfl⟩
  obtain ⟨S, hS⟩ : ∃ S, sty X Y = S := ⟨_, rfl⟩
  rw [hRa] at HR1 HCK
  rw [hRb] at HR2 HCK
  rw [hS] at HST HCK
  clear hk1 hk2 hlen hv hu hT hk ho l1 l2 hX hY hx1 hx2 o1 o2 hck hap f1 f2 hRa hRb hS
  go_enter Tryd.func5, Tryd.ntmps5
  go_wp2_with fail
  refine HAW.out.mono ?_
  rintro e w1 ⟨rfl, g1⟩
  have C1 : Hid (Below w.heap.size w w1) := g1
  clear g1
  go_wp2_with fail
  refine (HAP.out w1 C1.out).mono ?_
  rintro e w2 ⟨va, vb, rfl, g1, g2, g3⟩
  have NA : Hid (LS w2 va X) := g1
  have NB : Hid (LS w2 vb Y) := g2
  have C2 : Hid (Below w.heap.size w w2) := Below.tr' C1.out g3
  clear g1 g2 g3
  go_wp2_with fail
  refine (HCX.out va w2 NA.out).mono ?_
  rintro e w3 ⟨v3, rfl, g1, g2⟩
  have O3 : Hid (LS w3 v3 X) := g1.ls
  have G3 : Hid (Below w2.heap.size w2 w3) := g2
  clear g1 g2
  go_wp2_with fail
  refine (HCY.out vb w3 (NB.out.below G3.out)).mono ?_
  rintro e w4 ⟨v4, rfl, g1, g2⟩
  have O4 : Hid (LS w4 v4 Y) := g1.ls
  have O34 : Hid (LS w4 v3 X) := O3.out.below g2
  have G4 : Hid (Below w2.heap.size w2 w4) := Below.tr' G3.out g2
  clear g1 g2
  go_wp2_with fail
  refine (HST.out v3 v4 w4 O34.out O4.out (Below.tr' C2.out G4.out)).mono ?_
  rintro e w5 ⟨v5, rfl, g1, g2⟩
  have N5 : Hid (NS w5 v5 S) := g1
  have G5 : Hid (Below w2.heap.size w2 w5) := Below.tr' G4.out g2
  clear g1 g2
  go_wp2_with fail
  refine (HCX.out va w5 (NA.out.below G5.out)).mono ?_
  rintro e w6 ⟨v6, rfl, g1, g2⟩
  have O6 : Hid (LO w5.heap.size w6 v6 X) := g1
  have G56 : Hid (Below w5.heap.size w5 w6) := g2
  have G6 : Hid (Below w2.heap.size w2 w6) := Below.tr' G5.out g2
  clear g1 g2
  go_upto_region 6 with (at_builtin; refine wp_appl rfl (.tmp 27) (.tmp 28) rfl rfl w5.heap.size v6 vb X Y rfl rfl O6.out HYK.out (NB.out.below G6.out) HSZ.out ?_; intro v7 w7 g1 g2; have O7 : Hid (LS w7 v7 (X ++ Y)) := g1.ls; have G57 : Hid (Below w5.heap.size w5 w7) := G56.out.trans g2; clear g1 g2)
  have N57 : Hid (NS w7 v5 S) := N5.out.below G57.out
  have G7 : Hid (Below w2.heap.size w2 w7) := Below.tr' G5.out G57.out
  go_wp2_with fail
  refine (HR1.out va w7 (NA.out.below G7.out)).mono ?_
  rintro e w8 ⟨rfl, g1⟩
  have G8 : Hid (Below w7.heap.size w7 w8) := g1
  clear g1
  go_wp2_with fail
  refine (HR2.out v7 w8 (O7.out.below G8.out)).mono ?_
  rintro e w9 ⟨rfl, g1⟩
  have G9 : Hid (Below w7.heap.size w7 w9) := Below.tr' G8.out g1
  clear g1
  go_wp2_with fail
  refine (HCY.out vb w9 (NB.out.below (Below.tr' G7.out G9.out))).mono ?_
  rintro e wa ⟨v10, rfl, g1, g2⟩
  have O10 : Hid (LS wa v10 Y) := g1.ls
  have G10 : Hid (Below w7.heap.size w7 wa) := Below.tr' G9.out g2
  clear g1 g2
  go_wp2_with fail
  refine (HCK.out v5 v10 wa (N57.out.below G10.out) O10.out (Below.tr' C2.out (Below.tr' G7.out G10.out))).mono ?_
  rintro e wb ⟨rfl, g1⟩
  have Cb : Hid (Below w.heap.size w wb) := Below.tr' C2.out (Below.tr' G7.out (Below.tr' G10.out g1))
  clear g1
  go_wp2_with fail
  go_ret
  exact ⟨rfl, Cb.out⟩
end Go.Proofs.YtmialcflofkomaaDoor
