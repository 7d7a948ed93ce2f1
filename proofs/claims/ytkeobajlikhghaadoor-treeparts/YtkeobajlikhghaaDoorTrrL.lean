/- The reference: Root, Over. -/
import Derived.Test.YtkeobajlikhghaaDoorTrrK
namespace Go.Proofs.YtkeobajlikhghaaDoor
open Go Go.RowKit
set_option linter.unusedSimpArgs false
set_option linter.unusedVariables false
set_option maxRecDepth 100000

set_option maxHeartbeats 4000000 in
theorem rRoot_any (l : List Nd) (hk : ∀ x ∈ l, x.Ok) (hlen : l.length ≤ 140737488355328) (v : Value) (w : World) (hv : NS w v l) :
    Calls Tryd.prog 18 #[v] w fun e w' => e = .returned (.tuple #[.agg (bv (if apt l = true then rt l else z32)).toArray, .int .i64 (if apt l = true then 0 else 1)]) ∧ Below w.heap.size w w' := by
  have hz := zero_32
  rw [show List.replicate 32 (0 : Int) = z32 from rfl] at hz
  have rz : (w.alloc (.cells (bv z32).toArray 23)).heap[w.heap.size]? = some (.cells (bv z32).toArray 23 (0, 0)) := by show (w.heap.push _)[w.heap.size]? = _; simp
  have rl : Below w.heap.size w (w.alloc (.cells (bv z32).toArray 23)) := (Below.refl _ w).alloc (Nat.le_refl _) _
  have rs : (w.alloc (.cells (bv z32).toArray 23)).heap.size = w.heap.size + 1 := by simp
  have HBZ : Hid (∀ W : World, (Instr.build 23 #[]).run Tryd.prog W = .ok (.agg (bv z32).toArray) W) := build_32
  obtain ⟨Z, hZ⟩ : ∃ Z, (bv z32).toArray = Z := ⟨_, rfl⟩
  have HZ : Hid ((bv z32).toArray = Z) := hZ
  have hZs : Z.size = 32 := by rw [← hZ]; simp [bv, z32]
  rw [hZ] at hz rz rl rs
  clear hZ
  obtain ⟨U, hU⟩ : ∃ U, w.alloc (.cells Z 23) = U := ⟨_, rfl⟩
  rw [hU] at rz rl rs
  have BU : Hid (Below w.heap.size w U) := rl
  have VU : Hid (NS U v l) := hv.below rl
  obtain ⟨D, hD⟩ : ∃ D, w.heap.size = D := ⟨_, rfl⟩
  have HD : Hid (w.heap.size = D) := hD
  rw [hD] at rz rs
  have RZ : Hid (U.heap[D]? = some (.cells Z 23 (0, 0))) := rz
  have SU : Hid (U.heap.size = D + 1) := rs
  clear rz rl rs
  obtain ⟨ad, cap, rfl, hcp, hx⟩ := hv
  have HA : Hid (Calls Tryd.prog 20 #[.slice ad l.length cap] U fun e w' => e = .returned (.bool (apt l)) ∧ Below U.heap.size U w') := rApart_any l hk _ U VU.out hlen
  cases ha : apt l with
  | false =>
    rw [ha] at HA
    rw [if_neg (by decide), if_neg (by decide)]
    clear hx hk hcp ha
    go_enter Tryd.func18, Tryd.ntmps18
    go_upto_region 1 with (fail)
    try rw [hU]
    try rw [hD]
    clear hU hD hz
    go_upto_region 2 with (go_at_call 20; refine HA.out.mono ?_; rintro e w1 ⟨rfl, g1⟩; have B1 : Hid (Below U.heap.size U w1) := g1; clear g1)
    refine wp_region_list ?_
    refine wp_build0 23 rfl rfl _ (HBZ.out w1) ?_
    refine wpList_store_mid rfl 23 (.tmp 2) (.tmp 7) rfl D 0 (bv z32).toArray rfl rfl (by rw [List.size_toArray, bv_length, z32_l32.len]; exact there_of_row' ((B1.out.block _ (by have := SU.out; omega)).trans RZ.out) 0 32 (by omega)) (by rw [List.size_toArray]; exact size_l32 z32_l32) (bv_one' _) ?_
    simp only [List.toList_toArray]
    go_wp2_with fail
    have qq : (w1.setCells D 0 (bv z32)).rangeAt D 0 (bv z32) := World.rangeAt_setCells_same _ _ _ _ (by rw [bv_length, z32_l32.len]; exact there_of_row' ((B1.out.block _ (by have := SU.out; omega)).trans RZ.out) 0 32 (by omega))
    have hbl : Below w.heap.size w (w1.setCells D 0 (bv z32)) := below_setCells (by rw [HD.out]; exact Nat.le_refl _) _ _ (BU.out.trans (B1.out.mono BU.out.size))
    refine bodyPost_ret (v := .tuple #[.agg (bv z32).toArray, .int .i64 1]) ?_ rfl ⟨rfl, hbl⟩
    simp only [results, Tryd.results18]
    simp [Act.put, asAddr, run_loadVar_mid _ D 0 23 (bv z32) _ qq Tryd.underlying23 rfl (size_l32 z32_l32)]
  | true =>
    rw [ha] at HA
    rw [if_pos rfl, if_pos rfl]
    have HTH : Hid (∀ w1 : World, Below U.heap.size U w1 → w1.there D 0 32) := fun w1 B1 => there_of_row' ((B1.block _ (by have := SU.out; omega)).trans RZ.out) 0 32 (by omega)
    by_cases h0 : l = []
    · obtain ⟨H, hH⟩ : ∃ H, hs [0] = H := ⟨_, rfl⟩
      have HE : rt l = H := by rw [← hH]; unfold rt; rw [if_pos h0]
      have HL : Hid (L32 H) := by rw [← hH]; exact hs_l32 _
      have HS : Hid (∀ W : World, Calls Tryd.prog 40 #[.slice (some ⟨W.heap.size, 0, none⟩) 1 1] (W.alloc (.cells #[.int .u8 0] 5)) fun e w' => e = .returned (.agg (bv H).toArray) ∧ Below (W.alloc (.cells #[.int .u8 0] 5)).heap.size (W.alloc (.cells #[.int .u8 0] 5)) w') := fun W => rsum_sl [0] H _ hH (by simp) _ (fun z hz => by simp at hz; omega) (ow_one W 0).sq
      rw [HE]
      subst h0
      clear hx hk hcp ha hH HE
      simp only [List.length_nil] at HA ⊢
      go_enter Tryd.func18, Tryd.ntmps18
      go_upto_region 1 with (fail)
      try rw [hU]
      try rw [hD]
      clear hU hD hz
      go_wp2_with (first
        | (go_at_call 20; refine HA.out.mono ?_; rintro e w1 ⟨rfl, g1⟩; have B1 : Hid (Below U.heap.size U w1) := g1; clear g1)
        | (go_at_call 40; refine (HS.out w1).mono ?_; rintro e w2 ⟨rfl, g1⟩; have B2 : Hid (Below U.heap.size U w2) := B1.out.trans (((Below.alloc (Below.refl _ w1) (Nat.le_refl _) _).trans (g1.mono (by simp))).mono B1.out.size); clear g1)
        | (refine wpList_store_mid rfl 23 (.tmp 2) (.tmp 12) rfl D 0 (bv H).toArray rfl rfl (by rw [List.size_toArray, bv_length, HL.out.len]; exact HTH.out w2 B2.out) (by rw [List.size_toArray]; exact size_l32 HL.out) (bv_one' _) ?_; simp only [List.toList_toArray]))
      have qq : (w2.setCells D 0 (bv H)).rangeAt D 0 (bv H) := World.rangeAt_setCells_same _ _ _ _ (by rw [bv_length, HL.out.len]; exact HTH.out w2 B2.out)
      have hbl : Below w.heap.size w (w2.setCells D 0 (bv H)) := below_setCells (by rw [HD.out]; exact Nat.le_refl _) _ _ (BU.out.trans (B2.out.mono BU.out.size))
      refine bodyPost_ret (v := .tuple #[.agg (bv H).toArray, .int .i64 0]) ?_ rfl ⟨rfl, hbl⟩
      simp only [results, Tryd.results18]
      simp [Act.put, asAddr, run_loadVar_mid _ D 0 23 (bv H) _ qq Tryd.underlying23 rfl (size_l32 HL.out)]
    · obtain ⟨H, hH⟩ : ∃ H, hs ([3] ++ nbs (ovl l)) = H := ⟨_, rfl⟩
      have HE : rt l = H := by rw [← hH]; unfold rt; rw [if_neg h0]
      have HL : Hid (L32 H) := by rw [← hH]; exact hs_l32 _
      have hr := apt_rsn hk ha
      obtain ⟨o1, o2, o3⟩ : (ovl l).Ok ∧ 0 ≤ (ovl l).n ∧ (ovl l).n ≤ 256 := ov_ok hr h0 _ (Nat.le_refl _)
      have HO : Hid (∀ W : World, NS W (.slice ad l.length cap) l → Calls Tryd.prog 38 #[.slice ad l.length cap] W fun e w' => e = .returned (.agg (nc (ovl l)).toArray) ∧ Below W.heap.size W w') := fun W q1 => rover_any _ l (Nat.le_refl _) hr h0 hlen _ W q1
      have HTP : Hid (∀ W : World, Calls Tryd.prog 41 #[.agg (nc (ovl l)).toArray] W fun e w' => ∃ v', e = .returned v' ∧ Ow W.heap.size w' v' ([3] ++ nbs (ovl l)) ∧ Below W.heap.size W w') := fun W => rTop_any (ovl l) o1 o2 o3 W
      have HSU : Hid (∀ (v : Value) (W : World), Sq W v ([3] ++ nbs (ovl l)) → Calls Tryd.prog 40 #[v] W fun e w' => e = .returned (.agg (bv H).toArray) ∧ Below W.heap.size W w') := fun v W q2 => rsum_sl _ H v hH (by rw [List.length_append, nbs_length o1]; simp) W (Byt.append (fun z hz => by simp at hz; omega) (nbs_byt o1 o2 o3)) q2
      rw [HE]
      obtain ⟨R, hR⟩ : ∃ R, ovl l = R := ⟨_, rfl⟩
      rw [hR] at HO HTP HSU
      have hl0 : ¬ (l.length : Int) = 0 := by have := List.length_pos_iff.2 h0; omega
      obtain ⟨len, hlenq⟩ : ∃ len, l.length = len := ⟨_, rfl⟩
      rw [hlenq] at HA HO VU hl0 ⊢
      clear hx hk hcp ha hH HE hr o1 o2 o3 hR hlenq hlen h0
      go_enter Tryd.func18, Tryd.ntmps18
      go_upto_region 1 with (fail)
      try rw [hU]
      try rw [hD]
      clear hU hD hz
      go_wp2_with (first
        | (go_at_call 20; refine HA.out.mono ?_; rintro e w1 ⟨rfl, g1⟩; have B1 : Hid (Below U.heap.size U w1) := g1; clear g1)
        | (go_at_call 38; refine (HO.out w1 (VU.out.below B1.out)).mono ?_; rintro e w2 ⟨rfl, g1⟩; have B2 : Hid (Below U.heap.size U w2) := B1.out.trans (g1.mono B1.out.size); clear g1)
        | (go_at_call 41; refine (HTP.out w2).mono ?_; rintro e w3 ⟨v3, rfl, g1, g2⟩; have O3 : Hid (Ow w2.heap.size w3 v3 ([3] ++ nbs R)) := g1; have B3 : Hid (Below U.heap.size U w3) := B2.out.trans (g2.mono B2.out.size); clear g1 g2)
        | (go_at_call 40; refine (HSU.out v3 w3 O3.out.sq).mono ?_; rintro e w4 ⟨rfl, g1⟩; have B4 : Hid (Below U.heap.size U w4) := B3.out.trans (g1.mono B3.out.size); clear g1)
        | (refine wpList_store_mid rfl 23 (.tmp 2) (.tmp 16) rfl D 0 (bv H).toArray rfl rfl (by rw [List.size_toArray, bv_length, HL.out.len]; exact HTH.out w4 B4.out) (by rw [List.size_toArray]; exact size_l32 HL.out) (bv_one' _) ?_; simp only [List.toList_toArray]))
      have qq : (w4.setCells D 0 (bv H)).rangeAt D 0 (bv H) := World.rangeAt_setCells_same _ _ _ _ (by rw [bv_length, HL.out.len]; exact HTH.out w4 B4.out)
      have hbl : Below w.heap.size w (w4.setCells D 0 (bv H)) := below_setCells (by rw [HD.out]; exact Nat.le_refl _) _ _ (BU.out.trans (B4.out.mono BU.out.size))
      refine bodyPost_ret (v := .tuple #[.agg (bv H).toArray, .int .i64 0]) ?_ rfl ⟨rfl, hbl⟩
      simp only [results, Tryd.results18]
      simp [Act.put, asAddr, run_loadVar_mid _ D 0 23 (bv H) _ qq Tryd.underlying23 rfl (size_l32 HL.out)]
set_option maxHeartbeats 4000000 in
theorem rOver_any (l : List Nd) (hk : ∀ x ∈ l, x.Ok) (hlen : l.length ≤ 140737488355328) (v : Value) (w : World) (hv : NS w v l) :
    Calls Tryd.prog 16 #[v] w fun e w' => e = .returned (.tuple #[.agg (nc (if ovE l = true then ovl l else ndz)).toArray, .int .i64 (if ovE l = true then 0 else 1)]) ∧ Below w.heap.size w w' := by
  have hz := zero_nd
  have rz : (w.alloc (.cells (nc ndz).toArray 27)).heap[w.heap.size]? = some (.cells (nc ndz).toArray 27 (0, 0)) := by show (w.heap.push _)[w.heap.size]? = _; simp
  have rl : Below w.heap.size w (w.alloc (.cells (nc ndz).toArray 27)) := (Below.refl _ w).alloc (Nat.le_refl _) _
  have rs : (w.alloc (.cells (nc ndz).toArray 27)).heap.size = w.heap.size + 1 := by simp
  have HBZ : Hid (∀ W : World, (Instr.build 27 #[]).run Tryd.prog W = .ok (.agg (nc ndz).toArray) W) := build_n0
  obtain ⟨Z, hZ⟩ : ∃ Z, (nc ndz).toArray = Z := ⟨_, rfl⟩
  have HZ : Hid ((nc ndz).toArray = Z) := hZ
  have hZs : Z.size = 65 := by rw [← hZ]; exact nc_size ndz_ok
  rw [hZ] at hz rz rl rs
  clear hZ
  obtain ⟨U, hU⟩ : ∃ U, w.alloc (.cells Z 27) = U := ⟨_, rfl⟩
  rw [hU] at rz rl rs
  have BU : Hid (Below w.heap.size w U) := rl
  have VU : Hid (NS U v l) := hv.below rl
  obtain ⟨D, hD⟩ : ∃ D, w.heap.size = D := ⟨_, rfl⟩
  have HD : Hid (w.heap.size = D) := hD
  rw [hD] at rz rs
  have RZ : Hid (U.heap[D]? = some (.cells Z 27 (0, 0))) := rz
  have SU : Hid (U.heap.size = D + 1) := rs
  clear rz rl rs
  obtain ⟨ad, cap, rfl, hcp, hx⟩ := hv
  have HA : Hid (Calls Tryd.prog 20 #[.slice ad l.length cap] U fun e w' => e = .returned (.bool (apt l)) ∧ Below U.heap.size U w') := rApart_any l hk _ U VU.out hlen
  have no : ∀ w1 : World, Below U.heap.size U w1 → (w1.setCells D 0 (nc ndz)).rangeAt D 0 (nc ndz) ∧ Below w.heap.size w (w1.setCells D 0 (nc ndz)) ∧ w1.there D 0 65 := fun w1 B1 => by
    have ht : w1.there D 0 65 := there_of_row' ((B1.block _ (by have := SU.out; omega)).trans RZ.out) 0 65 (by omega)
    exact ⟨World.rangeAt_setCells_same _ _ _ _ (by rw [nc_length ndz_ok]; exact ht), below_setCells (by rw [HD.out]; exact Nat.le_refl _) _ _ (BU.out.trans (B1.mono BU.out.size)), ht⟩
  have NO : Hid (∀ w1 : World, Below U.heap.size U w1 → (w1.setCells D 0 (nc ndz)).rangeAt D 0 (nc ndz) ∧ Below w.heap.size w (w1.setCells D 0 (nc ndz)) ∧ w1.there D 0 65) := no
  clear no
  by_cases h0 : l = []
  · have hE : ovE l = false := by unfold ovE; rw [decide_eq_true h0]; rfl
    rw [hE, if_neg (by decide), if_neg (by decide)]
    subst h0
    clear hx hk hcp hE
    simp only [List.length_nil]
    go_enter Tryd.func16, Tryd.ntmps16
    go_upto_region 1 with (fail)
    try rw [hU]
    try rw [hD]
    clear hU hD hz
    go_upto_region 2 with (fail)
    refine wp_region_list ?_
    refine wp_build0 27 rfl rfl _ (HBZ.out U) ?_
    refine wpList_store_mid rfl 27 (.tmp 2) (.tmp 12) rfl D 0 (nc ndz).toArray rfl rfl (by rw [nc_size ndz_ok]; exact (NO.out U (Below.refl _ _)).2.2) (by rw [List.size_toArray]; exact size_nc ndz_ok) (nc_one _) ?_
    simp only [List.toList_toArray]
    go_wp2_with fail
    have qq := (NO.out U (Below.refl _ _)).1
    have hbl := (NO.out U (Below.refl _ _)).2.1
    refine bodyPost_ret (v := .tuple #[.agg (nc ndz).toArray, .int .i64 1]) ?_ rfl ⟨rfl, hbl⟩
    simp only [results, Tryd.results16]
    simp [Act.put, asAddr, run_loadVar_mid _ D 0 27 (nc ndz) _ qq Tryd.underlying27 rfl (size_nc ndz_ok)]
  · have hl0 : ¬ (l.length : Int) = 0 := by have := List.length_pos_iff.2 h0; omega
    cases ha : apt l with
    | false =>
      have hE : ovE l = false := by unfold ovE; rw [ha, Bool.and_false]
      rw [hE, if_neg (by decide), if_neg (by decide)]
      rw [ha] at HA
      obtain ⟨len, hlenq⟩ : ∃ len, l.length = len := ⟨_, rfl⟩
      rw [hlenq] at HA hl0 ⊢
      clear hx hk hcp ha hE h0 hlenq hlen
      go_enter Tryd.func16, Tryd.ntmps16
      go_upto_region 1 with (fail)
      try rw [hU]
      try rw [hD]
      clear hU hD hz
      go_upto_region 2 with (go_at_call 20; refine HA.out.mono ?_; rintro e w1 ⟨rfl, g1⟩; have B1 : Hid (Below U.heap.size U w1) := g1; clear g1)
      refine wp_region_list ?_
      refine wp_build0 27 rfl rfl _ (HBZ.out w1) ?_
      refine wpList_store_mid rfl 27 (.tmp 2) (.tmp 12) rfl D 0 (nc ndz).toArray rfl rfl (by rw [nc_size ndz_ok]; exact (NO.out w1 B1.out).2.2) (by rw [List.size_toArray]; exact size_nc ndz_ok) (nc_one _) ?_
      simp only [List.toList_toArray]
      go_wp2_with fail
      have qq := (NO.out w1 B1.out).1
      have hbl := (NO.out w1 B1.out).2.1
      refine bodyPost_ret (v := .tuple #[.agg (nc ndz).toArray, .int .i64 1]) ?_ rfl ⟨rfl, hbl⟩
      simp only [results, Tryd.results16]
      simp [Act.put, asAddr, run_loadVar_mid _ D 0 27 (nc ndz) _ qq Tryd.underlying27 rfl (size_nc ndz_ok)]
    | true =>
      have hE : ovE l = true := by unfold ovE; rw [ha, decide_eq_false h0]; rfl
      rw [hE, if_pos rfl, if_pos rfl]
      have HR : Hid (∀ W : World, NS W (.slice ad l.length cap) l → Calls Tryd.prog 38 #[.slice ad l.length cap] W fun e w' => e = .returned (.agg (nc (ovl l)).toArray) ∧ Below W.heap.size W w') := fun W q1 => rover_any _ l (Nat.le_refl _) (apt_rsn hk ha) h0 hlen _ W q1
      have HL : Hid (ovl l).Ok := (ov_ok (apt_rsn hk ha) h0 _ (Nat.le_refl _)).1
      rw [ha] at HA
      obtain ⟨R, hR⟩ : ∃ R, ovl l = R := ⟨_, rfl⟩
      rw [hR] at HR HL ⊢
      obtain ⟨len, hlenq⟩ : ∃ len, l.length = len := ⟨_, rfl⟩
      rw [hlenq] at HA HR VU hl0 ⊢
      clear hx hk hcp ha hE h0 hR hlenq hlen
      go_enter Tryd.func16, Tryd.ntmps16
      go_upto_region 1 with (fail)
      try rw [hU]
      try rw [hD]
      clear hU hD hz
      go_wp2_with (first
        | (go_at_call 20; refine HA.out.mono ?_; rintro e w1 ⟨rfl, g1⟩; have B1 : Hid (Below U.heap.size U w1) := g1; clear g1)
        | (go_at_call 38; refine (HR.out w1 (VU.out.below B1.out)).mono ?_; rintro e w2 ⟨rfl, g1⟩; have B2 : Hid (Below U.heap.size U w2) := B1.out.trans (g1.mono B1.out.size); clear g1)
        | (refine wpList_store_mid rfl 27 (.tmp 2) (.tmp 14) rfl D 0 (nc R).toArray rfl rfl (by rw [nc_size HL.out]; exact (NO.out w2 B2.out).2.2) (by rw [List.size_toArray]; exact size_nc HL.out) (nc_one _) ?_; simp only [List.toList_toArray]))
      have qq : (w2.setCells D 0 (nc R)).rangeAt D 0 (nc R) := World.rangeAt_setCells_same _ _ _ _ (by rw [nc_length HL.out]; exact (NO.out w2 B2.out).2.2)
      have hbl : Below w.heap.size w (w2.setCells D 0 (nc R)) := below_setCells (by rw [HD.out]; exact Nat.le_refl _) _ _ (BU.out.trans (B2.out.mono BU.out.size))
      refine bodyPost_ret (v := .tuple #[.agg (nc R).toArray, .int .i64 0]) ?_ rfl ⟨rfl, hbl⟩
      simp only [results, Tryd.results16]
      simp [Act.put, asAddr, run_loadVar_mid _ D 0 27 (nc R) _ qq Tryd.underlying27 rfl (size_nc HL.out)]
end Go.Proofs.YtkeobajlikhghaaDoor
