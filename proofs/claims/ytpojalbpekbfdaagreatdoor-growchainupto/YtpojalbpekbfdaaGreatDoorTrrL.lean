/- The reference: Root, Over. -/
import Derived.Test.YtpojalbpekbfdaaGreatDoorTrrK
import Derived.Test.YtpojalbpekbfdaaGreatDoorTroA
import Derived.Test.YtpojalbpekbfdaaGreatDoorTrlA
import Derived.Test.YtpojalbpekbfdaaGreatDoorTrdA
namespace Go.Proofs.YtpojalbpekbfdaaGreatDoor
open Go Go.RowKit
set_option linter.unusedSimpArgs false
set_option linter.unusedVariables false
set_option maxRecDepth 100000

set_option maxHeartbeats 4000000 in
theorem rRoot_any (l : List Nd) (hk : ∀ x ∈ l, x.Ok) (hlen : l.length ≤ 140737488355328) (v : Value) (w : World) (hv : NS w v l) :
    Calls Tryz.prog 23 #[v] w fun e w' => e = .returned (.tuple #[.agg (bv (if apt l = true then rt l else z32)).toArray, .int .i64 (if apt l = true then 0 else 1)]) ∧ Below w.heap.size w w' := by
  have hz := zero_32
  rw [show List.replicate 32 (0 : Int) = z32 from rfl] at hz
  have rz : (w.alloc (.cells (bv z32).toArray 32)).heap[w.heap.size]? = some (.cells (bv z32).toArray 32 (0, 0)) := by show (w.heap.push _)[w.heap.size]? = _; simp
  have rl : Below w.heap.size w (w.alloc (.cells (bv z32).toArray 32)) := (Below.refl _ w).alloc (Nat.le_refl _) _
  have rs : (w.alloc (.cells (bv z32).toArray 32)).heap.size = w.heap.size + 1 := by simp
  have HBZ : Hid (∀ W : World, (Instr.build 32 #[]).run Tryz.prog W = .ok (.agg (bv z32).toArray) W) := build_32
  obtain ⟨Z, hZ⟩ : ∃ Z, (bv z32).toArray = Z := ⟨_, rfl⟩
  have HZ : Hid ((bv z32).toArray = Z) := hZ
  have hZs : Z.size = 32 := by rw [← hZ]; simp [bv, z32]
  rw [hZ] at hz rz rl rs
  clear hZ
  obtain ⟨U, hU⟩ : ∃ U, w.alloc (.cells Z 32) = U := ⟨_, rfl⟩
  rw [hU] at rz rl rs
  have BU : Hid (Below w.heap.size w U) := rl
  have VU : Hid (NS U v l) := hv.below rl
  obtain ⟨D, hD⟩ : ∃ D, w.heap.size = D := ⟨_, rfl⟩
  have HD : Hid (w.heap.size = D) := hD
  rw [hD] at rz rs
  have RZ : Hid (U.heap[D]? = some (.cells Z 32 (0, 0))) := rz
  have SU : Hid (U.heap.size = D + 1) := rs
  clear rz rl rs
  obtain ⟨ad, cap, rfl, hcp, hx⟩ := hv
  have HA : Hid (Calls Tryz.prog 40 #[.slice ad l.length cap] U fun e w' => e = .returned (.bool (apt l)) ∧ Below U.heap.size U w') := rApart_any l hk _ U VU.out hlen
  cases ha : apt l with
  | false =>
    rw [ha] at HA
    rw [if_neg (by decide), if_neg (by decide)]
    clear hx hk hcp ha
    go_enter Tryz.func23, Tryz.ntmps23
    go_upto_region 1 with (fail)
    try rw [hU]
    try rw [hD]
    clear hU hD hz
    go_upto_region 2 with (go_at_call 40; refine HA.out.mono ?_; rintro e w1 ⟨rfl, g1⟩; have B1 : Hid (Below U.heap.size U w1) := g1; clear g1)
    refine wp_region_list ?_
    refine wp_build0 32 rfl rfl _ (HBZ.out w1) ?_
    refine wpList_store_mid rfl 32 (.tmp 2) (.tmp 7) rfl D 0 (bv z32).toArray rfl rfl (by rw [List.size_toArray, bv_length, z32_l32.len]; exact there_of_row' ((B1.out.block _ (by have := SU.out; omega)).trans RZ.out) 0 32 (by omega)) (by rw [List.size_toArray]; exact size_l32 z32_l32) (bv_one' _) ?_
    simp only [List.toList_toArray]
    go_wp2_with fail
    have qq : (w1.setCells D 0 (bv z32)).rangeAt D 0 (bv z32) := World.rangeAt_setCells_same _ _ _ _ (by rw [bv_length, z32_l32.len]; exact there_of_row' ((B1.out.block _ (by have := SU.out; omega)).trans RZ.out) 0 32 (by omega))
    have hbl : Below w.heap.size w (w1.setCells D 0 (bv z32)) := below_setCells (by rw [HD.out]; exact Nat.le_refl _) _ _ (BU.out.trans (B1.out.mono BU.out.size))
    refine bodyPost_ret (v := .tuple #[.agg (bv z32).toArray, .int .i64 1]) ?_ rfl ⟨rfl, hbl⟩
    simp only [results, Tryz.results23]
    simp [Act.put, asAddr, run_loadVar_mid _ D 0 32 (bv z32) _ qq Tryz.underlying32 rfl (size_l32 z32_l32)]
  | true =>
    rw [ha] at HA
    rw [if_pos rfl, if_pos rfl]
    have HTH : Hid (∀ w1 : World, Below U.heap.size U w1 → w1.there D 0 32) := fun w1 B1 => there_of_row' ((B1.block _ (by have := SU.out; omega)).trans RZ.out) 0 32 (by omega)
    by_cases h0 : l = []
    · obtain ⟨H, hH⟩ : ∃ H, hs [0] = H := ⟨_, rfl⟩
      have HE : rt l = H := by rw [← hH]; unfold rt; rw [if_pos h0]
      have HL : Hid (L32 H) := by rw [← hH]; exact hs_l32 _
      have HS : Hid (∀ W : World, Calls Tryz.prog 25 #[.slice (some ⟨W.heap.size, 0, none⟩) 1 1] (W.alloc (.cells #[.int .u8 0] 5)) fun e w' => e = .returned (.agg (bv H).toArray) ∧ Below (W.alloc (.cells #[.int .u8 0] 5)).heap.size (W.alloc (.cells #[.int .u8 0] 5)) w') := fun W => rsum_sl [0] H _ hH (by simp) _ (fun z hz => by simp at hz; omega) (ow_one W 0).sq
      rw [HE]
      subst h0
      clear hx hk hcp ha hH HE
      simp only [List.length_nil] at HA ⊢
      go_enter Tryz.func23, Tryz.ntmps23
      go_upto_region 1 with (fail)
      try rw [hU]
      try rw [hD]
      clear hU hD hz
      go_wp2_with (first
        | (go_at_call 40; refine HA.out.mono ?_; rintro e w1 ⟨rfl, g1⟩; have B1 : Hid (Below U.heap.size U w1) := g1; clear g1)
        | (go_at_call 25; refine (HS.out w1).mono ?_; rintro e w2 ⟨rfl, g1⟩; have B2 : Hid (Below U.heap.size U w2) := B1.out.trans (((Below.alloc (Below.refl _ w1) (Nat.le_refl _) _).trans (g1.mono (by simp))).mono B1.out.size); clear g1)
        | (refine wpList_store_mid rfl 32 (.tmp 2) (.tmp 12) rfl D 0 (bv H).toArray rfl rfl (by rw [List.size_toArray, bv_length, HL.out.len]; exact HTH.out w2 B2.out) (by rw [List.size_toArray]; exact size_l32 HL.out) (bv_one' _) ?_; simp only [List.toList_toArray]))
      have qq : (w2.setCells D 0 (bv H)).rangeAt D 0 (bv H) := World.rangeAt_setCells_same _ _ _ _ (by rw [bv_length, HL.out.len]; exact HTH.out w2 B2.out)
      have hbl : Below w.heap.size w (w2.setCells D 0 (bv H)) := below_setCells (by rw [HD.out]; exact Nat.le_refl _) _ _ (BU.out.trans (B2.out.mono BU.out.size))
      refine bodyPost_ret (v := .tuple #[.agg (bv H).toArray, .int .i64 0]) ?_ rfl ⟨rfl, hbl⟩
      simp only [results, Tryz.results23]
      simp [Act.put, asAddr, run_loadVar_mid _ D 0 32 (bv H) _ qq Tryz.underlying32 rfl (size_l32 HL.out)]
    · obtain ⟨H, hH⟩ : ∃ H, hs ([3] ++ nbs (ovl l)) = H := ⟨_, rfl⟩
      have HE : rt l = H := by rw [← hH]; unfold rt; rw [if_neg h0]
      have HL : Hid (L32 H) := by rw [← hH]; exact hs_l32 _
      have hr := apt_rsn hk ha
      obtain ⟨o1, o2, o3⟩ : (ovl l).Ok ∧ 0 ≤ (ovl l).n ∧ (ovl l).n ≤ 256 := ov_ok hr h0 _ (Nat.le_refl _)
      have HO : Hid (∀ W : World, NS W (.slice ad l.length cap) l → Calls Tryz.prog 38 #[.slice ad l.length cap] W fun e w' => e = .returned (.agg (nc (ovl l)).toArray) ∧ Below W.heap.size W w') := fun W q1 => rover_any _ l (Nat.le_refl _) hr h0 hlen _ W q1
      have HTP : Hid (∀ W : World, Calls Tryz.prog 41 #[.agg (nc (ovl l)).toArray] W fun e w' => ∃ v', e = .returned v' ∧ Ow W.heap.size w' v' ([3] ++ nbs (ovl l)) ∧ Below W.heap.size W w') := fun W => rTop_any (ovl l) o1 o2 o3 W
      have HSU : Hid (∀ (v : Value) (W : World), Sq W v ([3] ++ nbs (ovl l)) → Calls Tryz.prog 25 #[v] W fun e w' => e = .returned (.agg (bv H).toArray) ∧ Below W.heap.size W w') := fun v W q2 => rsum_sl _ H v hH (by rw [List.length_append, nbs_length o1]; simp) W (Byt.append (fun z hz => by simp at hz; omega) (nbs_byt o1 o2 o3)) q2
      rw [HE]
      obtain ⟨R, hR⟩ : ∃ R, ovl l = R := ⟨_, rfl⟩
      rw [hR] at HO HTP HSU
      have hl0 : ¬ (l.length : Int) = 0 := by have := List.length_pos_iff.2 h0; omega
      obtain ⟨len, hlenq⟩ : ∃ len, l.length = len := ⟨_, rfl⟩
      rw [hlenq] at HA HO VU hl0 ⊢
      clear hx hk hcp ha hH HE hr o1 o2 o3 hR hlenq hlen h0
      go_enter Tryz.func23, Tryz.ntmps23
      go_upto_region 1 with (fail)
      try rw [hU]
      try rw [hD]
      clear hU hD hz
      go_wp2_with (first
        | (go_at_call 40; refine HA.out.mono ?_; rintro e w1 ⟨rfl, g1⟩; have B1 : Hid (Below U.heap.size U w1) := g1; clear g1)
        | (go_at_call 38; refine (HO.out w1 (VU.out.below B1.out)).mono ?_; rintro e w2 ⟨rfl, g1⟩; have B2 : Hid (Below U.heap.size U w2) := B1.out.trans (g1.mono B1.out.size); clear g1)
        | (go_at_call 41; refine (HTP.out w2).mono ?_; rintro e w3 ⟨v3, rfl, g1, g2⟩; have O3 : Hid (Ow w2.heap.size w3 v3 ([3] ++ nbs R)) := g1; have B3 : Hid (Below U.heap.size U w3) := B2.out.trans (g2.mono B2.out.size); clear g1 g2)
        | (go_at_call 25; refine (HSU.out v3 w3 O3.out.sq).mono ?_; rintro e w4 ⟨rfl, g1⟩; have B4 : Hid (Below U.heap.size U w4) := B3.out.trans (g1.mono B3.out.size); clear g1)
        | (refine wpList_store_mid rfl 32 (.tmp 2) (.tmp 16) rfl D 0 (bv H).toArray rfl rfl (by rw [List.size_toArray, bv_length, HL.out.len]; exact HTH.out w4 B4.out) (by rw [List.size_toArray]; exact size_l32 HL.out) (bv_one' _) ?_; simp only [List.toList_toArray]))
      have qq : (w4.setCells D 0 (bv H)).rangeAt D 0 (bv H) := World.rangeAt_setCells_same _ _ _ _ (by rw [bv_length, HL.out.len]; exact HTH.out w4 B4.out)
      have hbl : Below w.heap.size w (w4.setCells D 0 (bv H)) := below_setCells (by rw [HD.out]; exact Nat.le_refl _) _ _ (BU.out.trans (B4.out.mono BU.out.size))
      refine bodyPost_ret (v := .tuple #[.agg (bv H).toArray, .int .i64 0]) ?_ rfl ⟨rfl, hbl⟩
      simp only [results, Tryz.results23]
      simp [Act.put, asAddr, run_loadVar_mid _ D 0 32 (bv H) _ qq Tryz.underlying32 rfl (size_l32 HL.out)]
end Go.Proofs.YtpojalbpekbfdaaGreatDoor
/- RootOf of the package and of the reference. -/
namespace Go.Proofs.YtpojalbpekbfdaaGreatDoor
open Go Go.RowKit
set_option linter.unusedSimpArgs false
set_option linter.unusedVariables false
set_option maxRecDepth 100000

/-- The root of leaves. -/
def RO (ls : List Lf) (R : List Int) (er : Int) : Prop := (okl ls ∧ R = rt (so ls) ∧ er = 0) ∨ (¬ okl ls ∧ R = z32 ∧ er = 1)
theorem ro_some (ls : List Lf) : ∃ R er, RO ls R er ∧ L32 R := by
  by_cases h : okl ls
  · exact ⟨_, _, .inl ⟨h, rfl, rfl⟩, rt_l32 _⟩
  · exact ⟨_, _, .inr ⟨h, rfl, rfl⟩, z32_l32⟩
set_option maxHeartbeats 4000000 in
theorem rRootOf_any (ls : List Lf) (hk : ∀ x ∈ ls, x.Ok) (hlen : ls.length ≤ 2500000000000) (R : List Int) (er : Int) (hR : RO ls R er) (v : Value) (w : World) (hv : LS w v ls) :
    Calls Tryz.prog 20 #[v] w fun e w' => e = .returned (.tuple #[.agg (bv R).toArray, .int .i64 er]) ∧ Below w.heap.size w w' := by
  have hz := zero_32
  rw [show List.replicate 32 (0 : Int) = z32 from rfl] at hz
  have rz : (w.alloc (.cells (bv z32).toArray 32)).heap[w.heap.size]? = some (.cells (bv z32).toArray 32 (0, 0)) := by show (w.heap.push _)[w.heap.size]? = _; simp
  have rl : Below w.heap.size w (w.alloc (.cells (bv z32).toArray 32)) := (Below.refl _ w).alloc (Nat.le_refl _) _
  have rs : (w.alloc (.cells (bv z32).toArray 32)).heap.size = w.heap.size + 1 := by simp
  have HBZ : Hid (∀ W : World, (Instr.build 32 #[]).run Tryz.prog W = .ok (.agg (bv z32).toArray) W) := build_32
  obtain ⟨Z, hZ⟩ : ∃ Z, (bv z32).toArray = Z := ⟨_, rfl⟩
  have hZs : Z.size = 32 := by rw [← hZ]; simp [bv, z32]
  rw [hZ] at hz rz rl rs
  have HZE : Hid ((bv z32).toArray = Z) := hZ
  rw [hZ] at HBZ
  clear hZ
  obtain ⟨U, hU⟩ : ∃ U, w.alloc (.cells Z 32) = U := ⟨_, rfl⟩
  rw [hU] at rz rl rs
  have BU : Hid (Below w.heap.size w U) := rl
  have VU : Hid (LS U v ls) := hv.below rl
  obtain ⟨D, hD⟩ : ∃ D, w.heap.size = D := ⟨_, rfl⟩
  have HD : Hid (w.heap.size = D) := hD
  rw [hD] at rz rs
  have HTH : Hid (∀ W : World, Below U.heap.size U W → W.there D 0 32) := fun w1 B1 => there_of_row' ((B1.block _ (by omega)).trans rz) 0 32 (by omega)
  rcases hR with ⟨ho, rfl, rfl⟩ | ⟨ho, rfl, rfl⟩
  · have HNY : Hid (Calls Tryz.prog 21 #[v] U fun e w' => ∃ v', e = .returned (.tuple #[v', .bool true]) ∧ NS w' v' (so ls) ∧ Below U.heap.size U w') := rNodes_yes ls hk hlen ho v U VU.out
    have HRT : Hid (∀ (v' : Value) (W : World), NS W v' (so ls) → Below U.heap.size U W → Calls Tryz.prog 23 #[v'] W fun e w' => e = .returned (.tuple #[.agg (bv (rt (so ls))).toArray, .int .i64 0]) ∧ Below W.heap.size W w') := fun v' W n1 n2 => (by have := rRoot_any (so ls) (so_ok hk ho) (by rw [so_len ho]; omega) v' W n1; rw [(so_spec ho).2, if_pos rfl, if_pos rfl] at this; exact this)
    have HL : Hid (L32 (rt (so ls))) := rt_l32 _
    obtain ⟨R, hR⟩ : ∃ R, rt (so ls) = R := ⟨_, rfl⟩
    rw [hR] at HRT HL ⊢
    clear rz rl rs hR ho hv hk hlen
    go_enter Tryz.func20, Tryz.ntmps20
    go_upto_region 1 with (fail)
    try rw [hU]
    try rw [hD]
    clear hU hD hz
    go_wp2_with (first
      | (refine wpList_store_mid rfl 32 (.tmp 2) (.tmp 16) rfl D 0 (bv R).toArray rfl rfl (by rw [List.size_toArray, bv_length, HL.out.len]; exact HTH.out _ Cw2.out) (by rw [List.size_toArray]; exact size_l32 HL.out) (bv_one' _) ?_; simp only [List.toList_toArray])
      | (go_at_call 21; refine HNY.out.mono ?_; rintro e w1 ⟨v1, rfl, g1, g2⟩; have N1 : Hid (NS w1 v1 (so ls)) := g1; have Cw1 : Hid (Below U.heap.size U w1) := g2; clear g1 g2)
      | (go_at_call 23; refine (HRT.out v1 w1 N1.out Cw1.out).mono ?_; rintro e w2 ⟨rfl, g1⟩; have Cw2 : Hid (Below U.heap.size U w2) := Below.tr' Cw1.out g1; clear g1))
    have qq : (w2.setCells D 0 (bv R)).rangeAt D 0 (bv R) := World.rangeAt_setCells_same _ _ _ _ (by rw [bv_length, HL.out.len]; exact HTH.out _ Cw2.out)
    have hbl : Below w.heap.size w (w2.setCells D 0 (bv R)) := below_setCells (by have := HD.out; omega) _ _ (BU.out.trans (Cw2.out.mono BU.out.size))
    refine bodyPost_ret (v := .tuple #[.agg (bv R).toArray, .int .i64 0]) ?_ rfl ⟨rfl, hbl⟩
    simp only [results, Tryz.results20]
    simp [Act.put, asAddr, run_loadVar_mid _ D 0 32 (bv R) _ qq Tryz.underlying32 rfl (size_l32 HL.out)]
  · have HNN : Hid (Calls Tryz.prog 21 #[v] U fun e w' => e = .returned (.tuple #[.slice none 0 0, .bool false]) ∧ Below U.heap.size U w') := rNodes_no ls hk hlen ho v U VU.out
    clear rz rl rs ho hv hk hlen
    go_enter Tryz.func20, Tryz.ntmps20
    go_upto_region 1 with (fail)
    try rw [hU]
    try rw [hD]
    clear hU hD hz
    go_upto_region 3 with (go_at_call 21; refine HNN.out.mono ?_; rintro e w1 ⟨rfl, g2⟩; have Cw1 : Hid (Below U.heap.size U w1) := g2; clear g2)
    refine wp_region_list ?_
    refine wp_build0 32 rfl rfl _ (HBZ.out w1) ?_
    go_wp2_with (refine wpList_store_mid rfl 32 (.tmp 2) (.tmp 13) rfl D 0 (bv z32).toArray rfl (congrArg Value.agg HZE.out.symm) (by rw [List.size_toArray, bv_length, z32_l32.len]; exact HTH.out _ Cw1.out) (by rw [List.size_toArray]; exact size_l32 z32_l32) (bv_one' _) ?_; simp only [List.toList_toArray])
    have qq : (w1.setCells D 0 (bv z32)).rangeAt D 0 (bv z32) := World.rangeAt_setCells_same _ _ _ _ (by rw [bv_length, z32_l32.len]; exact HTH.out _ Cw1.out)
    have hbl : Below w.heap.size w (w1.setCells D 0 (bv z32)) := below_setCells (by have := HD.out; omega) _ _ (BU.out.trans (Cw1.out.mono BU.out.size))
    refine bodyPost_ret (v := .tuple #[.agg (bv z32).toArray, .int .i64 1]) ?_ rfl ⟨rfl, hbl⟩
    simp only [results, Tryz.results20]
    simp [Act.put, asAddr, run_loadVar_mid _ D 0 32 (bv z32) _ qq Tryz.underlying32 rfl (size_l32 z32_l32)]
end Go.Proofs.YtpojalbpekbfdaaGreatDoor
/- Leaves turned about: copies of the call's own; the root does not hang on the order. -/
namespace Go.Proofs.YtpojalbpekbfdaaGreatDoor
open Go Go.RowKit
set_option linter.unusedSimpArgs false
set_option linter.unusedVariables false
set_option maxRecDepth 100000

theorem ro_perm {ls ms : List Lf} (hp : ms.Perm ls) (hk : ∀ x ∈ ls, x.Ok) {R : List Int} {er : Int} (h : RO ls R er) : RO ms R er := by
  have hk2 : ∀ x ∈ ms, x.Ok := fun x hx => hk x (hp.mem_iff.1 hx)
  have hm : (ms.map ln).Perm (ls.map ln) := hp.map _
  rcases h with ⟨ho, rfl, rfl⟩ | ⟨ho, rfl, rfl⟩
  · obtain ⟨h1, h2⟩ := so_spec ho
    obtain ⟨o2, e2⟩ := so_uniq hk2 (h1.trans hm.symm) h2
    exact .inl ⟨o2, by rw [e2], rfl⟩
  · exact .inr ⟨fun ⟨s, q1, q2⟩ => ho ⟨s, q1.trans hm, q2⟩, rfl, rfl⟩
theorem lit_ownl (w : World) : LO w.heap.size (w.alloc (.cells #[] 35)) (.slice (some ⟨w.heap.size, 0, none⟩) 0 0) [] := by
  have hh : (w.alloc (.cells #[] 35)).heap[w.heap.size]? = some (.cells #[] 35 (0, 0)) := by show (w.heap.push _)[w.heap.size]? = _; simp
  exact ⟨⟨rfl, .inr ⟨w.heap.size, 0, _, rfl, Nat.le_refl _, hh, Nat.le_refl _, by unfold maxLen; omega, rfl, rfl⟩⟩, (fun x hx => by cases hx), by simp⟩
set_option maxHeartbeats 1000000 in
theorem copyLeaves_own (l : List Lf) (hk : ∀ x ∈ l, x.Ok) (hlen : l.length ≤ 3000000000000) (v : Value) (w : World) (hv : LS w v l) :
    Calls Tryz.prog 6 #[v] w fun e w' => ∃ v', e = .returned v' ∧ LO w.heap.size w' v' l ∧ Below w.heap.size w w' := by
  have hl := lit_nol w
  have hb0 : Below w.heap.size w (w.alloc (.cells #[] 35)) := (Below.refl _ w).alloc (Nat.le_refl _) _
  obtain ⟨v', w', hr, h1, h2, -⟩ := app_lown (lit_ownl w) hk (hv.below hb0) (by simpa using hlen)
  have H1 : Hid (LO w.heap.size w' v' l) := h1
  have H2 : Hid (Below w.heap.size w w') := hb0.trans h2
  obtain ⟨ad, cap, rfl, -, -⟩ := hv
  obtain ⟨n, hn⟩ : ∃ n, l.length = n := ⟨_, rfl⟩
  rw [hn] at hr ⊢
  have HR : Hid ((Builtin.append_ #[22, 22] 22 #[.slice (some ⟨w.heap.size, 0, none⟩) 0 0, .slice ad n cap]).run Tryz.prog (w.alloc (.cells #[] 35)) = .ok v' w') := hr
  clear hk hlen h1 h2 hn hr hb0
  go_enter Tryz.func6, Tryz.ntmps6
  go_wp2_with (at_builtin; refine wp_app_run rfl (.tmp 3) (.tmp 4) 22 rfl 22 rfl (.slice (some ⟨w.heap.size, 0, none⟩) 0 0) (.slice ad n cap) v' w' rfl rfl HR.out ?_)
  go_ret
  exact ⟨_, rfl, H1.out, H2.out⟩
/-- The first k of a list from behind, the others as they were. -/
def trn (ls : List Lf) (k : Nat) : List Lf := ls.reverse.take k ++ ls.drop k
theorem trn_len (ls : List Lf) {k : Nat} (hk : k ≤ ls.length) : (trn ls k).length = ls.length := by simp [trn]; omega
theorem trn_step {ls : List Lf} {k : Nat} (hk : k < ls.length) {x : Lf} (hx : ls[ls.length - 1 - k]? = some x) : (trn ls k).take k ++ [x] ++ (trn ls k).drop (k + [x].length) = trn ls (k + 1) := by
  have h1 : (ls.reverse.take k).length = k := by simp; omega
  have hr : ls.reverse[k]? = some x := by rw [List.getElem?_reverse (by omega)]; exact hx
  unfold trn
  rw [List.take_append_of_le_length (by omega), List.take_take, Nat.min_self]
  rw [List.drop_append, List.drop_of_length_le (by rw [h1]; omega), h1, List.nil_append, List.drop_drop]
  obtain ⟨q1, q2⟩ := List.getElem?_eq_some_iff.1 hr
  rw [List.take_succ_eq_append_getElem q1, q2]
  congr 2
  simp
theorem trn_all (ls : List Lf) : trn ls ls.length = ls.reverse := by unfold trn; rw [List.drop_length, List.append_nil, List.take_of_length_le (by simp)]
/-- Two of a list put in each other's place. -/
theorem swap_perm {l : List Lf} {k : Nat} {a b : Lf} (ha : l[0]? = some a) (hb : l[k]? = some b) : ((l.set 0 b).set k a).Perm l := by
  obtain ⟨h1, rfl⟩ := List.getElem?_eq_some_iff.1 ha
  obtain ⟨h2, rfl⟩ := List.getElem?_eq_some_iff.1 hb
  exact List.set_set_perm h1 h2
theorem set_take {l : List Lf} {i : Nat} (hi : i < l.length) (x : Lf) : l.take i ++ [x] ++ l.drop (i + [x].length) = l.set i x := by
  rw [List.set_eq_take_append_cons_drop, if_pos hi]; simp
end Go.Proofs.YtpojalbpekbfdaaGreatDoor
/- The reference's Stays. -/
namespace Go.Proofs.YtpojalbpekbfdaaGreatDoor
open Go Go.RowKit
set_option linter.unusedSimpArgs false
set_option linter.unusedVariables false
set_option maxRecDepth 100000

/-- Both readings of what stays are one. -/
theorem sty_wo {ls ms : List Lf} (hk : ∀ x ∈ ls ++ ms, x.Ok) (h : okl (ls ++ ms)) (g : Nat) (hg : (so ls).length ≤ g) : wo (fun n => (ms.map (·.p)).any (fun y => hl n y)) false g (so ls) = sty ls ms := by
  obtain ⟨o1, o2, o3⟩ := okl_left hk h
  have hk1 : ∀ x ∈ ls, x.Ok := fun x hx => hk x (List.mem_append_left _ hx)
  have hk2 : ∀ x ∈ ms, x.Ok := fun x hx => hk x (List.mem_append_right _ hx)
  have e : (fun n : Nd => (ms.map (·.p)).any (fun y => hl n y)) = anyH (so ms) := by
    funext n
    unfold anyH
    have hp := (so_spec o2).1
    rw [List.any_map]
    have : (so ms).any (fun z => hl n z.p) = (ms.map ln).any (fun z => hl n z.p) := by
      rw [Bool.eq_iff_iff, List.any_eq_true, List.any_eq_true]
      exact ⟨fun ⟨x, q1, q2⟩ => ⟨x, hp.mem_iff.1 q1, q2⟩, fun ⟨x, q1, q2⟩ => ⟨x, hp.mem_iff.2 q1, q2⟩⟩
    rw [this, List.any_map]; rfl
  rw [e]
  exact (st_wo 256 0 (so ls) (so ms) g rfl (so_apn hk1 o1) (so_apn hk2 o2) (fun x hx => (map_ok hk1 (so_spec o1).1 x hx).2.2) (fun x _ z _ => shr_zero _ _) (so_dis o1 o2 o3) hg).symm
def RSo (ls ms : List Lf) (v' : Value) (er : Int) (w' : World) : Prop := (okl (ls ++ ms) ∧ er = 0 ∧ NS w' v' (sty ls ms)) ∨ (¬ okl (ls ++ ms) ∧ er = 1 ∧ v' = .slice none 0 0)
theorem take_p {ms : List Lf} {k : Nat} {x : Lf} (hx : ms[k]? = some x) : (ms.take (k + 1)).map (·.p) = (ms.take k).map (·.p) ++ [x.p] := by
  rw [List.take_add_one, hx]; simp
end Go.Proofs.YtpojalbpekbfdaaGreatDoor
