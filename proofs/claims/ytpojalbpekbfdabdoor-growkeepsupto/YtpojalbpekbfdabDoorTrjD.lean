/- Package tree: root, Root, Over. -/
import Derived.Test.YtpojalbpekbfdabDoorTreZ
namespace Go.Proofs.YtpojalbpekbfdabDoor
open Go Go.RowKit
set_option linter.unusedSimpArgs false
set_option linter.unusedVariables false
set_option maxRecDepth 100000

theorem ow_one (w : World) (z : Int) : Ow w.heap.size (w.alloc (.cells #[.int .u8 z] 5)) (.slice (some ⟨w.heap.size, 0, none⟩) 1 1) [z] := by
  have hh : (w.alloc (.cells #[.int .u8 z] 5)).heap[w.heap.size]? = some (.cells #[.int .u8 z] 5 (0, 0)) := by show (w.heap.push _)[w.heap.size]? = _; simp
  exact ⟨rfl, .inr ⟨w.heap.size, 1, _, rfl, Nat.le_refl _, hh, Nat.le_refl _, by unfold maxLen; omega, rfl, rfl⟩⟩
/-- The root of nodes. -/
def rt (l : List Nd) : List Int := if l = [] then hs [0] else hs ([3] ++ nbs (ovl l))
theorem rt_l32 (l : List Nd) : L32 (rt l) := by unfold rt; split <;> exact hs_l32 _
set_option maxHeartbeats 4000000 in
theorem root_any (l : List Nd) (hr : Rsn l) (hlen : l.length ≤ 140737488355328) (v : Value) (w : World) (hv : NS w v l) (hT : Tb w) :
    Calls Tryd.prog 32 #[v] w fun e w' => e = .returned (.agg (bv (rt l)).toArray) ∧ Below w.heap.size w w' := by
  have hz := zero_32
  rw [show List.replicate 32 (0 : Int) = z32 from rfl] at hz
  have rz : (w.alloc (.cells (bv z32).toArray 25)).heap[w.heap.size]? = some (.cells (bv z32).toArray 25 (0, 0)) := by show (w.heap.push _)[w.heap.size]? = _; simp
  have rl : Below w.heap.size w (w.alloc (.cells (bv z32).toArray 25)) := (Below.refl _ w).alloc (Nat.le_refl _) _
  have rs : (w.alloc (.cells (bv z32).toArray 25)).heap.size = w.heap.size + 1 := by simp
  obtain ⟨Z, hZ⟩ : ∃ Z, (bv z32).toArray = Z := ⟨_, rfl⟩
  have hZs : Z.size = 32 := by rw [← hZ]; simp [bv, z32]
  rw [hZ] at hz rz rl rs
  clear hZ
  obtain ⟨U, hU⟩ : ∃ U, w.alloc (.cells Z 25) = U := ⟨_, rfl⟩
  rw [hU] at rz rl rs
  have BU : Hid (Below w.heap.size w U) := rl
  have TU : Hid (Tb U) := hT.below rl
  have VU : Hid (NS U v l) := hv.below rl
  obtain ⟨D, hD⟩ : ∃ D, w.heap.size = D := ⟨_, rfl⟩
  have HD : Hid (w.heap.size = D) := hD
  rw [hD] at rz rs
  have RZ : Hid (U.heap[D]? = some (.cells Z 25 (0, 0))) := rz
  have SU : Hid (U.heap.size = D + 1) := rs
  clear rz rl rs hT
  obtain ⟨ad, cap, rfl, hcp, hx⟩ := hv
  by_cases h0 : l = []
  · subst h0
    obtain ⟨H, hH⟩ : ∃ H, hs [0] = H := ⟨_, rfl⟩
    have HE : Hid (rt [] = H) := by rw [← hH]; rfl
    have HL : Hid (L32 H) := by rw [← hH]; exact hs_l32 _
    have O1 : Hid (Ow U.heap.size (U.alloc (.cells #[.int .u8 0] 5)) (.slice (some ⟨U.heap.size, 0, none⟩) 1 1) [0]) := ow_one U 0
    have BA : Hid (Below U.heap.size U (U.alloc (.cells #[.int .u8 0] 5))) := (Below.refl _ U).alloc (Nat.le_refl _) _
    have HS : Hid (Calls Tryd.prog 37 #[.slice (some ⟨U.heap.size, 0, none⟩) 1 1] (U.alloc (.cells #[.int .u8 0] 5)) fun e w' => e = .returned (.agg (bv H).toArray) ∧ Below (U.alloc (.cells #[.int .u8 0] 5)).heap.size (U.alloc (.cells #[.int .u8 0] 5)) w') := sum256_sl [0] H _ hH (by simp) _ (TU.out.below BA.out) (fun z hz => by simp at hz; omega) O1.out.sq
    rw [HE.out]
    clear hx hr hcp hH
    simp only [List.length_nil]
    go_enter Tryd.func32, Tryd.ntmps32
    go_upto_region 1 with (fail)
    try rw [hU]
    try rw [hD]
    clear hU hD hz
    go_wp2_with (first
      | (go_at_call 37; refine HS.out.mono ?_; rintro e w1 ⟨rfl, g1⟩; have B1 : Hid (Below U.heap.size U w1) := BA.out.trans (g1.mono BA.out.size); clear g1)
      | (refine wpList_store_mid rfl 25 (.tmp 2) (.tmp 7) rfl D 0 (bv H).toArray rfl rfl (by rw [List.size_toArray, bv_length, HL.out.len]; exact there_of_row' ((B1.out.block _ (by have := SU.out; omega)).trans RZ.out) 0 32 (by omega)) (by rw [List.size_toArray]; exact size_l32 HL.out) (bv_one' _) ?_; simp only [List.toList_toArray]))
    have qq : (w1.setCells D 0 (bv H)).rangeAt D 0 (bv H) := World.rangeAt_setCells_same _ _ _ _ (by rw [bv_length, HL.out.len]; exact there_of_row' ((B1.out.block _ (by have := SU.out; omega)).trans RZ.out) 0 32 (by omega))
    have hbl : Below w.heap.size w (w1.setCells D 0 (bv H)) := below_setCells (by rw [HD.out]; exact Nat.le_refl _) _ _ (BU.out.trans (B1.out.mono BU.out.size))
    refine bodyPost_ret (v := .agg (bv H).toArray) ?_ rfl ⟨rfl, hbl⟩
    simp only [results, Tryd.results32]
    simp [Act.put, asAddr, run_loadVar_mid _ D 0 25 (bv H) _ qq Tryd.underlying25 rfl (size_l32 HL.out)]
  · obtain ⟨H, hH⟩ : ∃ H, hs ([3] ++ nbs (ovl l)) = H := ⟨_, rfl⟩
    have HE : Hid (rt l = H) := by show rt l = H; rw [← hH]; unfold rt; rw [if_neg h0]
    have HL : Hid (L32 H) := by rw [← hH]; exact hs_l32 _
    obtain ⟨o1, o2, o3⟩ : (ovl l).Ok ∧ 0 ≤ (ovl l).n ∧ (ovl l).n ≤ 256 := ov_ok hr h0 _ (Nat.le_refl _)
    have O1 : Hid (Ow U.heap.size (U.alloc (.cells #[.int .u8 3] 5)) (.slice (some ⟨U.heap.size, 0, none⟩) 1 1) [3]) := ow_one U 3
    have BA : Hid (Below U.heap.size U (U.alloc (.cells #[.int .u8 3] 5))) := (Below.refl _ U).alloc (Nat.le_refl _) _
    have HO : Hid (Calls Tryd.prog 41 #[.slice ad l.length cap] (U.alloc (.cells #[.int .u8 3] 5)) fun e w' => e = .returned (.agg (nc (ovl l)).toArray) ∧ Below (U.alloc (.cells #[.int .u8 3] 5)).heap.size (U.alloc (.cells #[.int .u8 3] 5)) w') := over_any _ l (Nat.le_refl _) hr h0 hlen _ _ (VU.out.below BA.out) (TU.out.below BA.out)
    have HAN : Hid (∀ (W : World), Ow U.heap.size W (.slice (some ⟨U.heap.size, 0, none⟩) 1 1) [3] → U.heap.size ≤ W.heap.size → Calls Tryd.prog 51 #[.slice (some ⟨U.heap.size, 0, none⟩) 1 1, .agg (nc (ovl l)).toArray] W fun e w' => ∃ v', e = .returned v' ∧ Ow U.heap.size w' v' ([3] ++ nbs (ovl l)) ∧ Below U.heap.size W w') := fun W q1 q2 => appendNode_any _ [3] (ovl l) o1 o2 o3 W q1 q2 (by simp)
    have HSU : Hid (∀ (v : Value) (W : World), Tb W → Sq W v ([3] ++ nbs (ovl l)) → Calls Tryd.prog 37 #[v] W fun e w' => e = .returned (.agg (bv H).toArray) ∧ Below W.heap.size W w') := fun v W q1 q2 => sum256_sl _ H v hH (by rw [List.length_append, nbs_length o1]; simp) W q1 (Byt.append (fun z hz => by simp at hz; omega) (nbs_byt o1 o2 o3)) q2
    rw [HE.out]
    obtain ⟨R, hR⟩ : ∃ R, ovl l = R := ⟨_, rfl⟩
    rw [hR] at HO HAN HSU
    have hl0 : ¬ (l.length : Int) = 0 := by have := List.length_pos_iff.2 h0; omega
    obtain ⟨len, hlenq⟩ : ∃ len, l.length = len := ⟨_, rfl⟩
    rw [hlenq] at HO hl0 ⊢
    clear hx hr hcp hH o1 o2 o3 hR hlenq hlen h0
    go_enter Tryd.func32, Tryd.ntmps32
    go_upto_region 1 with (fail)
    try rw [hU]
    try rw [hD]
    clear hU hD hz
    go_wp2_with (first
      | (go_at_call 41; refine HO.out.mono ?_; rintro e w1 ⟨rfl, g1⟩; have B1 : Hid (Below U.heap.size U w1) := BA.out.trans (g1.mono BA.out.size); have P1 : Hid (Ow U.heap.size w1 (.slice (some ⟨U.heap.size, 0, none⟩) 1 1) [3]) := O1.out.below g1; clear g1)
      | (go_at_call 51; refine (HAN.out w1 P1.out B1.out.size).mono ?_; rintro e w2 ⟨v2, rfl, g1, g2⟩; have O2 : Hid (Ow U.heap.size w2 v2 ([3] ++ nbs R)) := g1; have B2 : Hid (Below U.heap.size U w2) := B1.out.trans g2; clear g1 g2)
      | (go_at_call 37; refine (HSU.out v2 w2 (TU.out.below B2.out) O2.out.sq).mono ?_; rintro e w3 ⟨rfl, g1⟩; have B3 : Hid (Below U.heap.size U w3) := B2.out.trans (g1.mono B2.out.size); clear g1)
      | (refine wpList_store_mid rfl 25 (.tmp 2) (.tmp 12) rfl D 0 (bv H).toArray rfl rfl (by rw [List.size_toArray, bv_length, HL.out.len]; exact there_of_row' ((B3.out.block _ (by have := SU.out; omega)).trans RZ.out) 0 32 (by omega)) (by rw [List.size_toArray]; exact size_l32 HL.out) (bv_one' _) ?_; simp only [List.toList_toArray]))
    have qq : (w3.setCells D 0 (bv H)).rangeAt D 0 (bv H) := World.rangeAt_setCells_same _ _ _ _ (by rw [bv_length, HL.out.len]; exact there_of_row' ((B3.out.block _ (by have := SU.out; omega)).trans RZ.out) 0 32 (by omega))
    have hbl : Below w.heap.size w (w3.setCells D 0 (bv H)) := below_setCells (by rw [HD.out]; exact Nat.le_refl _) _ _ (BU.out.trans (B3.out.mono BU.out.size))
    refine bodyPost_ret (v := .agg (bv H).toArray) ?_ rfl ⟨rfl, hbl⟩
    simp only [results, Tryd.results32]
    simp [Act.put, asAddr, run_loadVar_mid _ D 0 25 (bv H) _ qq Tryd.underlying25 rfl (size_l32 HL.out)]
theorem apt_rsn {l : List Nd} (hk : ∀ x ∈ l, x.Ok) (h : apt l = true) : Rsn l := ⟨apt_ris hk h, fun x hx => (gd_iff.1 (apt_good h x hx)).1, fun x hx => (gd_iff.1 (apt_good h x hx)).2.1⟩
theorem build_32 (w : World) : (Instr.build 25 #[]).run Tryd.prog w = .ok (.agg (bv z32).toArray) w := run_build w _ _ _ (by kernel_rfl)
theorem build_n0 (w : World) : (Instr.build 33 #[]).run Tryd.prog w = .ok (.agg (nc ndz).toArray) w := run_build w _ _ _ (by kernel_rfl)
/-- A zero value built. -/
theorem wp_build0 {P : Program} {ops : Array Oper} {rest : List Oper} {o : Oper} {a : Act} {w : World} {Q : Exit → Act → World → Prop} (t : TypeId) (ho : o.op = .build t #[]) (hgd : o.guard = none) (cells : Array Value)
    (hr : (Instr.build t #[]).run P w = .ok (.agg cells) w) (h : wpList P ops Q rest (a.put o.dst (.agg cells)) w) : wpList P ops Q (o :: rest) a w := by
  refine wpList_plain hgd fun K hK => ?_
  unfold Oper.wp execOp
  simp only [ho, Sem.run_bind, List.map_toArray, List.map_nil, hr, Result.andThen_ok, Sem.run_pure]
  exact hK _ _ h
set_option maxHeartbeats 4000000 in
theorem Root_any (l : List Nd) (hk : ∀ x ∈ l, x.Ok) (hlen : l.length ≤ 140737488355328) (v : Value) (w : World) (hv : NS w v l) (hT : Tb w) :
    Calls Tryd.prog 16 #[v] w fun e w' => e = .returned (.tuple #[.agg (bv (if apt l = true then rt l else z32)).toArray, .int .i64 (if apt l = true then 0 else 1)]) ∧ Below w.heap.size w w' := by
  have hz := zero_32
  rw [show List.replicate 32 (0 : Int) = z32 from rfl] at hz
  have rz : (w.alloc (.cells (bv z32).toArray 25)).heap[w.heap.size]? = some (.cells (bv z32).toArray 25 (0, 0)) := by show (w.heap.push _)[w.heap.size]? = _; simp
  have rl : Below w.heap.size w (w.alloc (.cells (bv z32).toArray 25)) := (Below.refl _ w).alloc (Nat.le_refl _) _
  have rs : (w.alloc (.cells (bv z32).toArray 25)).heap.size = w.heap.size + 1 := by simp
  have HBZ : Hid (∀ W : World, (Instr.build 25 #[]).run Tryd.prog W = .ok (.agg (bv z32).toArray) W) := build_32
  obtain ⟨Z, hZ⟩ : ∃ Z, (bv z32).toArray = Z := ⟨_, rfl⟩
  have HZ : Hid ((bv z32).toArray = Z) := hZ
  have hZs : Z.size = 32 := by rw [← hZ]; simp [bv, z32]
  rw [hZ] at hz rz rl rs
  clear hZ
  obtain ⟨U, hU⟩ : ∃ U, w.alloc (.cells Z 25) = U := ⟨_, rfl⟩
  rw [hU] at rz rl rs
  have BU : Hid (Below w.heap.size w U) := rl
  have TU : Hid (Tb U) := hT.below rl
  have VU : Hid (NS U v l) := hv.below rl
  obtain ⟨D, hD⟩ : ∃ D, w.heap.size = D := ⟨_, rfl⟩
  have HD : Hid (w.heap.size = D) := hD
  rw [hD] at rz rs
  have RZ : Hid (U.heap[D]? = some (.cells Z 25 (0, 0))) := rz
  have SU : Hid (U.heap.size = D + 1) := rs
  clear rz rl rs hT
  obtain ⟨ad, cap, rfl, hcp, hx⟩ := hv
  have HA : Hid (Calls Tryd.prog 12 #[.slice ad l.length cap] U fun e w' => e = .returned (.bool (apt l)) ∧ Below U.heap.size U w') := Apart_any l hk _ U VU.out hlen
  cases ha : apt l with
  | false =>
    rw [ha] at HA
    rw [if_neg (by decide), if_neg (by decide)]
    clear hx hk hcp ha
    go_enter Tryd.func16, Tryd.ntmps16
    go_upto_region 1 with (fail)
    try rw [hU]
    try rw [hD]
    clear hU hD hz
    go_upto_region 2 with (go_at_call 12; refine HA.out.mono ?_; rintro e w1 ⟨rfl, g1⟩; have B1 : Hid (Below U.heap.size U w1) := g1; clear g1)
    refine wp_region_list ?_
    refine wp_build0 25 rfl rfl _ (HBZ.out w1) ?_
    refine wpList_store_mid rfl 25 (.tmp 2) (.tmp 7) rfl D 0 (bv z32).toArray rfl rfl (by rw [List.size_toArray, bv_length, z32_l32.len]; exact there_of_row' ((B1.out.block _ (by have := SU.out; omega)).trans RZ.out) 0 32 (by omega)) (by rw [List.size_toArray]; exact size_l32 z32_l32) (bv_one' _) ?_
    simp only [List.toList_toArray]
    go_wp2_with fail
    have qq : (w1.setCells D 0 (bv z32)).rangeAt D 0 (bv z32) := World.rangeAt_setCells_same _ _ _ _ (by rw [bv_length, z32_l32.len]; exact there_of_row' ((B1.out.block _ (by have := SU.out; omega)).trans RZ.out) 0 32 (by omega))
    have hbl : Below w.heap.size w (w1.setCells D 0 (bv z32)) := below_setCells (by rw [HD.out]; exact Nat.le_refl _) _ _ (BU.out.trans (B1.out.mono BU.out.size))
    refine bodyPost_ret (v := .tuple #[.agg (bv z32).toArray, .int .i64 1]) ?_ rfl ⟨rfl, hbl⟩
    simp only [results, Tryd.results16]
    simp [Act.put, asAddr, run_loadVar_mid _ D 0 25 (bv z32) _ qq Tryd.underlying25 rfl (size_l32 z32_l32)]
  | true =>
    have HR : Hid (∀ W : World, NS W (.slice ad l.length cap) l → Tb W → Calls Tryd.prog 32 #[.slice ad l.length cap] W fun e w' => e = .returned (.agg (bv (rt l)).toArray) ∧ Below W.heap.size W w') := fun W q1 q2 => root_any l (apt_rsn hk ha) hlen _ W q1 q2
    rw [ha] at HA
    rw [if_pos rfl, if_pos rfl]
    have HL : Hid (L32 (rt l)) := rt_l32 l
    obtain ⟨H, hH⟩ : ∃ H, rt l = H := ⟨_, rfl⟩
    rw [hH] at HR HL ⊢
    clear hx hk hcp ha hH
    go_enter Tryd.func16, Tryd.ntmps16
    go_upto_region 1 with (fail)
    try rw [hU]
    try rw [hD]
    clear hU hD hz
    go_wp2_with (first
      | (go_at_call 12; refine HA.out.mono ?_; rintro e w1 ⟨rfl, g1⟩; have B1 : Hid (Below U.heap.size U w1) := g1; clear g1)
      | (go_at_call 32; refine (HR.out w1 (VU.out.below B1.out) (TU.out.below B1.out)).mono ?_; rintro e w2 ⟨rfl, g1⟩; have B2 : Hid (Below U.heap.size U w2) := B1.out.trans (g1.mono B1.out.size); clear g1)
      | (refine wpList_store_mid rfl 25 (.tmp 2) (.tmp 9) rfl D 0 (bv H).toArray rfl rfl (by rw [List.size_toArray, bv_length, HL.out.len]; exact there_of_row' ((B2.out.block _ (by have := SU.out; omega)).trans RZ.out) 0 32 (by omega)) (by rw [List.size_toArray]; exact size_l32 HL.out) (bv_one' _) ?_; simp only [List.toList_toArray]))
    have qq : (w2.setCells D 0 (bv H)).rangeAt D 0 (bv H) := World.rangeAt_setCells_same _ _ _ _ (by rw [bv_length, HL.out.len]; exact there_of_row' ((B2.out.block _ (by have := SU.out; omega)).trans RZ.out) 0 32 (by omega))
    have hbl : Below w.heap.size w (w2.setCells D 0 (bv H)) := below_setCells (by rw [HD.out]; exact Nat.le_refl _) _ _ (BU.out.trans (B2.out.mono BU.out.size))
    refine bodyPost_ret (v := .tuple #[.agg (bv H).toArray, .int .i64 0]) ?_ rfl ⟨rfl, hbl⟩
    simp only [results, Tryd.results16]
    simp [Act.put, asAddr, run_loadVar_mid _ D 0 25 (bv H) _ qq Tryd.underlying25 rfl (size_l32 HL.out)]
/-- What Over answers. -/
def ovE (l : List Nd) : Bool := !decide (l = []) && apt l
set_option maxHeartbeats 4000000 in
theorem Over_any (l : List Nd) (hk : ∀ x ∈ l, x.Ok) (hlen : l.length ≤ 140737488355328) (v : Value) (w : World) (hv : NS w v l) (hT : Tb w) :
    Calls Tryd.prog 25 #[v] w fun e w' => e = .returned (.tuple #[.agg (nc (if ovE l = true then ovl l else ndz)).toArray, .int .i64 (if ovE l = true then 0 else 1)]) ∧ Below w.heap.size w w' := by
  have hz := zero_nd
  have rz : (w.alloc (.cells (nc ndz).toArray 33)).heap[w.heap.size]? = some (.cells (nc ndz).toArray 33 (0, 0)) := by show (w.heap.push _)[w.heap.size]? = _; simp
  have rl : Below w.heap.size w (w.alloc (.cells (nc ndz).toArray 33)) := (Below.refl _ w).alloc (Nat.le_refl _) _
  have rs : (w.alloc (.cells (nc ndz).toArray 33)).heap.size = w.heap.size + 1 := by simp
  have HBZ : Hid (∀ W : World, (Instr.build 33 #[]).run Tryd.prog W = .ok (.agg (nc ndz).toArray) W) := build_n0
  obtain ⟨Z, hZ⟩ : ∃ Z, (nc ndz).toArray = Z := ⟨_, rfl⟩
  have HZ : Hid ((nc ndz).toArray = Z) := hZ
  have hZs : Z.size = 65 := by rw [← hZ]; exact nc_size ndz_ok
  rw [hZ] at hz rz rl rs
  clear hZ
  obtain ⟨U, hU⟩ : ∃ U, w.alloc (.cells Z 33) = U := ⟨_, rfl⟩
  rw [hU] at rz rl rs
  have BU : Hid (Below w.heap.size w U) := rl
  have TU : Hid (Tb U) := hT.below rl
  have VU : Hid (NS U v l) := hv.below rl
  obtain ⟨D, hD⟩ : ∃ D, w.heap.size = D := ⟨_, rfl⟩
  have HD : Hid (w.heap.size = D) := hD
  rw [hD] at rz rs
  have RZ : Hid (U.heap[D]? = some (.cells Z 33 (0, 0))) := rz
  have SU : Hid (U.heap.size = D + 1) := rs
  clear rz rl rs hT
  obtain ⟨ad, cap, rfl, hcp, hx⟩ := hv
  have HA : Hid (Calls Tryd.prog 12 #[.slice ad l.length cap] U fun e w' => e = .returned (.bool (apt l)) ∧ Below U.heap.size U w') := Apart_any l hk _ U VU.out hlen
  have no : ∀ w1 : World, Below U.heap.size U w1 → (w1.setCells D 0 (nc ndz)).rangeAt D 0 (nc ndz) ∧ Below w.heap.size w (w1.setCells D 0 (nc ndz)) ∧ w1.there D 0 65 := fun w1 B1 => by
    have ht : w1.there D 0 65 := there_of_row' ((B1.block _ (by have := SU.out; omega)).trans RZ.out) 0 65 (by omega)
    exact ⟨World.rangeAt_setCells_same _ _ _ _ (by rw [nc_length ndz_ok]; exact ht), below_setCells (by rw [HD.out]; exact Nat.le_refl _) _ _ (BU.out.trans (B1.mono BU.out.size)), ht⟩
  have NO : Hid (∀ w1 : World, Below U.heap.size U w1 → (w1.setCells D 0 (nc ndz)).rangeAt D 0 (nc ndz) ∧ Below w.heap.size w (w1.setCells D 0 (nc ndz)) ∧ w1.there D 0 65) := no
  clear no
  by_cases h0 : l = []
  · have hE : ovE l = false := by unfold ovE; rw [decide_eq_true h0]; rfl
    rw [hE, if_neg (by decide), if_neg (by decide)]
    subst h0
    clear hx hk hcp hE
    simp only [List.length_nil]
    go_enter Tryd.func25, Tryd.ntmps25
    go_upto_region 1 with (fail)
    try rw [hU]
    try rw [hD]
    clear hU hD hz
    go_upto_region 2 with (fail)
    refine wp_region_list ?_
    refine wp_build0 33 rfl rfl _ (HBZ.out U) ?_
    refine wpList_store_mid rfl 33 (.tmp 2) (.tmp 12) rfl D 0 (nc ndz).toArray rfl rfl (by rw [nc_size ndz_ok]; exact (NO.out U (Below.refl _ _)).2.2) (by rw [List.size_toArray]; exact size_nc ndz_ok) (nc_one _) ?_
    simp only [List.toList_toArray]
    go_wp2_with fail
    have qq := (NO.out U (Below.refl _ _)).1
    have hbl := (NO.out U (Below.refl _ _)).2.1
    refine bodyPost_ret (v := .tuple #[.agg (nc ndz).toArray, .int .i64 1]) ?_ rfl ⟨rfl, hbl⟩
    simp only [results, Tryd.results25]
    simp [Act.put, asAddr, run_loadVar_mid _ D 0 33 (nc ndz) _ qq Tryd.underlying33 rfl (size_nc ndz_ok)]
  · have hl0 : ¬ (l.length : Int) = 0 := by have := List.length_pos_iff.2 h0; omega
    cases ha : apt l with
    | false =>
      have hE : ovE l = false := by unfold ovE; rw [ha, Bool.and_false]
      rw [hE, if_neg (by decide), if_neg (by decide)]
      rw [ha] at HA
      obtain ⟨len, hlenq⟩ : ∃ len, l.length = len := ⟨_, rfl⟩
      rw [hlenq] at HA hl0 ⊢
      clear hx hk hcp ha hE h0 hlenq hlen
      go_enter Tryd.func25, Tryd.ntmps25
      go_upto_region 1 with (fail)
      try rw [hU]
      try rw [hD]
      clear hU hD hz
      go_upto_region 2 with (go_at_call 12; refine HA.out.mono ?_; rintro e w1 ⟨rfl, g1⟩; have B1 : Hid (Below U.heap.size U w1) := g1; clear g1)
      refine wp_region_list ?_
      refine wp_build0 33 rfl rfl _ (HBZ.out w1) ?_
      refine wpList_store_mid rfl 33 (.tmp 2) (.tmp 12) rfl D 0 (nc ndz).toArray rfl rfl (by rw [nc_size ndz_ok]; exact (NO.out w1 B1.out).2.2) (by rw [List.size_toArray]; exact size_nc ndz_ok) (nc_one _) ?_
      simp only [List.toList_toArray]
      go_wp2_with fail
      have qq := (NO.out w1 B1.out).1
      have hbl := (NO.out w1 B1.out).2.1
      refine bodyPost_ret (v := .tuple #[.agg (nc ndz).toArray, .int .i64 1]) ?_ rfl ⟨rfl, hbl⟩
      simp only [results, Tryd.results25]
      simp [Act.put, asAddr, run_loadVar_mid _ D 0 33 (nc ndz) _ qq Tryd.underlying33 rfl (size_nc ndz_ok)]
    | true =>
      have hE : ovE l = true := by unfold ovE; rw [ha, decide_eq_false h0]; rfl
      rw [hE, if_pos rfl, if_pos rfl]
      have HR : Hid (∀ W : World, NS W (.slice ad l.length cap) l → Tb W → Calls Tryd.prog 41 #[.slice ad l.length cap] W fun e w' => e = .returned (.agg (nc (ovl l)).toArray) ∧ Below W.heap.size W w') := fun W q1 q2 => over_any _ l (Nat.le_refl _) (apt_rsn hk ha) h0 hlen _ W q1 q2
      have HL : Hid (ovl l).Ok := (ov_ok (apt_rsn hk ha) h0 _ (Nat.le_refl _)).1
      rw [ha] at HA
      obtain ⟨R, hR⟩ : ∃ R, ovl l = R := ⟨_, rfl⟩
      rw [hR] at HR HL ⊢
      obtain ⟨len, hlenq⟩ : ∃ len, l.length = len := ⟨_, rfl⟩
      rw [hlenq] at HA HR VU hl0 ⊢
      clear hx hk hcp ha hE h0 hR hlenq hlen
      go_enter Tryd.func25, Tryd.ntmps25
      go_upto_region 1 with (fail)
      try rw [hU]
      try rw [hD]
      clear hU hD hz
      go_wp2_with (first
        | (go_at_call 12; refine HA.out.mono ?_; rintro e w1 ⟨rfl, g1⟩; have B1 : Hid (Below U.heap.size U w1) := g1; clear g1)
        | (go_at_call 41; refine (HR.out w1 (VU.out.below B1.out) (TU.out.below B1.out)).mono ?_; rintro e w2 ⟨rfl, g1⟩; have B2 : Hid (Below U.heap.size U w2) := B1.out.trans (g1.mono B1.out.size); clear g1)
        | (refine wpList_store_mid rfl 33 (.tmp 2) (.tmp 14) rfl D 0 (nc R).toArray rfl rfl (by rw [nc_size HL.out]; exact (NO.out w2 B2.out).2.2) (by rw [List.size_toArray]; exact size_nc HL.out) (nc_one _) ?_; simp only [List.toList_toArray]))
      have qq : (w2.setCells D 0 (nc R)).rangeAt D 0 (nc R) := World.rangeAt_setCells_same _ _ _ _ (by rw [nc_length HL.out]; exact (NO.out w2 B2.out).2.2)
      have hbl : Below w.heap.size w (w2.setCells D 0 (nc R)) := below_setCells (by rw [HD.out]; exact Nat.le_refl _) _ _ (BU.out.trans (B2.out.mono BU.out.size))
      refine bodyPost_ret (v := .tuple #[.agg (nc R).toArray, .int .i64 0]) ?_ rfl ⟨rfl, hbl⟩
      simp only [results, Tryd.results25]
      simp [Act.put, asAddr, run_loadVar_mid _ D 0 33 (nc R) _ qq Tryd.underlying33 rfl (size_nc HL.out)]
end Go.Proofs.YtpojalbpekbfdabDoor
