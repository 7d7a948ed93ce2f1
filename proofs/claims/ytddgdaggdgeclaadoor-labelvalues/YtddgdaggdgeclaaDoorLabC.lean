/- Values of lists of devices, and the mark: hashed, Value, Mark; the reference's Hashes, Text, Value, Mark. -/
import Derived.Test.YtddgdaggdgeclaaDoorLabB
namespace Go.Proofs.YtddgdaggdgeclaaDoor
open Go Go.RowKit
set_option linter.unusedSimpArgs false
set_option linter.unusedVariables false
set_option maxRecDepth 100000

theorem YS.dd {w : World} {v : Value} {ds : List (List Int)} (h : YS w v ds) (hk : ∀ x ∈ ds, L32 x) : DD w v ds := by
  obtain ⟨ad, cap, rfl, hc, hx⟩ := h
  have hmi : ∀ i, (hi : i < ds.length) → L32 (mi ds i) := fun i hi => by rw [mi_get hi]; exact hk _ (List.getElem_mem hi)
  refine ⟨ad, cap, rfl, fun i hi => ⟨(hmi i hi).len, (hmi i hi).byt⟩, ?_⟩
  rcases hx with ⟨h0, _⟩ | ⟨b, o, rfl, hlt, hm⟩
  · exact .inl h0
  · refine .inr ⟨b, o, rfl, hlt, fun i hi j hj => ?_⟩
    have := hm i (mi ds i) (by rw [mi_get hi]; exact List.getElem?_eq_getElem hi) j _ (bv_get _ (by rw [(hmi i hi).len]; exact hj))
    rwa [show o + i * 32 + j = o + (i * 32 + j) by omega] at this
/-- The devices' bytes, one behind the other. -/
def cat (ds : List (List Int)) : List Int := ds.flatMap id
theorem cat_snoc {ds : List (List Int)} {k : Nat} {x : List Int} (h : ds[k]? = some x) : cat (ds.take (k + 1)) = cat (ds.take k) ++ x := by
  have : ds.take (k + 1) = ds.take k ++ [x] := by rw [List.take_add_one, h]; rfl
  rw [this]; simp [cat]
theorem cat_len : ∀ {ds : List (List Int)}, (∀ x ∈ ds, L32 x) → (cat ds).length = ds.length * 32
  | [], _ => rfl
  | a :: r, h => by
    have ih := cat_len (ds := r) (fun x hx => h x (List.mem_cons_of_mem _ hx))
    have e : cat (a :: r) = a ++ cat r := rfl
    rw [e, List.length_append, ih, (h a List.mem_cons_self).len, List.length_cons]; omega
theorem cat_byt {ds : List (List Int)} (hk : ∀ x ∈ ds, L32 x) : Byt (cat ds) := fun z hz => by
  obtain ⟨x, hx, h⟩ := List.mem_flatMap.1 hz
  exact (hk x hx).byt z h
def dvs (ds : List (List Int)) : List (List Int) := [[100, 101, 118, 105, 99, 101, 115], cat ds]
def stl : List (List Int) := [[115, 116, 97, 108, 101]]
theorem encB_byt {xss : List (List Int)} (h : ∀ m ∈ xss, Byt m) : Byt (encB xss) := by
  cases hb : big xss with
  | true => rw [(encE_big hb).2]; exact Byt.nil
  | false =>
    rw [(encE_ok hb).2, encK_fl _ _ (Nat.le_refl _)]
    exact (be_byt4 _).append (fl_byt (fun m hm => h m (List.mem_of_mem_take hm)))
theorem encB_small (xss : List (List Int)) : (encB xss).length ≤ 1048576 := by
  cases hb : big xss with
  | true => rw [(encE_big hb).2]; simp
  | false => rw [(encE_ok hb).2, encK_length]; exact (small_of hb).2
theorem word_byt {l : List Int} (h : l.all (fun z => decide (0 ≤ z ∧ z ≤ 255)) = true) : Byt l := fun z hz => of_decide_eq_true (List.all_eq_true.1 h z hz)
theorem dvs_byt {ds : List (List Int)} (hk : ∀ x ∈ ds, L32 x) : ∀ m ∈ dvs ds, Byt m := fun m hm => by
  simp only [dvs, List.mem_cons, List.not_mem_nil, or_false] at hm
  rcases hm with rfl | rfl
  · exact word_byt (by decide)
  · exact cat_byt hk
theorem stl_byt : ∀ m ∈ stl, Byt m := fun m hm => by
  simp only [stl, List.mem_cons, List.not_mem_nil, or_false] at hm
  subst hm
  exact word_byt (by decide)
theorem dev_len {ds : List (List Int)} (h : devB ds = true) : ds.length ≤ 8 := by
  unfold devB at h
  rw [Bool.and_eq_true] at h
  exact of_decide_eq_true h.1
theorem dvs_lens {ds : List (List Int)} (hk : ∀ x ∈ ds, L32 x) (h : ds.length ≤ 8) : Lens (dvs ds) := fun i hi => by
  have hi' : i < 2 := hi
  have := cat_len hk
  rcases (show i = 0 ∨ i = 1 by omega) with rfl | rfl
  · simp [mi, dvs]
  · simp [mi, dvs]; omega
theorem stl_lens : Lens stl := fun i hi => by
  have hi' : i < 1 := hi
  obtain rfl : i = 0 := by omega
  simp [mi, stl]
theorem encB_len {xss : List (List Int)} : (encB xss).length ≤ 1000000 ∨ 1000000 < (encB xss).length := by omega
theorem dvs_sz {ds : List (List Int)} (hk : ∀ x ∈ ds, L32 x) (h : ds.length ≤ 8) : (encB (dvs ds)).length ≤ 1000000 := by
  cases hb : big (dvs ds) with
  | true => rw [(encE_big hb).2]; simp
  | false =>
    rw [(encE_ok hb).2, encK_length]
    have := cat_len hk
    show sz (dvs ds) 2 ≤ _
    have e0 : mi (dvs ds) 0 = [100, 101, 118, 105, 99, 101, 115] := rfl
    have e1 : mi (dvs ds) 1 = cat ds := rfl
    simp only [sz, e0, e1]
    simp; omega
theorem stl_sz : (encB stl).length ≤ 1000000 := by
  cases hb : big stl with
  | true => rw [(encE_big hb).2]; simp
  | false =>
    rw [(encE_ok hb).2, encK_length]
    show sz stl 1 ≤ _
    have e0 : mi stl 0 = [115, 116, 97, 108, 101] := rfl
    simp only [sz, e0]
    simp
/-- What a list of devices is worth. -/
def vlV (ds : List (List Int)) : List Int := hs (encB (dvs ds))
def vlR (ds : List (List Int)) : List Int := if devB ds = true then vlV ds else z32
def vlE (ds : List (List Int)) : Int := if devB ds = true then 0 else 1
def mkV : List Int := hs (encB stl)
theorem vl_yes {ds : List (List Int)} (h : devB ds = true) : vlR ds = vlV ds ∧ vlE ds = 0 := by unfold vlR vlE; rw [h]; exact ⟨rfl, rfl⟩
theorem vl_no {ds : List (List Int)} (h : devB ds = false) : vlR ds = z32 ∧ vlE ds = 1 := by unfold vlR vlE; rw [h]; exact ⟨rfl, rfl⟩
theorem vlR_l32 (ds : List (List Int)) : L32 (vlR ds) := by
  unfold vlR
  split
  · exact hs_l32 _
  · exact z32_l32
theorem sl_range {w : World} {b o : Nat} {x : List Int} (h : L32 x) (hr : w.rangeAt b o (bv x)) (hb : b < w.heap.size) : Sl w (.slice (some ⟨b, o, none⟩) 32 32) x :=
  ⟨_, 32, by rw [h.len], by rw [h.len]; omega, .inr ⟨b, o, rfl, hb, fun i hi => hr i _ (bv_get x hi)⟩⟩
theorem ll_two {w : World} {ds : List (List Int)} {v0 v1 : Value} (h0 : Sl w v0 [100, 101, 118, 105, 99, 101, 115]) (h1 : Sl w v1 (cat ds)) :
    LL (w.alloc (.cells #[v0, v1] 30)) (.slice (some ⟨w.heap.size, 0, none⟩) 2 2) (dvs ds) ∧ Below w.heap.size w (w.alloc (.cells #[v0, v1] 30)) := by
  have hbl : Below w.heap.size w (w.alloc (.cells #[v0, v1] 30)) := (Below.refl _ w).alloc (Nat.le_refl _) _
  refine ⟨⟨_, 2, rfl, Nat.le_refl _, .inr ⟨w.heap.size, 0, rfl, by simp, fun i hi => ?_⟩⟩, hbl⟩
  have hi' : i < 2 := hi
  rw [Nat.zero_add, cell_alloc]
  rcases (show i = 0 ∨ i = 1 by omega) with rfl | rfl
  · exact ⟨_, rfl, h0.below hbl (Nat.le_refl _)⟩
  · exact ⟨_, rfl, h1.below hbl (Nat.le_refl _)⟩
theorem ll_one {w : World} {v0 : Value} (h0 : Sl w v0 [115, 116, 97, 108, 101]) :
    LL (w.alloc (.cells #[v0] 30)) (.slice (some ⟨w.heap.size, 0, none⟩) 1 1) stl ∧ Below w.heap.size w (w.alloc (.cells #[v0] 30)) := by
  have hbl : Below w.heap.size w (w.alloc (.cells #[v0] 30)) := (Below.refl _ w).alloc (Nat.le_refl _) _
  refine ⟨⟨_, 1, rfl, Nat.le_refl _, .inr ⟨w.heap.size, 0, rfl, by simp, fun i hi => ?_⟩⟩, hbl⟩
  have hi' : i < 1 := hi
  obtain rfl : i = 0 := by omega
  rw [Nat.zero_add, cell_alloc]
  exact ⟨_, rfl, h0.below hbl (Nat.le_refl _)⟩
theorem sl_c7 (w : World) : Sl (w.alloc (.cells #[.int .u8 100, .int .u8 101, .int .u8 118, .int .u8 105, .int .u8 99, .int .u8 101, .int .u8 115] 5 (7, 8))) (.slice (some ⟨w.heap.size, 0, none⟩) 7 7) [100, 101, 118, 105, 99, 101, 115] := by
  refine ⟨_, 7, rfl, Nat.le_refl _, .inr ⟨w.heap.size, 0, rfl, by simp, fun i hi => ?_⟩⟩
  have hi' : i < 7 := hi
  rw [Nat.zero_add, cell_alloc]
  rcases (show i = 0 ∨ i = 1 ∨ i = 2 ∨ i = 3 ∨ i = 4 ∨ i = 5 ∨ i = 6 by omega) with rfl | rfl | rfl | rfl | rfl | rfl | rfl <;> rfl
theorem sl_m5 (w : World) : Sl (w.alloc (.cells #[.int .u8 115, .int .u8 116, .int .u8 97, .int .u8 108, .int .u8 101] 5 (5, 6))) (.slice (some ⟨w.heap.size, 0, none⟩) 5 5) [115, 116, 97, 108, 101] := by
  refine ⟨_, 5, rfl, Nat.le_refl _, .inr ⟨w.heap.size, 0, rfl, by simp, fun i hi => ?_⟩⟩
  have hi' : i < 5 := hi
  rw [Nat.zero_add, cell_alloc]
  rcases (show i = 0 ∨ i = 1 ∨ i = 2 ∨ i = 3 ∨ i = 4 by omega) with rfl | rfl | rfl | rfl | rfl <;> rfl
set_option maxHeartbeats 2000000 in
theorem hashed_any (xss : List (List Int)) (H : List Int) (hH : hs (encB xss) = H) (hb : ∀ m ∈ xss, Byt m) (hL : Lens xss) (hn : xss.length ≤ 140737488355328) (v : Value) (w : World) (hv : LL w v xss) (hT : Tb w) :
    Calls Tryd.prog 11 #[v] w fun e w' => e = .returned (.agg (bv H).toArray) ∧ Below w.heap.size w w' := by
  have HL : Hid (L32 H) := by rw [← hH]; exact hs_l32 _
  have HB : Hid (Byt (encB xss)) := encB_byt hb
  have HN : Hid ((encB xss).length ≤ 140737488355328) := Nat.le_trans (encB_small xss) (by omega)
  have HH : Hid (hs (encB xss) = H) := hH
  have hz := zero_32
  rw [show List.replicate 32 (0 : Int) = z32 from rfl] at hz
  have rz : (w.alloc (.cells (bv z32).toArray 24)).heap[w.heap.size]? = some (.cells (bv z32).toArray 24 (0, 0)) := by show (w.heap.push _)[w.heap.size]? = _; simp
  have rl : Below w.heap.size w (w.alloc (.cells (bv z32).toArray 24)) := (Below.refl _ w).alloc (Nat.le_refl _) _
  have rs : (w.alloc (.cells (bv z32).toArray 24)).heap.size = w.heap.size + 1 := by simp
  have HBZ : Hid (∀ W : World, (Instr.build 24 #[]).run Tryd.prog W = .ok (.agg (bv z32).toArray) W) := build_32
  obtain ⟨Z, hZ⟩ : ∃ Z, (bv z32).toArray = Z := ⟨_, rfl⟩
  have HZ : Hid ((bv z32).toArray = Z) := hZ
  have hZs : Z.size = 32 := by rw [← hZ]; simp [bv, z32]
  have HZS : Hid (Z.size = 32) := hZs
  rw [hZ] at hz rz rl rs
  clear hZ
  obtain ⟨U, hU⟩ : ∃ U, w.alloc (.cells Z 24) = U := ⟨_, rfl⟩
  rw [hU] at rz rl rs
  have BU : Hid (Below w.heap.size w U) := rl
  obtain ⟨D, hD⟩ : ∃ D, w.heap.size = D := ⟨_, rfl⟩
  have HD : Hid (w.heap.size = D) := hD
  rw [hD] at rz rs
  have RZ : Hid (U.heap[D]? = some (.cells Z 24 (0, 0))) := rz
  have SU : Hid (U.heap.size = D + 1) := rs
  have HTH : Hid (∀ w1 : World, Below U.heap.size U w1 → w1.there D 0 32) := fun w1 B1 => there_of_row' ((B1.block _ (by have := SU.out; omega)).trans RZ.out) 0 32 (by rw [HZS.out]; exact Nat.le_refl _)
  clear rz rl rs hZs
  have HTU : Hid (Tb U) := hT.below BU.out
  have HE : Hid (Calls Tryd.prog 17 #[v] U fun e w' => ∃ v', e = .returned (.tuple #[v', .int .i64 (encE xss)]) ∧ Ow U.heap.size w' v' (encB xss) ∧ Below U.heap.size U w') := encode_any xss v U (hv.below BU.out) hL hn
  clear hH hb hL hn hv hT
  go_enter Tryd.func11, Tryd.ntmps11
  go_upto_region 1 with (fail)
  try rw [hU]
  try rw [hD]
  clear hU hD hz
  go_wp2_with (first
    | (go_at_call 17; refine HE.out.mono ?_; rintro e w1 ⟨v1, rfl, g1, g2⟩; have O1 : Hid (Ow U.heap.size w1 v1 (encB xss)) := g1; have B1 : Hid (Below U.heap.size U w1) := g2; clear g1 g2)
    | (go_at_call 21; refine (sum256_sl (encB xss) H v1 HH.out HN.out w1 (HTU.out.below B1.out) HB.out O1.out.sq).mono ?_; rintro e w2 ⟨rfl, g1⟩; have B2 : Hid (Below U.heap.size U w2) := Below.tr' B1.out g1; clear g1)
    | (refine wpList_store_mid rfl 24 (.tmp 2) (.tmp 11) rfl D 0 (bv H).toArray rfl rfl (by rw [List.size_toArray, bv_length, HL.out.len]; exact HTH.out w2 B2.out) (by rw [List.size_toArray]; exact size_l32 HL.out) (bv_one' _) ?_; simp only [List.toList_toArray]))
  have qq : (w2.setCells D 0 (bv H)).rangeAt D 0 (bv H) := World.rangeAt_setCells_same _ _ _ _ (by rw [bv_length, HL.out.len]; exact HTH.out w2 B2.out)
  have hbl : Below w.heap.size w (w2.setCells D 0 (bv H)) := below_setCells (by rw [HD.out]; exact Nat.le_refl _) _ _ (BU.out.trans (B2.out.mono BU.out.size))
  refine bodyPost_ret (v := .agg (bv H).toArray) ?_ rfl ⟨rfl, hbl⟩
  simp only [results, Tryd.results11]
  simp [Act.put, asAddr, run_loadVar_mid _ D 0 24 (bv H) _ qq Tryd.underlying24 rfl (size_l32 HL.out)]
set_option maxHeartbeats 2000000 in
theorem mark_any (w : World) (hT : Tb w) : Calls Tryd.prog 7 #[] w fun e w' => e = .returned (.agg (bv mkV).toArray) ∧ Below w.heap.size w w' := by
  obtain ⟨H, hH⟩ : ∃ H, mkV = H := ⟨_, rfl⟩
  have HH : Hid (hs (encB stl) = H) := hH
  have HL : Hid (L32 H) := by rw [← hH]; exact hs_l32 _
  rw [hH]
  clear hH
  have hz := zero_32
  rw [show List.replicate 32 (0 : Int) = z32 from rfl] at hz
  have rz : (w.alloc (.cells (bv z32).toArray 24)).heap[w.heap.size]? = some (.cells (bv z32).toArray 24 (0, 0)) := by show (w.heap.push _)[w.heap.size]? = _; simp
  have rl : Below w.heap.size w (w.alloc (.cells (bv z32).toArray 24)) := (Below.refl _ w).alloc (Nat.le_refl _) _
  have rs : (w.alloc (.cells (bv z32).toArray 24)).heap.size = w.heap.size + 1 := by simp
  have HBZ : Hid (∀ W : World, (Instr.build 24 #[]).run Tryd.prog W = .ok (.agg (bv z32).toArray) W) := build_32
  obtain ⟨Z, hZ⟩ : ∃ Z, (bv z32).toArray = Z := ⟨_, rfl⟩
  have HZ : Hid ((bv z32).toArray = Z) := hZ
  have hZs : Z.size = 32 := by rw [← hZ]; simp [bv, z32]
  have HZS : Hid (Z.size = 32) := hZs
  rw [hZ] at hz rz rl rs
  clear hZ
  obtain ⟨U, hU⟩ : ∃ U, w.alloc (.cells Z 24) = U := ⟨_, rfl⟩
  rw [hU] at rz rl rs
  have BU : Hid (Below w.heap.size w U) := rl
  obtain ⟨D, hD⟩ : ∃ D, w.heap.size = D := ⟨_, rfl⟩
  have HD : Hid (w.heap.size = D) := hD
  rw [hD] at rz rs
  have RZ : Hid (U.heap[D]? = some (.cells Z 24 (0, 0))) := rz
  have SU : Hid (U.heap.size = D + 1) := rs
  have HTH : Hid (∀ w1 : World, Below U.heap.size U w1 → w1.there D 0 32) := fun w1 B1 => there_of_row' ((B1.block _ (by have := SU.out; omega)).trans RZ.out) 0 32 (by rw [HZS.out]; exact Nat.le_refl _)
  clear rz rl rs hZs
  have HTU : Hid (Tb U) := hT.below BU.out
  have hcv := conv_same 5 5 #[.int .u8 115, .int .u8 116, .int .u8 97, .int .u8 108, .int .u8 101] 5 U
  obtain ⟨U1, hU1⟩ : ∃ X, U.alloc (.cells #[.int .u8 115, .int .u8 116, .int .u8 97, .int .u8 108, .int .u8 101] 5 (5, 6)) = X := ⟨_, rfl⟩
  obtain ⟨E, hE⟩ : ∃ E, U.heap.size = E := ⟨_, rfl⟩
  have S1 : Hid (Sl U1 (.slice (some ⟨E, 0, none⟩) 5 5) [115, 116, 97, 108, 101]) := by rw [← hU1, ← hE]; exact sl_m5 U
  have B1 : Hid (Below U.heap.size U U1) := by rw [← hU1]; exact (Below.refl _ U).alloc (Nat.le_refl _) _
  rw [show (#[Value.int .u8 115, .int .u8 116, .int .u8 97, .int .u8 108, .int .u8 101].size, #[Value.int .u8 115, .int .u8 116, .int .u8 97, .int .u8 108, .int .u8 101].size + 1) = (5, 6) from rfl, hU1, hE] at hcv
  clear hT
  go_enter Tryd.func7, Tryd.ntmps7
  go_upto_region 1 with (fail)
  try rw [hU]
  try rw [hD]
  try rw [hE]
  clear hU hD hz hU1
  have HLL : Hid (LL (U1.alloc (.cells #[.slice (some ⟨E, 0, none⟩) 5 5] 30)) (.slice (some ⟨U1.heap.size, 0, none⟩) 1 1) stl ∧ Below U1.heap.size U1 (U1.alloc (.cells #[.slice (some ⟨E, 0, none⟩) 5 5] 30))) := ll_one S1.out
  have BW : Hid (Below U.heap.size U (U1.alloc (.cells #[.slice (some ⟨E, 0, none⟩) 5 5] 30))) := Below.tr' B1.out HLL.out.2
  have HLEN : Hid (stl.length ≤ 140737488355328) := by show (1 : Nat) ≤ _; omega
  go_wp2_with (first
    | (go_at_call 11; refine (hashed_any stl H HH.out stl_byt stl_lens HLEN.out _ _ HLL.out.1 (HTU.out.below BW.out)).mono ?_; rintro e w2 ⟨rfl, g1⟩; have B2 : Hid (Below U.heap.size U w2) := Below.tr' BW.out g1; clear g1)
    | (refine wpList_store_mid rfl 24 (.tmp 0) (.tmp 4) rfl D 0 (bv H).toArray rfl rfl (by rw [List.size_toArray, bv_length, HL.out.len]; exact HTH.out w2 B2.out) (by rw [List.size_toArray]; exact size_l32 HL.out) (bv_one' _) ?_; simp only [List.toList_toArray]))
  have qq : (w2.setCells D 0 (bv H)).rangeAt D 0 (bv H) := World.rangeAt_setCells_same _ _ _ _ (by rw [bv_length, HL.out.len]; exact HTH.out w2 B2.out)
  have hbl : Below w.heap.size w (w2.setCells D 0 (bv H)) := below_setCells (by rw [HD.out]; exact Nat.le_refl _) _ _ (BU.out.trans (B2.out.mono BU.out.size))
  refine bodyPost_ret (v := .agg (bv H).toArray) ?_ rfl ⟨rfl, hbl⟩
  simp only [results, Tryd.results7]
  simp [Act.put, asAddr, run_loadVar_mid _ D 0 24 (bv H) _ qq Tryd.underlying24 rfl (size_l32 HL.out)]
set_option maxHeartbeats 2000000 in
theorem rmark_any (w : World) (hT : Tb w) : Calls Tryd.prog 8 #[] w fun e w' => e = .returned (.agg (bv mkV).toArray) ∧ Below w.heap.size w w' := by
  obtain ⟨H, hH⟩ : ∃ H, mkV = H := ⟨_, rfl⟩
  have HH : Hid (hs (encB stl) = H) := hH
  have HL : Hid (L32 H) := by rw [← hH]; exact hs_l32 _
  rw [hH]
  clear hH
  have hz := zero_32
  rw [show List.replicate 32 (0 : Int) = z32 from rfl] at hz
  have rz : (w.alloc (.cells (bv z32).toArray 24)).heap[w.heap.size]? = some (.cells (bv z32).toArray 24 (0, 0)) := by show (w.heap.push _)[w.heap.size]? = _; simp
  have rl : Below w.heap.size w (w.alloc (.cells (bv z32).toArray 24)) := (Below.refl _ w).alloc (Nat.le_refl _) _
  have rs : (w.alloc (.cells (bv z32).toArray 24)).heap.size = w.heap.size + 1 := by simp
  have HBZ : Hid (∀ W : World, (Instr.build 24 #[]).run Tryd.prog W = .ok (.agg (bv z32).toArray) W) := build_32
  obtain ⟨Z, hZ⟩ : ∃ Z, (bv z32).toArray = Z := ⟨_, rfl⟩
  have HZ : Hid ((bv z32).toArray = Z) := hZ
  have hZs : Z.size = 32 := by rw [← hZ]; simp [bv, z32]
  have HZS : Hid (Z.size = 32) := hZs
  rw [hZ] at hz rz rl rs
  clear hZ
  obtain ⟨U, hU⟩ : ∃ U, w.alloc (.cells Z 24) = U := ⟨_, rfl⟩
  rw [hU] at rz rl rs
  have BU : Hid (Below w.heap.size w U) := rl
  obtain ⟨D, hD⟩ : ∃ D, w.heap.size = D := ⟨_, rfl⟩
  have HD : Hid (w.heap.size = D) := hD
  rw [hD] at rz rs
  have RZ : Hid (U.heap[D]? = some (.cells Z 24 (0, 0))) := rz
  have SU : Hid (U.heap.size = D + 1) := rs
  have HTH : Hid (∀ w1 : World, Below U.heap.size U w1 → w1.there D 0 32) := fun w1 B1 => there_of_row' ((B1.block _ (by have := SU.out; omega)).trans RZ.out) 0 32 (by rw [HZS.out]; exact Nat.le_refl _)
  clear rz rl rs hZs
  have HTU : Hid (Tb U) := hT.below BU.out
  have hcv := conv_same 5 5 #[.int .u8 115, .int .u8 116, .int .u8 97, .int .u8 108, .int .u8 101] 5 U
  obtain ⟨U1, hU1⟩ : ∃ X, U.alloc (.cells #[.int .u8 115, .int .u8 116, .int .u8 97, .int .u8 108, .int .u8 101] 5 (5, 6)) = X := ⟨_, rfl⟩
  obtain ⟨E, hE⟩ : ∃ E, U.heap.size = E := ⟨_, rfl⟩
  have S1 : Hid (Sl U1 (.slice (some ⟨E, 0, none⟩) 5 5) [115, 116, 97, 108, 101]) := by rw [← hU1, ← hE]; exact sl_m5 U
  have B1 : Hid (Below U.heap.size U U1) := by rw [← hU1]; exact (Below.refl _ U).alloc (Nat.le_refl _) _
  rw [show (#[Value.int .u8 115, .int .u8 116, .int .u8 97, .int .u8 108, .int .u8 101].size, #[Value.int .u8 115, .int .u8 116, .int .u8 97, .int .u8 108, .int .u8 101].size + 1) = (5, 6) from rfl, hU1, hE] at hcv
  clear hT
  go_enter Tryd.func8, Tryd.ntmps8
  go_upto_region 1 with (fail)
  try rw [hU]
  try rw [hD]
  try rw [hE]
  clear hU hD hz hU1
  have HLL : Hid (LL (U1.alloc (.cells #[.slice (some ⟨E, 0, none⟩) 5 5] 30)) (.slice (some ⟨U1.heap.size, 0, none⟩) 1 1) stl ∧ Below U1.heap.size U1 (U1.alloc (.cells #[.slice (some ⟨E, 0, none⟩) 5 5] 30))) := ll_one S1.out
  have BW : Hid (Below U.heap.size U (U1.alloc (.cells #[.slice (some ⟨E, 0, none⟩) 5 5] 30))) := Below.tr' B1.out HLL.out.2
  have HLEN : Hid (stl.length ≤ 140737488355328) := by show (1 : Nat) ≤ _; omega
  go_wp2_with (first
    | (go_at_call 15; refine (rencode_any stl _ _ HLL.out.1 stl_lens HLEN.out).mono ?_; rintro e w1 ⟨v1, rfl, g1, g2⟩; have O1 : Hid (Sq w1 v1 (encB stl)) := g1.sq; have BB1 : Hid (Below U.heap.size U w1) := Below.tr' BW.out g2; clear g1 g2)
    | (go_at_call 13; refine (rsum_sl (encB stl) H v1 HH.out stl_sz w1 (encB_byt stl_byt) O1.out).mono ?_; rintro e w2 ⟨rfl, g1⟩; have B2 : Hid (Below U.heap.size U w2) := Below.tr' BB1.out g1; clear g1)
    | (refine wpList_store_mid rfl 24 (.tmp 0) (.tmp 11) rfl D 0 (bv H).toArray rfl rfl (by rw [List.size_toArray, bv_length, HL.out.len]; exact HTH.out w2 B2.out) (by rw [List.size_toArray]; exact size_l32 HL.out) (bv_one' _) ?_; simp only [List.toList_toArray]))
  have qq : (w2.setCells D 0 (bv H)).rangeAt D 0 (bv H) := World.rangeAt_setCells_same _ _ _ _ (by rw [bv_length, HL.out.len]; exact HTH.out w2 B2.out)
  have hbl : Below w.heap.size w (w2.setCells D 0 (bv H)) := below_setCells (by rw [HD.out]; exact Nat.le_refl _) _ _ (BU.out.trans (B2.out.mono BU.out.size))
  refine bodyPost_ret (v := .agg (bv H).toArray) ?_ rfl ⟨rfl, hbl⟩
  simp only [results, Tryd.results8]
  simp [Act.put, asAddr, run_loadVar_mid _ D 0 24 (bv H) _ qq Tryd.underlying24 rfl (size_l32 HL.out)]
set_option maxHeartbeats 2000000 in
theorem rhashes_any (ds : List (List Int)) (hk : ∀ x ∈ ds, L32 x) (hlen : ds.length ≤ 4300000000000) (v : Value) (w : World) (hv : YS w v ds) :
    Calls Tryd.prog 26 #[v] w fun e w' => ∃ v', e = .returned v' ∧ Ow w.heap.size w' v' (cat ds) ∧ Below w.heap.size w w' := by
  obtain ⟨ad, cap, rfl, hc, hx⟩ := hv
  have HX : Hid ((ds = [] ∧ (ad = none → cap = 0)) ∨ ∃ b o, ad = some ⟨b, o, none⟩ ∧ b < w.heap.size ∧ ∀ (i : Nat) (x : List Int), ds[i]? = some x → w.rangeAt b (o + i * 32) (bv x)) := hx
  have HK : Hid (∀ x ∈ ds, L32 x) := hk
  have HC : Hid (∀ k, (cat (ds.take k)).length ≤ 137600000000000) := fun k => by
    show _ ≤ _
    rw [cat_len (fun x hx => hk x (List.mem_of_mem_take hx)), List.length_take]; omega
  clear hx hk
  obtain ⟨n, hn⟩ : ∃ n, ds.length = n := ⟨_, rfl⟩
  have HN : Hid (ds.length = n) := hn
  rw [hn] at hc hlen ⊢
  clear hn
  go_enter Tryd.func26, Tryd.ntmps26
  go_wp2_with fail
  go_loopw [3, 7] (fun ov i wr => ∃ k : Nat, k ≤ n ∧ i = .int .i64 (k : Int) ∧ Ow w.heap.size wr ov (cat (ds.take k)) ∧ Below w.heap.size w wr) (fun _ i _ => n - (intOf i).toNat)
  case atStart => exact ⟨0, Nat.zero_le _, rfl, Ow.nil _ _, Below.refl _ _⟩
  case round =>
    obtain ⟨k, hkn, rfl, h1, h2⟩ := hrel
    have O1 : Hid (Ow w.heap.size wr _ (cat (ds.take k))) := h1
    have B1 : Hid (Below w.heap.size w wr) := h2
    clear h1 h2
    by_cases hlt : k < n
    · obtain ⟨x, hx⟩ : ∃ x, ds[k]? = some x := ⟨ds[k]'(by rw [HN.out]; exact hlt), List.getElem?_eq_getElem (by rw [HN.out]; exact hlt)⟩
      have HXK : Hid (ds[k]? = some x) := hx
      have HX32 : Hid (L32 x) := HK.out x (List.mem_of_getElem? hx)
      rcases HX.out with ⟨h0, _⟩ | ⟨b, o, rfl, hlb, hm⟩
      · rw [h0] at hx; simp at hx
      · have SX : Hid (Sl wr (.slice (some ⟨b, o + k * 32, none⟩) 32 32) x) := sl_range HX32.out (range_below (hm k x hx) B1.out hlb) (Nat.lt_of_lt_of_le hlb B1.out.size)
        have HLX : Hid ((cat (ds.take k)).length + x.length ≤ 140737488355328) := by show _ ≤ _; have := HC.out k; have := HX32.out.len; omega
        clear hm hlb hx
        go_wp2_with (at_builtin; refine app_u8 (B0 := w.heap.size) rfl _ _ rfl B1.out.size _ (cat (ds.take k)) rfl O1.out _ rfl x SX.out HLX.out ?_; intro v3 w3 q1 q2 q3 q4; have O3 : Hid (Ow w.heap.size w3 v3 (cat (ds.take k) ++ x)) := q1; have B3 : Hid (Below w.heap.size w w3) := B1.out.trans q3; clear q1 q2 q3 q4)
        exact ⟨⟨k + 1, hlt, by go_num, by rw [cat_snoc HXK.out]; exact O3.out, B3.out⟩, by simp [intOf]; omega⟩
    · obtain rfl : k = n := by omega
      have e : ds.take k = ds := by rw [← HN.out]; exact List.take_length
      have O2 : Hid (Ow w.heap.size wr u3 (cat ds)) := by have := O1.out; rw [e] at this; exact this
      clear e
      go_wp2_with fail
      go_ret
      exact ⟨_, rfl, O2.out, B1.out⟩
set_option maxHeartbeats 2000000 in
theorem rtext_any (ds : List (List Int)) (hk : ∀ x ∈ ds, L32 x) (h8 : ds.length ≤ 8) (v : Value) (w : World) (hv : YS w v ds) :
    Calls Tryd.prog 14 #[v] w fun e w' => ∃ v', e = .returned v' ∧ Sq w' v' (encB (dvs ds)) ∧ Below w.heap.size w w' := by
  have HL : Hid (Lens (dvs ds)) := dvs_lens hk h8
  have HLEN : Hid ((dvs ds).length ≤ 140737488355328) := by show (2 : Nat) ≤ _; omega
  have hcv := conv_same 7 7 #[.int .u8 100, .int .u8 101, .int .u8 118, .int .u8 105, .int .u8 99, .int .u8 101, .int .u8 115] 5 w
  obtain ⟨U1, hU1⟩ : ∃ X, w.alloc (.cells #[.int .u8 100, .int .u8 101, .int .u8 118, .int .u8 105, .int .u8 99, .int .u8 101, .int .u8 115] 5 (7, 8)) = X := ⟨_, rfl⟩
  obtain ⟨E, hE⟩ : ∃ E, w.heap.size = E := ⟨_, rfl⟩
  have S1 : Hid (Sl U1 (.slice (some ⟨E, 0, none⟩) 7 7) [100, 101, 118, 105, 99, 101, 115]) := by rw [← hU1, ← hE]; exact sl_c7 w
  have B1 : Hid (Below w.heap.size w U1) := by rw [← hU1]; exact (Below.refl _ w).alloc (Nat.le_refl _) _
  rw [show (#[Value.int .u8 100, .int .u8 101, .int .u8 118, .int .u8 105, .int .u8 99, .int .u8 101, .int .u8 115].size, #[Value.int .u8 100, .int .u8 101, .int .u8 118, .int .u8 105, .int .u8 99, .int .u8 101, .int .u8 115].size + 1) = (7, 8) from rfl, hU1, hE] at hcv
  have HC : Hid (Calls Tryd.prog 26 #[v] U1 fun e w' => ∃ v', e = .returned v' ∧ Ow U1.heap.size w' v' (cat ds) ∧ Below U1.heap.size U1 w') := rhashes_any ds hk (by omega) v U1 (hv.below B1.out)
  clear hk h8 hv
  go_enter Tryd.func14, Tryd.ntmps14
  go_upto_region 1 with (fail)
  try rw [hE]
  clear hU1
  go_wp2_with (go_at_call 26; refine HC.out.mono ?_; rintro e w2 ⟨v2, rfl, g1, g2⟩; obtain ⟨a2, c2, e2, -, -⟩ := g1.sl; obtain ⟨n2, hn2⟩ : ∃ n, (cat ds).length = n := ⟨_, rfl⟩; rw [hn2] at e2; subst e2; have S2 : Hid (Sl w2 (.slice a2 n2 c2) (cat ds)) := g1.sl; have B2 : Hid (Below U1.heap.size U1 w2) := g2; clear g1 g2 hn2)
  have hq := ll_two (ds := ds) (S1.out.below B2.out (Nat.le_refl _)) S2.out
  refine (rencode_any (dvs ds) _ _ hq.1 HL.out HLEN.out).mono ?_
  rintro e w3 ⟨v3, rfl, g1, g2⟩
  have S3 : Hid (Sq w3 v3 (encB (dvs ds))) := g1.sq
  have B3 : Hid (Below w.heap.size w w3) := Below.tr' B1.out (Below.tr' B2.out (Below.tr' hq.2 g2))
  clear g1 g2 hq
  go_wp2_with fail
  go_ret
  exact ⟨_, rfl, S3.out, B3.out⟩
set_option maxHeartbeats 4000000 in
theorem rvalue_any (ds : List (List Int)) (hk : ∀ x ∈ ds, L32 x) (hlen : ds.length ≤ 4400000000000) (v : Value) (w : World) (hv : YS w v ds) (hT : Tb w) :
    Calls Tryd.prog 6 #[v] w fun e w' => e = .returned (.tuple #[.agg (bv (vlR ds)).toArray, .int .i64 (vlE ds)]) ∧ Below w.heap.size w w' := by
  have hz := zero_32
  rw [show List.replicate 32 (0 : Int) = z32 from rfl] at hz
  have rz : (w.alloc (.cells (bv z32).toArray 24)).heap[w.heap.size]? = some (.cells (bv z32).toArray 24 (0, 0)) := by show (w.heap.push _)[w.heap.size]? = _; simp
  have rl : Below w.heap.size w (w.alloc (.cells (bv z32).toArray 24)) := (Below.refl _ w).alloc (Nat.le_refl _) _
  have rs : (w.alloc (.cells (bv z32).toArray 24)).heap.size = w.heap.size + 1 := by simp
  have HBZ : Hid (∀ W : World, (Instr.build 24 #[]).run Tryd.prog W = .ok (.agg (bv z32).toArray) W) := build_32
  obtain ⟨Z, hZ⟩ : ∃ Z, (bv z32).toArray = Z := ⟨_, rfl⟩
  have HZ : Hid ((bv z32).toArray = Z) := hZ
  have hZs : Z.size = 32 := by rw [← hZ]; simp [bv, z32]
  have HZS : Hid (Z.size = 32) := hZs
  rw [hZ] at hz rz rl rs
  clear hZ
  obtain ⟨U, hU⟩ : ∃ U, w.alloc (.cells Z 24) = U := ⟨_, rfl⟩
  rw [hU] at rz rl rs
  have BU : Hid (Below w.heap.size w U) := rl
  obtain ⟨D, hD⟩ : ∃ D, w.heap.size = D := ⟨_, rfl⟩
  have HD : Hid (w.heap.size = D) := hD
  rw [hD] at rz rs
  have RZ : Hid (U.heap[D]? = some (.cells Z 24 (0, 0))) := rz
  have SU : Hid (U.heap.size = D + 1) := rs
  have HTH : Hid (∀ w1 : World, Below U.heap.size U w1 → w1.there D 0 32) := fun w1 B1 => there_of_row' ((B1.block _ (by have := SU.out; omega)).trans RZ.out) 0 32 (by rw [HZS.out]; exact Nat.le_refl _)
  clear rz rl rs hZs
  have VU : Hid (YS U v ds) := hv.below BU.out
  have HTU : Hid (Tb U) := hT.below BU.out
  have HK : Hid (∀ x ∈ ds, L32 x) := hk
  have HA : Hid (Calls Tryd.prog 12 #[v] U fun e w' => e = .returned (.bool (devB ds)) ∧ Below U.heap.size U w') := rdevices_any ds v U (VU.out.dd hk) (by omega)
  clear hv hT hk
  cases ha : devB ds with
  | false =>
    rw [ha] at HA
    rw [(vl_no ha).1, (vl_no ha).2]
    clear ha
    go_enter Tryd.func6, Tryd.ntmps6
    go_upto_region 1 with (fail)
    try rw [hU]
    try rw [hD]
    clear hU hD hz
    go_upto_region 2 with (go_at_call 12; refine HA.out.mono ?_; rintro e w1 ⟨rfl, g1⟩; have B1 : Hid (Below U.heap.size U w1) := g1; clear g1)
    refine wp_region_list ?_
    refine wp_build0 24 rfl rfl _ (HBZ.out w1) ?_
    refine wpList_store_mid rfl 24 (.tmp 2) (.tmp 7) rfl D 0 (bv z32).toArray rfl rfl (by rw [List.size_toArray, bv_length, z32_l32.len]; exact HTH.out w1 B1.out) (by rw [List.size_toArray]; exact size_l32 z32_l32) (bv_one' _) ?_
    simp only [List.toList_toArray]
    go_wp2_with fail
    have qq : (w1.setCells D 0 (bv z32)).rangeAt D 0 (bv z32) := World.rangeAt_setCells_same _ _ _ _ (by rw [bv_length, z32_l32.len]; exact HTH.out w1 B1.out)
    have hbl : Below w.heap.size w (w1.setCells D 0 (bv z32)) := below_setCells (by rw [HD.out]; exact Nat.le_refl _) _ _ (BU.out.trans (B1.out.mono BU.out.size))
    refine bodyPost_ret (v := .tuple #[.agg (bv z32).toArray, .int .i64 1]) ?_ rfl ⟨rfl, hbl⟩
    simp only [results, Tryd.results6]
    simp [Act.put, asAddr, run_loadVar_mid _ D 0 24 (bv z32) _ qq Tryd.underlying24 rfl (size_l32 z32_l32)]
  | true =>
    rw [ha] at HA
    rw [(vl_yes ha).1, (vl_yes ha).2]
    have h8 := dev_len ha
    obtain ⟨H, hH⟩ : ∃ H, vlV ds = H := ⟨_, rfl⟩
    have HH : Hid (hs (encB (dvs ds)) = H) := hH
    have HL : Hid (L32 H) := by rw [← hH]; exact hs_l32 _
    rw [hH]
    clear hH ha
    go_enter Tryd.func6, Tryd.ntmps6
    go_upto_region 1 with (fail)
    try rw [hU]
    try rw [hD]
    clear hU hD hz
    go_wp2_with (first
      | (go_at_call 12; refine HA.out.mono ?_; rintro e w1 ⟨rfl, g1⟩; have B1 : Hid (Below U.heap.size U w1) := g1; clear g1)
      | (go_at_call 14; refine (rtext_any ds HK.out h8 v w1 (VU.out.below B1.out)).mono ?_; rintro e w2 ⟨v2, rfl, g1, g2⟩; have O2 : Hid (Sq w2 v2 (encB (dvs ds))) := g1; have B2 : Hid (Below U.heap.size U w2) := Below.tr' B1.out g2; clear g1 g2)
      | (go_at_call 13; refine (rsum_sl (encB (dvs ds)) H v2 HH.out (dvs_sz HK.out h8) w2 (encB_byt (dvs_byt HK.out)) O2.out).mono ?_; rintro e w3 ⟨rfl, g1⟩; have B3 : Hid (Below U.heap.size U w3) := Below.tr' B2.out g1; clear g1)
      | (refine wpList_store_mid rfl 24 (.tmp 2) (.tmp 10) rfl D 0 (bv H).toArray rfl rfl (by rw [List.size_toArray, bv_length, HL.out.len]; exact HTH.out w3 B3.out) (by rw [List.size_toArray]; exact size_l32 HL.out) (bv_one' _) ?_; simp only [List.toList_toArray]))
    have qq : (w3.setCells D 0 (bv H)).rangeAt D 0 (bv H) := World.rangeAt_setCells_same _ _ _ _ (by rw [bv_length, HL.out.len]; exact HTH.out w3 B3.out)
    have hbl : Below w.heap.size w (w3.setCells D 0 (bv H)) := below_setCells (by rw [HD.out]; exact Nat.le_refl _) _ _ (BU.out.trans (B3.out.mono BU.out.size))
    refine bodyPost_ret (v := .tuple #[.agg (bv H).toArray, .int .i64 0]) ?_ rfl ⟨rfl, hbl⟩
    simp only [results, Tryd.results6]
    simp [Act.put, asAddr, run_loadVar_mid _ D 0 24 (bv H) _ qq Tryd.underlying24 rfl (size_l32 HL.out)]
set_option maxHeartbeats 4000000 in
theorem value_any (ds : List (List Int)) (hk : ∀ x ∈ ds, L32 x) (hlen : ds.length ≤ 4400000000000) (v : Value) (w : World) (hv : YS w v ds) (hT : Tb w) :
    Calls Tryd.prog 5 #[v] w fun e w' => e = .returned (.tuple #[.agg (bv (vlR ds)).toArray, .int .i64 (vlE ds)]) ∧ Below w.heap.size w w' := by
  have hz := zero_32
  rw [show List.replicate 32 (0 : Int) = z32 from rfl] at hz
  have rz : (w.alloc (.cells (bv z32).toArray 24)).heap[w.heap.size]? = some (.cells (bv z32).toArray 24 (0, 0)) := by show (w.heap.push _)[w.heap.size]? = _; simp
  have rl : Below w.heap.size w (w.alloc (.cells (bv z32).toArray 24)) := (Below.refl _ w).alloc (Nat.le_refl _) _
  have rs : (w.alloc (.cells (bv z32).toArray 24)).heap.size = w.heap.size + 1 := by simp
  have HBZ : Hid (∀ W : World, (Instr.build 24 #[]).run Tryd.prog W = .ok (.agg (bv z32).toArray) W) := build_32
  obtain ⟨Z, hZ⟩ : ∃ Z, (bv z32).toArray = Z := ⟨_, rfl⟩
  have HZ : Hid ((bv z32).toArray = Z) := hZ
  have hZs : Z.size = 32 := by rw [← hZ]; simp [bv, z32]
  have HZS : Hid (Z.size = 32) := hZs
  rw [hZ] at hz rz rl rs
  clear hZ
  obtain ⟨U, hU⟩ : ∃ U, w.alloc (.cells Z 24) = U := ⟨_, rfl⟩
  rw [hU] at rz rl rs
  have BU : Hid (Below w.heap.size w U) := rl
  obtain ⟨D, hD⟩ : ∃ D, w.heap.size = D := ⟨_, rfl⟩
  have HD : Hid (w.heap.size = D) := hD
  rw [hD] at rz rs
  have RZ : Hid (U.heap[D]? = some (.cells Z 24 (0, 0))) := rz
  have SU : Hid (U.heap.size = D + 1) := rs
  have HTH : Hid (∀ w1 : World, Below U.heap.size U w1 → w1.there D 0 32) := fun w1 B1 => there_of_row' ((B1.block _ (by have := SU.out; omega)).trans RZ.out) 0 32 (by rw [HZS.out]; exact Nat.le_refl _)
  clear rz rl rs hZs
  have VU : Hid (YS U v ds) := hv.below BU.out
  have HTU : Hid (Tb U) := hT.below BU.out
  have HK : Hid (∀ x ∈ ds, L32 x) := hk
  have HA : Hid (Calls Tryd.prog 10 #[v] U fun e w' => e = .returned (.bool (devB ds)) ∧ Below U.heap.size U w') := devices_any ds v U (VU.out.dd hk) (by omega)
  clear hv hT hk
  cases ha : devB ds with
  | false =>
    rw [ha] at HA
    rw [(vl_no ha).1, (vl_no ha).2]
    clear ha
    go_enter Tryd.func5, Tryd.ntmps5
    go_upto_region 1 with (fail)
    try rw [hU]
    try rw [hD]
    clear hU hD hz
    go_upto_region 2 with (go_at_call 10; refine HA.out.mono ?_; rintro e w1 ⟨rfl, g1⟩; have B1 : Hid (Below U.heap.size U w1) := g1; clear g1)
    refine wp_region_list ?_
    refine wp_build0 24 rfl rfl _ (HBZ.out w1) ?_
    refine wpList_store_mid rfl 24 (.tmp 2) (.tmp 10) rfl D 0 (bv z32).toArray rfl rfl (by rw [List.size_toArray, bv_length, z32_l32.len]; exact HTH.out w1 B1.out) (by rw [List.size_toArray]; exact size_l32 z32_l32) (bv_one' _) ?_
    simp only [List.toList_toArray]
    go_wp2_with fail
    have qq : (w1.setCells D 0 (bv z32)).rangeAt D 0 (bv z32) := World.rangeAt_setCells_same _ _ _ _ (by rw [bv_length, z32_l32.len]; exact HTH.out w1 B1.out)
    have hbl : Below w.heap.size w (w1.setCells D 0 (bv z32)) := below_setCells (by rw [HD.out]; exact Nat.le_refl _) _ _ (BU.out.trans (B1.out.mono BU.out.size))
    refine bodyPost_ret (v := .tuple #[.agg (bv z32).toArray, .int .i64 1]) ?_ rfl ⟨rfl, hbl⟩
    simp only [results, Tryd.results5]
    simp [Act.put, asAddr, run_loadVar_mid _ D 0 24 (bv z32) _ qq Tryd.underlying24 rfl (size_l32 z32_l32)]
  | true =>
    rw [ha] at HA
    rw [(vl_yes ha).1, (vl_yes ha).2]
    have h8 := dev_len ha
    obtain ⟨H, hH⟩ : ∃ H, vlV ds = H := ⟨_, rfl⟩
    have HH : Hid (hs (encB (dvs ds)) = H) := hH
    have HL : Hid (L32 H) := by rw [← hH]; exact hs_l32 _
    rw [hH]
    clear hH ha
    obtain ⟨ad, cap, hv0, hcap, hx⟩ := id VU.out
    obtain ⟨n, hn⟩ : ∃ n, ds.length = n := ⟨_, rfl⟩
    have HN : Hid (ds.length = n) := hn
    rw [hn] at hv0 hcap h8
    subst hv0
    have HX : Hid ((ds = [] ∧ (ad = none → cap = 0)) ∨ ∃ b o, ad = some ⟨b, o, none⟩ ∧ b < U.heap.size ∧ ∀ (i : Nat) (x : List Int), ds[i]? = some x → U.rangeAt b (o + i * 32) (bv x)) := hx
    have HC : Hid (∀ k, (cat (ds.take k)).length ≤ 256) := fun k => by
      show _ ≤ _
      rw [cat_len (fun x hx => HK.out x (List.mem_of_mem_take hx)), List.length_take, hn]; omega
    have HLE : Hid (Lens (dvs ds)) := dvs_lens HK.out (by rw [hn]; exact h8)
    have HLEN : Hid ((dvs ds).length ≤ 140737488355328) := by show (2 : Nat) ≤ _; omega
    clear hx hn hlen
    go_enter Tryd.func5, Tryd.ntmps5
    go_upto_region 1 with (fail)
    try rw [hU]
    try rw [hD]
    clear hU hD
    go_wp2_with (go_at_call 10; refine HA.out.mono ?_; rintro e w1 ⟨rfl, g1⟩; have B1 : Hid (Below U.heap.size U w1) := g1; clear g1)
    go_loopw [4, 13] (fun ov i wr => ∃ k : Nat, k ≤ n ∧ i = .int .i64 (k : Int) ∧ Ow U.heap.size wr ov (cat (ds.take k)) ∧ Below U.heap.size U wr) (fun _ i _ => n - (intOf i).toNat)
    case atStart => exact ⟨0, Nat.zero_le _, rfl, Ow.nil _ _, B1.out⟩
    case round =>
      obtain ⟨k, hkn, rfl, h1, h2⟩ := hrel
      have O1 : Hid (Ow U.heap.size wr _ (cat (ds.take k))) := h1
      have BR : Hid (Below U.heap.size U wr) := h2
      clear h1 h2
      by_cases hlt : k < n
      · obtain ⟨x, hx⟩ : ∃ x, ds[k]? = some x := ⟨ds[k]'(by rw [HN.out]; exact hlt), List.getElem?_eq_getElem (by rw [HN.out]; exact hlt)⟩
        have HXK : Hid (ds[k]? = some x) := hx
        have HX32 : Hid (L32 x) := HK.out x (List.mem_of_getElem? hx)
        rcases HX.out with ⟨h0, _⟩ | ⟨b, o, rfl, hlb, hm⟩
        · rw [h0] at hx; simp at hx
        · have RX : Hid (wr.rangeAt b (o + k * 32) (bv x)) := range_below (hm k x hx) BR.out hlb
          have HLX : Hid ((cat (ds.take k)).length + x.length ≤ 140737488355328) := by show _ ≤ _; have := HC.out k; have := HX32.out.len; omega
          clear hm hlb hx
          go_upto_region 7 with (first
            | (refine wpList_load_mid rfl 24 (.tmp 15) rfl b (o + k * 32) rfl (bv x) _ RX.out Tryd.underlying24 rfl (size_l32 HX32.out) ?_)
            | (refine wpList_store_mid rfl 24 (.tmp 6) (.tmp 16) rfl wr.heap.size 0 (bv x).toArray rfl rfl (there_new wr (by rw [List.size_toArray, bv_length, HX32.out.len, HZS.out])) (by rw [List.size_toArray]; exact size_l32 HX32.out) (bv_one' _) ?_; simp only [List.toList_toArray]))
          obtain ⟨a9, ha9⟩ : ∃ a9, (wr.alloc (.cells Z 24)).setCells wr.heap.size 0 (bv x) = a9 := ⟨_, rfl⟩
          rw [ha9]
          obtain ⟨r1, r2, r3⟩ := laid_row (by rw [bv_length, HX32.out.len, HZS.out]) (by rw [bv_length, HX32.out.len]; omega) ha9
          obtain ⟨b9, hb9⟩ : ∃ q, wr.heap.size = q := ⟨_, rfl⟩
          have O9 : Hid (Ow U.heap.size a9 _ (cat (ds.take k))) := O1.out.below r2
          have B9 : Hid (Below U.heap.size U a9) := Below.tr' BR.out r2
          rw [hb9] at r1 r3 ⊢
          have SX : Hid (Sl a9 (.slice (some ⟨b9, 0, none⟩) 32 32) x) := sl_range HX32.out r1 r3
          clear r1 r2 r3 ha9 hb9
          go_wp2_with (at_builtin; refine app_u8 (B0 := U.heap.size) rfl _ _ rfl B9.out.size _ (cat (ds.take k)) rfl O9.out _ rfl x SX.out HLX.out ?_; intro v3 w3 q1 q2 q3 q4; have O3 : Hid (Ow U.heap.size w3 v3 (cat (ds.take k) ++ x)) := q1; have B3 : Hid (Below U.heap.size U w3) := B9.out.trans q3; clear q1 q2 q3 q4)
          exact ⟨⟨k + 1, hlt, by go_num, by rw [cat_snoc HXK.out]; exact O3.out, B3.out⟩, by simp [intOf]; omega⟩
      · obtain rfl : k = n := by omega
        have e : ds.take k = ds := by rw [← HN.out]; exact List.take_length
        have O2 : Sl wr u4 (cat ds) := by have := O1.out.sl; rw [e] at this; exact this
        obtain ⟨a4, c4, e4, -, -⟩ := id O2
        obtain ⟨n4, hn4⟩ : ∃ n, (cat ds).length = n := ⟨_, rfl⟩
        rw [hn4] at e4
        subst e4
        have hcv := conv_same 7 7 #[.int .u8 100, .int .u8 101, .int .u8 118, .int .u8 105, .int .u8 99, .int .u8 101, .int .u8 115] 5 wr
        obtain ⟨U1, hU1⟩ : ∃ X, wr.alloc (.cells #[.int .u8 100, .int .u8 101, .int .u8 118, .int .u8 105, .int .u8 99, .int .u8 101, .int .u8 115] 5 (7, 8)) = X := ⟨_, rfl⟩
        obtain ⟨E, hE⟩ : ∃ E, wr.heap.size = E := ⟨_, rfl⟩
        have S1 : Hid (Sl U1 (.slice (some ⟨E, 0, none⟩) 7 7) [100, 101, 118, 105, 99, 101, 115]) := by rw [← hU1, ← hE]; exact sl_c7 wr
        have BU1 : Hid (Below wr.heap.size wr U1) := by rw [← hU1]; exact (Below.refl _ wr).alloc (Nat.le_refl _) _
        have S2 : Hid (Sl U1 (.slice a4 n4 c4) (cat ds)) := O2.below BU1.out (Nat.le_refl _)
        have HLL : Hid (LL (U1.alloc (.cells #[.slice (some ⟨E, 0, none⟩) 7 7, .slice a4 n4 c4] 30)) (.slice (some ⟨U1.heap.size, 0, none⟩) 2 2) (dvs ds) ∧ Below U1.heap.size U1 (U1.alloc (.cells #[.slice (some ⟨E, 0, none⟩) 7 7, .slice a4 n4 c4] 30))) := ll_two S1.out S2.out
        have BW : Hid (Below U.heap.size U (U1.alloc (.cells #[.slice (some ⟨E, 0, none⟩) 7 7, .slice a4 n4 c4] 30))) := Below.tr' BR.out (Below.tr' BU1.out HLL.out.2)
        rw [show (#[Value.int .u8 100, .int .u8 101, .int .u8 118, .int .u8 105, .int .u8 99, .int .u8 101, .int .u8 115].size, #[Value.int .u8 100, .int .u8 101, .int .u8 118, .int .u8 105, .int .u8 99, .int .u8 101, .int .u8 115].size + 1) = (7, 8) from rfl, hU1, hE] at hcv
        clear e O2 hn4
        go_upto_region 9 with (fail)
        try rw [hE]
        clear hU1
        go_wp2_with (first
          | (go_at_call 11; refine (hashed_any (dvs ds) H HH.out (dvs_byt HK.out) HLE.out HLEN.out _ _ HLL.out.1 (HTU.out.below BW.out)).mono ?_; rintro e w2 ⟨rfl, g1⟩; have B2 : Hid (Below U.heap.size U w2) := Below.tr' BW.out g1; clear g1)
          | (refine wpList_store_mid rfl 24 (.tmp 2) (.tmp 25) rfl D 0 (bv H).toArray rfl rfl (by rw [List.size_toArray, bv_length, HL.out.len]; exact HTH.out w2 B2.out) (by rw [List.size_toArray]; exact size_l32 HL.out) (bv_one' _) ?_; simp only [List.toList_toArray]))
        have qq : (w2.setCells D 0 (bv H)).rangeAt D 0 (bv H) := World.rangeAt_setCells_same _ _ _ _ (by rw [bv_length, HL.out.len]; exact HTH.out w2 B2.out)
        have hbl : Below w.heap.size w (w2.setCells D 0 (bv H)) := below_setCells (by rw [HD.out]; exact Nat.le_refl _) _ _ (BU.out.trans (B2.out.mono BU.out.size))
        refine bodyPost_ret (v := .tuple #[.agg (bv H).toArray, .int .i64 0]) ?_ rfl ⟨rfl, hbl⟩
        simp only [results, Tryd.results5]
        simp [Act.put, asAddr, run_loadVar_mid _ D 0 24 (bv H) _ qq Tryd.underlying24 rfl (size_l32 HL.out)]
end Go.Proofs.YtddgdaggdgeclaaDoor
