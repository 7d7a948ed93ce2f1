/- Package tree: Found. -/
import Derived.Test.YtkeobajlikhghabDoorTrmA
namespace Go.Proofs.YtkeobajlikhghabDoor
open Go Go.RowKit
set_option linter.unusedSimpArgs false
set_option linter.unusedVariables false
set_option maxRecDepth 100000

/-- What nodes tell of a label under a root. -/
def fnd (r : List Int) (l : List Nd) (y : List Int) : List Int × Bool × Int :=
  if apt l = true then (if rt l = r then (match l.find? (fun x => hl x y) with | none => (z32, false, 0) | some x => if x.n = 256 then (x.h, true, 0) else (z32, false, 2)) else (z32, false, 3)) else (z32, false, 1)
theorem rz_l32 (l : List Nd) : L32 (if apt l = true then rt l else z32) := by
  split
  · exact rt_l32 l
  · exact z32_l32
/-- Three blocks laid ahead. -/
theorem three_blocks (w : World) (a b : List Value) (Z : Array Value) (s t u : TypeId) :
    ((((w.alloc (.cells a.toArray s)).alloc (.cells b.toArray t)).alloc (.cells Z u))).rangeAt w.heap.size 0 a ∧
    ((((w.alloc (.cells a.toArray s)).alloc (.cells b.toArray t)).alloc (.cells Z u))).rangeAt (w.heap.size + 1) 0 b ∧
    ((((w.alloc (.cells a.toArray s)).alloc (.cells b.toArray t)).alloc (.cells Z u))).heap[w.heap.size + 2]? = some (.cells Z u (0, 0)) ∧
    ((((w.alloc (.cells a.toArray s)).alloc (.cells b.toArray t)).alloc (.cells Z u))).heap.size = w.heap.size + 3 ∧
    Below w.heap.size w ((((w.alloc (.cells a.toArray s)).alloc (.cells b.toArray t)).alloc (.cells Z u))) := by
  have r1 := range_alloc w a s (0, 0)
  obtain ⟨w1, h1⟩ : ∃ w1, w.alloc (.cells a.toArray s) = w1 := ⟨_, rfl⟩
  have s1 : w1.heap.size = w.heap.size + 1 := by rw [← h1]; simp
  have b1 : Below w.heap.size w w1 := by rw [← h1]; exact (Below.refl _ w).alloc (Nat.le_refl _) _
  rw [h1] at r1 ⊢
  have r2 := range_alloc w1 b t (0, 0)
  obtain ⟨w2, h2⟩ : ∃ w2, w1.alloc (.cells b.toArray t) = w2 := ⟨_, rfl⟩
  have s2 : w2.heap.size = w1.heap.size + 1 := by rw [← h2]; simp
  have b2 : Below w1.heap.size w1 w2 := by rw [← h2]; exact (Below.refl _ w1).alloc (Nat.le_refl _) _
  rw [h2] at r2 ⊢
  have s3 : (w2.alloc (.cells Z u)).heap.size = w2.heap.size + 1 := by simp
  have b3 : Below w2.heap.size w2 (w2.alloc (.cells Z u)) := (Below.refl _ w2).alloc (Nat.le_refl _) _
  have r3 : (w2.alloc (.cells Z u)).heap[w2.heap.size]? = some (.cells Z u (0, 0)) := by show (w2.heap.push _)[w2.heap.size]? = _; simp
  refine ⟨range_below (range_below r1 b2 (by omega)) b3 (by omega), ?_, ?_, by omega, b1.trans ((b2.trans (b3.mono b2.size)).mono b1.size)⟩
  · rw [s1] at r2; exact range_below r2 b3 (by omega)
  · rw [show w.heap.size + 2 = w2.heap.size by omega]; exact r3
theorem Below.tr' {a b c : World} (h1 : Below a.heap.size a b) (h2 : Below b.heap.size b c) : Below a.heap.size a c := h1.trans (h2.mono h1.size)
set_option maxHeartbeats 4000000 in
theorem found_1 (r : List Int) (hr : L32 r) (l : List Nd) (hk : ∀ x ∈ l, x.Ok) (hlen : l.length ≤ 140737488355328) (y : List Int) (hy : L32 y) (v : Value) (w : World) (hv : NS w v l) (hT : Tb w) (ha : apt l = false) :
    Calls Tryd.prog 12 #[.agg (bv r).toArray, v, .agg (bv y).toArray] w fun e w' => e = .returned (.tuple #[.agg (bv z32).toArray, .bool false, .int .i64 1]) ∧ Below w.heap.size w w' := by
  have hz := zero_32
  rw [show List.replicate 32 (0 : Int) = z32 from rfl] at hz
  have HBZ : Hid (∀ W : World, (Instr.build 23 #[]).run Tryd.prog W = .ok (.agg (bv z32).toArray) W) := build_32
  have sr : (bv r).toArray.size = 32 := by rw [List.size_toArray, bv_length, hr.len]
  have sy : (bv y).toArray.size = 32 := by rw [List.size_toArray, bv_length, hy.len]
  obtain ⟨Z, hZ⟩ : ∃ Z, (bv z32).toArray = Z := ⟨_, rfl⟩
  have HZS : Hid (Z.size = 32) := by show Z.size = 32; rw [← hZ]; simp [bv, z32]
  rw [hZ] at hz HBZ
  obtain ⟨t1, t2, t3, t4, t5⟩ := three_blocks w (bv r) (bv y) Z 23 23 23
  obtain ⟨A, hA⟩ : ∃ A, (bv r).toArray = A := ⟨_, rfl⟩
  obtain ⟨B, hB⟩ : ∃ B, (bv y).toArray = B := ⟨_, rfl⟩
  rw [hA, hB] at t1 t2 t3 t4 t5
  rw [hA] at sr ⊢
  rw [hB] at sy ⊢
  obtain ⟨U, hU⟩ : ∃ U, ((w.alloc (.cells A 23)).alloc (.cells B 23)).alloc (.cells Z 23) = U := ⟨_, rfl⟩
  rw [hU] at t1 t2 t3 t4 t5
  have BU : Hid (Below w.heap.size w U) := t5
  have NU : Hid (NS U v l) := hv.below t5
  have TU : Hid (Tb U) := hT.below t5
  obtain ⟨D, hD⟩ : ∃ D, w.heap.size = D := ⟨_, rfl⟩
  have HD : Hid (w.heap.size = D) := hD
  rw [hD] at t1 t2 t3 t4
  have RR : Hid (U.rangeAt D 0 (bv r)) := t1
  have RY : Hid (U.rangeAt (D + 1) 0 (bv y)) := t2
  have RZ : Hid (U.heap[D + 2]? = some (.cells Z 23 (0, 0))) := t3
  have SU : Hid (U.heap.size = D + 3) := t4
  have HR : Hid (L32 r) := hr
  have HY : Hid (L32 y) := hy
  obtain ⟨Y, hY⟩ : ∃ Y, (if apt l = true then rt l else z32) = Y := ⟨_, rfl⟩
  have HYL : Hid (L32 Y) := by rw [← hY]; exact rz_l32 l
  obtain ⟨e2, he2⟩ : ∃ e2 : Int, (if apt l = true then 0 else 1) = e2 := ⟨_, rfl⟩
  have HRT : Hid (∀ W : World, Below U.heap.size U W → Calls Tryd.prog 10 #[v] W fun e w' => e = .returned (.tuple #[.agg (bv Y).toArray, .int .i64 e2]) ∧ Below W.heap.size W w') := fun W q2 => by
    have := Root_any l hk hlen v W (NU.out.below q2) (TU.out.below q2); rw [hY, he2] at this; exact this
  have HTH : Hid (∀ W : World, Below U.heap.size U W → W.there (D + 2) 0 32) := fun w1 B1 => there_of_row' ((B1.block _ (by have := SU.out; omega)).trans RZ.out) 0 32 (by have := HZS.out; omega)
  rw [ha, if_neg (by decide)] at he2
  subst he2
  have HZE : Hid ((bv z32).toArray = Z) := hZ
  obtain ⟨ad, cap, rfl, hcp, -⟩ := hv
  obtain ⟨len, hln⟩ : ∃ len, l.length = len := ⟨_, rfl⟩
  rw [hln] at hlen HRT NU ⊢
  clear hln
  clear t1 t2 t3 t4 t5 hA hB hZ hr hy hT hk hY ha
  go_enter Tryd.func12, Tryd.ntmps12
  go_upto_region 1 with (fail)
  try rw [hU]
  try rw [hD]
  clear hU hD
  go_upto_region 2 with (first
    | (refine wpList_store_mid rfl 23 (.tmp 9) (.tmp 14) rfl a1.heap.size 0 (bv Y).toArray rfl rfl (there_new a1 (by rw [List.size_toArray, bv_length, HYL.out.len, HZS.out])) (by rw [List.size_toArray]; exact size_l32 HYL.out) (bv_one' _) ?_; simp only [List.toList_toArray])
    | (go_at_call 10; refine (HRT.out U (Below.refl _ U)).mono ?_; rintro e a1 ⟨rfl, g1⟩; have Ca1 : Hid (Below U.heap.size U a1) := g1; clear g1))
  obtain ⟨a2, ha2⟩ : ∃ a2, (a1.alloc (.cells Z 23)).setCells a1.heap.size 0 (bv Y) = a2 := ⟨_, rfl⟩
  rw [ha2]
  obtain ⟨r1, r2, r3⟩ := laid_row (by rw [bv_length, HYL.out.len, HZS.out]) (by rw [bv_length, HYL.out.len]; omega) ha2
  have R9 : Hid (a2.rangeAt a1.heap.size 0 (bv Y)) := r1
  have Ca2 : Hid (Below U.heap.size U a2) := Below.tr' Ca1.out r2
  clear r1 r2 r3 ha2
  clear hz
  go_upto_region 3 with (fail)
  refine wp_region_list ?_
  refine wp_build0 23 rfl rfl _ (HBZ.out a2) ?_
  go_wp2_with (refine wpList_store_mid rfl 23 (.tmp 6) (.tmp 18) rfl (D + 2) 0 (bv z32).toArray rfl (congrArg Value.agg HZE.out.symm) (by rw [List.size_toArray, bv_length, z32_l32.len]; exact HTH.out _ Ca2.out) (by rw [List.size_toArray]; exact size_l32 z32_l32) (bv_one' _) ?_; simp only [List.toList_toArray])
  have qq : (a2.setCells (D + 2) 0 (bv z32)).rangeAt (D + 2) 0 (bv z32) := World.rangeAt_setCells_same _ _ _ _ (by rw [bv_length, z32_l32.len]; exact HTH.out _ Ca2.out)
  have hbl : Below w.heap.size w (a2.setCells (D + 2) 0 (bv z32)) := below_setCells (by have := HD.out; omega) _ _ (BU.out.trans (Ca2.out.mono BU.out.size))
  refine bodyPost_ret (v := .tuple #[.agg (bv z32).toArray, .bool false, .int .i64 1]) ?_ rfl ⟨rfl, hbl⟩
  simp only [results, Tryd.results12]
  simp [Act.put, asAddr, run_loadVar_mid _ (D + 2) 0 23 (bv z32) _ qq Tryd.underlying23 rfl (size_l32 z32_l32)]
set_option maxHeartbeats 4000000 in
theorem found_2 (r : List Int) (hr : L32 r) (l : List Nd) (hk : ∀ x ∈ l, x.Ok) (hlen : l.length ≤ 140737488355328) (y : List Int) (hy : L32 y) (v : Value) (w : World) (hv : NS w v l) (hT : Tb w) (ha : apt l = true) (hn : rt l ≠ r) :
    Calls Tryd.prog 12 #[.agg (bv r).toArray, v, .agg (bv y).toArray] w fun e w' => e = .returned (.tuple #[.agg (bv z32).toArray, .bool false, .int .i64 3]) ∧ Below w.heap.size w w' := by
  have hz := zero_32
  rw [show List.replicate 32 (0 : Int) = z32 from rfl] at hz
  have HBZ : Hid (∀ W : World, (Instr.build 23 #[]).run Tryd.prog W = .ok (.agg (bv z32).toArray) W) := build_32
  have sr : (bv r).toArray.size = 32 := by rw [List.size_toArray, bv_length, hr.len]
  have sy : (bv y).toArray.size = 32 := by rw [List.size_toArray, bv_length, hy.len]
  obtain ⟨Z, hZ⟩ : ∃ Z, (bv z32).toArray = Z := ⟨_, rfl⟩
  have HZS : Hid (Z.size = 32) := by show Z.size = 32; rw [← hZ]; simp [bv, z32]
  rw [hZ] at hz HBZ
  obtain ⟨t1, t2, t3, t4, t5⟩ := three_blocks w (bv r) (bv y) Z 23 23 23
  obtain ⟨A, hA⟩ : ∃ A, (bv r).toArray = A := ⟨_, rfl⟩
  obtain ⟨B, hB⟩ : ∃ B, (bv y).toArray = B := ⟨_, rfl⟩
  rw [hA, hB] at t1 t2 t3 t4 t5
  rw [hA] at sr ⊢
  rw [hB] at sy ⊢
  obtain ⟨U, hU⟩ : ∃ U, ((w.alloc (.cells A 23)).alloc (.cells B 23)).alloc (.cells Z 23) = U := ⟨_, rfl⟩
  rw [hU] at t1 t2 t3 t4 t5
  have BU : Hid (Below w.heap.size w U) := t5
  have NU : Hid (NS U v l) := hv.below t5
  have TU : Hid (Tb U) := hT.below t5
  obtain ⟨D, hD⟩ : ∃ D, w.heap.size = D := ⟨_, rfl⟩
  have HD : Hid (w.heap.size = D) := hD
  rw [hD] at t1 t2 t3 t4
  have RR : Hid (U.rangeAt D 0 (bv r)) := t1
  have RY : Hid (U.rangeAt (D + 1) 0 (bv y)) := t2
  have RZ : Hid (U.heap[D + 2]? = some (.cells Z 23 (0, 0))) := t3
  have SU : Hid (U.heap.size = D + 3) := t4
  have HR : Hid (L32 r) := hr
  have HY : Hid (L32 y) := hy
  obtain ⟨Y, hY⟩ : ∃ Y, (if apt l = true then rt l else z32) = Y := ⟨_, rfl⟩
  have HYL : Hid (L32 Y) := by rw [← hY]; exact rz_l32 l
  obtain ⟨e2, he2⟩ : ∃ e2 : Int, (if apt l = true then 0 else 1) = e2 := ⟨_, rfl⟩
  have HRT : Hid (∀ W : World, Below U.heap.size U W → Calls Tryd.prog 10 #[v] W fun e w' => e = .returned (.tuple #[.agg (bv Y).toArray, .int .i64 e2]) ∧ Below W.heap.size W w') := fun W q2 => by
    have := Root_any l hk hlen v W (NU.out.below q2) (TU.out.below q2); rw [hY, he2] at this; exact this
  have HTH : Hid (∀ W : World, Below U.heap.size U W → W.there (D + 2) 0 32) := fun w1 B1 => there_of_row' ((B1.block _ (by have := SU.out; omega)).trans RZ.out) 0 32 (by have := HZS.out; omega)
  rw [ha, if_pos rfl] at he2
  subst he2
  rw [ha, if_pos rfl] at hY
  have HNE : Hid ((!decide (Y = r)) = true) := by show (!decide (Y = r)) = true; rw [← hY]; simpa using hn
  have HZE : Hid ((bv z32).toArray = Z) := hZ
  obtain ⟨ad, cap, rfl, hcp, -⟩ := hv
  obtain ⟨len, hln⟩ : ∃ len, l.length = len := ⟨_, rfl⟩
  rw [hln] at hlen HRT NU ⊢
  clear hln
  clear t1 t2 t3 t4 t5 hA hB hZ hr hy hT hk hY ha hn
  go_enter Tryd.func12, Tryd.ntmps12
  go_upto_region 1 with (fail)
  try rw [hU]
  try rw [hD]
  clear hU hD
  go_upto_region 2 with (first
    | (refine wpList_store_mid rfl 23 (.tmp 9) (.tmp 14) rfl a1.heap.size 0 (bv Y).toArray rfl rfl (there_new a1 (by rw [List.size_toArray, bv_length, HYL.out.len, HZS.out])) (by rw [List.size_toArray]; exact size_l32 HYL.out) (bv_one' _) ?_; simp only [List.toList_toArray])
    | (go_at_call 10; refine (HRT.out U (Below.refl _ U)).mono ?_; rintro e a1 ⟨rfl, g1⟩; have Ca1 : Hid (Below U.heap.size U a1) := g1; clear g1))
  obtain ⟨a2, ha2⟩ : ∃ a2, (a1.alloc (.cells Z 23)).setCells a1.heap.size 0 (bv Y) = a2 := ⟨_, rfl⟩
  rw [ha2]
  obtain ⟨r1, r2, r3⟩ := laid_row (by rw [bv_length, HYL.out.len, HZS.out]) (by rw [bv_length, HYL.out.len]; omega) ha2
  have R9 : Hid (a2.rangeAt a1.heap.size 0 (bv Y)) := r1
  have Ca2 : Hid (Below U.heap.size U a2) := Below.tr' Ca1.out r2
  clear r1 r2 r3 ha2
  clear hz
  go_upto_region 5 with (first
    | (refine ld 23 (.tmp 9) rfl rfl a1.heap.size 0 rfl (bv Y) _ R9.out Tryd.underlying23 rfl (size_l32 HYL.out) ?_)
    | (refine ld 23 (.tmp 3) rfl rfl D 0 rfl (bv r) _ (range_below RR.out Ca2.out (by have := SU.out; omega)) Tryd.underlying23 rfl (size_l32 HR.out) ?_)
    | (refine wp_bin_run .neq 23 23 (.tmp 20) (.tmp 21) rfl rfl (.agg (bv Y).toArray) (.agg (bv r).toArray) (.bool true) rfl rfl (eqg_32 _ _ _ _ _ a2) ((neq_32 HYL.out HR.out a2).trans (by rw [HNE.out])) ?_))
  refine wp_region_list ?_
  refine wp_build0 23 rfl rfl _ (HBZ.out a2) ?_
  go_wp2_with (refine wpList_store_mid rfl 23 (.tmp 6) (.tmp 23) rfl (D + 2) 0 (bv z32).toArray rfl (congrArg Value.agg HZE.out.symm) (by rw [List.size_toArray, bv_length, z32_l32.len]; exact HTH.out _ Ca2.out) (by rw [List.size_toArray]; exact size_l32 z32_l32) (bv_one' _) ?_; simp only [List.toList_toArray])
  have qq : (a2.setCells (D + 2) 0 (bv z32)).rangeAt (D + 2) 0 (bv z32) := World.rangeAt_setCells_same _ _ _ _ (by rw [bv_length, z32_l32.len]; exact HTH.out _ Ca2.out)
  have hbl : Below w.heap.size w (a2.setCells (D + 2) 0 (bv z32)) := below_setCells (by have := HD.out; omega) _ _ (BU.out.trans (Ca2.out.mono BU.out.size))
  refine bodyPost_ret (v := .tuple #[.agg (bv z32).toArray, .bool false, .int .i64 3]) ?_ rfl ⟨rfl, hbl⟩
  simp only [results, Tryd.results12]
  simp [Act.put, asAddr, run_loadVar_mid _ (D + 2) 0 23 (bv z32) _ qq Tryd.underlying23 rfl (size_l32 z32_l32)]
set_option maxHeartbeats 4000000 in
theorem found_3 (r : List Int) (hr : L32 r) (l : List Nd) (hk : ∀ x ∈ l, x.Ok) (hlen : l.length ≤ 140737488355328) (y : List Int) (hy : L32 y) (v : Value) (w : World) (hv : NS w v l) (hT : Tb w) (ha : apt l = true) (hn : rt l = r) (J : Int) (hJ : ixf (fun x => hl x y) l = J) (hji : J = -1) :
    Calls Tryd.prog 12 #[.agg (bv r).toArray, v, .agg (bv y).toArray] w fun e w' => e = .returned (.tuple #[.agg (bv z32).toArray, .bool false, .int .i64 0]) ∧ Below w.heap.size w w' := by
  have hz := zero_32
  rw [show List.replicate 32 (0 : Int) = z32 from rfl] at hz
  have HBZ : Hid (∀ W : World, (Instr.build 23 #[]).run Tryd.prog W = .ok (.agg (bv z32).toArray) W) := build_32
  have sr : (bv r).toArray.size = 32 := by rw [List.size_toArray, bv_length, hr.len]
  have sy : (bv y).toArray.size = 32 := by rw [List.size_toArray, bv_length, hy.len]
  obtain ⟨Z, hZ⟩ : ∃ Z, (bv z32).toArray = Z := ⟨_, rfl⟩
  have HZS : Hid (Z.size = 32) := by show Z.size = 32; rw [← hZ]; simp [bv, z32]
  rw [hZ] at hz HBZ
  obtain ⟨t1, t2, t3, t4, t5⟩ := three_blocks w (bv r) (bv y) Z 23 23 23
  obtain ⟨A, hA⟩ : ∃ A, (bv r).toArray = A := ⟨_, rfl⟩
  obtain ⟨B, hB⟩ : ∃ B, (bv y).toArray = B := ⟨_, rfl⟩
  rw [hA, hB] at t1 t2 t3 t4 t5
  rw [hA] at sr ⊢
  rw [hB] at sy ⊢
  obtain ⟨U, hU⟩ : ∃ U, ((w.alloc (.cells A 23)).alloc (.cells B 23)).alloc (.cells Z 23) = U := ⟨_, rfl⟩
  rw [hU] at t1 t2 t3 t4 t5
  have BU : Hid (Below w.heap.size w U) := t5
  have NU : Hid (NS U v l) := hv.below t5
  have TU : Hid (Tb U) := hT.below t5
  obtain ⟨D, hD⟩ : ∃ D, w.heap.size = D := ⟨_, rfl⟩
  have HD : Hid (w.heap.size = D) := hD
  rw [hD] at t1 t2 t3 t4
  have RR : Hid (U.rangeAt D 0 (bv r)) := t1
  have RY : Hid (U.rangeAt (D + 1) 0 (bv y)) := t2
  have RZ : Hid (U.heap[D + 2]? = some (.cells Z 23 (0, 0))) := t3
  have SU : Hid (U.heap.size = D + 3) := t4
  have HR : Hid (L32 r) := hr
  have HY : Hid (L32 y) := hy
  obtain ⟨Y, hY⟩ : ∃ Y, (if apt l = true then rt l else z32) = Y := ⟨_, rfl⟩
  have HYL : Hid (L32 Y) := by rw [← hY]; exact rz_l32 l
  obtain ⟨e2, he2⟩ : ∃ e2 : Int, (if apt l = true then 0 else 1) = e2 := ⟨_, rfl⟩
  have HRT : Hid (∀ W : World, Below U.heap.size U W → Calls Tryd.prog 10 #[v] W fun e w' => e = .returned (.tuple #[.agg (bv Y).toArray, .int .i64 e2]) ∧ Below W.heap.size W w') := fun W q2 => by
    have := Root_any l hk hlen v W (NU.out.below q2) (TU.out.below q2); rw [hY, he2] at this; exact this
  have HTH : Hid (∀ W : World, Below U.heap.size U W → W.there (D + 2) 0 32) := fun w1 B1 => there_of_row' ((B1.block _ (by have := SU.out; omega)).trans RZ.out) 0 32 (by have := HZS.out; omega)
  rw [ha, if_pos rfl] at he2
  subst he2
  rw [ha, if_pos rfl] at hY
  have HNE : Hid ((!decide (Y = r)) = false) := by show (!decide (Y = r)) = false; rw [← hY]; simpa using hn
  have HIX : Hid (∀ W : World, Below U.heap.size U W → Calls Tryd.prog 22 #[v, .func (.func 23) #[] #[.pointer (some ⟨D + 1, 0, none⟩)]] W fun e w' => e = .returned (.int .i64 J) ∧ Below W.heap.size W w') := fun W q => by
    rw [← hJ]
    exact index_found l hk hlen (fun x => hl x y) _ v W (NU.out.below q) (fun x hx W' q' => fclosure_any x (hk x hx) y HY.out (D + 1) W' (by have := SU.out; have := q.size; have := q'.size; omega) (range_below RY.out (Below.tr' q q') (by have := SU.out; omega)))
  have HZE : Hid ((bv z32).toArray = Z) := hZ
  obtain ⟨ad, cap, rfl, hcp, -⟩ := hv
  obtain ⟨len, hln⟩ : ∃ len, l.length = len := ⟨_, rfl⟩
  rw [hln] at hlen HRT HIX NU ⊢
  clear hln
  subst hji
  clear t1 t2 t3 t4 t5 hA hB hZ hr hy hT hk hY ha hn hJ
  go_enter Tryd.func12, Tryd.ntmps12
  go_upto_region 1 with (fail)
  try rw [hU]
  try rw [hD]
  clear hU hD
  go_upto_region 2 with (first
    | (refine wpList_store_mid rfl 23 (.tmp 9) (.tmp 14) rfl a1.heap.size 0 (bv Y).toArray rfl rfl (there_new a1 (by rw [List.size_toArray, bv_length, HYL.out.len, HZS.out])) (by rw [List.size_toArray]; exact size_l32 HYL.out) (bv_one' _) ?_; simp only [List.toList_toArray])
    | (go_at_call 10; refine (HRT.out U (Below.refl _ U)).mono ?_; rintro e a1 ⟨rfl, g1⟩; have Ca1 : Hid (Below U.heap.size U a1) := g1; clear g1))
  obtain ⟨a2, ha2⟩ : ∃ a2, (a1.alloc (.cells Z 23)).setCells a1.heap.size 0 (bv Y) = a2 := ⟨_, rfl⟩
  rw [ha2]
  obtain ⟨r1, r2, r3⟩ := laid_row (by rw [bv_length, HYL.out.len, HZS.out]) (by rw [bv_length, HYL.out.len]; omega) ha2
  have R9 : Hid (a2.rangeAt a1.heap.size 0 (bv Y)) := r1
  have Ca2 : Hid (Below U.heap.size U a2) := Below.tr' Ca1.out r2
  clear r1 r2 r3 ha2
  clear hz
  go_upto_region 8 with (first
    | (refine ld 23 (.tmp 9) rfl rfl a1.heap.size 0 rfl (bv Y) _ R9.out Tryd.underlying23 rfl (size_l32 HYL.out) ?_)
    | (refine ld 23 (.tmp 3) rfl rfl D 0 rfl (bv r) _ (range_below RR.out Ca2.out (by have := SU.out; omega)) Tryd.underlying23 rfl (size_l32 HR.out) ?_)
    | (refine wp_bin_run .neq 23 23 (.tmp 20) (.tmp 21) rfl rfl (.agg (bv Y).toArray) (.agg (bv r).toArray) (.bool false) rfl rfl (eqg_32 _ _ _ _ _ a2) ((neq_32 HYL.out HR.out a2).trans (by rw [HNE.out])) ?_)
    | (go_at_call 22; refine (HIX.out a2 Ca2.out).mono ?_; rintro e a3 ⟨rfl, g1⟩; have Ca3 : Hid (Below U.heap.size U a3) := Below.tr' Ca2.out g1; have hcn := hlen; clear g1))
  refine wp_region_list ?_
  refine wp_build0 23 rfl rfl _ (HBZ.out a3) ?_
  go_wp2_with (refine wpList_store_mid rfl 23 (.tmp 6) (.tmp 29) rfl (D + 2) 0 (bv z32).toArray rfl (congrArg Value.agg HZE.out.symm) (by rw [List.size_toArray, bv_length, z32_l32.len]; exact HTH.out _ Ca3.out) (by rw [List.size_toArray]; exact size_l32 z32_l32) (bv_one' _) ?_; simp only [List.toList_toArray])
  have qq : (a3.setCells (D + 2) 0 (bv z32)).rangeAt (D + 2) 0 (bv z32) := World.rangeAt_setCells_same _ _ _ _ (by rw [bv_length, z32_l32.len]; exact HTH.out _ Ca3.out)
  have hbl : Below w.heap.size w (a3.setCells (D + 2) 0 (bv z32)) := below_setCells (by have := HD.out; omega) _ _ (BU.out.trans (Ca3.out.mono BU.out.size))
  refine bodyPost_ret (v := .tuple #[.agg (bv z32).toArray, .bool false, .int .i64 0]) ?_ rfl ⟨rfl, hbl⟩
  simp only [results, Tryd.results12]
  simp [Act.put, asAddr, run_loadVar_mid _ (D + 2) 0 23 (bv z32) _ qq Tryd.underlying23 rfl (size_l32 z32_l32)]
set_option maxHeartbeats 4000000 in
theorem found_4 (r : List Int) (hr : L32 r) (l : List Nd) (hk : ∀ x ∈ l, x.Ok) (hlen : l.length ≤ 140737488355328) (y : List Int) (hy : L32 y) (v : Value) (w : World) (hv : NS w v l) (hT : Tb w) (ha : apt l = true) (hn : rt l = r) (J : Int) (hJ : ixf (fun x => hl x y) l = J) (i : Nat) (hji : J = (i : Int)) (x : Nd) (hx : l[i]? = some x) (hn2 : x.n ≠ 256) :
    Calls Tryd.prog 12 #[.agg (bv r).toArray, v, .agg (bv y).toArray] w fun e w' => e = .returned (.tuple #[.agg (bv z32).toArray, .bool false, .int .i64 2]) ∧ Below w.heap.size w w' := by
  have hz := zero_32
  rw [show List.replicate 32 (0 : Int) = z32 from rfl] at hz
  have HBZ : Hid (∀ W : World, (Instr.build 23 #[]).run Tryd.prog W = .ok (.agg (bv z32).toArray) W) := build_32
  have sr : (bv r).toArray.size = 32 := by rw [List.size_toArray, bv_length, hr.len]
  have sy : (bv y).toArray.size = 32 := by rw [List.size_toArray, bv_length, hy.len]
  obtain ⟨Z, hZ⟩ : ∃ Z, (bv z32).toArray = Z := ⟨_, rfl⟩
  have HZS : Hid (Z.size = 32) := by show Z.size = 32; rw [← hZ]; simp [bv, z32]
  rw [hZ] at hz HBZ
  obtain ⟨t1, t2, t3, t4, t5⟩ := three_blocks w (bv r) (bv y) Z 23 23 23
  obtain ⟨A, hA⟩ : ∃ A, (bv r).toArray = A := ⟨_, rfl⟩
  obtain ⟨B, hB⟩ : ∃ B, (bv y).toArray = B := ⟨_, rfl⟩
  rw [hA, hB] at t1 t2 t3 t4 t5
  rw [hA] at sr ⊢
  rw [hB] at sy ⊢
  obtain ⟨U, hU⟩ : ∃ U, ((w.alloc (.cells A 23)).alloc (.cells B 23)).alloc (.cells Z 23) = U := ⟨_, rfl⟩
  rw [hU] at t1 t2 t3 t4 t5
  have BU : Hid (Below w.heap.size w U) := t5
  have NU : Hid (NS U v l) := hv.below t5
  have TU : Hid (Tb U) := hT.below t5
  obtain ⟨D, hD⟩ : ∃ D, w.heap.size = D := ⟨_, rfl⟩
  have HD : Hid (w.heap.size = D) := hD
  rw [hD] at t1 t2 t3 t4
  have RR : Hid (U.rangeAt D 0 (bv r)) := t1
  have RY : Hid (U.rangeAt (D + 1) 0 (bv y)) := t2
  have RZ : Hid (U.heap[D + 2]? = some (.cells Z 23 (0, 0))) := t3
  have SU : Hid (U.heap.size = D + 3) := t4
  have HR : Hid (L32 r) := hr
  have HY : Hid (L32 y) := hy
  obtain ⟨Y, hY⟩ : ∃ Y, (if apt l = true then rt l else z32) = Y := ⟨_, rfl⟩
  have HYL : Hid (L32 Y) := by rw [← hY]; exact rz_l32 l
  obtain ⟨e2, he2⟩ : ∃ e2 : Int, (if apt l = true then 0 else 1) = e2 := ⟨_, rfl⟩
  have HRT : Hid (∀ W : World, Below U.heap.size U W → Calls Tryd.prog 10 #[v] W fun e w' => e = .returned (.tuple #[.agg (bv Y).toArray, .int .i64 e2]) ∧ Below W.heap.size W w') := fun W q2 => by
    have := Root_any l hk hlen v W (NU.out.below q2) (TU.out.below q2); rw [hY, he2] at this; exact this
  have HTH : Hid (∀ W : World, Below U.heap.size U W → W.there (D + 2) 0 32) := fun w1 B1 => there_of_row' ((B1.block _ (by have := SU.out; omega)).trans RZ.out) 0 32 (by have := HZS.out; omega)
  rw [ha, if_pos rfl] at he2
  subst he2
  rw [ha, if_pos rfl] at hY
  have HNE : Hid ((!decide (Y = r)) = false) := by show (!decide (Y = r)) = false; rw [← hY]; simpa using hn
  have HIX : Hid (∀ W : World, Below U.heap.size U W → Calls Tryd.prog 22 #[v, .func (.func 23) #[] #[.pointer (some ⟨D + 1, 0, none⟩)]] W fun e w' => e = .returned (.int .i64 J) ∧ Below W.heap.size W w') := fun W q => by
    rw [← hJ]
    exact index_found l hk hlen (fun x => hl x y) _ v W (NU.out.below q) (fun x hx W' q' => fclosure_any x (hk x hx) y HY.out (D + 1) W' (by have := SU.out; have := q.size; have := q'.size; omega) (range_below RY.out (Below.tr' q q') (by have := SU.out; omega)))
  have HXH : Hid (L32 x.h) := (hk x (List.mem_of_getElem? hx)).h
  have HXO : Hid x.Ok := hk x (List.mem_of_getElem? hx)
  have hil : i < l.length := (List.getElem?_eq_some_iff.1 hx).1
  have HZE : Hid ((bv z32).toArray = Z) := hZ
  obtain ⟨ad, cap, rfl, hcp, hm⟩ := hv
  rcases hm with ⟨h0, _⟩ | ⟨b, o, rfl, hlb, hm⟩
  · rw [h0] at hil; simp at hil
  have RX : Hid (U.rangeAt b (o + i * 65) (nc x)) := range_below (hm i x hx) BU.out hlb
  have HLB : Hid (b < U.heap.size) := Nat.lt_of_lt_of_le hlb BU.out.size
  obtain ⟨len, hln⟩ : ∃ len, l.length = len := ⟨_, rfl⟩
  rw [hln] at hil hlen HRT HIX NU ⊢
  obtain ⟨n, hxn⟩ : ∃ n, x.n = n := ⟨_, rfl⟩
  obtain ⟨H, hH⟩ : ∃ H, x.h = H := ⟨_, rfl⟩
  rw [hxn] at hn2
  have HCN : Hid (∀ W : World, Below U.heap.size U W → W.cell? ⟨b, o + i * 65, none⟩ = some (.int .i64 n)) := fun W q => by have := nc_n (range_below RX.out q HLB.out); rw [hxn] at this; exact this
  have HCH : Hid (∀ W : World, Below U.heap.size U W → W.rangeAt b (o + i * 65 + 33) (bv H)) := fun W q => by have := nc_h HXO.out (range_below RX.out q HLB.out); rw [hH] at this; exact this
  rw [hH] at HXH
  try rw [hH]
  have hi9 : (i : Int) < (len : Int) := by omega
  subst hji
  clear hm hlb hln hxn hH hx hlen hcp
  clear t1 t2 t3 t4 t5 hA hB hZ hr hy hT hk hY ha hn hJ
  go_enter Tryd.func12, Tryd.ntmps12
  go_upto_region 1 with (fail)
  try rw [hU]
  try rw [hD]
  clear hU hD
  go_upto_region 2 with (first
    | (refine wpList_store_mid rfl 23 (.tmp 9) (.tmp 14) rfl a1.heap.size 0 (bv Y).toArray rfl rfl (there_new a1 (by rw [List.size_toArray, bv_length, HYL.out.len, HZS.out])) (by rw [List.size_toArray]; exact size_l32 HYL.out) (bv_one' _) ?_; simp only [List.toList_toArray])
    | (go_at_call 10; refine (HRT.out U (Below.refl _ U)).mono ?_; rintro e a1 ⟨rfl, g1⟩; have Ca1 : Hid (Below U.heap.size U a1) := g1; clear g1))
  obtain ⟨a2, ha2⟩ : ∃ a2, (a1.alloc (.cells Z 23)).setCells a1.heap.size 0 (bv Y) = a2 := ⟨_, rfl⟩
  rw [ha2]
  obtain ⟨r1, r2, r3⟩ := laid_row (by rw [bv_length, HYL.out.len, HZS.out]) (by rw [bv_length, HYL.out.len]; omega) ha2
  have R9 : Hid (a2.rangeAt a1.heap.size 0 (bv Y)) := r1
  have Ca2 : Hid (Below U.heap.size U a2) := Below.tr' Ca1.out r2
  clear r1 r2 r3 ha2
  clear hz
  go_upto_region 10 with (first
    | (refine ld 23 (.tmp 9) rfl rfl a1.heap.size 0 rfl (bv Y) _ R9.out Tryd.underlying23 rfl (size_l32 HYL.out) ?_)
    | (refine ld 23 (.tmp 3) rfl rfl D 0 rfl (bv r) _ (range_below RR.out Ca2.out (by have := SU.out; omega)) Tryd.underlying23 rfl (size_l32 HR.out) ?_)
    | (refine wp_bin_run .neq 23 23 (.tmp 20) (.tmp 21) rfl rfl (.agg (bv Y).toArray) (.agg (bv r).toArray) (.bool false) rfl rfl (eqg_32 _ _ _ _ _ a2) ((neq_32 HYL.out HR.out a2).trans (by rw [HNE.out])) ?_)
    | (go_at_call 22; refine (HIX.out a2 Ca2.out).mono ?_; rintro e a3 ⟨rfl, g1⟩; have Ca3 : Hid (Below U.heap.size U a3) := Below.tr' Ca2.out g1; have hcn := HCN.out a3 Ca3.out; clear g1))
  refine wp_region_list ?_
  refine wp_build0 23 rfl rfl _ (HBZ.out a3) ?_
  go_wp2_with (refine wpList_store_mid rfl 23 (.tmp 6) (.tmp 36) rfl (D + 2) 0 (bv z32).toArray rfl (congrArg Value.agg HZE.out.symm) (by rw [List.size_toArray, bv_length, z32_l32.len]; exact HTH.out _ Ca3.out) (by rw [List.size_toArray]; exact size_l32 z32_l32) (bv_one' _) ?_; simp only [List.toList_toArray])
  have qq : (a3.setCells (D + 2) 0 (bv z32)).rangeAt (D + 2) 0 (bv z32) := World.rangeAt_setCells_same _ _ _ _ (by rw [bv_length, z32_l32.len]; exact HTH.out _ Ca3.out)
  have hbl : Below w.heap.size w (a3.setCells (D + 2) 0 (bv z32)) := below_setCells (by have := HD.out; omega) _ _ (BU.out.trans (Ca3.out.mono BU.out.size))
  refine bodyPost_ret (v := .tuple #[.agg (bv z32).toArray, .bool false, .int .i64 2]) ?_ rfl ⟨rfl, hbl⟩
  simp only [results, Tryd.results12]
  simp [Act.put, asAddr, run_loadVar_mid _ (D + 2) 0 23 (bv z32) _ qq Tryd.underlying23 rfl (size_l32 z32_l32)]
set_option maxHeartbeats 4000000 in
theorem found_5 (r : List Int) (hr : L32 r) (l : List Nd) (hk : ∀ x ∈ l, x.Ok) (hlen : l.length ≤ 140737488355328) (y : List Int) (hy : L32 y) (v : Value) (w : World) (hv : NS w v l) (hT : Tb w) (ha : apt l = true) (hn : rt l = r) (J : Int) (hJ : ixf (fun x => hl x y) l = J) (i : Nat) (hji : J = (i : Int)) (x : Nd) (hx : l[i]? = some x) (hn2 : x.n = 256) :
    Calls Tryd.prog 12 #[.agg (bv r).toArray, v, .agg (bv y).toArray] w fun e w' => e = .returned (.tuple #[.agg (bv x.h).toArray, .bool true, .int .i64 0]) ∧ Below w.heap.size w w' := by
  have hz := zero_32
  rw [show List.replicate 32 (0 : Int) = z32 from rfl] at hz
  have HBZ : Hid (∀ W : World, (Instr.build 23 #[]).run Tryd.prog W = .ok (.agg (bv z32).toArray) W) := build_32
  have sr : (bv r).toArray.size = 32 := by rw [List.size_toArray, bv_length, hr.len]
  have sy : (bv y).toArray.size = 32 := by rw [List.size_toArray, bv_length, hy.len]
  obtain ⟨Z, hZ⟩ : ∃ Z, (bv z32).toArray = Z := ⟨_, rfl⟩
  have HZS : Hid (Z.size = 32) := by show Z.size = 32; rw [← hZ]; simp [bv, z32]
  rw [hZ] at hz HBZ
  obtain ⟨t1, t2, t3, t4, t5⟩ := three_blocks w (bv r) (bv y) Z 23 23 23
  obtain ⟨A, hA⟩ : ∃ A, (bv r).toArray = A := ⟨_, rfl⟩
  obtain ⟨B, hB⟩ : ∃ B, (bv y).toArray = B := ⟨_, rfl⟩
  rw [hA, hB] at t1 t2 t3 t4 t5
  rw [hA] at sr ⊢
  rw [hB] at sy ⊢
  obtain ⟨U, hU⟩ : ∃ U, ((w.alloc (.cells A 23)).alloc (.cells B 23)).alloc (.cells Z 23) = U := ⟨_, rfl⟩
  rw [hU] at t1 t2 t3 t4 t5
  have BU : Hid (Below w.heap.size w U) := t5
  have NU : Hid (NS U v l) := hv.below t5
  have TU : Hid (Tb U) := hT.below t5
  obtain ⟨D, hD⟩ : ∃ D, w.heap.size = D := ⟨_, rfl⟩
  have HD : Hid (w.heap.size = D) := hD
  rw [hD] at t1 t2 t3 t4
  have RR : Hid (U.rangeAt D 0 (bv r)) := t1
  have RY : Hid (U.rangeAt (D + 1) 0 (bv y)) := t2
  have RZ : Hid (U.heap[D + 2]? = some (.cells Z 23 (0, 0))) := t3
  have SU : Hid (U.heap.size = D + 3) := t4
  have HR : Hid (L32 r) := hr
  have HY : Hid (L32 y) := hy
  obtain ⟨Y, hY⟩ : ∃ Y, (if apt l = true then rt l else z32) = Y := ⟨_, rfl⟩
  have HYL : Hid (L32 Y) := by rw [← hY]; exact rz_l32 l
  obtain ⟨e2, he2⟩ : ∃ e2 : Int, (if apt l = true then 0 else 1) = e2 := ⟨_, rfl⟩
  have HRT : Hid (∀ W : World, Below U.heap.size U W → Calls Tryd.prog 10 #[v] W fun e w' => e = .returned (.tuple #[.agg (bv Y).toArray, .int .i64 e2]) ∧ Below W.heap.size W w') := fun W q2 => by
    have := Root_any l hk hlen v W (NU.out.below q2) (TU.out.below q2); rw [hY, he2] at this; exact this
  have HTH : Hid (∀ W : World, Below U.heap.size U W → W.there (D + 2) 0 32) := fun w1 B1 => there_of_row' ((B1.block _ (by have := SU.out; omega)).trans RZ.out) 0 32 (by have := HZS.out; omega)
  rw [ha, if_pos rfl] at he2
  subst he2
  rw [ha, if_pos rfl] at hY
  have HNE : Hid ((!decide (Y = r)) = false) := by show (!decide (Y = r)) = false; rw [← hY]; simpa using hn
  have HIX : Hid (∀ W : World, Below U.heap.size U W → Calls Tryd.prog 22 #[v, .func (.func 23) #[] #[.pointer (some ⟨D + 1, 0, none⟩)]] W fun e w' => e = .returned (.int .i64 J) ∧ Below W.heap.size W w') := fun W q => by
    rw [← hJ]
    exact index_found l hk hlen (fun x => hl x y) _ v W (NU.out.below q) (fun x hx W' q' => fclosure_any x (hk x hx) y HY.out (D + 1) W' (by have := SU.out; have := q.size; have := q'.size; omega) (range_below RY.out (Below.tr' q q') (by have := SU.out; omega)))
  have HXH : Hid (L32 x.h) := (hk x (List.mem_of_getElem? hx)).h
  have HXO : Hid x.Ok := hk x (List.mem_of_getElem? hx)
  have hil : i < l.length := (List.getElem?_eq_some_iff.1 hx).1
  have HZE : Hid ((bv z32).toArray = Z) := hZ
  obtain ⟨ad, cap, rfl, hcp, hm⟩ := hv
  rcases hm with ⟨h0, _⟩ | ⟨b, o, rfl, hlb, hm⟩
  · rw [h0] at hil; simp at hil
  have RX : Hid (U.rangeAt b (o + i * 65) (nc x)) := range_below (hm i x hx) BU.out hlb
  have HLB : Hid (b < U.heap.size) := Nat.lt_of_lt_of_le hlb BU.out.size
  obtain ⟨len, hln⟩ : ∃ len, l.length = len := ⟨_, rfl⟩
  rw [hln] at hil hlen HRT HIX NU ⊢
  obtain ⟨n, hxn⟩ : ∃ n, x.n = n := ⟨_, rfl⟩
  obtain ⟨H, hH⟩ : ∃ H, x.h = H := ⟨_, rfl⟩
  rw [hxn] at hn2
  have HCN : Hid (∀ W : World, Below U.heap.size U W → W.cell? ⟨b, o + i * 65, none⟩ = some (.int .i64 n)) := fun W q => by have := nc_n (range_below RX.out q HLB.out); rw [hxn] at this; exact this
  have HCH : Hid (∀ W : World, Below U.heap.size U W → W.rangeAt b (o + i * 65 + 33) (bv H)) := fun W q => by have := nc_h HXO.out (range_below RX.out q HLB.out); rw [hH] at this; exact this
  rw [hH] at HXH
  try rw [hH]
  have hi9 : (i : Int) < (len : Int) := by omega
  subst hji
  clear hm hlb hln hxn hH hx hlen hcp
  clear t1 t2 t3 t4 t5 hA hB hZ hr hy hT hk hY ha hn hJ
  go_enter Tryd.func12, Tryd.ntmps12
  go_upto_region 1 with (fail)
  try rw [hU]
  try rw [hD]
  clear hU hD
  go_upto_region 2 with (first
    | (refine wpList_store_mid rfl 23 (.tmp 9) (.tmp 14) rfl a1.heap.size 0 (bv Y).toArray rfl rfl (there_new a1 (by rw [List.size_toArray, bv_length, HYL.out.len, HZS.out])) (by rw [List.size_toArray]; exact size_l32 HYL.out) (bv_one' _) ?_; simp only [List.toList_toArray])
    | (go_at_call 10; refine (HRT.out U (Below.refl _ U)).mono ?_; rintro e a1 ⟨rfl, g1⟩; have Ca1 : Hid (Below U.heap.size U a1) := g1; clear g1))
  obtain ⟨a2, ha2⟩ : ∃ a2, (a1.alloc (.cells Z 23)).setCells a1.heap.size 0 (bv Y) = a2 := ⟨_, rfl⟩
  rw [ha2]
  obtain ⟨r1, r2, r3⟩ := laid_row (by rw [bv_length, HYL.out.len, HZS.out]) (by rw [bv_length, HYL.out.len]; omega) ha2
  have R9 : Hid (a2.rangeAt a1.heap.size 0 (bv Y)) := r1
  have Ca2 : Hid (Below U.heap.size U a2) := Below.tr' Ca1.out r2
  clear r1 r2 r3 ha2
  clear hz
  go_wp2_with (first
    | (refine ld 23 (.tmp 9) rfl rfl a1.heap.size 0 rfl (bv Y) _ R9.out Tryd.underlying23 rfl (size_l32 HYL.out) ?_)
    | (refine ld 23 (.tmp 3) rfl rfl D 0 rfl (bv r) _ (range_below RR.out Ca2.out (by have := SU.out; omega)) Tryd.underlying23 rfl (size_l32 HR.out) ?_)
    | (refine wp_bin_run .neq 23 23 (.tmp 20) (.tmp 21) rfl rfl (.agg (bv Y).toArray) (.agg (bv r).toArray) (.bool false) rfl rfl (eqg_32 _ _ _ _ _ a2) ((neq_32 HYL.out HR.out a2).trans (by rw [HNE.out])) ?_)
    | (go_at_call 22; refine (HIX.out a2 Ca2.out).mono ?_; rintro e a3 ⟨rfl, g1⟩; have Ca3 : Hid (Below U.heap.size U a3) := Below.tr' Ca2.out g1; have hcn := HCN.out a3 Ca3.out; clear g1)
    | (refine ld 23 (.tmp 40) rfl rfl b (o + i * 65 + 33) rfl (bv H) _ (HCH.out a3 Ca3.out) Tryd.underlying23 rfl (size_l32 HXH.out) ?_)
    | (refine wpList_store_mid rfl 23 (.tmp 6) (.tmp 41) rfl (D + 2) 0 (bv H).toArray rfl rfl (by rw [List.size_toArray, bv_length, HXH.out.len]; exact HTH.out _ Ca3.out) (by rw [List.size_toArray]; exact size_l32 HXH.out) (bv_one' _) ?_; simp only [List.toList_toArray]))
  have qq : (a3.setCells (D + 2) 0 (bv H)).rangeAt (D + 2) 0 (bv H) := World.rangeAt_setCells_same _ _ _ _ (by rw [bv_length, HXH.out.len]; exact HTH.out _ Ca3.out)
  have hbl : Below w.heap.size w (a3.setCells (D + 2) 0 (bv H)) := below_setCells (by have := HD.out; omega) _ _ (BU.out.trans (Ca3.out.mono BU.out.size))
  refine bodyPost_ret (v := .tuple #[.agg (bv H).toArray, .bool true, .int .i64 0]) ?_ rfl ⟨rfl, hbl⟩
  simp only [results, Tryd.results12]
  simp [Act.put, asAddr, run_loadVar_mid _ (D + 2) 0 23 (bv H) _ qq Tryd.underlying23 rfl (size_l32 HXH.out)]
theorem Found_any (r : List Int) (hr : L32 r) (l : List Nd) (hk : ∀ x ∈ l, x.Ok) (hlen : l.length ≤ 140737488355328) (y : List Int) (hy : L32 y) (v : Value) (w : World) (hv : NS w v l) (hT : Tb w) :
    Calls Tryd.prog 12 #[.agg (bv r).toArray, v, .agg (bv y).toArray] w fun e w' => e = .returned (.tuple #[.agg (bv (fnd r l y).1).toArray, .bool (fnd r l y).2.1, .int .i64 (fnd r l y).2.2]) ∧ Below w.heap.size w w' := by
  unfold fnd
  by_cases ha : apt l = true
  · rw [if_pos ha]
    by_cases hn : rt l = r
    · rw [if_pos hn]
      cases hf : l.find? (fun x => hl x y) with
      | none =>
        have h0 : ∀ x ∈ l, hl x y = false := fun x hx => by have := List.find?_eq_none.1 hf x hx; simpa using this
        exact found_3 r hr l hk hlen y hy v w hv hT ha hn _ rfl (ixf_none h0)
      | some x =>
        obtain ⟨hx, i, hi, rfl, hlo⟩ := List.find?_eq_some_iff_getElem.1 hf
        have hix : ixf (fun x => hl x y) l = (i : Int) := ixf_at (List.getElem?_eq_getElem hi) hx (fun j z hj hz => by
          obtain ⟨h1, rfl⟩ := List.getElem?_eq_some_iff.1 hz
          have := hlo j hj; simpa using this)
        by_cases h2 : l[i].n = 256
        · simp only [if_pos h2]
          exact found_5 r hr l hk hlen y hy v w hv hT ha hn _ rfl i hix _ (List.getElem?_eq_getElem hi) h2
        · simp only [if_neg h2]
          exact found_4 r hr l hk hlen y hy v w hv hT ha hn _ rfl i hix _ (List.getElem?_eq_getElem hi) h2
    · rw [if_neg hn]
      exact found_2 r hr l hk hlen y hy v w hv hT ha hn
  · rw [if_neg ha]
    exact found_1 r hr l hk hlen y hy v w hv hT (by simpa using ha)
end Go.Proofs.YtkeobajlikhghabDoor
