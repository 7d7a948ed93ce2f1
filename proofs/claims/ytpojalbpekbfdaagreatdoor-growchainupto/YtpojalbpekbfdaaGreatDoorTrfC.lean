/- The reference: Found. -/
import Derived.Test.YtpojalbpekbfdaaGreatDoorTrrK
import Derived.Test.YtpojalbpekbfdaaGreatDoorTrrL
import Derived.Test.YtpojalbpekbfdaaGreatDoorTrmD
import Derived.Test.YtpojalbpekbfdaaGreatDoorTrmB
namespace Go.Proofs.YtpojalbpekbfdaaGreatDoor
open Go Go.RowKit
set_option linter.unusedSimpArgs false
set_option linter.unusedVariables false
set_option maxRecDepth 100000

theorem fnd_at {r : List Int} {l : List Nd} {y : List Int} (ha : apt l = true) (hn : rt l = r) {k : Nat} {x : Nd} (hx : l[k]? = some x) (h : hl x y = true) (hlo : ∀ (j : Nat) (z : Nd), j < k → l[j]? = some z → hl z y = false) : fnd r l y = if x.n = 256 then (x.h, true, 0) else (z32, false, 2) := by
  obtain ⟨hk, rfl⟩ := List.getElem?_eq_some_iff.1 hx
  have : l.find? (fun x => hl x y) = some l[k] := List.find?_eq_some_iff_getElem.2 ⟨h, k, hk, rfl, fun j hj => by rw [hlo j _ hj (List.getElem?_eq_getElem (by omega))]; decide⟩
  unfold fnd; rw [if_pos ha, if_pos hn, this]
theorem fnd_no {r : List Int} {l : List Nd} {y : List Int} (ha : apt l = true) (hn : rt l = r) (h : ∀ x ∈ l, hl x y = false) : fnd r l y = (z32, false, 0) := by
  have : l.find? (fun x => hl x y) = none := List.find?_eq_none.2 (fun x hx => by rw [h x hx]; decide)
  unfold fnd; rw [if_pos ha, if_pos hn, this]
def rfn9f (x : Nd) (y : List Int) (b o len cap k : Nat) (g : Bool) : Nat → Value
  | 0 => .slice (some ⟨b, o, none⟩) len cap
  | 1 => .int .i64 (k : Int)
  | 2 => .pointer (some ⟨b, o + k * 65, none⟩)
  | 3 => .agg (nc x).toArray
  | 4 => .agg (bv y).toArray
  | 5 => .bool g
  | _ => undef
set_option maxHeartbeats 4000000 in
theorem rfound_1 (r : List Int) (hr : L32 r) (l : List Nd) (hk : ∀ x ∈ l, x.Ok) (hlen : l.length ≤ 140737488355328) (y : List Int) (hy : L32 y) (v : Value) (w : World) (hv : NS w v l) (ha : apt l = false) :
    Calls Tryz.prog 11 #[.agg (bv r).toArray, v, .agg (bv y).toArray] w fun e w' => e = .returned (.tuple #[.agg (bv z32).toArray, .bool false, .int .i64 1]) ∧ Below w.heap.size w w' := by
  have hz := zero_32
  rw [show List.replicate 32 (0 : Int) = z32 from rfl] at hz
  have HBZ : Hid (∀ W : World, (Instr.build 32 #[]).run Tryz.prog W = .ok (.agg (bv z32).toArray) W) := build_32
  have sr : (bv r).toArray.size = 32 := by rw [List.size_toArray, bv_length, hr.len]
  have sy : (bv y).toArray.size = 32 := by rw [List.size_toArray, bv_length, hy.len]
  obtain ⟨Z, hZ⟩ : ∃ Z, (bv z32).toArray = Z := ⟨_, rfl⟩
  have HZS : Hid (Z.size = 32) := by show Z.size = 32; rw [← hZ]; simp [bv, z32]
  rw [hZ] at hz HBZ
  obtain ⟨t1, t2, t3, t4, t5⟩ := three_blocks w (bv r) (bv y) Z 32 32 32
  obtain ⟨A, hA⟩ : ∃ A, (bv r).toArray = A := ⟨_, rfl⟩
  obtain ⟨B, hB⟩ : ∃ B, (bv y).toArray = B := ⟨_, rfl⟩
  rw [hA, hB] at t1 t2 t3 t4 t5
  rw [hA] at sr ⊢
  rw [hB] at sy ⊢
  obtain ⟨U, hU⟩ : ∃ U, ((w.alloc (.cells A 32)).alloc (.cells B 32)).alloc (.cells Z 32) = U := ⟨_, rfl⟩
  rw [hU] at t1 t2 t3 t4 t5
  have BU : Hid (Below w.heap.size w U) := t5
  have NU : Hid (NS U v l) := hv.below t5
  obtain ⟨D, hD⟩ : ∃ D, w.heap.size = D := ⟨_, rfl⟩
  have HD : Hid (w.heap.size = D) := hD
  rw [hD] at t1 t2 t3 t4
  have RR : Hid (U.rangeAt D 0 (bv r)) := t1
  have RY : Hid (U.rangeAt (D + 1) 0 (bv y)) := t2
  have RZ : Hid (U.heap[D + 2]? = some (.cells Z 32 (0, 0))) := t3
  have SU : Hid (U.heap.size = D + 3) := t4
  have HR : Hid (L32 r) := hr
  have HY : Hid (L32 y) := hy
  obtain ⟨Y, hY⟩ : ∃ Y, (if apt l = true then rt l else z32) = Y := ⟨_, rfl⟩
  have HYL : Hid (L32 Y) := by rw [← hY]; exact rz_l32 l
  obtain ⟨e2, he2⟩ : ∃ e2 : Int, (if apt l = true then 0 else 1) = e2 := ⟨_, rfl⟩
  have HRT : Hid (∀ W : World, Below U.heap.size U W → Calls Tryz.prog 23 #[v] W fun e w' => e = .returned (.tuple #[.agg (bv Y).toArray, .int .i64 e2]) ∧ Below W.heap.size W w') := fun W q2 => by
    have := rRoot_any l hk hlen v W (NU.out.below q2); rw [hY, he2] at this; exact this
  have HTH : Hid (∀ W : World, Below U.heap.size U W → W.there (D + 2) 0 32) := fun w1 B1 => there_of_row' ((B1.block _ (by have := SU.out; omega)).trans RZ.out) 0 32 (by have := HZS.out; omega)
  rw [ha, if_neg (by decide)] at he2
  subst he2
  have HZE : Hid ((bv z32).toArray = Z) := hZ
  obtain ⟨ad, cap, rfl, hcp, hxx⟩ := hv
  have HXX : Hid (l = [] ∧ (ad = none → cap = 0) ∨ ∃ b o, ad = some ⟨b, o, none⟩ ∧ b < w.heap.size ∧ ∀ (i : Nat) (x : Nd), l[i]? = some x → w.rangeAt b (o + i * 65) (nc x)) := hxx
  obtain ⟨len, hln⟩ : ∃ len, l.length = len := ⟨_, rfl⟩
  have HLN : Hid (l.length = len) := hln
  rw [hln] at hlen HRT NU ⊢
  have HKK : Hid (∀ x ∈ l, x.Ok) := hk
  clear t1 t2 t3 t4 t5 hA hB hZ hr hy hY ha hln hxx hk
  go_enter Tryz.func11, Tryz.ntmps11
  go_upto_region 1 with (fail)
  try rw [hU]
  try rw [hD]
  clear hU hD
  go_upto_region 2 with (first
    | (refine wpList_store_mid rfl 32 (.tmp 9) (.tmp 15) rfl a1.heap.size 0 (bv Y).toArray rfl rfl (there_new a1 (by rw [List.size_toArray, bv_length, HYL.out.len, HZS.out])) (by rw [List.size_toArray]; exact size_l32 HYL.out) (bv_one' _) ?_; simp only [List.toList_toArray])
    | (go_at_call 23; refine (HRT.out U (Below.refl _ U)).mono ?_; rintro e a1 ⟨rfl, g1⟩; have Ca1 : Hid (Below U.heap.size U a1) := g1; clear g1))
  obtain ⟨a2, ha2⟩ : ∃ a2, (a1.alloc (.cells Z 32)).setCells a1.heap.size 0 (bv Y) = a2 := ⟨_, rfl⟩
  rw [ha2]
  obtain ⟨r1, r2, r3⟩ := laid_row (by rw [bv_length, HYL.out.len, HZS.out]) (by rw [bv_length, HYL.out.len]; omega) ha2
  have R9 : Hid (a2.rangeAt a1.heap.size 0 (bv Y)) := r1
  have Ca2 : Hid (Below U.heap.size U a2) := Below.tr' Ca1.out r2
  clear r1 r2 r3 ha2
  clear hz
  go_upto_region 3 with (fail)
  refine wp_region_list ?_
  refine wp_build0 32 rfl rfl _ (HBZ.out a2) ?_
  go_wp2_with (refine wpList_store_mid rfl 32 (.tmp 6) (.tmp 19) rfl (D + 2) 0 (bv z32).toArray rfl (congrArg Value.agg HZE.out.symm) (by rw [List.size_toArray, bv_length, z32_l32.len]; exact HTH.out _ Ca2.out) (by rw [List.size_toArray]; exact size_l32 z32_l32) (bv_one' _) ?_; simp only [List.toList_toArray])
  have qq : (a2.setCells (D + 2) 0 (bv z32)).rangeAt (D + 2) 0 (bv z32) := World.rangeAt_setCells_same _ _ _ _ (by rw [bv_length, z32_l32.len]; exact HTH.out _ Ca2.out)
  have hbl : Below w.heap.size w (a2.setCells (D + 2) 0 (bv z32)) := below_setCells (by have := HD.out; omega) _ _ (BU.out.trans (Ca2.out.mono BU.out.size))
  refine bodyPost_ret (v := .tuple #[.agg (bv z32).toArray, .bool false, .int .i64 1]) ?_ rfl ⟨rfl, hbl⟩
  simp only [results, Tryz.results11]
  simp [Act.put, asAddr, run_loadVar_mid _ (D + 2) 0 32 (bv z32) _ qq Tryz.underlying32 rfl (size_l32 z32_l32)]
set_option maxHeartbeats 4000000 in
theorem rfound_2 (r : List Int) (hr : L32 r) (l : List Nd) (hk : ∀ x ∈ l, x.Ok) (hlen : l.length ≤ 140737488355328) (y : List Int) (hy : L32 y) (v : Value) (w : World) (hv : NS w v l) (ha : apt l = true) (hn : rt l ≠ r) :
    Calls Tryz.prog 11 #[.agg (bv r).toArray, v, .agg (bv y).toArray] w fun e w' => e = .returned (.tuple #[.agg (bv z32).toArray, .bool false, .int .i64 3]) ∧ Below w.heap.size w w' := by
  have hz := zero_32
  rw [show List.replicate 32 (0 : Int) = z32 from rfl] at hz
  have HBZ : Hid (∀ W : World, (Instr.build 32 #[]).run Tryz.prog W = .ok (.agg (bv z32).toArray) W) := build_32
  have sr : (bv r).toArray.size = 32 := by rw [List.size_toArray, bv_length, hr.len]
  have sy : (bv y).toArray.size = 32 := by rw [List.size_toArray, bv_length, hy.len]
  obtain ⟨Z, hZ⟩ : ∃ Z, (bv z32).toArray = Z := ⟨_, rfl⟩
  have HZS : Hid (Z.size = 32) := by show Z.size = 32; rw [← hZ]; simp [bv, z32]
  rw [hZ] at hz HBZ
  obtain ⟨t1, t2, t3, t4, t5⟩ := three_blocks w (bv r) (bv y) Z 32 32 32
  obtain ⟨A, hA⟩ : ∃ A, (bv r).toArray = A := ⟨_, rfl⟩
  obtain ⟨B, hB⟩ : ∃ B, (bv y).toArray = B := ⟨_, rfl⟩
  rw [hA, hB] at t1 t2 t3 t4 t5
  rw [hA] at sr ⊢
  rw [hB] at sy ⊢
  obtain ⟨U, hU⟩ : ∃ U, ((w.alloc (.cells A 32)).alloc (.cells B 32)).alloc (.cells Z 32) = U := ⟨_, rfl⟩
  rw [hU] at t1 t2 t3 t4 t5
  have BU : Hid (Below w.heap.size w U) := t5
  have NU : Hid (NS U v l) := hv.below t5
  obtain ⟨D, hD⟩ : ∃ D, w.heap.size = D := ⟨_, rfl⟩
  have HD : Hid (w.heap.size = D) := hD
  rw [hD] at t1 t2 t3 t4
  have RR : Hid (U.rangeAt D 0 (bv r)) := t1
  have RY : Hid (U.rangeAt (D + 1) 0 (bv y)) := t2
  have RZ : Hid (U.heap[D + 2]? = some (.cells Z 32 (0, 0))) := t3
  have SU : Hid (U.heap.size = D + 3) := t4
  have HR : Hid (L32 r) := hr
  have HY : Hid (L32 y) := hy
  obtain ⟨Y, hY⟩ : ∃ Y, (if apt l = true then rt l else z32) = Y := ⟨_, rfl⟩
  have HYL : Hid (L32 Y) := by rw [← hY]; exact rz_l32 l
  obtain ⟨e2, he2⟩ : ∃ e2 : Int, (if apt l = true then 0 else 1) = e2 := ⟨_, rfl⟩
  have HRT : Hid (∀ W : World, Below U.heap.size U W → Calls Tryz.prog 23 #[v] W fun e w' => e = .returned (.tuple #[.agg (bv Y).toArray, .int .i64 e2]) ∧ Below W.heap.size W w') := fun W q2 => by
    have := rRoot_any l hk hlen v W (NU.out.below q2); rw [hY, he2] at this; exact this
  have HTH : Hid (∀ W : World, Below U.heap.size U W → W.there (D + 2) 0 32) := fun w1 B1 => there_of_row' ((B1.block _ (by have := SU.out; omega)).trans RZ.out) 0 32 (by have := HZS.out; omega)
  rw [ha, if_pos rfl] at he2
  subst he2
  rw [ha, if_pos rfl] at hY
  have HNE : Hid ((!decide (Y = r)) = true) := by show (!decide (Y = r)) = true; rw [← hY]; simpa using hn
  have HZE : Hid ((bv z32).toArray = Z) := hZ
  obtain ⟨ad, cap, rfl, hcp, hxx⟩ := hv
  have HXX : Hid (l = [] ∧ (ad = none → cap = 0) ∨ ∃ b o, ad = some ⟨b, o, none⟩ ∧ b < w.heap.size ∧ ∀ (i : Nat) (x : Nd), l[i]? = some x → w.rangeAt b (o + i * 65) (nc x)) := hxx
  obtain ⟨len, hln⟩ : ∃ len, l.length = len := ⟨_, rfl⟩
  have HLN : Hid (l.length = len) := hln
  rw [hln] at hlen HRT NU ⊢
  have HKK : Hid (∀ x ∈ l, x.Ok) := hk
  clear t1 t2 t3 t4 t5 hA hB hZ hr hy hY ha hln hxx hk hn
  go_enter Tryz.func11, Tryz.ntmps11
  go_upto_region 1 with (fail)
  try rw [hU]
  try rw [hD]
  clear hU hD
  go_upto_region 2 with (first
    | (refine wpList_store_mid rfl 32 (.tmp 9) (.tmp 15) rfl a1.heap.size 0 (bv Y).toArray rfl rfl (there_new a1 (by rw [List.size_toArray, bv_length, HYL.out.len, HZS.out])) (by rw [List.size_toArray]; exact size_l32 HYL.out) (bv_one' _) ?_; simp only [List.toList_toArray])
    | (go_at_call 23; refine (HRT.out U (Below.refl _ U)).mono ?_; rintro e a1 ⟨rfl, g1⟩; have Ca1 : Hid (Below U.heap.size U a1) := g1; clear g1))
  obtain ⟨a2, ha2⟩ : ∃ a2, (a1.alloc (.cells Z 32)).setCells a1.heap.size 0 (bv Y) = a2 := ⟨_, rfl⟩
  rw [ha2]
  obtain ⟨r1, r2, r3⟩ := laid_row (by rw [bv_length, HYL.out.len, HZS.out]) (by rw [bv_length, HYL.out.len]; omega) ha2
  have R9 : Hid (a2.rangeAt a1.heap.size 0 (bv Y)) := r1
  have Ca2 : Hid (Below U.heap.size U a2) := Below.tr' Ca1.out r2
  clear r1 r2 r3 ha2
  clear hz
  go_upto_region 5 with (first
    | (refine ld 32 (.tmp 9) rfl rfl a1.heap.size 0 rfl (bv Y) _ R9.out Tryz.underlying32 rfl (size_l32 HYL.out) ?_)
    | (refine ld 32 (.tmp 3) rfl rfl D 0 rfl (bv r) _ (range_below RR.out Ca2.out (by have := SU.out; omega)) Tryz.underlying32 rfl (size_l32 HR.out) ?_)
    | (refine wp_bin_run .neq 32 32 (.tmp 20) (.tmp 21) rfl rfl (.agg (bv Y).toArray) (.agg (bv r).toArray) (.bool true) rfl rfl (eqg_32 _ _ _ _ _ a2) ((neq_32 HYL.out HR.out a2).trans (by rw [HNE.out])) ?_))
  refine wp_region_list ?_
  refine wp_build0 32 rfl rfl _ (HBZ.out a2) ?_
  go_wp2_with (refine wpList_store_mid rfl 32 (.tmp 6) (.tmp 23) rfl (D + 2) 0 (bv z32).toArray rfl (congrArg Value.agg HZE.out.symm) (by rw [List.size_toArray, bv_length, z32_l32.len]; exact HTH.out _ Ca2.out) (by rw [List.size_toArray]; exact size_l32 z32_l32) (bv_one' _) ?_; simp only [List.toList_toArray])
  have qq : (a2.setCells (D + 2) 0 (bv z32)).rangeAt (D + 2) 0 (bv z32) := World.rangeAt_setCells_same _ _ _ _ (by rw [bv_length, z32_l32.len]; exact HTH.out _ Ca2.out)
  have hbl : Below w.heap.size w (a2.setCells (D + 2) 0 (bv z32)) := below_setCells (by have := HD.out; omega) _ _ (BU.out.trans (Ca2.out.mono BU.out.size))
  refine bodyPost_ret (v := .tuple #[.agg (bv z32).toArray, .bool false, .int .i64 3]) ?_ rfl ⟨rfl, hbl⟩
  simp only [results, Tryz.results11]
  simp [Act.put, asAddr, run_loadVar_mid _ (D + 2) 0 32 (bv z32) _ qq Tryz.underlying32 rfl (size_l32 z32_l32)]
set_option maxHeartbeats 4000000 in
theorem rfound_3 (r : List Int) (hr : L32 r) (l : List Nd) (hk : ∀ x ∈ l, x.Ok) (hlen : l.length ≤ 140737488355328) (y : List Int) (hy : L32 y) (v : Value) (w : World) (hv : NS w v l) (ha : apt l = true) (hn : rt l = r) :
    Calls Tryz.prog 11 #[.agg (bv r).toArray, v, .agg (bv y).toArray] w fun e w' => e = .returned (.tuple #[.agg (bv (fnd r l y).1).toArray, .bool (fnd r l y).2.1, .int .i64 (fnd r l y).2.2]) ∧ Below w.heap.size w w' := by
  have hz := zero_32
  rw [show List.replicate 32 (0 : Int) = z32 from rfl] at hz
  have HBZ : Hid (∀ W : World, (Instr.build 32 #[]).run Tryz.prog W = .ok (.agg (bv z32).toArray) W) := build_32
  have sr : (bv r).toArray.size = 32 := by rw [List.size_toArray, bv_length, hr.len]
  have sy : (bv y).toArray.size = 32 := by rw [List.size_toArray, bv_length, hy.len]
  obtain ⟨Z, hZ⟩ : ∃ Z, (bv z32).toArray = Z := ⟨_, rfl⟩
  have HZS : Hid (Z.size = 32) := by show Z.size = 32; rw [← hZ]; simp [bv, z32]
  rw [hZ] at hz HBZ
  obtain ⟨t1, t2, t3, t4, t5⟩ := three_blocks w (bv r) (bv y) Z 32 32 32
  obtain ⟨A, hA⟩ : ∃ A, (bv r).toArray = A := ⟨_, rfl⟩
  obtain ⟨B, hB⟩ : ∃ B, (bv y).toArray = B := ⟨_, rfl⟩
  rw [hA, hB] at t1 t2 t3 t4 t5
  rw [hA] at sr ⊢
  rw [hB] at sy ⊢
  obtain ⟨U, hU⟩ : ∃ U, ((w.alloc (.cells A 32)).alloc (.cells B 32)).alloc (.cells Z 32) = U := ⟨_, rfl⟩
  rw [hU] at t1 t2 t3 t4 t5
  have BU : Hid (Below w.heap.size w U) := t5
  have NU : Hid (NS U v l) := hv.below t5
  obtain ⟨D, hD⟩ : ∃ D, w.heap.size = D := ⟨_, rfl⟩
  have HD : Hid (w.heap.size = D) := hD
  rw [hD] at t1 t2 t3 t4
  have RR : Hid (U.rangeAt D 0 (bv r)) := t1
  have RY : Hid (U.rangeAt (D + 1) 0 (bv y)) := t2
  have RZ : Hid (U.heap[D + 2]? = some (.cells Z 32 (0, 0))) := t3
  have SU : Hid (U.heap.size = D + 3) := t4
  have HR : Hid (L32 r) := hr
  have HY : Hid (L32 y) := hy
  obtain ⟨Y, hY⟩ : ∃ Y, (if apt l = true then rt l else z32) = Y := ⟨_, rfl⟩
  have HYL : Hid (L32 Y) := by rw [← hY]; exact rz_l32 l
  obtain ⟨e2, he2⟩ : ∃ e2 : Int, (if apt l = true then 0 else 1) = e2 := ⟨_, rfl⟩
  have HRT : Hid (∀ W : World, Below U.heap.size U W → Calls Tryz.prog 23 #[v] W fun e w' => e = .returned (.tuple #[.agg (bv Y).toArray, .int .i64 e2]) ∧ Below W.heap.size W w') := fun W q2 => by
    have := rRoot_any l hk hlen v W (NU.out.below q2); rw [hY, he2] at this; exact this
  have HTH : Hid (∀ W : World, Below U.heap.size U W → W.there (D + 2) 0 32) := fun w1 B1 => there_of_row' ((B1.block _ (by have := SU.out; omega)).trans RZ.out) 0 32 (by have := HZS.out; omega)
  rw [ha, if_pos rfl] at he2
  subst he2
  rw [ha, if_pos rfl] at hY
  have HNE : Hid ((!decide (Y = r)) = false) := by show (!decide (Y = r)) = false; rw [← hY]; simpa using hn
  have HZE : Hid ((bv z32).toArray = Z) := hZ
  obtain ⟨ad, cap, rfl, hcp, hxx⟩ := hv
  have HXX : Hid (l = [] ∧ (ad = none → cap = 0) ∨ ∃ b o, ad = some ⟨b, o, none⟩ ∧ b < w.heap.size ∧ ∀ (i : Nat) (x : Nd), l[i]? = some x → w.rangeAt b (o + i * 65) (nc x)) := hxx
  obtain ⟨len, hln⟩ : ∃ len, l.length = len := ⟨_, rfl⟩
  have HLN : Hid (l.length = len) := hln
  rw [hln] at hlen HRT NU ⊢
  have HKK : Hid (∀ x ∈ l, x.Ok) := hk
  have HAP : Hid (apt l = true) := ha
  have HRO : Hid (rt l = r) := hn
  obtain ⟨F1, F2, F3, hF⟩ : ∃ F1 F2 F3, fnd r l y = (F1, F2, F3) := ⟨_, _, _, rfl⟩
  have HFN : Hid (fnd r l y = (F1, F2, F3)) := hF
  rw [hF]
  show Calls _ _ _ _ fun e w' => e = .returned (.tuple #[.agg (bv F1).toArray, .bool F2, .int .i64 F3]) ∧ _
  clear hF
  clear t1 t2 t3 t4 t5 hA hB hZ hr hy hY ha hln hxx hk hn
  go_enter Tryz.func11, Tryz.ntmps11
  go_upto_region 1 with (fail)
  try rw [hU]
  try rw [hD]
  clear hU hD
  go_upto_region 2 with (first
    | (refine wpList_store_mid rfl 32 (.tmp 9) (.tmp 15) rfl a1.heap.size 0 (bv Y).toArray rfl rfl (there_new a1 (by rw [List.size_toArray, bv_length, HYL.out.len, HZS.out])) (by rw [List.size_toArray]; exact size_l32 HYL.out) (bv_one' _) ?_; simp only [List.toList_toArray])
    | (go_at_call 23; refine (HRT.out U (Below.refl _ U)).mono ?_; rintro e a1 ⟨rfl, g1⟩; have Ca1 : Hid (Below U.heap.size U a1) := g1; clear g1))
  obtain ⟨a2, ha2⟩ : ∃ a2, (a1.alloc (.cells Z 32)).setCells a1.heap.size 0 (bv Y) = a2 := ⟨_, rfl⟩
  rw [ha2]
  obtain ⟨r1, r2, r3⟩ := laid_row (by rw [bv_length, HYL.out.len, HZS.out]) (by rw [bv_length, HYL.out.len]; omega) ha2
  have R9 : Hid (a2.rangeAt a1.heap.size 0 (bv Y)) := r1
  have Ca2 : Hid (Below U.heap.size U a2) := Below.tr' Ca1.out r2
  clear r1 r2 r3 ha2
  clear hz
  go_wp2_with (first
    | (refine ld 32 (.tmp 9) rfl rfl a1.heap.size 0 rfl (bv Y) _ R9.out Tryz.underlying32 rfl (size_l32 HYL.out) ?_)
    | (refine ld 32 (.tmp 3) rfl rfl D 0 rfl (bv r) _ (range_below RR.out Ca2.out (by have := SU.out; omega)) Tryz.underlying32 rfl (size_l32 HR.out) ?_)
    | (refine wp_bin_run .neq 32 32 (.tmp 20) (.tmp 21) rfl rfl (.agg (bv Y).toArray) (.agg (bv r).toArray) (.bool false) rfl rfl (eqg_32 _ _ _ _ _ a2) ((neq_32 HYL.out HR.out a2).trans (by rw [HNE.out])) ?_))
  go_loopw [26] (fun i wr => ∃ k : Nat, k ≤ len ∧ i = .int .i64 (k : Int) ∧ (∀ (j : Nat) (x : Nd), j < k → l[j]? = some x → hl x y = false) ∧ Below U.heap.size U wr) (fun i _ => len - (intOf i).toNat)
  case atStart => exact ⟨0, Nat.zero_le _, rfl, fun j x hj => by omega, Ca2.out⟩
  case round =>
    obtain ⟨k, hkl, rfl, hall, h4⟩ := hrel
    have Cwr : Hid (Below U.heap.size U wr) := h4
    have HA : Hid (∀ (j : Nat) (x : Nd), j < k → l[j]? = some x → hl x y = false) := hall
    clear h4 hall
    by_cases hlt : k < len
    · rcases HXX.out with ⟨h0, _⟩ | ⟨b, o, rfl, hlb, hm⟩
      · have := HLN.out; rw [h0] at this; simp at this; omega
      · obtain ⟨x, hx⟩ : ∃ x, l[k]? = some x := ⟨l[k]'(by have := HLN.out; omega), List.getElem?_eq_getElem _⟩
        have HX : Hid x.Ok := HKK.out x (List.mem_of_getElem? hx)
        have HXK : Hid (l[k]? = some x) := hx
        have RX : Hid (wr.rangeAt b (o + k * 65) (nc x)) := range_below (range_below (hm k x hx) BU.out hlb) Cwr.out (Nat.lt_of_lt_of_le hlb BU.out.size)
        have HLB : Hid (b < wr.heap.size) := Nat.lt_of_lt_of_le hlb (Nat.le_trans BU.out.size Cwr.out.size)
        have RYW : Hid (wr.rangeAt (D + 1) 0 (bv y)) := range_below RY.out Cwr.out (by have := SU.out; omega)
        have HLD : Hid (D + 1 < wr.heap.size) := by have h1 := SU.out; have h2 := Cwr.out.size; show D + 1 < _; omega
        obtain ⟨g, hg⟩ : ∃ g, hl x y = g := ⟨_, rfl⟩
        have HHO : Hid (∀ W : World, Calls Tryz.prog 24 #[.agg (nc x).toArray, .agg (bv y).toArray] W fun e w' => e = .returned (.bool g) ∧ Below W.heap.size W w') := fun W => by rw [← hg]; exact rHolds_any x HX.out y HY.out W
        have HG : Hid (hl x y = g) := hg
        have hk9 : (k : Int) < (len : Int) := by omega
        clear hm hlb hx hg
        go_upto_region 9 with (fail)
        refine RU.wp_rgn' [] (rfn9f x y b o len cap k g) (fun _ => 0) (gΩ wr) (by kernel_rfl) (by kernel_rfl) (show Below wr.heap.size wr _ from (Below.refl _ _).drew) ?_ ?_
        · refine ⟨?_, ?_, ?_, ?_, ?_, ?_, trivial⟩
          · refine RU.ObT.pure rfl rfl rfl (fun a V hf hp ev he hc W => ?_)
            have q1 : ev (.tmp 1) = .slice (some ⟨b, o, none⟩) len cap := (he (.tmp 1)).trans (hf 1 rfl)
            simp only [List.getElem_toArray, List.getElem_cons_succ, List.getElem_cons_zero, execOp, Option.map_some, Option.map_none]; rw [q1]
            first | (go_simp; done) | (go_simp; rfl) | rfl
          · refine RU.ObT.pure rfl rfl rfl (fun a V hf hp ev he hc W => ?_)
            have q11 : ev (.tmp 11) = .int .i64 (k : Int) := (he (.tmp 11)).trans (hf 11 rfl)
            simp only [List.getElem_toArray, List.getElem_cons_succ, List.getElem_cons_zero, execOp, Option.map_some, Option.map_none]; rw [q11]
            first | (go_simp; done) | (go_simp; rfl) | rfl
          · refine RU.ObT.pure rfl rfl rfl (fun a V hf hp ev he hc W => ?_)
            have q29 : ev (.tmp 29) = .slice (some ⟨b, o, none⟩) len cap := (he (.tmp 29)).trans (hp 0 29 rfl)
            have q30 : ev (.tmp 30) = .int .i64 (k : Int) := (he (.tmp 30)).trans (hp 1 30 rfl)
            simp only [List.getElem_toArray, List.getElem_cons_succ, List.getElem_cons_zero, execOp, Option.map_some, Option.map_none]; rw [q29, q30]
            have hk9 : (k : Int) < (len : Int) := by omega
            first | (go_simp; done) | (go_simp; rfl) | rfl
          · refine RU.ObT.silent rfl (fun a W k0 V hO hf hp hk => ?_)
            have hO' : Below wr.heap.size wr W := hO
            have q31 : a.eval (.tmp 31) = .pointer (some ⟨b, o + k * 65, none⟩) := hp 2 31 rfl
            exact RU.ob_op rfl (RU.wanted_none rfl) (wp_load_mid 41 (.tmp 31) rfl (b) (o + k * 65) q31 (nc x) _ (range_below RX.out hO' HLB.out) Tryz.underlying41 rfl (size_nc HX.out) ⟨rfl, hO⟩)
          · refine RU.ObT.silent rfl (fun a W k0 V hO hf hp hk => ?_)
            have hO' : Below wr.heap.size wr W := hO
            have q5 : a.eval (.tmp 5) = .pointer (some ⟨D + 1, 0, none⟩) := hf 5 rfl
            exact RU.ob_op rfl (RU.wanted_none rfl) (wp_load_mid 32 (.tmp 5) rfl (D + 1) (0) q5 (bv y) _ (range_below RYW.out hO' HLD.out) Tryz.underlying32 rfl (size_l32 HY.out) ⟨rfl, hO⟩)
          · refine RU.ObT.silent rfl (fun a W k0 V hO hf hp hk => ?_)
            have hO' : Below wr.heap.size wr W := hO
            have e32 : a.eval (.tmp 32) = .agg (nc x).toArray := hp 3 32 rfl
            have e33 : a.eval (.tmp 33) = .agg (bv y).toArray := hp 4 33 rfl
            refine RU.ob_call (g := 24) (args := #[.agg (nc x).toArray, .agg (bv y).toArray]) rfl (RU.wanted_none rfl) (fun ev he hc => ?_) ((HHO.out W).mono ?_)
            · have h32 := (he (.tmp 32)).trans e32
              have h33 := (he (.tmp 33)).trans e33
              have hfn := he (.func 24)
              simp only [List.getElem_toArray, List.getElem_cons_succ, List.getElem_cons_zero, execOp, Option.map_some, Option.map_none]
              simp only [resolve, invoke, Sem.run_bind, Sem.run_pure, Result.andThen_ok, List.map_toArray, List.map_cons, List.map_nil, h32, h33, hfn, Act.eval, hc]
              rfl
            · rintro e' W2 ⟨rfl, hb2⟩
              exact ⟨_, rfl, rfl, (hO'.trans (hb2.mono hO'.size) : Below wr.heap.size wr W2)⟩
        intro W1 VW1 hOW1
        have BW1 : Hid (Below wr.heap.size wr W1) := hOW1
        clear hOW1
        simp only [RU.lay, RU.val, RU.at', rfn9f, Act.put]
        simp only [List.setIfInBounds_toArray, List.set_cons_succ, List.set_cons_zero]
        have CW1 : Hid (Below U.heap.size U W1) := Below.tr' Cwr.out BW1.out
        cases g with
        | false =>
          go_wp2_with fail
          exact ⟨⟨k + 1, by omega, by go_num, fun j z hj hz => by
            rcases Nat.lt_succ_iff_lt_or_eq.1 hj with q | rfl
            · exact HA.out j z q hz
            · rw [HXK.out] at hz; cases hz; exact HG.out, CW1.out⟩, by simp [intOf]; omega⟩
        | true =>
          have hfa := fnd_at HAP.out HRO.out HXK.out HG.out HA.out
          rw [HFN.out] at hfa
          obtain ⟨n, hxn⟩ : ∃ n, x.n = n := ⟨_, rfl⟩
          have hcn := nc_n (range_below RX.out BW1.out HLB.out)
          obtain ⟨H, hH⟩ : ∃ H, x.h = H := ⟨_, rfl⟩
          have HCH : Hid (W1.rangeAt b (o + k * 65 + 33) (bv H)) := by have := nc_h HX.out (range_below RX.out BW1.out HLB.out); rw [hH] at this; exact this
          have HXH : Hid (L32 H) := by rw [← hH]; exact HX.out.h
          rw [hxn] at hfa hcn
          rw [hH] at hfa
          clear hxn hH
          by_cases hn2 : n = 256
          · rw [if_pos hn2] at hfa
            subst hn2
            cases hfa
            go_wp2_with (first
              | (refine ld 32 (.tmp 44) rfl rfl b (o + k * 65 + 33) rfl (bv F1) _ HCH.out Tryz.underlying32 rfl (size_l32 HXH.out) ?_)
              | (refine wpList_store_mid rfl 32 (.tmp 6) (.tmp 45) rfl (D + 2) 0 (bv F1).toArray rfl rfl (by rw [List.size_toArray, bv_length, HXH.out.len]; exact HTH.out _ CW1.out) (by rw [List.size_toArray]; exact size_l32 HXH.out) (bv_one' _) ?_; simp only [List.toList_toArray]))
            have qq : (W1.setCells (D + 2) 0 (bv F1)).rangeAt (D + 2) 0 (bv F1) := World.rangeAt_setCells_same _ _ _ _ (by rw [bv_length, HXH.out.len]; exact HTH.out _ CW1.out)
            have hbl : Below w.heap.size w (W1.setCells (D + 2) 0 (bv F1)) := below_setCells (by have := HD.out; omega) _ _ (BU.out.trans (CW1.out.mono BU.out.size))
            refine bodyPost_ret (v := .tuple #[.agg (bv F1).toArray, .bool true, .int .i64 0]) ?_ rfl ⟨rfl, hbl⟩
            simp only [results, Tryz.results11]
            simp [Act.put, asAddr, run_loadVar_mid _ (D + 2) 0 32 (bv F1) _ qq Tryz.underlying32 rfl (size_l32 HXH.out)]
          · rw [if_neg hn2] at hfa
            cases hfa
            go_upto_region 12 with (fail)
            refine wp_region_list ?_
            refine wp_build0 32 rfl rfl _ (HBZ.out W1) ?_
            go_wp2_with (refine wpList_store_mid rfl 32 (.tmp 6) (.tmp 46) rfl (D + 2) 0 (bv z32).toArray rfl (congrArg Value.agg HZE.out.symm) (by rw [List.size_toArray, bv_length, z32_l32.len]; exact HTH.out _ CW1.out) (by rw [List.size_toArray]; exact size_l32 z32_l32) (bv_one' _) ?_; simp only [List.toList_toArray])
            have qq : (W1.setCells (D + 2) 0 (bv z32)).rangeAt (D + 2) 0 (bv z32) := World.rangeAt_setCells_same _ _ _ _ (by rw [bv_length, z32_l32.len]; exact HTH.out _ CW1.out)
            have hbl : Below w.heap.size w (W1.setCells (D + 2) 0 (bv z32)) := below_setCells (by have := HD.out; omega) _ _ (BU.out.trans (CW1.out.mono BU.out.size))
            refine bodyPost_ret (v := .tuple #[.agg (bv z32).toArray, .bool false, .int .i64 2]) ?_ rfl ⟨rfl, hbl⟩
            simp only [results, Tryz.results11]
            simp [Act.put, asAddr, run_loadVar_mid _ (D + 2) 0 32 (bv z32) _ qq Tryz.underlying32 rfl (size_l32 z32_l32)]
    · have hno := fnd_no (y := y) HAP.out HRO.out (fun x hx => by
        obtain ⟨i, hi, rfl⟩ := List.getElem_of_mem hx
        exact HA.out i _ (by have := HLN.out; omega) (List.getElem?_eq_getElem hi))
      rw [HFN.out] at hno
      cases hno
      go_upto_region 14 with (fail)
      refine wp_region_list ?_
      refine wp_build0 32 rfl rfl _ (HBZ.out wr) ?_
      go_wp2_with (refine wpList_store_mid rfl 32 (.tmp 6) (.tmp 48) rfl (D + 2) 0 (bv z32).toArray rfl (congrArg Value.agg HZE.out.symm) (by rw [List.size_toArray, bv_length, z32_l32.len]; exact HTH.out _ Cwr.out) (by rw [List.size_toArray]; exact size_l32 z32_l32) (bv_one' _) ?_; simp only [List.toList_toArray])
      have qq : (wr.setCells (D + 2) 0 (bv z32)).rangeAt (D + 2) 0 (bv z32) := World.rangeAt_setCells_same _ _ _ _ (by rw [bv_length, z32_l32.len]; exact HTH.out _ Cwr.out)
      have hbl : Below w.heap.size w (wr.setCells (D + 2) 0 (bv z32)) := below_setCells (by have := HD.out; omega) _ _ (BU.out.trans (Cwr.out.mono BU.out.size))
      refine bodyPost_ret (v := .tuple #[.agg (bv z32).toArray, .bool false, .int .i64 0]) ?_ rfl ⟨rfl, hbl⟩
      simp only [results, Tryz.results11]
      simp [Act.put, asAddr, run_loadVar_mid _ (D + 2) 0 32 (bv z32) _ qq Tryz.underlying32 rfl (size_l32 z32_l32)]
theorem rFound_any (r : List Int) (hr : L32 r) (l : List Nd) (hk : ∀ x ∈ l, x.Ok) (hlen : l.length ≤ 140737488355328) (y : List Int) (hy : L32 y) (v : Value) (w : World) (hv : NS w v l) :
    Calls Tryz.prog 11 #[.agg (bv r).toArray, v, .agg (bv y).toArray] w fun e w' => e = .returned (.tuple #[.agg (bv (fnd r l y).1).toArray, .bool (fnd r l y).2.1, .int .i64 (fnd r l y).2.2]) ∧ Below w.heap.size w w' := by
  by_cases ha : apt l = true
  · by_cases hn : rt l = r
    · exact rfound_3 r hr l hk hlen y hy v w hv ha hn
    · have e : fnd r l y = (z32, false, 3) := by unfold fnd; rw [if_pos ha, if_neg hn]
      rw [e]
      exact rfound_2 r hr l hk hlen y hy v w hv ha hn
  · have e : fnd r l y = (z32, false, 1) := by unfold fnd; rw [if_neg ha]
    rw [e]
    exact rfound_1 r hr l hk hlen y hy v w hv (by simpa using ha)
end Go.Proofs.YtpojalbpekbfdaaGreatDoor
/- Plain mathematics: what an opening tells. -/
namespace Go.Proofs.YtpojalbpekbfdaaGreatDoor
open Go Go.RowKit
set_option linter.unusedSimpArgs false
set_option linter.unusedVariables false
set_option maxRecDepth 100000

theorem fnd_ok32 (r : List Int) (l : List Nd) (hk : ∀ x ∈ l, x.Ok) (y : List Int) : L32 (fnd r l y).1 := by
  unfold fnd
  split
  · split
    · split
      · exact z32_l32
      · next x hx =>
        split
        · exact (hk x (List.mem_of_find?_eq_some hx)).h
        · exact z32_l32
    · exact z32_l32
  · exact z32_l32
theorem ris_same {S : List Nd} (h : Ris S) {a b : Nd} (ha : a ∈ S) (hb : b ∈ S) (e : pf a.p 256 = pf b.p 256) : a = b := by
  obtain ⟨i, hi, rfl⟩ := List.getElem_of_mem ha
  obtain ⟨j, hj, rfl⟩ := List.getElem_of_mem hb
  rcases Nat.lt_trichotomy i j with q | q | q
  · have := h.lt (List.getElem?_eq_getElem hi) (List.getElem?_eq_getElem hj) q; omega
  · subst q; rfl
  · have := h.lt (List.getElem?_eq_getElem hj) (List.getElem?_eq_getElem hi) q; omega
theorem hl_leaf {z : Nd} (hz : z.n = 256) {y : List Int} (h : hl z y = true) : pf z.p 256 = pf y 256 := by
  unfold hl at h
  rw [Bool.and_eq_true, decide_eq_true_iff, hz] at h
  exact ((cm_ge (Nat.le_refl _)).1 h.2).pf
theorem hl_self {z : Nd} (hg : gd z = true) (y : List Int) (e : z.p = y) (hz : z.n = 256) : hl z y = true := by
  unfold hl
  rw [hg, Bool.true_and, decide_eq_true_iff, hz]
  exact (cm_ge (Nat.le_refl _)).2 (fun i _ => by rw [e])
/-- What the opening of leaves tells under their root. -/
theorem back_core {Q : List Lf} (hk : ∀ x ∈ Q, x.Ok) (ho : okl Q) {y : List Int} (hy : L32 y) :
    fnd (rt (so Q)) (opl y (so Q)) y = match (opl y (so Q)).find? (fun x => hl x y) with | none => (z32, false, 0) | some x => if x.n = 256 then (x.h, true, 0) else (z32, false, 2) := by
  have ha : apt (opl y (so Q)) = true ∧ rt (opl y (so Q)) = rt (so Q) := by
    by_cases h0 : so Q = []
    · rw [h0, opl_nil]; exact ⟨rfl, rfl⟩
    · have hap : Apn (so Q) := ⟨so_ok hk ho, (so_spec ho).2⟩
      have hcu := wo_cu (fun n => hl n y) (so Q).length (so Q) (Nat.le_refl _) hap.rsn.ris h0
      rw [wo_opl y _ _ hap.rsn.ris (Nat.le_refl _)] at hcu
      exact ⟨(cu_main hcu hap).2.1.ap, rt_cu hcu hap h0⟩
  unfold fnd
  rw [if_pos ha.1, if_pos ha.2]
  cases List.find? (fun x => hl x y) (opl y (so Q)) <;> rfl
theorem back_mem {Q : List Lf} (hk : ∀ x ∈ Q, x.Ok) (ho : okl Q) {y : List Int} (hy : L32 y) {z : Nd} (hz : z ∈ opl y (so Q)) (hh : hl z y = true) : ∃ x ∈ Q, z = ln x ∧ x.p = y := by
  have hap : Apn (so Q) := ⟨so_ok hk ho, (so_spec ho).2⟩
  rw [← wo_opl y _ _ hap.rsn.ris (Nat.le_refl _)] at hz
  have hm := wo_mem _ _ z hz hh
  obtain ⟨x, hx, rfl⟩ := List.mem_map.1 ((so_spec ho).1.mem_iff.1 hm)
  exact ⟨x, hx, rfl, (hk x hx).p.ext hy (hl_leaf (z := ln x) rfl hh)⟩
theorem back_yes {Q : List Lf} (hk : ∀ x ∈ Q, x.Ok) (ho : okl Q) {y : List Int} (hy : L32 y) {x : Lf} (hx : x ∈ Q) (e : x.p = y) : fnd (rt (so Q)) (opl y (so Q)) y = ((ln x).h, true, 0) := by
  have hap : Apn (so Q) := ⟨so_ok hk ho, (so_spec ho).2⟩
  have hms : ln x ∈ so Q := (so_spec ho).1.mem_iff.2 (List.mem_map_of_mem hx)
  have hh : hl (ln x) y = true := hl_self (ln_gd (hk x hx)) y e rfl
  have hin := wo_has (so Q).length (so Q) (ln x) (Nat.le_refl _) hap.rsn.ris hms hh (fun z hz => (map_ok hk (so_spec ho).1 z hz).2.2)
  rw [wo_opl y _ _ hap.rsn.ris (Nat.le_refl _)] at hin
  rw [back_core hk ho hy]
  cases hf : (opl y (so Q)).find? (fun x => hl x y) with
  | none => exact absurd hh (by have := List.find?_eq_none.1 hf _ hin; simpa using this)
  | some z =>
    have hz := List.mem_of_find?_eq_some hf
    have hzh : hl z y = true := List.find?_some (p := fun x => hl x y) hf
    obtain ⟨x', hx', rfl, e'⟩ := back_mem hk ho hy hz hzh
    have hms' : ln x' ∈ so Q := (so_spec ho).1.mem_iff.2 (List.mem_map_of_mem hx')
    have : ln x' = ln x := ris_same hap.rsn.ris hms' hms (show pf x'.p 256 = pf x.p 256 by rw [e, e'])
    rw [this]
    rfl
theorem back_no {Q : List Lf} (hk : ∀ x ∈ Q, x.Ok) (ho : okl Q) {y : List Int} (hy : L32 y) (hn : ∀ x ∈ Q, x.p ≠ y) : fnd (rt (so Q)) (opl y (so Q)) y = (z32, false, 0) := by
  rw [back_core hk ho hy]
  cases hf : (opl y (so Q)).find? (fun x => hl x y) with
  | none => rfl
  | some z =>
    obtain ⟨x', hx', -, e'⟩ := back_mem hk ho hy (List.mem_of_find?_eq_some hf) (List.find?_some (p := fun x => hl x y) hf)
    exact absurd e' (hn x' hx')
/-- An aggregate of nothing given, built behind a guard. -/
theorem wp_build0g {P : Program} {ops : Array Oper} {rest : List Oper} {o : Oper} {a : Act} {w : World} {Q : Exit → Act → World → Prop} (t : TypeId) (ho : o.op = .build t #[]) (hw : Region.wanted o (yielded ops a.tmps) = true) (cells : Array Value)
    (hr : (Instr.build t #[]).run P w = .ok (.agg cells) w) (h : wpList P ops Q rest (a.put o.dst (.agg cells)) w) : wpList P ops Q (o :: rest) a w := by
  unfold wpList
  rw [if_pos hw]
  refine .inl ?_
  unfold Oper.wp execOp
  simp only [ho, Sem.run_bind, List.map_toArray, List.map_nil, hr, Result.andThen_ok, Sem.run_pure]
  exact h
end Go.Proofs.YtpojalbpekbfdaaGreatDoor
