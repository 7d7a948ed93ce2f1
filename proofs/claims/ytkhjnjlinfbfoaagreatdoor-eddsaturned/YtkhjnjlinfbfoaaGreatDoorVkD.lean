/- The program's Verify, walked. -/
import Derived.Test.YtkhjnjlinfbfoaaGreatDoorVeV
import Derived.Test.YtkhjnjlinfbfoaaGreatDoorVhA
set_option linter.unusedSimpArgs false
set_option linter.unusedVariables false
namespace Go.Proofs.YtkhjnjlinfbfoaaGreatDoor.Wi
open Go Go.RowKit
set_option maxRecDepth 100000
def vfE (a p r s : List Int) : Int := if rk a ≠ 0 ∨ sm a = true ∨ cn s = false then 2 else if df s (hd [r, a, p]) a = r then 0 else 3
theorem vf_no {a p r s : List Int} (h : rk a ≠ 0 ∨ sm a = true ∨ cn s = false) : vfE a p r s = 2 := by unfold vfE; rw [if_pos h]
theorem vf_yes {a p r s : List Int} (h1 : rk a = 0) (h2 : sm a = false) (h3 : cn s = true) : vfE a p r s = if df s (hd [r, a, p]) a = r then 0 else 3 := by
  unfold vfE; rw [if_neg (by rw [h1, h2, h3]; simp)]
theorem size64 : (Tryz.prog.info? 24).map (·.size) = some 64 := by kernel_rfl
theorem r64_lo {w : World} {b : Nat} {r s : List Int} (h : w.rangeAt b 0 (bv (r ++ s))) : w.rangeAt b 0 (bv r) := fun j v hj => h j v (by
  rw [bv_append, List.getElem?_append_left (List.getElem?_eq_some_iff.1 hj).1]; exact hj)
theorem r64_hi {w : World} {b : Nat} {r s : List Int} (hr : L32 r) (h : w.rangeAt b 0 (bv (r ++ s))) : w.rangeAt b 32 (bv s) := fun j v hj => by
  have := h (32 + j) v (by rw [bv_append, List.getElem?_append_right (by rw [bv_length, hr.len]; omega), bv_length, hr.len, show 32 + j - 32 = j by omega]; exact hj)
  rwa [Nat.zero_add] at this
theorem glo_below {w w' : World} (h : Glo Ve.MA w) (hb : Below w.heap.size w w') : Glo Ve.MA w' := h.below hb
def phV (x : List (List Int)) : Nat → Value → World → Prop
  | 3, v, W => LL W v x
  | _, _, _ => True
theorem phV_mono (x : List (List Int)) : ∀ i v W W', phV x i v W → Below W.heap.size W W' → phV x i v W' := by
  intro i v W W' h hb
  by_cases q3 : i = 3
  · subst q3; exact LL.below h hb
  · unfold phV
    split
    · exact absurd rfl q3
    · trivial
def vp1f (D : Nat) (r s : List Int) : Nat → Option Value
  | 0 => some (.slice (some ⟨D + 1, 0, none⟩) 32 64)
  | 1 => some (.pointer (some ⟨D + 1, 0, none⟩))
  | 2 => some (.agg (bv r).toArray)
  | 3 => some (.slice (some ⟨D + 1, 32, none⟩) 32 32)
  | 4 => some (.pointer (some ⟨D + 1, 32, none⟩))
  | 5 => some (.agg (bv s).toArray)
  | _ => none
def vp5f (D b6 : Nat) (v : Value) (K : List Int) : Nat → Option Value
  | 0 => some (.slice (some ⟨b6, 0, none⟩) 32 32)
  | 1 => some (.slice (some ⟨D, 0, none⟩) 32 32)
  | 2 => some (v)
  | 4 => some (.agg (bv K).toArray)
  | _ => none
def vp6f (s K a' Y r : List Int) : Nat → Option Value
  | 0 => some (.agg (bv s).toArray)
  | 1 => some (.agg (bv K).toArray)
  | 2 => some (.agg (bv a').toArray)
  | 3 => some (.agg (bv Y).toArray)
  | 4 => some (.agg (bv r).toArray)
  | 5 => some (.bool (!decide (Y = r)))
  | _ => none
set_option maxHeartbeats 4000000 in
theorem verify_any (a' p r s : List Int) (ha : L32 a') (hr : L32 r) (hs : L32 s) (hp : Byt p) (hl : p.length ≤ 140737488353000) (v : Value) (w : World) (hv : Sl w v p) (hg : Glo Ve.MA w) :
    Calls Tryz.prog 6 #[.agg (bv a').toArray, v, .agg (bv (r ++ s)).toArray] w fun e w' => e = .returned (.int .i64 (vfE a' p r s)) ∧ Below w.heap.size w w' := by
  have HA : Hid (L32 a') := ha
  have HR : Hid (L32 r) := hr
  have HS : Hid (L32 s) := hs
  have HBY : Hid (∀ m ∈ [r, a', p], Byt m) := fun m hm => by
    simp only [List.mem_cons, List.not_mem_nil, or_false] at hm
    rcases hm with rfl | rfl | rfl
    · exact hr.byt
    · exact ha.byt
    · exact hp
  have HN3 : Hid ([r, a', p].length ≤ 1000) := by show 3 ≤ 1000; omega
  have HJ3 : Hid ((joA [r, a', p]).length ≤ 140737488354000) := by
    show (([] ++ r) ++ a' ++ p).length ≤ _
    rw [List.length_append, List.length_append, List.nil_append, hr.len, ha.len]; omega
  have ra := range_alloc w (bv a') 22 (0, 0)
  have rg := range_alloc (w.alloc (.cells (bv a').toArray 22)) (bv (r ++ s)) 24 (0, 0)
  have s1 : (bv a').toArray.size = 32 := by rw [List.size_toArray]; exact l32_cells ha
  have s2 : (bv (r ++ s)).toArray.size = 64 := by rw [List.size_toArray, bv_length, List.length_append, hr.len, hs.len]
  obtain ⟨A, hA⟩ : ∃ A, (bv a').toArray = A := ⟨_, rfl⟩
  obtain ⟨G, hG⟩ : ∃ G, (bv (r ++ s)).toArray = G := ⟨_, rfl⟩
  rw [hA] at ra s1 rg ⊢
  rw [hG] at rg s2 ⊢
  obtain ⟨U, hU⟩ : ∃ U, (w.alloc (.cells A 22)).alloc (.cells G 24) = U := ⟨_, rfl⟩
  have sU : U.heap.size = w.heap.size + 2 := by rw [← hU]; simp
  have bU : Below w.heap.size w U := by rw [← hU]; exact ((Below.refl _ w).alloc (Nat.le_refl _) _).alloc (by simp) _
  have rp : U.rangeAt w.heap.size 0 (bv a') := by rw [← hU]; exact range_below ra ((Below.refl _ _).alloc (Nat.le_refl _) _) (by simp)
  have rq : U.rangeAt (w.heap.size + 1) 0 (bv (r ++ s)) := by rw [← hU]; have := rg; rw [show (w.alloc (.cells A 22)).heap.size = w.heap.size + 1 by simp] at this; exact this
  have BU : Hid (Below w.heap.size w U) := bU
  have HVU : Hid (Sl U v p) := hv.below bU (Nat.le_refl _)
  have HGU : Hid (Glo Ve.MA U) := hg.below bU
  obtain ⟨D, hD⟩ : ∃ D, w.heap.size = D := ⟨_, rfl⟩
  have HD : Hid (w.heap.size = D) := hD
  rw [hD] at sU rp rq
  have RP : Hid (U.rangeAt D 0 (bv a')) := rp
  have RL : Hid (U.rangeAt (D + 1) 0 (bv r)) := r64_lo rq
  have RH : Hid (U.rangeAt (D + 1) 32 (bv s)) := r64_hi hr rq
  have hDX : Hid (D + 1 < U.heap.size) := by show D + 1 < _; omega
  obtain ⟨K, hK⟩ : ∃ K, hd [r, a', p] = K := ⟨_, rfl⟩
  have HKE : Hid (hd [r, a', p] = K) := hK
  have HK : Hid (L32 K) := by rw [← hK]; exact L32.hd _
  clear ra rg bU rp rq hA hG ha hr hs hp hv hg sU hK hl
  go_enter Tryz.func6, Tryz.ntmps6
  go_upto_region 1 with (fail)
  try rw [hU]
  try rw [hD]
  clear hU hD s1 s2
--@1
  refine RG.wp_rgn' (GI U (vp1f D r s) (fun _ _ _ => True) [(6, 8, bv r, bv z32), (7, 9, bv s, bv z32)]) (by kernel_rfl) (by kernel_rfl) GI.start ?_ ?_
  · refine ⟨?_, ?_, ?_, ?_, ?_, ?_, ?_, ?_, ?_, ?_, trivial⟩
    · intro a W d V hI hd hpx hbk hf hp
      have hO' : Below U.heap.size U W := hI.be
      refine RU.ob_val (v := .slice (some ⟨D + 1, 0, none⟩) 32 64) rfl (RU.wanted_none rfl) (fun ev he hc => ?_) ⟨_, rfl, hI.step (fun _ _ _ _ _ _ => trivial) (Below.refl _ _) 0 _ (by simp) (fun u hu => by first | (cases hu; rfl) | cases hu) (trivial)⟩
      have q5 : ev (.tmp 5) = .pointer (some ⟨D + 1, 0, none⟩) := (he (.tmp 5)).trans (hf 5 rfl)
      simp only [qF, qD, qE, execOp, Option.map_some, Option.map_none]; rw [q5]
      try simp only [hc]
      first | (go_simp; done) | (go_simp; rfl) | rfl
    · intro a W d V hI hd hpx hbk hf hp
      have hO' : Below U.heap.size U W := hI.be
      refine RU.ob_val (v := .pointer (some ⟨D + 1, 0, none⟩)) rfl (RU.wanted_none rfl) (fun ev he hc => ?_) ⟨_, rfl, hI.step (fun _ _ _ _ _ _ => trivial) (Below.refl _ _) 1 _ (by simp) (fun u hu => by first | (cases hu; rfl) | cases hu) (trivial)⟩
      have q12 : ev (.tmp 12) = .slice (some ⟨D + 1, 0, none⟩) 32 64 := (he (.tmp 12)).trans ((hp 0 12 rfl).trans (hI.kn 0 _ rfl (hpx 0 rfl)))
      simp only [qF, qD, qE, execOp, Option.map_some, Option.map_none]; rw [q12]
      first | (go_simp; done) | (go_simp; rfl) | rfl
    · intro a W d V hI hd hpx hbk hf hp
      have hO' : Below U.heap.size U W := hI.be
      have q13 : a.eval (.tmp 13) = .pointer (some ⟨D + 1, 0, none⟩) := (hp 1 13 rfl).trans (hI.kn 1 _ rfl (hpx 1 rfl))
      exact RU.ob_op rfl (RU.wanted_none rfl) (wp_load_mid 22 (.tmp 13) rfl (D + 1) (0) q13 (bv r) _ (range_below RL.out hO' hDX.out) Tryz.underlying22 rfl (size_l32 HR.out) ⟨_, rfl, hI.step (fun _ _ _ _ _ _ => trivial) (Below.refl _ _) 2 _ (by simp) (fun u hu => by first | (cases hu; rfl) | cases hu) (trivial)⟩)
    · intro a W d V hI hd hpx hbk hf hp
      have hO' : Below U.heap.size U W := hI.be
      refine RU.ob_val (v := .slice (some ⟨D + 1, 32, none⟩) 32 32) rfl (RU.wanted_none rfl) (fun ev he hc => ?_) ⟨_, rfl, hI.step (fun _ _ _ _ _ _ => trivial) (Below.refl _ _) 3 _ (by simp) (fun u hu => by first | (cases hu; rfl) | cases hu) (trivial)⟩
      have q5 : ev (.tmp 5) = .pointer (some ⟨D + 1, 0, none⟩) := (he (.tmp 5)).trans (hf 5 rfl)
      simp only [qF, qD, qE, execOp, Option.map_some, Option.map_none]; rw [q5]
      try simp only [hc]
      first | (go_simp; done) | (go_simp; rfl) | rfl
    · intro a W d V hI hd hpx hbk hf hp
      have hO' : Below U.heap.size U W := hI.be
      refine RU.ob_val (v := .pointer (some ⟨D + 1, 32, none⟩)) rfl (RU.wanted_none rfl) (fun ev he hc => ?_) ⟨_, rfl, hI.step (fun _ _ _ _ _ _ => trivial) (Below.refl _ _) 4 _ (by simp) (fun u hu => by first | (cases hu; rfl) | cases hu) (trivial)⟩
      have q15 : ev (.tmp 15) = .slice (some ⟨D + 1, 32, none⟩) 32 32 := (he (.tmp 15)).trans ((hp 3 15 rfl).trans (hI.kn 3 _ rfl (hpx 3 rfl)))
      simp only [qF, qD, qE, execOp, Option.map_some, Option.map_none]; rw [q15]
      first | (go_simp; done) | (go_simp; rfl) | rfl
    · intro a W d V hI hd hpx hbk hf hp
      have hO' : Below U.heap.size U W := hI.be
      have q16 : a.eval (.tmp 16) = .pointer (some ⟨D + 1, 32, none⟩) := (hp 4 16 rfl).trans (hI.kn 4 _ rfl (hpx 4 rfl))
      exact RU.ob_op rfl (RU.wanted_none rfl) (wp_load_mid 22 (.tmp 16) rfl (D + 1) (32) q16 (bv s) _ (range_below RH.out hO' hDX.out) Tryz.underlying22 rfl (size_l32 HS.out) ⟨_, rfl, hI.step (fun _ _ _ _ _ _ => trivial) (Below.refl _ _) 5 _ (by simp) (fun u hu => by first | (cases hu; rfl) | cases hu) (trivial)⟩)
    · intro a W d V hI hd hpx hbk hf hp
      have hO' : Below U.heap.size U W := hI.be
      refine RU.ob_run (v := .pointer (some ⟨W.heap.size, 0, none⟩)) (w' := W.alloc (.cells (bv z32).toArray 22)) rfl (RU.wanted_none rfl) (fun ev he hc => ?_) ⟨_, rfl, hI.alloc (fun _ _ _ _ _ _ => trivial) (6, 8, bv r, bv z32) (by simp) 22 (hbk 8 rfl) (by simp) (by simp) rfl (fun _ _ => trivial)⟩
      simp only [qF, qD, qE, execOp]
      first | (go_simp; done) | (go_simp; rfl) | (go_simp; rw [zero_32]; rfl)
    · intro a W d V hI hd hpx hbk hf hp
      have hO' : Below U.heap.size U W := hI.be
      refine RU.ob_run (v := .pointer (some ⟨W.heap.size, 0, none⟩)) (w' := W.alloc (.cells (bv z32).toArray 22)) rfl (RU.wanted_none rfl) (fun ev he hc => ?_) ⟨_, rfl, hI.alloc (fun _ _ _ _ _ _ => trivial) (7, 9, bv s, bv z32) (by simp) 22 (hbk 9 rfl) (by simp) (by simp) rfl (fun _ _ => trivial)⟩
      simp only [qF, qD, qE, execOp]
      first | (go_simp; done) | (go_simp; rfl) | (go_simp; rw [zero_32]; rfl)
    · intro a W d V hI hd hpx hbk hf hp
      have hO' : Below U.heap.size U W := hI.be
      have d9 : d 6 = true := hpx 6 rfl
      obtain ⟨b, hV, -, -, hth, -⟩ := hI.pt (6, 8, bv r, bv z32) (by simp) d9
      have qp : a.eval (.tmp 7) = .pointer (some ⟨b, 0, none⟩) := (hp 6 7 rfl).trans hV
      have qv : a.eval (.tmp 14) = .agg (bv r).toArray := (hp 2 14 rfl).trans (hI.kn 2 _ rfl (hpx 2 rfl))
      exact RU.ob_op rfl (RU.wanted_none rfl) (wp_store_mid 22 (.tmp 7) (.tmp 14) rfl b 0 (bv r).toArray qp qv (by rw [List.size_toArray, (show (bv r).length = (bv z32).length by rw [bv_length, bv_length, HR.out.len, z32_l32.len])]; exact hth) (by rw [List.size_toArray]; exact size_l32 HR.out) (bv_one' _) ⟨_, rfl, by simp only [List.toList_toArray]; exact hI.store (6, 8, bv r, bv z32) (by simp) d9 hV _ (by simp) (by simp) rfl (show (bv r).length = (bv z32).length by rw [bv_length, bv_length, HR.out.len, z32_l32.len]) (by simp)⟩)
    · intro a W d V hI hd hpx hbk hf hp
      have hO' : Below U.heap.size U W := hI.be
      have d9 : d 7 = true := hpx 7 rfl
      obtain ⟨b, hV, -, -, hth, -⟩ := hI.pt (7, 9, bv s, bv z32) (by simp) d9
      have qp : a.eval (.tmp 8) = .pointer (some ⟨b, 0, none⟩) := (hp 7 8 rfl).trans hV
      have qv : a.eval (.tmp 17) = .agg (bv s).toArray := (hp 5 17 rfl).trans (hI.kn 5 _ rfl (hpx 5 rfl))
      exact RU.ob_op rfl (RU.wanted_none rfl) (wp_store_mid 22 (.tmp 8) (.tmp 17) rfl b 0 (bv s).toArray qp qv (by rw [List.size_toArray, (show (bv s).length = (bv z32).length by rw [bv_length, bv_length, HS.out.len, z32_l32.len])]; exact hth) (by rw [List.size_toArray]; exact size_l32 HS.out) (bv_one' _) ⟨_, rfl, by simp only [List.toList_toArray]; exact hI.store (7, 9, bv s, bv z32) (by simp) d9 hV _ (by simp) (by simp) rfl (show (bv s).length = (bv z32).length by rw [bv_length, bv_length, HS.out.len, z32_l32.len]) (by simp)⟩)
  intro W1 dW1 VW1 hal hI
  have BW1 : Hid (Below U.heap.size U W1) := hI.be
  have hs0 : VW1 0 = .slice (some ⟨D + 1, 0, none⟩) 32 64 := hI.kn 0 _ rfl (hal 0 (by decide))
  have hs1 : VW1 1 = .pointer (some ⟨D + 1, 0, none⟩) := hI.kn 1 _ rfl (hal 1 (by decide))
  have hs2 : VW1 2 = .agg (bv r).toArray := hI.kn 2 _ rfl (hal 2 (by decide))
  have hs3 : VW1 3 = .slice (some ⟨D + 1, 32, none⟩) 32 32 := hI.kn 3 _ rfl (hal 3 (by decide))
  have hs4 : VW1 4 = .pointer (some ⟨D + 1, 32, none⟩) := hI.kn 4 _ rfl (hal 4 (by decide))
  have hs5 : VW1 5 = .agg (bv s).toArray := hI.kn 5 _ rfl (hal 5 (by decide))
  obtain ⟨b6, hs6, hb6, hl6, -, hr6⟩ := hI.pt (6, 8, bv r, bv z32) (by simp) (hal 6 (by decide))
  have hs6 : VW1 6 = .pointer (some ⟨b6, 0, none⟩) := hs6
  have R6W1 : Hid (W1.rangeAt b6 0 (bv r)) := by have h9 : dW1 8 = true := hal 8 (by decide); simp only [h9, if_true] at hr6; exact hr6
  have L6W1 : Hid (b6 < W1.heap.size) := hl6
  have G6W1 : Hid (U.heap.size ≤ b6) := hb6
  obtain ⟨b7, hs7, hb7, hl7, -, hr7⟩ := hI.pt (7, 9, bv s, bv z32) (by simp) (hal 7 (by decide))
  have hs7 : VW1 7 = .pointer (some ⟨b7, 0, none⟩) := hs7
  have R7W1 : Hid (W1.rangeAt b7 0 (bv s)) := by have h9 : dW1 9 = true := hal 9 (by decide); simp only [h9, if_true] at hr7; exact hr7
  have L7W1 : Hid (b7 < W1.heap.size) := hl7
  have G7W1 : Hid (U.heap.size ≤ b7) := hb7
  simp only [RU.lay, Act.put, hs0, hs1, hs2, hs3, hs4, hs5, hs6, hs7]
  simp only [qA, qB, qC]
  clear hI hal hs0 hs1 hs2 hs3 hs4 hs5 hs6 hs7 hb6 hl6 hr6 hb7 hl7 hr7
--@2
  have HG1 : Hid (Glo Ve.MA W1) := glo_below HGU.out BW1.out
  have RA1 : Hid (W1.rangeAt D 0 (bv a')) := range_below RP.out BW1.out (by have := hDX.out; omega)
  have LA1 : Hid (D < W1.heap.size) := Nat.lt_of_lt_of_le (by have := hDX.out; omega) BW1.out.size
  go_upto_region 3 with (first
    | (refine wpList_load_mid rfl 22 (.tmp 3) rfl D 0 rfl (bv a') _ RA1.out Tryz.underlying22 rfl (size_l32 HA.out) ?_)
    | (go_at_call 11; refine (small_sl HA.out W1 (Ve.gp HG1.out)).mono ?_; rintro e W2 ⟨rfl, g1⟩; have B2 : Hid (Below W1.heap.size W1 W2) := g1; clear g1))
  have HG2 : Hid (Glo Ve.MA W2) := glo_below HG1.out B2.out
  have R6 : Hid (W2.rangeAt b6 0 (bv r)) := range_below R6W1.out B2.out L6W1.out
  have L6 : Hid (b6 < W2.heap.size) := Nat.lt_of_lt_of_le L6W1.out B2.out.size
  have R7 : Hid (W2.rangeAt b7 0 (bv s)) := range_below R7W1.out B2.out L7W1.out
  have L7 : Hid (b7 < W2.heap.size) := Nat.lt_of_lt_of_le L7W1.out B2.out.size
  have RA2 : Hid (W2.rangeAt D 0 (bv a')) := range_below RA1.out B2.out LA1.out
  have LA2 : Hid (D < W2.heap.size) := Nat.lt_of_lt_of_le LA1.out B2.out.size
  have HV2 : Hid (Sl W2 v p) := (HVU.out.below BW1.out (Nat.le_refl _)).below B2.out (Nat.le_refl _)
  have BW2 : Hid (Below w.heap.size w W2) := (BU.out.trans (BW1.out.mono BU.out.size)).trans (B2.out.mono (Nat.le_trans BU.out.size BW1.out.size))
--@3
  obtain ⟨ek, hek⟩ : ∃ z, rk a' = z := ⟨_, rfl⟩
  obtain ⟨sk, hsk⟩ : ∃ z, sm a' = z := ⟨_, rfl⟩
  obtain ⟨ck, hck⟩ : ∃ z, cn s = z := ⟨_, rfl⟩
  have HEK : Hid (rk a' = ek) := hek
  have HSK : Hid (sm a' = sk) := hsk
  have HCK : Hid (cn s = ck) := hck
  rw [hek, hsk]
  clear hek hsk hck
  by_cases h0 : ek = 0
  · subst h0
    cases sk with
    | true =>
      have HF : Hid (vfE a' p r s = 2) := vf_no (.inr (.inl HSK.out))
      go_wp2_with fail
      go_ret
      exact ⟨by rw [HF.out]; rfl, BW2.out⟩
    | false =>
      have HCN : Hid (Calls Tryz.prog 12 #[.agg (bv s).toArray] W2 fun e w' => e = .returned (.bool ck) ∧ Below W2.heap.size W2 w') := by rw [← HCK.out]; exact can_sl HS.out W2
      cases ck with
      | false =>
        have HF : Hid (vfE a' p r s = 2) := vf_no (.inr (.inr HCK.out))
        go_wp2_with (first
          | (refine load_g rfl 22 (.tmp 8) rfl b7 0 rfl (bv s) _ R7.out Tryz.underlying22 rfl (size_l32 HS.out) ?_)
          | (go_at_call 12; refine HCN.out.mono ?_; rintro e W4 ⟨rfl, g1⟩; have B4 : Hid (Below W2.heap.size W2 W4) := g1; clear g1))
        go_ret
        exact ⟨by rw [HF.out]; rfl, BW2.out.trans (B4.out.mono BW2.out.size)⟩
      | true =>
--@4
        go_upto_region 5 with (first
          | (refine load_g rfl 22 (.tmp 8) rfl b7 0 rfl (bv s) _ R7.out Tryz.underlying22 rfl (size_l32 HS.out) ?_)
          | (go_at_call 12; refine HCN.out.mono ?_; rintro e W4 ⟨rfl, g1⟩; have B4 : Hid (Below W2.heap.size W2 W4) := g1; clear g1))
        have HG4 : Hid (Glo Ve.MA W4) := glo_below HG2.out B4.out
        have R64 : Hid (W4.rangeAt b6 0 (bv r)) := range_below R6.out B4.out L6.out
        have L64 : Hid (b6 < W4.heap.size) := Nat.lt_of_lt_of_le L6.out B4.out.size
        have R74 : Hid (W4.rangeAt b7 0 (bv s)) := range_below R7.out B4.out L7.out
        have L74 : Hid (b7 < W4.heap.size) := Nat.lt_of_lt_of_le L7.out B4.out.size
        have RA4 : Hid (W4.rangeAt D 0 (bv a')) := range_below RA2.out B4.out LA2.out
        have LA4 : Hid (D < W4.heap.size) := Nat.lt_of_lt_of_le LA2.out B4.out.size
        have HV4 : Hid (Sl W4 v p) := HV2.out.below B4.out (Nat.le_refl _)
        have BW4 : Hid (Below w.heap.size w W4) := BW2.out.trans (B4.out.mono BW2.out.size)
--@5
        refine RG.wp_rgn' (GI W4 (vp5f D b6 v K) (phV [r, a', p]) [(5, 6, bv K, bv z32)]) (by kernel_rfl) (by kernel_rfl) GI.start ?_ ?_
        · refine ⟨?_, ?_, ?_, ?_, ?_, ?_, ?_, trivial⟩
          · intro a W d V hI hd hpx hbk hf hp
            have hO' : Below W4.heap.size W4 W := hI.be
            refine RU.ob_val (v := .slice (some ⟨b6, 0, none⟩) 32 32) rfl (RU.wanted_none rfl) (fun ev he hc => ?_) ⟨_, rfl, hI.step (phV_mono [r, a', p]) (Below.refl _ _) 0 _ (by simp) (fun u hu => by first | (cases hu; rfl) | cases hu) (trivial)⟩
            have q7 : ev (.tmp 7) = .pointer (some ⟨b6, 0, none⟩) := (he (.tmp 7)).trans (hf 7 rfl)
            simp only [qF, qD, qE, execOp, Option.map_some, Option.map_none]; rw [q7]
            first | (go_simp; done) | (go_simp; rfl) | rfl
          · intro a W d V hI hd hpx hbk hf hp
            have hO' : Below W4.heap.size W4 W := hI.be
            refine RU.ob_val (v := .slice (some ⟨D, 0, none⟩) 32 32) rfl (RU.wanted_none rfl) (fun ev he hc => ?_) ⟨_, rfl, hI.step (phV_mono [r, a', p]) (Below.refl _ _) 1 _ (by simp) (fun u hu => by first | (cases hu; rfl) | cases hu) (trivial)⟩
            have q3 : ev (.tmp 3) = .pointer (some ⟨D, 0, none⟩) := (he (.tmp 3)).trans (hf 3 rfl)
            simp only [qF, qD, qE, execOp, Option.map_some, Option.map_none]; rw [q3]
            first | (go_simp; done) | (go_simp; rfl) | rfl
          · intro a W d V hI hd hpx hbk hf hp
            have hO' : Below W4.heap.size W4 W := hI.be
            refine RU.ob_val (v := v) rfl (RU.wanted_none rfl) (fun ev he hc => ?_) ⟨_, rfl, hI.step (phV_mono [r, a', p]) (Below.refl _ _) 2 _ (by simp) (fun u hu => by first | (cases hu; rfl) | cases hu) (trivial)⟩
            have q1 : ev (.tmp 1) = v := (he (.tmp 1)).trans (hf 1 rfl)
            simp only [qF, qD, qE, execOp, Option.map_some, Option.map_none]; rw [q1]
            first | (go_simp; done) | (go_simp; rfl) | rfl
          · intro a W d V hI hd hpx hbk hf hp
            have hO' : Below W4.heap.size W4 W := hI.be
            have e33 : a.eval (.tmp 33) = .slice (some ⟨b6, 0, none⟩) 32 32 := (hp 0 33 rfl).trans (hI.kn 0 _ rfl (hpx 0 rfl))
            have e34 : a.eval (.tmp 34) = .slice (some ⟨D, 0, none⟩) 32 32 := (hp 1 34 rfl).trans (hI.kn 1 _ rfl (hpx 1 rfl))
            have e35 : a.eval (.tmp 35) = v := (hp 2 35 rfl).trans (hI.kn 2 _ rfl (hpx 2 rfl))
            have s0 : Sl W (.slice (some ⟨b6, 0, none⟩) 32 32) r := sl_range HR.out (range_below R64.out hO' L64.out) (Nat.lt_of_lt_of_le L64.out hO'.size)
            have s1 : Sl W (.slice (some ⟨D, 0, none⟩) 32 32) a' := sl_range HA.out (range_below RA4.out hO' LA4.out) (Nat.lt_of_lt_of_le LA4.out hO'.size)
            have s2 : Sl W v p := HV4.out.below hO' (Nat.le_refl _)
            obtain ⟨a0, c0, hv0, -, -⟩ := id s2
            have hb : Below W.heap.size W (W.alloc (.cells #[.slice (some ⟨b6, 0, none⟩) 32 32, .slice (some ⟨D, 0, none⟩) 32 32, v] 23)) := (Below.refl _ W).alloc (Nat.le_refl _) _
            refine RU.ob_run (v := .slice (some ⟨W.heap.size, 0, none⟩) 3 3) (w' := W.alloc (.cells #[.slice (some ⟨b6, 0, none⟩) 32 32, .slice (some ⟨D, 0, none⟩) 32 32, v] 23)) rfl (RU.wanted_none rfl) (fun ev he hc => ?_) ⟨_, rfl, hI.step (phV_mono [r, a', p]) hb 3 _ (by simp) (fun u hu => by cases hu) (ll_three _ s0 s1 s2)⟩
            have h33 := (he (.tmp 33)).trans e33
            have h34 := (he (.tmp 34)).trans e34
            have h35 := (he (.tmp 35)).trans e35
            simp only [qF, qD, qE, execOp]
            simp only [List.map_toArray, List.map_cons, List.map_nil, h33, h34, h35]
            rw [hv0]
            go_simp
          · intro a W d V hI hd hpx hbk hf hp
            have hO' : Below W4.heap.size W4 W := hI.be
            have e36 : a.eval (.tmp 36) = V 3 := hp 3 36 rfl
            have hno : ∀ x ∈ ([(5, 6, bv K, bv z32)] : List Al), d x.2.1 = false := by simp only [List.mem_cons, List.not_mem_nil, or_false, forall_eq_or_imp, forall_eq]; exact hbk 6 rfl
            refine RU.ob_call (g := 13) (args := #[V 3]) rfl (RU.wanted_none rfl) (fun ev he hc => ?_) ((hashed_any [r, a', p] K HKE.out HBY.out HN3.out HJ3.out (V 3) W (hI.pr 3 (hpx 3 rfl) hno) (Ve.gp (glo_below HG4.out hO'))).mono ?_)
            · have h36 := (he (.tmp 36)).trans e36
              have hfn := he (.func 13)
              simp only [qF, qD, qE, execOp, Option.map_some, Option.map_none]
              simp only [resolve, invoke, Sem.run_bind, Sem.run_pure, Result.andThen_ok, List.map_toArray, List.map_cons, List.map_nil, h36, hfn, Act.eval, hc]
              rfl
            · rintro e' W2 ⟨rfl, hb2⟩
              exact ⟨_, rfl, ⟨_, rfl, hI.step (phV_mono [r, a', p]) hb2 4 _ (by simp) (fun u hu => by first | (cases hu; rfl) | cases hu) (trivial)⟩⟩
          · intro a W d V hI hd hpx hbk hf hp
            have hO' : Below W4.heap.size W4 W := hI.be
            refine RU.ob_run (v := .pointer (some ⟨W.heap.size, 0, none⟩)) (w' := W.alloc (.cells (bv z32).toArray 22)) rfl (RU.wanted_none rfl) (fun ev he hc => ?_) ⟨_, rfl, hI.alloc (phV_mono [r, a', p]) (5, 6, bv K, bv z32) (by simp) 22 (hbk 6 rfl) (by simp) (by simp) rfl (fun _ _ => trivial)⟩
            simp only [qF, qD, qE, execOp]
            first | (go_simp; done) | (go_simp; rfl) | (go_simp; rw [zero_32]; rfl)
          · intro a W d V hI hd hpx hbk hf hp
            have hO' : Below W4.heap.size W4 W := hI.be
            have d9 : d 5 = true := hpx 5 rfl
            obtain ⟨b, hV, -, -, hth, -⟩ := hI.pt (5, 6, bv K, bv z32) (by simp) d9
            have qp : a.eval (.tmp 11) = .pointer (some ⟨b, 0, none⟩) := (hp 5 11 rfl).trans hV
            have qv : a.eval (.tmp 37) = .agg (bv K).toArray := (hp 4 37 rfl).trans (hI.kn 4 _ rfl (hpx 4 rfl))
            exact RU.ob_op rfl (RU.wanted_none rfl) (wp_store_mid 22 (.tmp 11) (.tmp 37) rfl b 0 (bv K).toArray qp qv (by rw [List.size_toArray, (show (bv K).length = (bv z32).length by rw [bv_length, bv_length, HK.out.len, z32_l32.len])]; exact hth) (by rw [List.size_toArray]; exact size_l32 HK.out) (bv_one' _) ⟨_, rfl, by simp only [List.toList_toArray]; exact hI.store (5, 6, bv K, bv z32) (by simp) d9 hV _ (by simp) (by simp) rfl (show (bv K).length = (bv z32).length by rw [bv_length, bv_length, HK.out.len, z32_l32.len]) (by simp)⟩)
        intro W3 dW3 VW3 hal hI
        have BW3 : Hid (Below W4.heap.size W4 W3) := hI.be
        have hs0 : VW3 0 = .slice (some ⟨b6, 0, none⟩) 32 32 := hI.kn 0 _ rfl (hal 0 (by decide))
        have hs1 : VW3 1 = .slice (some ⟨D, 0, none⟩) 32 32 := hI.kn 1 _ rfl (hal 1 (by decide))
        have hs2 : VW3 2 = v := hI.kn 2 _ rfl (hal 2 (by decide))
        obtain ⟨u3, hs3⟩ : ∃ u, VW3 3 = u := ⟨_, rfl⟩
        have hs4 : VW3 4 = .agg (bv K).toArray := hI.kn 4 _ rfl (hal 4 (by decide))
        obtain ⟨b5, hs5, hb5, hl5, -, hr5⟩ := hI.pt (5, 6, bv K, bv z32) (by simp) (hal 5 (by decide))
        have hs5 : VW3 5 = .pointer (some ⟨b5, 0, none⟩) := hs5
        have R5W3 : Hid (W3.rangeAt b5 0 (bv K)) := by have h9 : dW3 6 = true := hal 6 (by decide); simp only [h9, if_true] at hr5; exact hr5
        have L5W3 : Hid (b5 < W3.heap.size) := hl5
        have G5W3 : Hid (W4.heap.size ≤ b5) := hb5
        simp only [RU.lay, Act.put, hs0, hs1, hs2, hs3, hs4, hs5]
        simp only [qA, qB, qC]
        clear hI hal hs0 hs1 hs2 hs3 hs4 hs5 hb5 hl5 hr5
--@6
        have HG3 : Hid (Glo Ve.MA W3) := glo_below HG4.out BW3.out
        have R73 : Hid (W3.rangeAt b7 0 (bv s)) := range_below R74.out BW3.out L74.out
        have L73 : Hid (b7 < W3.heap.size) := Nat.lt_of_lt_of_le L74.out BW3.out.size
        have R63 : Hid (W3.rangeAt b6 0 (bv r)) := range_below R64.out BW3.out L64.out
        have L63 : Hid (b6 < W3.heap.size) := Nat.lt_of_lt_of_le L64.out BW3.out.size
        have RA3 : Hid (W3.rangeAt D 0 (bv a')) := range_below RA4.out BW3.out LA4.out
        have LA3 : Hid (D < W3.heap.size) := Nat.lt_of_lt_of_le LA4.out BW3.out.size
        obtain ⟨Y, hY⟩ : ∃ Y, df s K a' = Y := ⟨_, rfl⟩
        have HY : Hid (L32 Y) := by rw [← hY]; exact L32.df _ _ _
        have HYE : Hid (df s (hd [r, a', p]) a' = Y) := by show df _ _ _ = Y; rw [HKE.out, hY]
        have HDF : Hid (∀ W, Glo Ve.MA W → Calls Tryz.prog 14 #[.agg (bv s).toArray, .agg (bv K).toArray, .agg (bv a').toArray] W fun e w' => e = .returned (.agg (bv Y).toArray) ∧ Below W.heap.size W w') := fun W hw => by rw [← hY]; exact Ve.dif_sl HS.out HK.out HA.out W hw
        clear hY
        go_upto_region 6 with (fail)
        refine RG.wp_rgn' (GI W3 (vp6f s K a' Y r) (fun _ _ _ => True) []) (by kernel_rfl) (by kernel_rfl) GI.start ?_ ?_
        · refine ⟨?_, ?_, ?_, ?_, ?_, ?_, trivial⟩
          · intro a W d V hI hd hpx hbk hf hp
            have hO' : Below W3.heap.size W3 W := hI.be
            have q8 : a.eval (.tmp 8) = .pointer (some ⟨b7, 0, none⟩) := hf 8 rfl
            exact RU.ob_op rfl (RU.wanted_none rfl) (wp_load_mid 22 (.tmp 8) rfl (b7) (0) q8 (bv s) _ (range_below R73.out hO' L73.out) Tryz.underlying22 rfl (size_l32 HS.out) ⟨_, rfl, hI.step (fun _ _ _ _ _ _ => trivial) (Below.refl _ _) 0 _ (by simp) (fun u hu => by first | (cases hu; rfl) | cases hu) (trivial)⟩)
          · intro a W d V hI hd hpx hbk hf hp
            have hO' : Below W3.heap.size W3 W := hI.be
            have q11 : a.eval (.tmp 11) = .pointer (some ⟨b5, 0, none⟩) := hf 11 rfl
            exact RU.ob_op rfl (RU.wanted_none rfl) (wp_load_mid 22 (.tmp 11) rfl (b5) (0) q11 (bv K) _ (range_below R5W3.out hO' L5W3.out) Tryz.underlying22 rfl (size_l32 HK.out) ⟨_, rfl, hI.step (fun _ _ _ _ _ _ => trivial) (Below.refl _ _) 1 _ (by simp) (fun u hu => by first | (cases hu; rfl) | cases hu) (trivial)⟩)
          · intro a W d V hI hd hpx hbk hf hp
            have hO' : Below W3.heap.size W3 W := hI.be
            have q3 : a.eval (.tmp 3) = .pointer (some ⟨D, 0, none⟩) := hf 3 rfl
            exact RU.ob_op rfl (RU.wanted_none rfl) (wp_load_mid 22 (.tmp 3) rfl (D) (0) q3 (bv a') _ (range_below RA3.out hO' LA3.out) Tryz.underlying22 rfl (size_l32 HA.out) ⟨_, rfl, hI.step (fun _ _ _ _ _ _ => trivial) (Below.refl _ _) 2 _ (by simp) (fun u hu => by first | (cases hu; rfl) | cases hu) (trivial)⟩)
          · intro a W d V hI hd hpx hbk hf hp
            have hO' : Below W3.heap.size W3 W := hI.be
            have e38 : a.eval (.tmp 38) = .agg (bv s).toArray := (hp 0 38 rfl).trans (hI.kn 0 _ rfl (hpx 0 rfl))
            have e39 : a.eval (.tmp 39) = .agg (bv K).toArray := (hp 1 39 rfl).trans (hI.kn 1 _ rfl (hpx 1 rfl))
            have e40 : a.eval (.tmp 40) = .agg (bv a').toArray := (hp 2 40 rfl).trans (hI.kn 2 _ rfl (hpx 2 rfl))
            have hno : ∀ x ∈ ([] : List Al), d x.2.1 = false := by simp
            refine RU.ob_call (g := 14) (args := #[.agg (bv s).toArray, .agg (bv K).toArray, .agg (bv a').toArray]) rfl (RU.wanted_none rfl) (fun ev he hc => ?_) ((HDF.out W (glo_below HG3.out hO')).mono ?_)
            · have h38 := (he (.tmp 38)).trans e38
              have h39 := (he (.tmp 39)).trans e39
              have h40 := (he (.tmp 40)).trans e40
              have hfn := he (.func 14)
              simp only [qF, qD, qE, execOp, Option.map_some, Option.map_none]
              simp only [resolve, invoke, Sem.run_bind, Sem.run_pure, Result.andThen_ok, List.map_toArray, List.map_cons, List.map_nil, h38, h39, h40, hfn, Act.eval, hc]
              rfl
            · rintro e' W2 ⟨rfl, hb2⟩
              exact ⟨_, rfl, ⟨_, rfl, hI.step (fun _ _ _ _ _ _ => trivial) hb2 3 _ (by simp) (fun u hu => by first | (cases hu; rfl) | cases hu) (trivial)⟩⟩
          · intro a W d V hI hd hpx hbk hf hp
            have hO' : Below W3.heap.size W3 W := hI.be
            have q7 : a.eval (.tmp 7) = .pointer (some ⟨b6, 0, none⟩) := hf 7 rfl
            exact RU.ob_op rfl (RU.wanted_none rfl) (wp_load_mid 22 (.tmp 7) rfl (b6) (0) q7 (bv r) _ (range_below R63.out hO' L63.out) Tryz.underlying22 rfl (size_l32 HR.out) ⟨_, rfl, hI.step (fun _ _ _ _ _ _ => trivial) (Below.refl _ _) 4 _ (by simp) (fun u hu => by first | (cases hu; rfl) | cases hu) (trivial)⟩)
          · intro a W d V hI hd hpx hbk hf hp
            have hO' : Below W3.heap.size W3 W := hI.be
            refine RU.ob_val (v := .bool (!decide (Y = r))) rfl (RU.wanted_none rfl) (fun ev he hc => ?_) ⟨_, rfl, hI.step (fun _ _ _ _ _ _ => trivial) (Below.refl _ _) 5 _ (by simp) (fun u hu => by first | (cases hu; rfl) | cases hu) (trivial)⟩
            have q41 : ev (.tmp 41) = .agg (bv Y).toArray := (he (.tmp 41)).trans ((hp 3 41 rfl).trans (hI.kn 3 _ rfl (hpx 3 rfl)))
            have q42 : ev (.tmp 42) = .agg (bv r).toArray := (he (.tmp 42)).trans ((hp 4 42 rfl).trans (hI.kn 4 _ rfl (hpx 4 rfl)))
            simp only [qF, qD, qE, execOp, Option.map_some, Option.map_none]; rw [q41, q42]
            simp only [Sem.run_bind, eqg_32, neq_32 HY.out HR.out, Result.andThen_ok, Sem.run_pure]
        intro W5 dW5 VW5 hal hI
        have BW5 : Hid (Below W3.heap.size W3 W5) := hI.be
        have hs0 : VW5 0 = .agg (bv s).toArray := hI.kn 0 _ rfl (hal 0 (by decide))
        have hs1 : VW5 1 = .agg (bv K).toArray := hI.kn 1 _ rfl (hal 1 (by decide))
        have hs2 : VW5 2 = .agg (bv a').toArray := hI.kn 2 _ rfl (hal 2 (by decide))
        have hs3 : VW5 3 = .agg (bv Y).toArray := hI.kn 3 _ rfl (hal 3 (by decide))
        have hs4 : VW5 4 = .agg (bv r).toArray := hI.kn 4 _ rfl (hal 4 (by decide))
        have hs5 : VW5 5 = .bool (!decide (Y = r)) := hI.kn 5 _ rfl (hal 5 (by decide))
        simp only [RU.lay, Act.put, hs0, hs1, hs2, hs3, hs4, hs5]
        simp only [qA, qB, qC]
        clear hI hal hs0 hs1 hs2 hs3 hs4 hs5
--@7
        have BW9 : Hid (Below w.heap.size w W5) := ((BW4.out.trans (BW3.out.mono BW4.out.size)).trans (BW5.out.mono (Nat.le_trans BW4.out.size BW3.out.size)))
        have hvf := vf_yes HEK.out HSK.out HCK.out (p := p) (r := r)
        rw [HYE.out] at hvf
        by_cases hq : Y = r
        · have HF : Hid (vfE a' p r s = 0) := by show _ = _; rw [hvf, if_pos hq]
          rw [decide_eq_true hq]
          clear hvf hq
          go_wp2_with fail
          go_ret
          exact ⟨by rw [HF.out]; rfl, BW9.out⟩
        · have HF : Hid (vfE a' p r s = 3) := by show _ = _; rw [hvf, if_neg hq]
          rw [decide_eq_false hq]
          clear hvf hq
          go_wp2_with fail
          go_ret
          exact ⟨by rw [HF.out]; rfl, BW9.out⟩
  · have HF : Hid (vfE a' p r s = 2) := vf_no (.inl (by rw [HEK.out]; exact h0))
    go_wp2_with fail
    go_ret
    exact ⟨by rw [HF.out]; rfl, BW2.out⟩
end Go.Proofs.YtkhjnjlinfbfoaaGreatDoor.Wi
