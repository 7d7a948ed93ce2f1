/- The reference's Verify, walked. -/
import Derived.Test.YtkhjnjlinfbfoaaGreatDoorVkD
set_option linter.unusedSimpArgs false
set_option linter.unusedVariables false
namespace Go.Proofs.YtkhjnjlinfbfoaaGreatDoor.Wi
open Go Go.RowKit
set_option maxRecDepth 100000
theorem zero_pt (w : World) : (zeroValue 42).run Tryz.prog w = .ok (.agg (List.replicate 16 (Value.int .u64 0)).toArray) w := by kernel_rfl
theorem size_pt : (Tryz.prog.info? 42).map (·.size) = some 16 := by kernel_rfl
theorem q16_len (p : P4) : (q16 p).length = 16 := rfl
theorem q16_one (p : P4) : (q16 p).toArray.all (·.oneCell') = true := by kernel_rfl
theorem rd_ok {a : List Int} (h : rk a = 0) : rdOk (le a) = true := by
  cases hk : rdOk (le a) with
  | true => rfl
  | false =>
    unfold rk at h
    rw [rdE_no hk] at h
    cases h
theorem there_mono {w w' : World} {b o n : Nat} (h : w.there b o n) (hb : Below w.heap.size w w') (hl : b < w.heap.size) : w'.there b o n := there_keep h (hb.block b hl)
def vr3f (D N : Nat) : Nat → Option Value
  | 0 => some (.slice (some ⟨N, 0, none⟩) 32 32)
  | 1 => some (.slice (some ⟨D + 1, 0, none⟩) 32 64)
  | _ => none
def vr4f (D N : Nat) : Nat → Option Value
  | 0 => some (.slice (some ⟨N + 1, 0, none⟩) 32 32)
  | 1 => some (.slice (some ⟨D + 1, 32, none⟩) 32 32)
  | _ => none
def vr9f (D N : Nat) (v : Value) (K : List Int) : Nat → Option Value
  | 0 => some (.slice (some ⟨N, 0, none⟩) 32 32)
  | 1 => some (.slice (some ⟨D, 0, none⟩) 32 32)
  | 2 => some (v)
  | 4 => some (.agg (bv K).toArray)
  | _ => none
def vr10f (s K Y r : List Int) (CB CA : List Value) (PS PK PM PD : P4) : Nat → Option Value
  | 0 => some (.agg (bv s).toArray)
  | 1 => some (.agg CB.toArray)
  | 2 => some (qv PS)
  | 3 => some (.agg (bv K).toArray)
  | 4 => some (.agg CA.toArray)
  | 5 => some (qv PK)
  | 6 => some (qv PM)
  | 7 => some (qv PD)
  | 8 => some (.agg (bv Y).toArray)
  | 9 => some (.agg (bv r).toArray)
  | 10 => some (.bool (!decide (Y = r)))
  | _ => none
set_option maxHeartbeats 8000000 in
theorem rverify_any (a' p r s : List Int) (ha : L32 a') (hr : L32 r) (hs : L32 s) (hp : Byt p) (hl : p.length ≤ 140737488353000) (v : Value) (w : World) (hv : Sl w v p) :
    Calls Tryz.prog 7 #[.agg (bv a').toArray, v, .agg (bv (r ++ s)).toArray] w fun e w' => e = .returned (.int .i64 (vfE a' p r s)) ∧ Below w.heap.size w w' := by
  have HA : Hid (L32 a') := ha
  have HR : Hid (L32 r) := hr
  have HS : Hid (L32 s) := hs
  have HBY : Hid (∀ m ∈ [r, a', p], Byt m) := fun m hm => by
    simp only [List.mem_cons, List.not_mem_nil, or_false] at hm
    rcases hm with rfl | rfl | rfl
    · exact hr.byt
    · exact ha.byt
    · exact hp
  have HN3 : Hid ([r, a', p].length ≤ 1000) := by show 3 ≤ 1000; omega
  have HJ3 : Hid ((joA [r, a', p]).length ≤ 140737488354000) := by
    show (([] ++ r) ++ a' ++ p).length ≤ _
    rw [List.length_append, List.length_append, List.nil_append, hr.len, ha.len]; omega
  have HV : Hid (Sl w v p) := hv
  have ra := range_alloc w (bv a') 22 (0, 0)
  have rg := range_alloc (w.alloc (.cells (bv a').toArray 22)) (bv (r ++ s)) 24 (0, 0)
  have s1 : (bv a').toArray.size = 32 := by rw [List.size_toArray]; exact l32_cells ha
  have s2 : (bv (r ++ s)).toArray.size = 64 := by rw [List.size_toArray, bv_length, List.length_append, hr.len, hs.len]
  obtain ⟨A, hA⟩ : ∃ A, (bv a').toArray = A := ⟨_, rfl⟩
  obtain ⟨G, hG⟩ : ∃ G, (bv (r ++ s)).toArray = G := ⟨_, rfl⟩
  rw [hA] at ra s1 rg ⊢
  rw [hG] at rg s2 ⊢
  obtain ⟨U, hU⟩ : ∃ U, (w.alloc (.cells A 22)).alloc (.cells G 24) = U := ⟨_, rfl⟩
  have sU : U.heap.size = w.heap.size + 2 := by rw [← hU]; simp
  have bU : Below w.heap.size w U := by rw [← hU]; exact ((Below.refl _ w).alloc (Nat.le_refl _) _).alloc (by simp) _
  have rp : U.rangeAt w.heap.size 0 (bv a') := by rw [← hU]; exact range_below ra ((Below.refl _ _).alloc (Nat.le_refl _) _) (by simp)
  have rq : U.rangeAt (w.heap.size + 1) 0 (bv (r ++ s)) := by rw [← hU]; have := rg; rw [show (w.alloc (.cells A 22)).heap.size = w.heap.size + 1 by simp] at this; exact this
  have BU : Hid (Below w.heap.size w U) := bU
  obtain ⟨D, hD⟩ : ∃ D, w.heap.size = D := ⟨_, rfl⟩
  have HD : Hid (w.heap.size = D) := hD
  rw [hD] at sU rp rq
  have RP : Hid (U.rangeAt D 0 (bv a')) := rp
  have RL : Hid (U.rangeAt (D + 1) 0 (bv r)) := r64_lo rq
  have RH : Hid (U.rangeAt (D + 1) 32 (bv s)) := r64_hi hr rq
  have hDU : Hid (D + 1 < U.heap.size) := by show D + 1 < _; omega
  obtain ⟨K, hK⟩ : ∃ K, hd [r, a', p] = K := ⟨_, rfl⟩
  have HKE : Hid (hd [r, a', p] = K) := hK
  have HK : Hid (L32 K) := by rw [← hK]; exact L32.hd _
  have hz := zero_32
  obtain ⟨Z, hZ⟩ : ∃ Z, (bv (List.replicate 32 0)).toArray = Z := ⟨_, rfl⟩
  have hZs : Z.size = 32 := by rw [← hZ]; simp [bv]
  have HZS : Hid (Z.size = 32) := hZs
  rw [hZ] at hz
  clear ra rg bU rp rq hA hG hr hs hp hv sU hK hl hZ hZs
  go_enter Tryz.func7, Tryz.ntmps7
  go_upto_region 1 with (fail)
  try rw [hU]
  try rw [hD]
  clear hU hD s1 s2
--@1
  go_upto_region 3 with (first
    | (refine wpList_load_mid rfl 22 (.tmp 3) rfl D 0 rfl (bv a') _ RP.out Tryz.underlying22 rfl (size_l32 HA.out) ?_)
    | (go_at_call 15; refine (rsmall_sl HA.out U).mono ?_; rintro e W1 ⟨rfl, g1⟩; have B1 : Hid (Below U.heap.size U W1) := g1; clear g1))
--@2
  obtain ⟨X, hX⟩ : ∃ X, (W1.alloc (.cells Z 22)).alloc (.cells Z 22) = X := ⟨_, rfl⟩
  obtain ⟨N, hN0⟩ : ∃ N, W1.heap.size = N := ⟨_, rfl⟩
  have sX : X.heap.size = N + 2 := by rw [← hX, ← hN0]; simp
  have bX : Below W1.heap.size W1 X := by rw [← hX]; exact ((Below.refl _ W1).alloc (Nat.le_refl _) _).alloc (by simp) _
  have z9 : X.heap[N]? = some (.cells Z 22 (0, 0)) := by
    rw [← hX, ← hN0]; show ((W1.heap.push _).push _)[W1.heap.size]? = _
    rw [Array.getElem?_push, if_neg (by simp), Array.getElem?_push, if_pos rfl]
  have z10 : X.heap[N + 1]? = some (.cells Z 22 (0, 0)) := by
    rw [← hX, ← hN0]; show ((W1.heap.push _).push _)[W1.heap.size + 1]? = _
    rw [Array.getElem?_push, if_pos (by simp)]
  have TH9 : Hid (X.there N 0 32) := there_of_row' z9 0 32 (by rw [HZS.out]; exact Nat.le_refl _)
  have TH10X : Hid (X.there (N + 1) 0 32) := there_of_row' z10 0 32 (by rw [HZS.out]; exact Nat.le_refl _)
  have hN : Hid (N < X.heap.size) := by show N < _; omega
  have hN1X : Hid (N + 1 < X.heap.size) := by show N + 1 < _; omega
  have SX : Hid (X.heap.size = N + 2) := sX
  have hDN : Hid (D + 1 < N) := by show _ < _; rw [← hN0]; exact Nat.lt_of_lt_of_le hDU.out B1.out.size
  have BX : Hid (Below w.heap.size w X) := (BU.out.trans (B1.out.mono BU.out.size)).trans (bX.mono (Nat.le_trans BU.out.size B1.out.size))
  have BXU : Hid (Below U.heap.size U X) := B1.out.trans (bX.mono B1.out.size)
  have RLX : Hid (X.rangeAt (D + 1) 0 (bv r)) := range_below RL.out BXU.out hDU.out
  have RHX : Hid (X.rangeAt (D + 1) 32 (bv s)) := range_below RH.out BXU.out hDU.out
  have RAX : Hid (X.rangeAt D 0 (bv a')) := range_below RP.out BXU.out (by have := hDU.out; omega)
  have hDX : Hid (D + 1 < X.heap.size) := Nat.lt_of_lt_of_le hDU.out BXU.out.size
  try rw [hX]
  try rw [hN0]
  clear bX z9 z10 sX hX hN0 hz
  refine RG.wp_rgn' (GL X (vr3f D N) (fun _ _ _ => True) [] 2 (N) (0) (bv r)) (by kernel_rfl) (by kernel_rfl) GL.start ?_ ?_
  · refine ⟨?_, ?_, ?_, trivial⟩
    · refine GL.ob rfl ?_
      intro a W d V hI hd hpx hbk hf hp
      refine RU.ob_val (v := .slice (some ⟨N, 0, none⟩) 32 32) rfl (RU.wanted_none rfl) (fun ev he hc => ?_) ⟨_, rfl, hI.step (fun _ _ _ _ _ _ => trivial) (Below.refl _ _) 0 _ (by simp) (fun u hu => by first | (cases hu; rfl) | cases hu) trivial⟩
      have q9 : ev (.tmp 9) = .pointer (some ⟨N, 0, none⟩) := (he (.tmp 9)).trans (hf 9 rfl)
      simp only [qF, qD, qE, execOp, Option.map_some, Option.map_none]; rw [q9]
      try simp only [hc]
      first | (go_simp; done) | (go_simp; rfl) | rfl
    · refine GL.ob rfl ?_
      intro a W d V hI hd hpx hbk hf hp
      refine RU.ob_val (v := .slice (some ⟨D + 1, 0, none⟩) 32 64) rfl (RU.wanted_none rfl) (fun ev he hc => ?_) ⟨_, rfl, hI.step (fun _ _ _ _ _ _ => trivial) (Below.refl _ _) 1 _ (by simp) (fun u hu => by first | (cases hu; rfl) | cases hu) trivial⟩
      have q5 : ev (.tmp 5) = .pointer (some ⟨D + 1, 0, none⟩) := (he (.tmp 5)).trans (hf 5 rfl)
      simp only [qF, qD, qE, execOp, Option.map_some, Option.map_none]; rw [q5]
      try simp only [hc]
      first | (go_simp; done) | (go_simp; rfl) | rfl
    · refine GL.obs (fun a W d V hI hd hpx hbk hf hp => ?_)
      have hO' : Below X.heap.size X W := hI.be
      have q1 : a.eval (.tmp 21) = .slice (some ⟨N, 0, none⟩) 32 32 := (hp 0 21 rfl).trans (hI.kn 0 _ rfl (hpx 0 rfl))
      have q2 : a.eval (.tmp 22) = .slice (some ⟨D + 1, 0, none⟩) 32 64 := (hp 1 22 rfl).trans (hI.kn 1 _ rfl (hpx 1 rfl))
      have hth : W.there (N) (0) (bv r).length := by rw [bv_length, HR.out.len]; exact there_mono TH9.out hO' hN.out
      have hrun := run_copy_cells (P := Tryz.prog) W 23 23 3 5 (N) (0) 32 32 ⟨D + 1, 0, none⟩ 32 64 (bv r) Tryz.underlying23 size_u8' (by rw [bv_length, HR.out.len]; rfl) (fun j u hu => by rw [addr_add0']; exact (range_below RLX.out hO' hDX.out) j u hu) (fun j hj => (hth j hj).1) (fun j hj => (hth j hj).2) (bv_one _)
      refine RU.ob_run (v := goInt (bv r).length) (w' := W.setCells (N) (0) (bv r)) rfl (RU.wanted_none rfl) (fun ev he hc => ?_) ⟨_, rfl, GL.stored hI rfl _⟩
      have e1 := (he (.tmp 21)).trans q1
      have e2 := (he (.tmp 22)).trans q2
      simp only [qF, qD, qE, execOp, resolve, invoke, builtin, Sem.run_bind, Sem.run_pure, Result.andThen_ok, List.map_toArray, List.map_cons, List.map_nil, e1, e2, hrun]
  intro W3x dW3 VW3 hal hG
  obtain ⟨hK, W3, W3y, hyW3⟩ := hG.fin (hal 2 (by decide))
  subst hyW3
  have BW3 : Hid (Below X.heap.size X W3) := W3y
  have hs0 : VW3 0 = .slice (some ⟨N, 0, none⟩) 32 32 := hK 0 _ rfl (hal 0 (by decide))
  have hs1 : VW3 1 = .slice (some ⟨D + 1, 0, none⟩) 32 64 := hK 1 _ rfl (hal 1 (by decide))
  obtain ⟨u2W3, hs2⟩ : ∃ u, VW3 2 = u := ⟨_, rfl⟩
  simp only [RU.lay, Act.put, hs0, hs1, hs2]
  simp only [qA, qB, qC]
  clear hG hK hal W3y hs0 hs1 hs2
--@3
  obtain ⟨Y, hY⟩ : ∃ Y, W3.setCells N 0 (bv r) = Y := ⟨_, rfl⟩
  have sY : Y.heap.size = W3.heap.size := by rw [← hY]; exact size_setC _ _ _ _
  have R9Y : Hid (Y.rangeAt N 0 (bv r)) := by rw [← hY]; exact World.rangeAt_setCells_same _ _ _ _ (by rw [bv_length, HR.out.len]; exact there_mono TH9.out BW3.out hN.out)
  have TH10 : Hid (Y.there (N + 1) 0 32) := by rw [← hY]; exact World.there_setCells (there_mono TH10X.out BW3.out hN1X.out) _ _ _
  have RHY : Hid (Y.rangeAt (D + 1) 32 (bv s)) := by rw [← hY]; exact World.rangeAt_setCells_apart (range_below RHX.out BW3.out hDX.out) _ _ _ (.inl (by have := hDN.out; omega))
  have RAY : Hid (Y.rangeAt D 0 (bv a')) := by rw [← hY]; exact World.rangeAt_setCells_apart (range_below RAX.out BW3.out (by have := hDX.out; omega)) _ _ _ (.inl (by have := hDN.out; omega))
  have hNY : Hid (N + 1 < Y.heap.size) := by show _ < _; rw [sY]; exact Nat.lt_of_lt_of_le hN1X.out BW3.out.size
  have hDY : Hid (D + 1 < Y.heap.size) := by show _ < _; rw [sY]; exact Nat.lt_of_lt_of_le hDX.out BW3.out.size
  have BY : Hid (Below w.heap.size w Y) := by rw [← hY]; exact below_setCells (by have := hDN.out; rw [HD.out]; omega) _ _ (BX.out.trans (BW3.out.mono BX.out.size))
  rw [hY]
  clear hY sY
  go_upto_region 4 with (fail)
  refine RG.wp_rgn' (GL Y (vr4f D N) (fun _ _ _ => True) [] 2 (N + 1) (0) (bv s)) (by kernel_rfl) (by kernel_rfl) GL.start ?_ ?_
  · refine ⟨?_, ?_, ?_, trivial⟩
    · refine GL.ob rfl ?_
      intro a W d V hI hd hpx hbk hf hp
      refine RU.ob_val (v := .slice (some ⟨N + 1, 0, none⟩) 32 32) rfl (RU.wanted_none rfl) (fun ev he hc => ?_) ⟨_, rfl, hI.step (fun _ _ _ _ _ _ => trivial) (Below.refl _ _) 0 _ (by simp) (fun u hu => by first | (cases hu; rfl) | cases hu) trivial⟩
      have q10 : ev (.tmp 10) = .pointer (some ⟨N + 1, 0, none⟩) := (he (.tmp 10)).trans (hf 10 rfl)
      simp only [qF, qD, qE, execOp, Option.map_some, Option.map_none]; rw [q10]
      try simp only [hc]
      first | (go_simp; done) | (go_simp; rfl) | rfl
    · refine GL.ob rfl ?_
      intro a W d V hI hd hpx hbk hf hp
      refine RU.ob_val (v := .slice (some ⟨D + 1, 32, none⟩) 32 32) rfl (RU.wanted_none rfl) (fun ev he hc => ?_) ⟨_, rfl, hI.step (fun _ _ _ _ _ _ => trivial) (Below.refl _ _) 1 _ (by simp) (fun u hu => by first | (cases hu; rfl) | cases hu) trivial⟩
      have q5 : ev (.tmp 5) = .pointer (some ⟨D + 1, 0, none⟩) := (he (.tmp 5)).trans (hf 5 rfl)
      simp only [qF, qD, qE, execOp, Option.map_some, Option.map_none]; rw [q5]
      try simp only [hc]
      first | (go_simp; done) | (go_simp; rfl) | rfl
    · refine GL.obs (fun a W d V hI hd hpx hbk hf hp => ?_)
      have hO' : Below Y.heap.size Y W := hI.be
      have q1 : a.eval (.tmp 24) = .slice (some ⟨N + 1, 0, none⟩) 32 32 := (hp 0 24 rfl).trans (hI.kn 0 _ rfl (hpx 0 rfl))
      have q2 : a.eval (.tmp 25) = .slice (some ⟨D + 1, 32, none⟩) 32 32 := (hp 1 25 rfl).trans (hI.kn 1 _ rfl (hpx 1 rfl))
      have hth : W.there (N + 1) (0) (bv s).length := by rw [bv_length, HS.out.len]; exact there_mono TH10.out hO' hNY.out
      have hrun := run_copy_cells (P := Tryz.prog) W 23 23 3 5 (N + 1) (0) 32 32 ⟨D + 1, 32, none⟩ 32 32 (bv s) Tryz.underlying23 size_u8' (by rw [bv_length, HS.out.len]; rfl) (fun j u hu => by rw [addr_add0']; exact (range_below RHY.out hO' hDY.out) j u hu) (fun j hj => (hth j hj).1) (fun j hj => (hth j hj).2) (bv_one _)
      refine RU.ob_run (v := goInt (bv s).length) (w' := W.setCells (N + 1) (0) (bv s)) rfl (RU.wanted_none rfl) (fun ev he hc => ?_) ⟨_, rfl, GL.stored hI rfl _⟩
      have e1 := (he (.tmp 24)).trans q1
      have e2 := (he (.tmp 25)).trans q2
      simp only [qF, qD, qE, execOp, resolve, invoke, builtin, Sem.run_bind, Sem.run_pure, Result.andThen_ok, List.map_toArray, List.map_cons, List.map_nil, e1, e2, hrun]
  intro W4x dW4 VW4 hal hG
  obtain ⟨hK, W4, W4y, hyW4⟩ := hG.fin (hal 2 (by decide))
  subst hyW4
  have BW4 : Hid (Below Y.heap.size Y W4) := W4y
  have hs0 : VW4 0 = .slice (some ⟨N + 1, 0, none⟩) 32 32 := hK 0 _ rfl (hal 0 (by decide))
  have hs1 : VW4 1 = .slice (some ⟨D + 1, 32, none⟩) 32 32 := hK 1 _ rfl (hal 1 (by decide))
  obtain ⟨u2W4, hs2⟩ : ∃ u, VW4 2 = u := ⟨_, rfl⟩
  simp only [RU.lay, Act.put, hs0, hs1, hs2]
  simp only [qA, qB, qC]
  clear hG hK hal W4y hs0 hs1 hs2
--@4
  obtain ⟨X5, hX5⟩ : ∃ X5, W4.setCells (N + 1) 0 (bv s) = X5 := ⟨_, rfl⟩
  have s5 : X5.heap.size = W4.heap.size := by rw [← hX5]; exact size_setC _ _ _ _
  have R10 : Hid (X5.rangeAt (N + 1) 0 (bv s)) := by rw [← hX5]; exact World.rangeAt_setCells_same _ _ _ _ (by rw [bv_length, HS.out.len]; exact there_mono TH10.out BW4.out hNY.out)
  have R9 : Hid (X5.rangeAt N 0 (bv r)) := by rw [← hX5]; exact World.rangeAt_setCells_apart (range_below R9Y.out BW4.out (by have := hNY.out; omega)) _ _ _ (.inl (by omega))
  have RA5 : Hid (X5.rangeAt D 0 (bv a')) := by rw [← hX5]; exact World.rangeAt_setCells_apart (range_below RAY.out BW4.out (by have := hDY.out; omega)) _ _ _ (.inl (by have := hDN.out; omega))
  have hN5 : Hid (N + 1 < X5.heap.size) := by show _ < _; rw [s5]; exact Nat.lt_of_lt_of_le hNY.out BW4.out.size
  have hD5 : Hid (D + 1 < X5.heap.size) := by show _ < _; rw [s5]; exact Nat.lt_of_lt_of_le hDY.out BW4.out.size
  have BX5 : Hid (Below w.heap.size w X5) := by rw [← hX5]; exact below_setCells (by have := hDN.out; rw [HD.out]; omega) _ _ (BY.out.trans (BW4.out.mono BY.out.size))
  rw [hX5]
  clear hX5 s5
  go_upto_region 5 with (fail)
--@5
  obtain ⟨ek, hek⟩ : ∃ z, rk a' = z := ⟨_, rfl⟩
  obtain ⟨sk, hsk⟩ : ∃ z, sm a' = z := ⟨_, rfl⟩
  obtain ⟨ck, hck⟩ : ∃ z, cn s = z := ⟨_, rfl⟩
  have HEK : Hid (rk a' = ek) := hek
  have HSK : Hid (sm a' = sk) := hsk
  have HCK : Hid (cn s = ck) := hck
  rw [hek, hsk]
  clear hek hsk hck
  by_cases h0 : ek = 0
  · subst h0
    cases sk with
    | true =>
      have HF : Hid (vfE a' p r s = 2) := vf_no (.inr (.inl HSK.out))
      go_wp2_with fail
      go_ret
      exact ⟨by rw [HF.out]; rfl, BX5.out⟩
    | false =>
      have HCN : Hid (Calls Tryz.prog 16 #[.agg (bv s).toArray] X5 fun e w' => e = .returned (.bool ck) ∧ Below X5.heap.size X5 w') := by rw [← HCK.out]; exact rcan_sl HS.out X5
      cases ck with
      | false =>
        have HF : Hid (vfE a' p r s = 2) := vf_no (.inr (.inr HCK.out))
        go_wp2_with (first
          | (refine load_g rfl 22 (.tmp 10) rfl (N + 1) 0 rfl (bv s) _ R10.out Tryz.underlying22 rfl (size_l32 HS.out) ?_)
          | (go_at_call 16; refine HCN.out.mono ?_; rintro e W5 ⟨rfl, g1⟩; have B5 : Hid (Below X5.heap.size X5 W5) := g1; clear g1))
        go_ret
        exact ⟨by rw [HF.out]; rfl, BX5.out.trans (B5.out.mono BX5.out.size)⟩
      | true =>
        obtain ⟨PA, hPA⟩ : ∃ P, dqP (le a') = P := ⟨_, rfl⟩
        obtain ⟨PB, hPB⟩ : ∃ P, dqP GY = P := ⟨_, rfl⟩
        have oA : PA.ok := by rw [← hPA]; exact dqP_ok _
        have oB : PB.ok := by rw [← hPB]; exact dqP_ok _
        obtain ⟨CA, hCA⟩ : ∃ C, q16 PA = C := ⟨_, rfl⟩
        obtain ⟨CB, hCB⟩ : ∃ C, q16 PB = C := ⟨_, rfl⟩
        have HCAL : Hid (CA.length = 16) := by rw [← hCA]; exact q16_len _
        have HCBL : Hid (CB.length = 16) := by rw [← hCB]; exact q16_len _
        have HCA1 : Hid (CA.toArray.all (·.oneCell') = true) := by rw [← hCA]; exact q16_one _
        have HCB1 : Hid (CB.toArray.all (·.oneCell') = true) := by rw [← hCB]; exact q16_one _
        have HDA : Hid (∀ W, Calls Tryz.prog 17 #[.agg (bv a').toArray] W fun e w' => e = .returned (.tuple #[.agg CA.toArray, .bool (rdOk (le a'))]) ∧ Below W.heap.size W w') := fun W => by rw [← hCA, ← hPA]; exact dec_sl HA.out W
        have HDB : Hid (∀ W, Calls Tryz.prog 17 #[.agg (bv (bi GY)).toArray] W fun e w' => e = .returned (.tuple #[.agg CB.toArray, .bool (rdOk (le (bi GY)))]) ∧ Below W.heap.size W w') := fun W => by
          have := dec_sl (bi_l32 GY) W
          rw [le_bi (show GY < RN by decide), hPB] at this
          rw [le_bi (show GY < RN by decide), ← hCB]; exact this
        obtain ⟨PS, hPS⟩ : ∃ P, oftN (le s) PB = P := ⟨_, rfl⟩
        obtain ⟨PK, hPK⟩ : ∃ P, oftN (le K) PA = P := ⟨_, rfl⟩
        obtain ⟨PM, hPM⟩ : ∃ P, rmirN PK = P := ⟨_, rfl⟩
        obtain ⟨PD, hPD⟩ : ∃ P, rsumN PS PM = P := ⟨_, rfl⟩
        have oS : PS.ok := by rw [← hPS]; exact oft_ok _ oB
        have oK : PK.ok := by rw [← hPK]; exact oft_ok _ oA
        have oM : PM.ok := by rw [← hPM]; exact rmirN_ok oK
        have oD : PD.ok := by rw [← hPD]; exact rsumN_ok oS oM
        have HCS : Hid (∀ W, Calls Tryz.prog 22 #[.agg (bv s).toArray, .agg CB.toArray] W fun e w' => e = .returned (qv PS) ∧ Below W.heap.size W w') := fun W => by rw [← hCB, ← hPS]; exact often_sl HS.out oB W
        have HCK2 : Hid (∀ W, Calls Tryz.prog 22 #[.agg (bv K).toArray, .agg CA.toArray] W fun e w' => e = .returned (qv PK) ∧ Below W.heap.size W w') := fun W => by rw [← hCA, ← hPK]; exact often_sl HK.out oA W
        have HCM : Hid (∀ W, Calls Tryz.prog 23 #[qv PK] W fun e w' => e = .returned (qv PM) ∧ Below W.heap.size W w') := fun W => by rw [← hPM]; exact mir_sl oK W
        have HCD : Hid (∀ W, Calls Tryz.prog 21 #[qv PS, qv PM] W fun e w' => e = .returned (qv PD) ∧ Below W.heap.size W w') := fun W => by rw [← hPD]; exact sum_sl oS oM W
        have hDR : PD = dR s K a' := by rw [← hPD, ← hPS, ← hPM, ← hPK, ← hPA, ← hPB]; rfl
        obtain ⟨Yq, hYq⟩ : ∃ Y, df s K a' = Y := ⟨_, rfl⟩
        have HY : Hid (L32 Yq) := by rw [← hYq]; exact L32.df _ _ _
        have HYE : Hid (df s (hd [r, a', p]) a' = Yq) := by show df _ _ _ = Yq; rw [HKE.out, hYq]
        have HCE : Hid (∀ W, Calls Tryz.prog 20 #[qv PD] W fun e w' => e = .returned (.agg (bv Yq).toArray) ∧ Below W.heap.size W w') := fun W => by
          have := enc_sl oD W
          rw [hDR, df_agree HS.out HK.out HA.out (rd_ok HEK.out), hYq, ← hDR] at this
          exact this
        have hz4 := zero_pt
        obtain ⟨Zp, hZp⟩ : ∃ Z, (List.replicate 16 (Value.int .u64 0)).toArray = Z := ⟨_, rfl⟩
        have HZP : Hid (Zp.size = 16) := by rw [← hZp]; rfl
        rw [hZp] at hz4
        clear hCA hCB hPA hPB hPS hPK hPM hPD hDR hYq oA oB oS oK oM oD hZp
        go_upto_region 7 with (first
          | (refine load_g rfl 22 (.tmp 10) rfl (N + 1) 0 rfl (bv s) _ R10.out Tryz.underlying22 rfl (size_l32 HS.out) ?_)
          | (go_at_call 16; refine HCN.out.mono ?_; rintro e W5 ⟨rfl, g1⟩; have B5 : Hid (Below X5.heap.size X5 W5) := g1; clear g1))
        have RA6 : Hid (W5.rangeAt D 0 (bv a')) := range_below RA5.out B5.out (by have := hD5.out; omega)
--@6
        go_upto_region 8 with (first
          | (refine wpList_load_mid rfl 22 (.tmp 3) rfl D 0 rfl (bv a') _ RA6.out Tryz.underlying22 rfl (size_l32 HA.out) ?_)
          | (go_at_call 17; refine (HDA.out W5).mono ?_; rintro e W6 ⟨rfl, g1⟩; have B6 : Hid (Below W5.heap.size W5 W6) := g1; clear g1)
          | (refine wpList_store_mid rfl 42 (.tmp 11) (.tmp 40) rfl W6.heap.size 0 CA.toArray rfl rfl (there_new W6 (show CA.toArray.size = Zp.size by rw [List.size_toArray, HCAL.out, HZP.out])) (by rw [List.size_toArray, HCAL.out]; exact size_pt) HCA1.out ?_; simp only [List.toList_toArray]))
        obtain ⟨e11, h11⟩ : ∃ n, W6.heap.size = n := ⟨_, rfl⟩
        obtain ⟨W7, hW7⟩ : ∃ W, (W6.alloc (.cells Zp 42)).setCells W6.heap.size 0 CA = W := ⟨_, rfl⟩
        obtain ⟨l1, l2, l3⟩ := laid_row (by rw [HCAL.out, HZP.out]) (by rw [HCAL.out]; omega) hW7
        have R11 : Hid (W7.rangeAt e11 0 CA) := by rw [← h11]; exact l1
        have L11 : Hid (e11 < W7.heap.size) := by rw [← h11]; exact l3
        have B7 : Hid (Below X5.heap.size X5 W7) := (B5.out.trans (B6.out.mono B5.out.size)).trans (l2.mono (Nat.le_trans B5.out.size B6.out.size))
        try rw [hW7]
        try rw [h11]
        clear l1 l2 l3 hW7 h11
--@7
        go_upto_region 9 with (first
          | (go_at_call 18; refine (gen_sl W7).mono ?_; rintro e W8 ⟨rfl, g1⟩; have B8 : Hid (Below W7.heap.size W7 W8) := g1; clear g1)
          | (go_at_call 17; refine (HDB.out W8).mono ?_; rintro e W9 ⟨rfl, g1⟩; have B9 : Hid (Below W8.heap.size W8 W9) := g1; clear g1)
          | (refine wpList_store_mid rfl 42 (.tmp 13) (.tmp 45) rfl W9.heap.size 0 CB.toArray rfl rfl (there_new W9 (show CB.toArray.size = Zp.size by rw [List.size_toArray, HCBL.out, HZP.out])) (by rw [List.size_toArray, HCBL.out]; exact size_pt) HCB1.out ?_; simp only [List.toList_toArray]))
        obtain ⟨e13, h13⟩ : ∃ n, W9.heap.size = n := ⟨_, rfl⟩
        obtain ⟨Wa, hWa⟩ : ∃ W, (W9.alloc (.cells Zp 42)).setCells W9.heap.size 0 CB = W := ⟨_, rfl⟩
        obtain ⟨l1, l2, l3⟩ := laid_row (by rw [HCBL.out, HZP.out]) (by rw [HCBL.out]; omega) hWa
        have R13 : Hid (Wa.rangeAt e13 0 CB) := by rw [← h13]; exact l1
        have L13 : Hid (e13 < Wa.heap.size) := by rw [← h13]; exact l3
        have B7a : Hid (Below W7.heap.size W7 Wa) := (B8.out.trans (B9.out.mono B8.out.size)).trans (l2.mono (Nat.le_trans B8.out.size B9.out.size))
        have Ba : Hid (Below X5.heap.size X5 Wa) := B7.out.trans (B7a.out.mono B7.out.size)
        have R11a : Hid (Wa.rangeAt e11 0 CA) := range_below R11.out B7a.out L11.out
        have L11a : Hid (e11 < Wa.heap.size) := Nat.lt_of_lt_of_le L11.out B7a.out.size
        have R9a : Hid (Wa.rangeAt N 0 (bv r)) := range_below R9.out Ba.out (by have := hN5.out; omega)
        have R10a : Hid (Wa.rangeAt (N + 1) 0 (bv s)) := range_below R10.out Ba.out hN5.out
        have RAa : Hid (Wa.rangeAt D 0 (bv a')) := range_below RA5.out Ba.out (by have := hD5.out; omega)
        have hNa : Hid (N < Wa.heap.size) := Nat.lt_of_lt_of_le (by have := hN5.out; omega) Ba.out.size
        have hN1a : Hid (N + 1 < Wa.heap.size) := Nat.lt_of_lt_of_le hN5.out Ba.out.size
        have hDa : Hid (D < Wa.heap.size) := Nat.lt_of_lt_of_le (by have := hD5.out; omega) Ba.out.size
        have BWa : Hid (Below w.heap.size w Wa) := BX5.out.trans (Ba.out.mono BX5.out.size)
        have HVa : Hid (Sl Wa v p) := HV.out.below BWa.out (Nat.le_refl _)
        try rw [hWa]
        try rw [h13]
        clear l1 l2 l3 hWa h13 hz4
--@8
        refine RG.wp_rgn' (GI Wa (vr9f D N v K) (phV [r, a', p]) [(5, 6, bv K, bv z32)]) (by kernel_rfl) (by kernel_rfl) GI.start ?_ ?_
        · refine ⟨?_, ?_, ?_, ?_, ?_, ?_, ?_, trivial⟩
          · intro a W d V hI hd hpx hbk hf hp
            have hO' : Below Wa.heap.size Wa W := hI.be
            refine RU.ob_val (v := .slice (some ⟨N, 0, none⟩) 32 32) rfl (RU.wanted_none rfl) (fun ev he hc => ?_) ⟨_, rfl, hI.step (phV_mono [r, a', p]) (Below.refl _ _) 0 _ (by simp) (fun u hu => by first | (cases hu; rfl) | cases hu) (trivial)⟩
            have q9 : ev (.tmp 9) = .pointer (some ⟨N, 0, none⟩) := (he (.tmp 9)).trans (hf 9 rfl)
            simp only [qF, qD, qE, execOp, Option.map_some, Option.map_none]; rw [q9]
            first | (go_simp; done) | (go_simp; rfl) | rfl
          · intro a W d V hI hd hpx hbk hf hp
            have hO' : Below Wa.heap.size Wa W := hI.be
            refine RU.ob_val (v := .slice (some ⟨D, 0, none⟩) 32 32) rfl (RU.wanted_none rfl) (fun ev he hc => ?_) ⟨_, rfl, hI.step (phV_mono [r, a', p]) (Below.refl _ _) 1 _ (by simp) (fun u hu => by first | (cases hu; rfl) | cases hu) (trivial)⟩
            have q3 : ev (.tmp 3) = .pointer (some ⟨D, 0, none⟩) := (he (.tmp 3)).trans (hf 3 rfl)
            simp only [qF, qD, qE, execOp, Option.map_some, Option.map_none]; rw [q3]
            first | (go_simp; done) | (go_simp; rfl) | rfl
          · intro a W d V hI hd hpx hbk hf hp
            have hO' : Below Wa.heap.size Wa W := hI.be
            refine RU.ob_val (v := v) rfl (RU.wanted_none rfl) (fun ev he hc => ?_) ⟨_, rfl, hI.step (phV_mono [r, a', p]) (Below.refl _ _) 2 _ (by simp) (fun u hu => by first | (cases hu; rfl) | cases hu) (trivial)⟩
            have q1 : ev (.tmp 1) = v := (he (.tmp 1)).trans (hf 1 rfl)
            simp only [qF, qD, qE, execOp, Option.map_some, Option.map_none]; rw [q1]
            first | (go_simp; done) | (go_simp; rfl) | rfl
          · intro a W d V hI hd hpx hbk hf hp
            have hO' : Below Wa.heap.size Wa W := hI.be
            have e47 : a.eval (.tmp 47) = .slice (some ⟨N, 0, none⟩) 32 32 := (hp 0 47 rfl).trans (hI.kn 0 _ rfl (hpx 0 rfl))
            have e48 : a.eval (.tmp 48) = .slice (some ⟨D, 0, none⟩) 32 32 := (hp 1 48 rfl).trans (hI.kn 1 _ rfl (hpx 1 rfl))
            have e49 : a.eval (.tmp 49) = v := (hp 2 49 rfl).trans (hI.kn 2 _ rfl (hpx 2 rfl))
            have s0 : Sl W (.slice (some ⟨N, 0, none⟩) 32 32) r := sl_range HR.out (range_below R9a.out hO' hNa.out) (Nat.lt_of_lt_of_le hNa.out hO'.size)
            have s1 : Sl W (.slice (some ⟨D, 0, none⟩) 32 32) a' := sl_range HA.out (range_below RAa.out hO' hDa.out) (Nat.lt_of_lt_of_le hDa.out hO'.size)
            have s2 : Sl W v p := HVa.out.below hO' (Nat.le_refl _)
            obtain ⟨a0, c0, hv0, -, -⟩ := id s2
            have hb : Below W.heap.size W (W.alloc (.cells #[.slice (some ⟨N, 0, none⟩) 32 32, .slice (some ⟨D, 0, none⟩) 32 32, v] 23)) := (Below.refl _ W).alloc (Nat.le_refl _) _
            refine RU.ob_run (v := .slice (some ⟨W.heap.size, 0, none⟩) 3 3) (w' := W.alloc (.cells #[.slice (some ⟨N, 0, none⟩) 32 32, .slice (some ⟨D, 0, none⟩) 32 32, v] 23)) rfl (RU.wanted_none rfl) (fun ev he hc => ?_) ⟨_, rfl, hI.step (phV_mono [r, a', p]) hb 3 _ (by simp) (fun u hu => by cases hu) (ll_three _ s0 s1 s2)⟩
            have h47 := (he (.tmp 47)).trans e47
            have h48 := (he (.tmp 48)).trans e48
            have h49 := (he (.tmp 49)).trans e49
            simp only [qF, qD, qE, execOp]
            simp only [List.map_toArray, List.map_cons, List.map_nil, h47, h48, h49]
            rw [hv0]
            go_simp
          · intro a W d V hI hd hpx hbk hf hp
            have hO' : Below Wa.heap.size Wa W := hI.be
            have e50 : a.eval (.tmp 50) = V 3 := hp 3 50 rfl
            have hno : ∀ x ∈ ([(5, 6, bv K, bv z32)] : List Al), d x.2.1 = false := by simp only [List.mem_cons, List.not_mem_nil, or_false, forall_eq_or_imp, forall_eq]; exact hbk 6 rfl
            refine RU.ob_call (g := 19) (args := #[V 3]) rfl (RU.wanted_none rfl) (fun ev he hc => ?_) ((rhashed_any [r, a', p] K HKE.out HBY.out HN3.out HJ3.out (V 3) W (hI.pr 3 (hpx 3 rfl) hno)).mono ?_)
            · have h50 := (he (.tmp 50)).trans e50
              have hfn := he (.func 19)
              simp only [qF, qD, qE, execOp, Option.map_some, Option.map_none]
              simp only [resolve, invoke, Sem.run_bind, Sem.run_pure, Result.andThen_ok, List.map_toArray, List.map_cons, List.map_nil, h50, hfn, Act.eval, hc]
              rfl
            · rintro e' W2 ⟨rfl, hb2⟩
              exact ⟨_, rfl, ⟨_, rfl, hI.step (phV_mono [r, a', p]) hb2 4 _ (by simp) (fun u hu => by first | (cases hu; rfl) | cases hu) (trivial)⟩⟩
          · intro a W d V hI hd hpx hbk hf hp
            have hO' : Below Wa.heap.size Wa W := hI.be
            refine RU.ob_run (v := .pointer (some ⟨W.heap.size, 0, none⟩)) (w' := W.alloc (.cells (bv z32).toArray 22)) rfl (RU.wanted_none rfl) (fun ev he hc => ?_) ⟨_, rfl, hI.alloc (phV_mono [r, a', p]) (5, 6, bv K, bv z32) (by simp) 22 (hbk 6 rfl) (by simp) (by simp) rfl (fun _ _ => trivial)⟩
            simp only [qF, qD, qE, execOp]
            first | (go_simp; done) | (go_simp; rfl) | (go_simp; rw [zero_32]; rfl)
          · intro a W d V hI hd hpx hbk hf hp
            have hO' : Below Wa.heap.size Wa W := hI.be
            have d9 : d 5 = true := hpx 5 rfl
            obtain ⟨b, hV, -, -, hth, -⟩ := hI.pt (5, 6, bv K, bv z32) (by simp) d9
            have qp : a.eval (.tmp 15) = .pointer (some ⟨b, 0, none⟩) := (hp 5 15 rfl).trans hV
            have qv : a.eval (.tmp 51) = .agg (bv K).toArray := (hp 4 51 rfl).trans (hI.kn 4 _ rfl (hpx 4 rfl))
            exact RU.ob_op rfl (RU.wanted_none rfl) (wp_store_mid 22 (.tmp 15) (.tmp 51) rfl b 0 (bv K).toArray qp qv (by rw [List.size_toArray, (show (bv K).length = (bv z32).length by rw [bv_length, bv_length, HK.out.len, z32_l32.len])]; exact hth) (by rw [List.size_toArray]; exact size_l32 HK.out) (bv_one' _) ⟨_, rfl, by simp only [List.toList_toArray]; exact hI.store (5, 6, bv K, bv z32) (by simp) d9 hV _ (by simp) (by simp) rfl (show (bv K).length = (bv z32).length by rw [bv_length, bv_length, HK.out.len, z32_l32.len]) (by simp)⟩)
        intro Wb dWb VWb hal hI
        have BWb : Hid (Below Wa.heap.size Wa Wb) := hI.be
        have hs0 : VWb 0 = .slice (some ⟨N, 0, none⟩) 32 32 := hI.kn 0 _ rfl (hal 0 (by decide))
        have hs1 : VWb 1 = .slice (some ⟨D, 0, none⟩) 32 32 := hI.kn 1 _ rfl (hal 1 (by decide))
        have hs2 : VWb 2 = v := hI.kn 2 _ rfl (hal 2 (by decide))
        obtain ⟨u3, hs3⟩ : ∃ u, VWb 3 = u := ⟨_, rfl⟩
        have hs4 : VWb 4 = .agg (bv K).toArray := hI.kn 4 _ rfl (hal 4 (by decide))
        obtain ⟨b5, hs5, hb5, hl5, -, hr5⟩ := hI.pt (5, 6, bv K, bv z32) (by simp) (hal 5 (by decide))
        have hs5 : VWb 5 = .pointer (some ⟨b5, 0, none⟩) := hs5
        have R5Wb : Hid (Wb.rangeAt b5 0 (bv K)) := by have h9 : dWb 6 = true := hal 6 (by decide); simp only [h9, if_true] at hr5; exact hr5
        have L5Wb : Hid (b5 < Wb.heap.size) := hl5
        have G5Wb : Hid (Wa.heap.size ≤ b5) := hb5
        simp only [RU.lay, Act.put, hs0, hs1, hs2, hs3, hs4, hs5]
        simp only [qA, qB, qC]
        clear hI hal hs0 hs1 hs2 hs3 hs4 hs5 hb5 hl5 hr5
--@9
        have R9b : Hid (Wb.rangeAt N 0 (bv r)) := range_below R9a.out BWb.out hNa.out
        have R10b : Hid (Wb.rangeAt (N + 1) 0 (bv s)) := range_below R10a.out BWb.out hN1a.out
        have R11b : Hid (Wb.rangeAt e11 0 CA) := range_below R11a.out BWb.out L11a.out
        have R13b : Hid (Wb.rangeAt e13 0 CB) := range_below R13.out BWb.out L13.out
        have hNb : Hid (N < Wb.heap.size) := Nat.lt_of_lt_of_le hNa.out BWb.out.size
        have hN1b : Hid (N + 1 < Wb.heap.size) := Nat.lt_of_lt_of_le hN1a.out BWb.out.size
        have h11b : Hid (e11 < Wb.heap.size) := Nat.lt_of_lt_of_le L11a.out BWb.out.size
        have h13b : Hid (e13 < Wb.heap.size) := Nat.lt_of_lt_of_le L13.out BWb.out.size
        go_upto_region 10 with (fail)
        refine RG.wp_rgn' (GI Wb (vr10f s K Yq r CB CA PS PK PM PD) (fun _ _ _ => True) []) (by kernel_rfl) (by kernel_rfl) GI.start ?_ ?_
        · refine ⟨?_, ?_, ?_, ?_, ?_, ?_, ?_, ?_, ?_, ?_, ?_, trivial⟩
          · intro a W d V hI hd hpx hbk hf hp
            have hO' : Below Wb.heap.size Wb W := hI.be
            have q10 : a.eval (.tmp 10) = .pointer (some ⟨N + 1, 0, none⟩) := hf 10 rfl
            exact RU.ob_op rfl (RU.wanted_none rfl) (wp_load_mid 22 (.tmp 10) rfl (N + 1) (0) q10 (bv s) _ (range_below R10b.out hO' hN1b.out) Tryz.underlying22 rfl (size_l32 HS.out) ⟨_, rfl, hI.step (fun _ _ _ _ _ _ => trivial) (Below.refl _ _) 0 _ (by simp) (fun u hu => by first | (cases hu; rfl) | cases hu) (trivial)⟩)
          · intro a W d V hI hd hpx hbk hf hp
            have hO' : Below Wb.heap.size Wb W := hI.be
            have q13 : a.eval (.tmp 13) = .pointer (some ⟨e13, 0, none⟩) := hf 13 rfl
            exact RU.ob_op rfl (RU.wanted_none rfl) (wp_load_mid 42 (.tmp 13) rfl (e13) (0) q13 (CB) _ (range_below R13b.out hO' h13b.out) Tryz.underlying42 rfl (by rw [HCBL.out]; exact size_pt) ⟨_, rfl, hI.step (fun _ _ _ _ _ _ => trivial) (Below.refl _ _) 1 _ (by simp) (fun u hu => by first | (cases hu; rfl) | cases hu) (trivial)⟩)
          · intro a W d V hI hd hpx hbk hf hp
            have hO' : Below Wb.heap.size Wb W := hI.be
            have e52 : a.eval (.tmp 52) = .agg (bv s).toArray := (hp 0 52 rfl).trans (hI.kn 0 _ rfl (hpx 0 rfl))
            have e53 : a.eval (.tmp 53) = .agg CB.toArray := (hp 1 53 rfl).trans (hI.kn 1 _ rfl (hpx 1 rfl))
            have hno : ∀ x ∈ ([] : List Al), d x.2.1 = false := by simp
            refine RU.ob_call (g := 22) (args := #[.agg (bv s).toArray, .agg CB.toArray]) rfl (RU.wanted_none rfl) (fun ev he hc => ?_) ((HCS.out W).mono ?_)
            · have h52 := (he (.tmp 52)).trans e52
              have h53 := (he (.tmp 53)).trans e53
              have hfn := he (.func 22)
              simp only [qF, qD, qE, execOp, Option.map_some, Option.map_none]
              simp only [resolve, invoke, Sem.run_bind, Sem.run_pure, Result.andThen_ok, List.map_toArray, List.map_cons, List.map_nil, h52, h53, hfn, Act.eval, hc]
              rfl
            · rintro e' W2 ⟨rfl, hb2⟩
              exact ⟨_, rfl, ⟨_, rfl, hI.step (fun _ _ _ _ _ _ => trivial) hb2 2 _ (by simp) (fun u hu => by first | (cases hu; rfl) | cases hu) (trivial)⟩⟩
          · intro a W d V hI hd hpx hbk hf hp
            have hO' : Below Wb.heap.size Wb W := hI.be
            have q15 : a.eval (.tmp 15) = .pointer (some ⟨b5, 0, none⟩) := hf 15 rfl
            exact RU.ob_op rfl (RU.wanted_none rfl) (wp_load_mid 22 (.tmp 15) rfl (b5) (0) q15 (bv K) _ (range_below R5Wb.out hO' L5Wb.out) Tryz.underlying22 rfl (size_l32 HK.out) ⟨_, rfl, hI.step (fun _ _ _ _ _ _ => trivial) (Below.refl _ _) 3 _ (by simp) (fun u hu => by first | (cases hu; rfl) | cases hu) (trivial)⟩)
          · intro a W d V hI hd hpx hbk hf hp
            have hO' : Below Wb.heap.size Wb W := hI.be
            have q11 : a.eval (.tmp 11) = .pointer (some ⟨e11, 0, none⟩) := hf 11 rfl
            exact RU.ob_op rfl (RU.wanted_none rfl) (wp_load_mid 42 (.tmp 11) rfl (e11) (0) q11 (CA) _ (range_below R11b.out hO' h11b.out) Tryz.underlying42 rfl (by rw [HCAL.out]; exact size_pt) ⟨_, rfl, hI.step (fun _ _ _ _ _ _ => trivial) (Below.refl _ _) 4 _ (by simp) (fun u hu => by first | (cases hu; rfl) | cases hu) (trivial)⟩)
          · intro a W d V hI hd hpx hbk hf hp
            have hO' : Below Wb.heap.size Wb W := hI.be
            have e55 : a.eval (.tmp 55) = .agg (bv K).toArray := (hp 3 55 rfl).trans (hI.kn 3 _ rfl (hpx 3 rfl))
            have e56 : a.eval (.tmp 56) = .agg CA.toArray := (hp 4 56 rfl).trans (hI.kn 4 _ rfl (hpx 4 rfl))
            have hno : ∀ x ∈ ([] : List Al), d x.2.1 = false := by simp
            refine RU.ob_call (g := 22) (args := #[.agg (bv K).toArray, .agg CA.toArray]) rfl (RU.wanted_none rfl) (fun ev he hc => ?_) ((HCK2.out W).mono ?_)
            · have h55 := (he (.tmp 55)).trans e55
              have h56 := (he (.tmp 56)).trans e56
              have hfn := he (.func 22)
              simp only [qF, qD, qE, execOp, Option.map_some, Option.map_none]
              simp only [resolve, invoke, Sem.run_bind, Sem.run_pure, Result.andThen_ok, List.map_toArray, List.map_cons, List.map_nil, h55, h56, hfn, Act.eval, hc]
              rfl
            · rintro e' W2 ⟨rfl, hb2⟩
              exact ⟨_, rfl, ⟨_, rfl, hI.step (fun _ _ _ _ _ _ => trivial) hb2 5 _ (by simp) (fun u hu => by first | (cases hu; rfl) | cases hu) (trivial)⟩⟩
          · intro a W d V hI hd hpx hbk hf hp
            have hO' : Below Wb.heap.size Wb W := hI.be
            have e57 : a.eval (.tmp 57) = qv PK := (hp 5 57 rfl).trans (hI.kn 5 _ rfl (hpx 5 rfl))
            have hno : ∀ x ∈ ([] : List Al), d x.2.1 = false := by simp
            refine RU.ob_call (g := 23) (args := #[qv PK]) rfl (RU.wanted_none rfl) (fun ev he hc => ?_) ((HCM.out W).mono ?_)
            · have h57 := (he (.tmp 57)).trans e57
              have hfn := he (.func 23)
              simp only [qF, qD, qE, execOp, Option.map_some, Option.map_none]
              simp only [resolve, invoke, Sem.run_bind, Sem.run_pure, Result.andThen_ok, List.map_toArray, List.map_cons, List.map_nil, h57, hfn, Act.eval, hc]
              rfl
            · rintro e' W2 ⟨rfl, hb2⟩
              exact ⟨_, rfl, ⟨_, rfl, hI.step (fun _ _ _ _ _ _ => trivial) hb2 6 _ (by simp) (fun u hu => by first | (cases hu; rfl) | cases hu) (trivial)⟩⟩
          · intro a W d V hI hd hpx hbk hf hp
            have hO' : Below Wb.heap.size Wb W := hI.be
            have e54 : a.eval (.tmp 54) = qv PS := (hp 2 54 rfl).trans (hI.kn 2 _ rfl (hpx 2 rfl))
            have e58 : a.eval (.tmp 58) = qv PM := (hp 6 58 rfl).trans (hI.kn 6 _ rfl (hpx 6 rfl))
            have hno : ∀ x ∈ ([] : List Al), d x.2.1 = false := by simp
            refine RU.ob_call (g := 21) (args := #[qv PS, qv PM]) rfl (RU.wanted_none rfl) (fun ev he hc => ?_) ((HCD.out W).mono ?_)
            · have h54 := (he (.tmp 54)).trans e54
              have h58 := (he (.tmp 58)).trans e58
              have hfn := he (.func 21)
              simp only [qF, qD, qE, execOp, Option.map_some, Option.map_none]
              simp only [resolve, invoke, Sem.run_bind, Sem.run_pure, Result.andThen_ok, List.map_toArray, List.map_cons, List.map_nil, h54, h58, hfn, Act.eval, hc]
              rfl
            · rintro e' W2 ⟨rfl, hb2⟩
              exact ⟨_, rfl, ⟨_, rfl, hI.step (fun _ _ _ _ _ _ => trivial) hb2 7 _ (by simp) (fun u hu => by first | (cases hu; rfl) | cases hu) (trivial)⟩⟩
          · intro a W d V hI hd hpx hbk hf hp
            have hO' : Below Wb.heap.size Wb W := hI.be
            have e59 : a.eval (.tmp 59) = qv PD := (hp 7 59 rfl).trans (hI.kn 7 _ rfl (hpx 7 rfl))
            have hno : ∀ x ∈ ([] : List Al), d x.2.1 = false := by simp
            refine RU.ob_call (g := 20) (args := #[qv PD]) rfl (RU.wanted_none rfl) (fun ev he hc => ?_) ((HCE.out W).mono ?_)
            · have h59 := (he (.tmp 59)).trans e59
              have hfn := he (.func 20)
              simp only [qF, qD, qE, execOp, Option.map_some, Option.map_none]
              simp only [resolve, invoke, Sem.run_bind, Sem.run_pure, Result.andThen_ok, List.map_toArray, List.map_cons, List.map_nil, h59, hfn, Act.eval, hc]
              rfl
            · rintro e' W2 ⟨rfl, hb2⟩
              exact ⟨_, rfl, ⟨_, rfl, hI.step (fun _ _ _ _ _ _ => trivial) hb2 8 _ (by simp) (fun u hu => by first | (cases hu; rfl) | cases hu) (trivial)⟩⟩
          · intro a W d V hI hd hpx hbk hf hp
            have hO' : Below Wb.heap.size Wb W := hI.be
            have q9 : a.eval (.tmp 9) = .pointer (some ⟨N, 0, none⟩) := hf 9 rfl
            exact RU.ob_op rfl (RU.wanted_none rfl) (wp_load_mid 22 (.tmp 9) rfl (N) (0) q9 (bv r) _ (range_below R9b.out hO' hNb.out) Tryz.underlying22 rfl (size_l32 HR.out) ⟨_, rfl, hI.step (fun _ _ _ _ _ _ => trivial) (Below.refl _ _) 9 _ (by simp) (fun u hu => by first | (cases hu; rfl) | cases hu) (trivial)⟩)
          · intro a W d V hI hd hpx hbk hf hp
            have hO' : Below Wb.heap.size Wb W := hI.be
            refine RU.ob_val (v := .bool (!decide (Yq = r))) rfl (RU.wanted_none rfl) (fun ev he hc => ?_) ⟨_, rfl, hI.step (fun _ _ _ _ _ _ => trivial) (Below.refl _ _) 10 _ (by simp) (fun u hu => by first | (cases hu; rfl) | cases hu) (trivial)⟩
            have q60 : ev (.tmp 60) = .agg (bv Yq).toArray := (he (.tmp 60)).trans ((hp 8 60 rfl).trans (hI.kn 8 _ rfl (hpx 8 rfl)))
            have q61 : ev (.tmp 61) = .agg (bv r).toArray := (he (.tmp 61)).trans ((hp 9 61 rfl).trans (hI.kn 9 _ rfl (hpx 9 rfl)))
            simp only [qF, qD, qE, execOp, Option.map_some, Option.map_none]; rw [q60, q61]
            simp only [Sem.run_bind, eqg_32, neq_32 HY.out HR.out, Result.andThen_ok, Sem.run_pure]
        intro Wc dWc VWc hal hI
        have BWc : Hid (Below Wb.heap.size Wb Wc) := hI.be
        have hs0 : VWc 0 = .agg (bv s).toArray := hI.kn 0 _ rfl (hal 0 (by decide))
        have hs1 : VWc 1 = .agg CB.toArray := hI.kn 1 _ rfl (hal 1 (by decide))
        have hs2 : VWc 2 = qv PS := hI.kn 2 _ rfl (hal 2 (by decide))
        have hs3 : VWc 3 = .agg (bv K).toArray := hI.kn 3 _ rfl (hal 3 (by decide))
        have hs4 : VWc 4 = .agg CA.toArray := hI.kn 4 _ rfl (hal 4 (by decide))
        have hs5 : VWc 5 = qv PK := hI.kn 5 _ rfl (hal 5 (by decide))
        have hs6 : VWc 6 = qv PM := hI.kn 6 _ rfl (hal 6 (by decide))
        have hs7 : VWc 7 = qv PD := hI.kn 7 _ rfl (hal 7 (by decide))
        have hs8 : VWc 8 = .agg (bv Yq).toArray := hI.kn 8 _ rfl (hal 8 (by decide))
        have hs9 : VWc 9 = .agg (bv r).toArray := hI.kn 9 _ rfl (hal 9 (by decide))
        have hs10 : VWc 10 = .bool (!decide (Yq = r)) := hI.kn 10 _ rfl (hal 10 (by decide))
        simp only [RU.lay, Act.put, hs0, hs1, hs2, hs3, hs4, hs5, hs6, hs7, hs8, hs9, hs10]
        simp only [qA, qB, qC]
        clear hI hal hs0 hs1 hs2 hs3 hs4 hs5 hs6 hs7 hs8 hs9 hs10
--@10
        have BW9 : Hid (Below w.heap.size w Wc) := ((BWa.out.trans (BWb.out.mono BWa.out.size)).trans (BWc.out.mono (Nat.le_trans BWa.out.size BWb.out.size)))
        have hvf := vf_yes HEK.out HSK.out HCK.out (p := p) (r := r)
        rw [HYE.out] at hvf
        by_cases hq : Yq = r
        · have HF : Hid (vfE a' p r s = 0) := by show _ = _; rw [hvf, if_pos hq]
          rw [decide_eq_true hq]
          clear hvf hq
          go_wp2_with fail
          go_ret
          exact ⟨by rw [HF.out]; rfl, BW9.out⟩
        · have HF : Hid (vfE a' p r s = 3) := by show _ = _; rw [hvf, if_neg hq]
          rw [decide_eq_false hq]
          clear hvf hq
          go_wp2_with fail
          go_ret
          exact ⟨by rw [HF.out]; rfl, BW9.out⟩
  · have HF : Hid (vfE a' p r s = 2) := vf_no (.inl (by rw [HEK.out]; exact h0))
    go_wp2_with fail
    go_ret
    exact ⟨by rw [HF.out]; rfl, BX5.out⟩
end Go.Proofs.YtkhjnjlinfbfoaaGreatDoor.Wi
