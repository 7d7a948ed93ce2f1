/- The reference's Open, and copyNodes of the law: what they give is new memory. -/
import Derived.Test.YtkeobajlikhghabDoorTrwB
import Derived.Test.YtkeobajlikhghabDoorTroC
import Derived.Test.YtkeobajlikhghabDoorTrrK
namespace Go.Proofs.YtkeobajlikhghabDoor
open Go Go.RowKit
set_option linter.unusedSimpArgs false
set_option linter.unusedVariables false
set_option maxRecDepth 100000

def ROp (B : Nat) (ls : List Lf) (y : List Int) (v' : Value) (er : Int) (w' : World) : Prop := (okl ls ∧ er = 0 ∧ NO B w' v' (opl y (so ls))) ∨ (¬ okl ls ∧ er = 1 ∧ v' = .slice none 0 0)
theorem size_al9 (w : World) (X : Obj) : (w.alloc X).heap.size = w.heap.size + 1 := by simp
set_option maxHeartbeats 4000000 in
theorem rOpen_own (ls : List Lf) (hk : ∀ x ∈ ls, x.Ok) (hlen : ls.length ≤ 2500000000000) (y : List Int) (hy : L32 y) (v : Value) (w : World) (hv : LS w v ls) :
    Calls Tryd.prog 8 #[v, .agg (bv y).toArray] w fun e w' => ∃ v' er, e = .returned (.tuple #[v', .int .i64 er]) ∧ ROp w.heap.size ls y v' er w' ∧ Below w.heap.size w w' := by
  have sy : (bv y).toArray.size = 32 := by rw [List.size_toArray, bv_length, hy.len]
  have ra := range_alloc w (bv y) 23 (0, 0)
  obtain ⟨A, hA⟩ : ∃ A, (bv y).toArray = A := ⟨_, rfl⟩
  rw [hA] at ra sy ⊢
  obtain ⟨U, hU⟩ : ∃ U, w.alloc (.cells A 23) = U := ⟨_, rfl⟩
  have bU : Below w.heap.size w U := by rw [← hU]; exact (Below.refl _ w).alloc (Nat.le_refl _) _
  have sU : U.heap.size = w.heap.size + 1 := by rw [← hU]; simp
  rw [hU] at ra
  have BU : Hid (Below w.heap.size w U) := bU
  have VU : Hid (LS U v ls) := hv.below bU
  have HY : Hid (L32 y) := hy
  have HK : Hid (∀ x ∈ ls, x.Ok) := hk
  have HLL : Hid (ls.length ≤ 2500000000000) := hlen
  obtain ⟨D, hD⟩ : ∃ D, w.heap.size = D := ⟨_, rfl⟩
  have HD : Hid (w.heap.size = D) := hD
  rw [hD] at ra sU
  have RY : Hid (U.rangeAt D 0 (bv y)) := ra
  have hDU : Hid (D < U.heap.size) := by show D < _; omega
  by_cases ho : okl ls
  · have HO : Hid (okl ls) := ho
    have HLN : Hid (Calls Tryd.prog 18 #[v] U fun e w' => ∃ v', e = .returned (.tuple #[v', .bool true]) ∧ NS w' v' (so ls) ∧ Below U.heap.size U w') := rNodes_yes ls hk hlen ho v U VU.out
    have HOP : Hid (∀ (v' yv : Value) (W : World), NS W v' (so ls) → YS W yv [y] → Calls Tryd.prog 19 #[v', yv, .bool true] W fun e w' => ∃ v', e = .returned v' ∧ NO W.heap.size w' v' (opl y (so ls)) ∧ Below W.heap.size W w') := fun v' yv W n1 n2 => by
      have := rWithout_own [y] (fun z hz => by simp at hz; subst hz; exact hy) (by simp) true _ (so ls) (Nat.le_refl _) (so_rsn hk ho) (by rw [so_len ho]; omega) v' yv W n1 n2
      have e : (fun n : Nd => [y].any (fun y => hl n y)) = fun n => hl n y := by funext n; simp
      rw [e, wo_opl y _ _ (so_rsn hk ho).ris (by omega)] at this
      exact this
    clear ra bU hy hk sU hv hlen hA ho
    go_enter Tryd.func8, Tryd.ntmps8
    go_upto_region 1 with (fail)
    try rw [hU]
    try rw [hD]
    clear hU hD
    go_wp2_with (first
      | (refine ld 23 (.tmp 3) rfl rfl D 0 rfl (bv y) _ (range_below RY.out B1.out hDU.out) Tryd.underlying23 rfl (size_l32 HY.out) ?_)
      | (refine wpList_oney rfl (.tmp 16) rfl y HY.out rfl ?_)
      | (go_at_call 18; refine HLN.out.mono ?_; rintro e w1 ⟨v1, rfl, g1, g2⟩; have N1 : Hid (NS w1 v1 (so ls)) := g1; have B1 : Hid (Below U.heap.size U w1) := g2; clear g1 g2)
      | (go_at_call 19; refine (HOP.out v1 _ _ (N1.out.below ((Below.refl _ w1).alloc (Nat.le_refl _) _)) (ys_one w1 y _)).mono ?_; rintro e w2 ⟨v2, rfl, g1, g2⟩; have N2 : Hid (NO w.heap.size w2 v2 (opl y (so ls))) := g1.mono (by have h1 := BU.out.size; have h2 := B1.out.size; simp only [size_al9]; omega); have B2 : Hid (Below U.heap.size U w2) := Below.tr' (Below.tr' B1.out ((Below.refl _ w1).alloc (Nat.le_refl _) _)) g2; clear g1 g2))
    go_ret2
    exact ⟨_, _, rfl, .inl ⟨HO.out, rfl, N2.out⟩, BU.out.trans (B2.out.mono BU.out.size)⟩
  · have HO : Hid (¬ okl ls) := ho
    have HLN : Hid (Calls Tryd.prog 18 #[v] U fun e w' => e = .returned (.tuple #[.slice none 0 0, .bool false]) ∧ Below U.heap.size U w') := rNodes_no ls hk hlen ho v U VU.out
    clear ra bU hy hk sU hv hlen hA ho
    go_enter Tryd.func8, Tryd.ntmps8
    go_upto_region 1 with (fail)
    try rw [hU]
    try rw [hD]
    clear hU hD
    go_wp2_with (first
      | (go_at_call 18; refine HLN.out.mono ?_; rintro e w1 ⟨rfl, g2⟩; have B1 : Hid (Below U.heap.size U w1) := g2; clear g2))
    go_ret2
    exact ⟨_, _, rfl, .inr ⟨HO.out, rfl, rfl⟩, BU.out.trans (B1.out.mono BU.out.size)⟩
set_option maxHeartbeats 1000000 in
theorem copyNodes_own (l : List Nd) (hk : ∀ x ∈ l, x.Ok) (hlen : l.length ≤ 3000000000000) (v : Value) (w : World) (hv : NS w v l) :
    Calls Tryd.prog 9 #[v] w fun e w' => ∃ v', e = .returned v' ∧ NO w.heap.size w' v' l ∧ Below w.heap.size w w' := by
  have hl := lit_none w
  have hb0 : Below w.heap.size w (w.alloc (.cells #[] 35)) := (Below.refl _ w).alloc (Nat.le_refl _) _
  obtain ⟨v', w', hr, h1, h2, -⟩ := app_own (lit_own w) hk (hv.below hb0) (by simpa using hlen)
  have H1 : Hid (NO w.heap.size w' v' l) := h1
  have H2 : Hid (Below w.heap.size w w') := hb0.trans h2
  obtain ⟨ad, cap, rfl, -, -⟩ := hv
  obtain ⟨n, hn⟩ : ∃ n, l.length = n := ⟨_, rfl⟩
  rw [hn] at hr ⊢
  have HR : Hid ((Builtin.append_ #[31, 31] 31 #[.slice (some ⟨w.heap.size, 0, none⟩) 0 0, .slice ad n cap]).run Tryd.prog (w.alloc (.cells #[] 35)) = .ok v' w') := hr
  clear hk hlen h1 h2 hn hr hb0
  go_enter Tryd.func9, Tryd.ntmps9
  go_wp2_with (at_builtin; refine wp_app_run rfl (.tmp 3) (.tmp 4) 31 rfl 31 rfl (.slice (some ⟨w.heap.size, 0, none⟩) 0 0) (.slice ad n cap) v' w' rfl rfl HR.out ?_)
  go_ret
  exact ⟨_, rfl, H1.out, H2.out⟩
end Go.Proofs.YtkeobajlikhghabDoor
/- The reference: Root, Over. -/
namespace Go.Proofs.YtkeobajlikhghabDoor
open Go Go.RowKit
set_option linter.unusedSimpArgs false
set_option linter.unusedVariables false
set_option maxRecDepth 100000

end Go.Proofs.YtkeobajlikhghabDoor
/- RootOf of the package and of the reference. -/
namespace Go.Proofs.YtkeobajlikhghabDoor
open Go Go.RowKit
set_option linter.unusedSimpArgs false
set_option linter.unusedVariables false
set_option maxRecDepth 100000

/-- The root of leaves. -/
def RO (ls : List Lf) (R : List Int) (er : Int) : Prop := (okl ls ∧ R = rt (so ls) ∧ er = 0) ∨ (¬ okl ls ∧ R = z32 ∧ er = 1)
theorem ro_some (ls : List Lf) : ∃ R er, RO ls R er ∧ L32 R := by
  by_cases h : okl ls
  · exact ⟨_, _, .inl ⟨h, rfl, rfl⟩, rt_l32 _⟩
  · exact ⟨_, _, .inr ⟨h, rfl, rfl⟩, z32_l32⟩
set_option maxHeartbeats 4000000 in
theorem RootOf_any (ls : List Lf) (hk : ∀ x ∈ ls, x.Ok) (hlen : ls.length ≤ 2500000000000) (R : List Int) (er : Int) (hR : RO ls R er) (v : Value) (w : World) (hv : LS w v ls) (hT : Tb w) :
    Calls Tryd.prog 6 #[v] w fun e w' => e = .returned (.tuple #[.agg (bv R).toArray, .int .i64 er]) ∧ Below w.heap.size w w' := by
  have hz := zero_32
  rw [show List.replicate 32 (0 : Int) = z32 from rfl] at hz
  have rz : (w.alloc (.cells (bv z32).toArray 23)).heap[w.heap.size]? = some (.cells (bv z32).toArray 23 (0, 0)) := by show (w.heap.push _)[w.heap.size]? = _; simp
  have rl : Below w.heap.size w (w.alloc (.cells (bv z32).toArray 23)) := (Below.refl _ w).alloc (Nat.le_refl _) _
  have rs : (w.alloc (.cells (bv z32).toArray 23)).heap.size = w.heap.size + 1 := by simp
  have HBZ : Hid (∀ W : World, (Instr.build 23 #[]).run Tryd.prog W = .ok (.agg (bv z32).toArray) W) := build_32
  obtain ⟨Z, hZ⟩ : ∃ Z, (bv z32).toArray = Z := ⟨_, rfl⟩
  have hZs : Z.size = 32 := by rw [← hZ]; simp [bv, z32]
  rw [hZ] at hz rz rl rs
  have HZE : Hid ((bv z32).toArray = Z) := hZ
  rw [hZ] at HBZ
  clear hZ
  obtain ⟨U, hU⟩ : ∃ U, w.alloc (.cells Z 23) = U := ⟨_, rfl⟩
  rw [hU] at rz rl rs
  have BU : Hid (Below w.heap.size w U) := rl
  have VU : Hid (LS U v ls) := hv.below rl
  have TU : Hid (Tb U) := hT.below rl
  obtain ⟨D, hD⟩ : ∃ D, w.heap.size = D := ⟨_, rfl⟩
  have HD : Hid (w.heap.size = D) := hD
  rw [hD] at rz rs
  have HTH : Hid (∀ W : World, Below U.heap.size U W → W.there D 0 32) := fun w1 B1 => there_of_row' ((B1.block _ (by omega)).trans rz) 0 32 (by omega)
  rcases hR with ⟨ho, rfl, rfl⟩ | ⟨ho, rfl, rfl⟩
  · have HNY : Hid (Calls Tryd.prog 15 #[v] U fun e w' => ∃ v', e = .returned (.tuple #[v', .int .i64 0]) ∧ NS w' v' (so ls) ∧ Below U.heap.size U w') := leafNodes_yes ls hk hlen ho v U VU.out TU.out
    have HRT : Hid (∀ (v' : Value) (W : World), NS W v' (so ls) → Below U.heap.size U W → Calls Tryd.prog 16 #[v'] W fun e w' => e = .returned (.agg (bv (rt (so ls))).toArray) ∧ Below W.heap.size W w') := fun v' W n1 n2 => root_any (so ls) (so_rsn hk ho) (by rw [so_len ho]; omega) v' W n1 (TU.out.below n2)
    have HL : Hid (L32 (rt (so ls))) := rt_l32 _
    obtain ⟨R, hR⟩ : ∃ R, rt (so ls) = R := ⟨_, rfl⟩
    rw [hR] at HRT HL ⊢
    clear rz rl rs hT hR ho hv hk hlen
    go_enter Tryd.func6, Tryd.ntmps6
    go_upto_region 1 with (fail)
    try rw [hU]
    try rw [hD]
    clear hU hD hz
    go_wp2_with (first
      | (refine wpList_store_mid rfl 23 (.tmp 2) (.tmp 16) rfl D 0 (bv R).toArray rfl rfl (by rw [List.size_toArray, bv_length, HL.out.len]; exact HTH.out _ Cw2.out) (by rw [List.size_toArray]; exact size_l32 HL.out) (bv_one' _) ?_; simp only [List.toList_toArray])
      | (go_at_call 15; refine HNY.out.mono ?_; rintro e w1 ⟨v1, rfl, g1, g2⟩; have N1 : Hid (NS w1 v1 (so ls)) := g1; have Cw1 : Hid (Below U.heap.size U w1) := g2; clear g1 g2)
      | (go_at_call 16; refine (HRT.out v1 w1 N1.out Cw1.out).mono ?_; rintro e w2 ⟨rfl, g1⟩; have Cw2 : Hid (Below U.heap.size U w2) := Below.tr' Cw1.out g1; clear g1))
    have qq : (w2.setCells D 0 (bv R)).rangeAt D 0 (bv R) := World.rangeAt_setCells_same _ _ _ _ (by rw [bv_length, HL.out.len]; exact HTH.out _ Cw2.out)
    have hbl : Below w.heap.size w (w2.setCells D 0 (bv R)) := below_setCells (by have := HD.out; omega) _ _ (BU.out.trans (Cw2.out.mono BU.out.size))
    refine bodyPost_ret (v := .tuple #[.agg (bv R).toArray, .int .i64 0]) ?_ rfl ⟨rfl, hbl⟩
    simp only [results, Tryd.results6]
    simp [Act.put, asAddr, run_loadVar_mid _ D 0 23 (bv R) _ qq Tryd.underlying23 rfl (size_l32 HL.out)]
  · have HNN : Hid (Calls Tryd.prog 15 #[v] U fun e w' => e = .returned (.tuple #[.slice none 0 0, .int .i64 1]) ∧ Below U.heap.size U w') := leafNodes_no ls hk hlen ho v U VU.out TU.out
    clear rz rl rs hT ho hv hk hlen
    go_enter Tryd.func6, Tryd.ntmps6
    go_upto_region 1 with (fail)
    try rw [hU]
    try rw [hD]
    clear hU hD hz
    go_upto_region 3 with (go_at_call 15; refine HNN.out.mono ?_; rintro e w1 ⟨rfl, g2⟩; have Cw1 : Hid (Below U.heap.size U w1) := g2; clear g2)
    refine wp_region_list ?_
    refine wp_build0 23 rfl rfl _ (HBZ.out w1) ?_
    go_wp2_with (refine wpList_store_mid rfl 23 (.tmp 2) (.tmp 13) rfl D 0 (bv z32).toArray rfl (congrArg Value.agg HZE.out.symm) (by rw [List.size_toArray, bv_length, z32_l32.len]; exact HTH.out _ Cw1.out) (by rw [List.size_toArray]; exact size_l32 z32_l32) (bv_one' _) ?_; simp only [List.toList_toArray])
    have qq : (w1.setCells D 0 (bv z32)).rangeAt D 0 (bv z32) := World.rangeAt_setCells_same _ _ _ _ (by rw [bv_length, z32_l32.len]; exact HTH.out _ Cw1.out)
    have hbl : Below w.heap.size w (w1.setCells D 0 (bv z32)) := below_setCells (by have := HD.out; omega) _ _ (BU.out.trans (Cw1.out.mono BU.out.size))
    refine bodyPost_ret (v := .tuple #[.agg (bv z32).toArray, .int .i64 1]) ?_ rfl ⟨rfl, hbl⟩
    simp only [results, Tryd.results6]
    simp [Act.put, asAddr, run_loadVar_mid _ D 0 23 (bv z32) _ qq Tryd.underlying23 rfl (size_l32 z32_l32)]
end Go.Proofs.YtkeobajlikhghabDoor
