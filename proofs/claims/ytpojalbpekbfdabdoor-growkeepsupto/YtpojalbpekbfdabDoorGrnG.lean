/- Package grow: same, Check. -/
import Derived.Test.YtpojalbpekbfdabDoorTrdA
namespace Go.Proofs.YtpojalbpekbfdabDoor
open Go Go.RowKit
set_option linter.unusedSimpArgs false
set_option linter.unusedVariables false
set_option maxRecDepth 100000

theorem wp_neq_run {P : Program} {ops : Array Oper} {rest : List Oper} {o : Oper} {a : Act} {w : World} {Q : Exit → Act → World → Prop} (t t' : TypeId) (x y : Operand) (ho : o.op = .binOp .neq t x y t') (hw : Region.wanted o (yielded ops a.tmps) = true) (v u r : Value) (hx : a.eval x = v) (hy : a.eval y = u)
    (hg : (eqGuard .neq t x y v u).run P w = .ok () w) (hr : (binOp .neq t v u).run P w = .ok r w) (h : wpList P ops Q rest (a.put o.dst r) w) : wpList P ops Q (o :: rest) a w := by
  unfold wpList
  rw [if_pos hw]
  refine .inl ?_
  unfold Oper.wp execOp
  simp only [ho, hx, hy, Sem.run_bind, hg, hr, Result.andThen_ok, Sem.run_pure]
  exact h
theorem rng_al {w : World} {b o : Nat} {cs : List Value} (h : w.rangeAt b o cs) (hb : b < w.heap.size) (X : Obj) : (w.alloc X).rangeAt b o cs := range_below h ((Below.refl _ w).alloc (Nat.le_refl _) _) hb
/-- Four rows of 32 bytes in new blocks. -/
theorem box_four {w U : World} {a b c d : List Int} (h : (((w.alloc (.cells (bv a).toArray 25)).alloc (.cells (bv b).toArray 25)).alloc (.cells (bv c).toArray 25)).alloc (.cells (bv d).toArray 25) = U) :
    U.rangeAt w.heap.size 0 (bv a) ∧ U.rangeAt (w.heap.size + 1) 0 (bv b) ∧ U.rangeAt (w.heap.size + 2) 0 (bv c) ∧ U.rangeAt (w.heap.size + 3) 0 (bv d) ∧ Below w.heap.size w U ∧ U.heap.size = w.heap.size + 4 := by
  have s1 : (w.alloc (.cells (bv a).toArray 25)).heap.size = w.heap.size + 1 := by simp
  have s2 : ((w.alloc (.cells (bv a).toArray 25)).alloc (.cells (bv b).toArray 25)).heap.size = w.heap.size + 2 := by simp
  have s3 : (((w.alloc (.cells (bv a).toArray 25)).alloc (.cells (bv b).toArray 25)).alloc (.cells (bv c).toArray 25)).heap.size = w.heap.size + 3 := by simp
  have r1 := range_alloc w (bv a) 25 (0, 0)
  have r2 := range_alloc (w.alloc (.cells (bv a).toArray 25)) (bv b) 25 (0, 0)
  have r3 := range_alloc ((w.alloc (.cells (bv a).toArray 25)).alloc (.cells (bv b).toArray 25)) (bv c) 25 (0, 0)
  have r4 := range_alloc (((w.alloc (.cells (bv a).toArray 25)).alloc (.cells (bv b).toArray 25)).alloc (.cells (bv c).toArray 25)) (bv d) 25 (0, 0)
  rw [s1] at r2
  rw [s2] at r3
  rw [s3] at r4
  refine ⟨?_, ?_, ?_, ?_, ?_, ?_⟩
  · rw [← h]; exact rng_al (rng_al (rng_al r1 (by omega) _) (by omega) _) (by omega) _
  · rw [← h]; exact rng_al (rng_al r2 (by omega) _) (by omega) _
  · rw [← h]; exact rng_al r3 (by omega) _
  · rw [← h]; exact r4
  · rw [← h]; exact ((((Below.refl _ w).alloc (Nat.le_refl _) _).alloc (by omega) _).alloc (by omega) _).alloc (by omega) _
  · rw [← h]; simp
def smE (a b c d : List Int) : Int := if a = b ∧ c = d then 0 else 3
set_option maxHeartbeats 4000000 in
theorem same_any (a b c d : List Int) (ha : L32 a) (hb : L32 b) (hc : L32 c) (hd : L32 d) (w : World) :
    Calls Tryd.prog 17 #[.agg (bv a).toArray, .agg (bv b).toArray, .agg (bv c).toArray, .agg (bv d).toArray] w fun e w' => e = .returned (.int .i64 (smE a b c d)) ∧ Below w.heap.size w w' := by
  have sa : (bv a).toArray.size = 32 := by rw [List.size_toArray, bv_length, ha.len]
  have sb : (bv b).toArray.size = 32 := by rw [List.size_toArray, bv_length, hb.len]
  have sc : (bv c).toArray.size = 32 := by rw [List.size_toArray, bv_length, hc.len]
  have sd : (bv d).toArray.size = 32 := by rw [List.size_toArray, bv_length, hd.len]
  obtain ⟨U, hU⟩ : ∃ U, (((w.alloc (.cells (bv a).toArray 25)).alloc (.cells (bv b).toArray 25)).alloc (.cells (bv c).toArray 25)).alloc (.cells (bv d).toArray 25) = U := ⟨_, rfl⟩
  obtain ⟨q1, q2, q3, q4, q5, q6⟩ := box_four hU
  have HA : Hid (L32 a) := ha
  have HB : Hid (L32 b) := hb
  have HC : Hid (L32 c) := hc
  have HDD : Hid (L32 d) := hd
  have BU : Hid (Below w.heap.size w U) := q5
  obtain ⟨D, hD⟩ : ∃ D, w.heap.size = D := ⟨_, rfl⟩
  rw [hD] at q1 q2 q3 q4
  have R1 : Hid (U.rangeAt D 0 (bv a)) := q1
  have R2 : Hid (U.rangeAt (D + 1) 0 (bv b)) := q2
  have R3 : Hid (U.rangeAt (D + 2) 0 (bv c)) := q3
  have R4 : Hid (U.rangeAt (D + 3) 0 (bv d)) := q4
  have NE1 : Hid ((binOp .neq 25 (.agg (bv a).toArray) (.agg (bv b).toArray)).run Tryd.prog U = .ok (.bool (!decide (a = b))) U) := neq_32 ha hb U
  have NE2 : Hid ((binOp .neq 25 (.agg (bv c).toArray) (.agg (bv d).toArray)).run Tryd.prog U = .ok (.bool (!decide (c = d))) U) := neq_32 hc hd U
  obtain ⟨S, hS⟩ : ∃ S, smE a b c d = S := ⟨_, rfl⟩
  have HS : Hid (smE a b c d = S) := hS
  rw [hS]
  obtain ⟨Aa, hAa⟩ : ∃ A, (bv a).toArray = A := ⟨_, rfl⟩
  obtain ⟨Ab, hAb⟩ : ∃ A, (bv b).toArray = A := ⟨_, rfl⟩
  obtain ⟨Ac, hAc⟩ : ∃ A, (bv c).toArray = A := ⟨_, rfl⟩
  obtain ⟨Ad, hAd⟩ : ∃ A, (bv d).toArray = A := ⟨_, rfl⟩
  rw [hAa] at sa hU ⊢
  rw [hAb] at sb hU ⊢
  rw [hAc] at sc hU ⊢
  rw [hAd] at sd hU ⊢
  clear q1 q2 q3 q4 q5 q6 ha hb hc hd hS hAa hAb hAc hAd
  go_enter Tryd.func17, Tryd.ntmps17
  go_upto_region 1 with (fail)
  try rw [hU]
  try rw [hD]
  clear hU hD sa sb sc sd
  by_cases h1 : a = b
  · have NE1' : Hid ((binOp .neq 25 (.agg (bv a).toArray) (.agg (bv b).toArray)).run Tryd.prog U = .ok (.bool false) U) := by have := NE1.out; rw [decide_eq_true h1] at this; exact this
    by_cases h2 : c = d
    · have NE2' : Hid ((binOp .neq 25 (.agg (bv c).toArray) (.agg (bv d).toArray)).run Tryd.prog U = .ok (.bool false) U) := by have := NE2.out; rw [decide_eq_true h2] at this; exact this
      have e : S = 0 := by rw [← HS.out]; unfold smE; rw [if_pos ⟨h1, h2⟩]
      subst e
      clear h1 h2
      go_wp2_with (first
        | (refine ld 25 (.tmp 4) rfl rfl D 0 rfl (bv a) _ R1.out Tryd.underlying25 rfl (size_l32 HA.out) ?_)
        | (refine ld 25 (.tmp 5) rfl rfl (D + 1) 0 rfl (bv b) _ R2.out Tryd.underlying25 rfl (size_l32 HB.out) ?_)
        | (refine ld 25 (.tmp 6) rfl rfl (D + 2) 0 rfl (bv c) _ R3.out Tryd.underlying25 rfl (size_l32 HC.out) ?_)
        | (refine ld 25 (.tmp 7) rfl rfl (D + 3) 0 rfl (bv d) _ R4.out Tryd.underlying25 rfl (size_l32 HDD.out) ?_)
        | (refine wp_neq_run 25 25 (.tmp 9) (.tmp 10) rfl rfl (.agg (bv a).toArray) (.agg (bv b).toArray) (.bool false) rfl rfl (eqg_32 _ _ _ _ _ U) NE1'.out ?_)
        | (refine wp_neq_run 25 25 (.tmp 13) (.tmp 14) rfl rfl (.agg (bv c).toArray) (.agg (bv d).toArray) (.bool false) rfl rfl (eqg_32 _ _ _ _ _ U) NE2'.out ?_))
      go_ret
      exact ⟨rfl, BU.out⟩
    · have NE2' : Hid ((binOp .neq 25 (.agg (bv c).toArray) (.agg (bv d).toArray)).run Tryd.prog U = .ok (.bool true) U) := by have := NE2.out; rw [decide_eq_false h2] at this; exact this
      have e : S = 3 := by rw [← HS.out]; unfold smE; rw [if_neg (fun h => h2 h.2)]
      subst e
      clear h1 h2
      go_wp2_with (first
        | (refine ld 25 (.tmp 4) rfl rfl D 0 rfl (bv a) _ R1.out Tryd.underlying25 rfl (size_l32 HA.out) ?_)
        | (refine ld 25 (.tmp 5) rfl rfl (D + 1) 0 rfl (bv b) _ R2.out Tryd.underlying25 rfl (size_l32 HB.out) ?_)
        | (refine ld 25 (.tmp 6) rfl rfl (D + 2) 0 rfl (bv c) _ R3.out Tryd.underlying25 rfl (size_l32 HC.out) ?_)
        | (refine ld 25 (.tmp 7) rfl rfl (D + 3) 0 rfl (bv d) _ R4.out Tryd.underlying25 rfl (size_l32 HDD.out) ?_)
        | (refine wp_neq_run 25 25 (.tmp 9) (.tmp 10) rfl rfl (.agg (bv a).toArray) (.agg (bv b).toArray) (.bool false) rfl rfl (eqg_32 _ _ _ _ _ U) NE1'.out ?_)
        | (refine wp_neq_run 25 25 (.tmp 13) (.tmp 14) rfl rfl (.agg (bv c).toArray) (.agg (bv d).toArray) (.bool true) rfl rfl (eqg_32 _ _ _ _ _ U) NE2'.out ?_))
      go_ret
      exact ⟨rfl, BU.out⟩
  · have NE1' : Hid ((binOp .neq 25 (.agg (bv a).toArray) (.agg (bv b).toArray)).run Tryd.prog U = .ok (.bool true) U) := by have := NE1.out; rw [decide_eq_false h1] at this; exact this
    have e : S = 3 := by rw [← HS.out]; unfold smE; rw [if_neg (fun h => h1 h.1)]
    subst e
    clear h1
    go_wp2_with (first
      | (refine ld 25 (.tmp 4) rfl rfl D 0 rfl (bv a) _ R1.out Tryd.underlying25 rfl (size_l32 HA.out) ?_)
      | (refine ld 25 (.tmp 5) rfl rfl (D + 1) 0 rfl (bv b) _ R2.out Tryd.underlying25 rfl (size_l32 HB.out) ?_)
      | (refine ld 25 (.tmp 6) rfl rfl (D + 2) 0 rfl (bv c) _ R3.out Tryd.underlying25 rfl (size_l32 HC.out) ?_)
      | (refine ld 25 (.tmp 7) rfl rfl (D + 3) 0 rfl (bv d) _ R4.out Tryd.underlying25 rfl (size_l32 HDD.out) ?_)
      | (refine wp_neq_run 25 25 (.tmp 9) (.tmp 10) rfl rfl (.agg (bv a).toArray) (.agg (bv b).toArray) (.bool true) rfl rfl (eqg_32 _ _ _ _ _ U) NE1'.out ?_))
    go_ret
    exact ⟨rfl, BU.out⟩
/-- What Check gives. -/
def CKo (bf af : List Int) (l : List Nd) (ms : List Lf) (er : Int) : Prop :=
  (apt l = false ∧ er = 1) ∨ (apt l = true ∧ (¬ ∃ s : List Nd, s.Perm (l ++ ms.map ln) ∧ apt s = true) ∧ er = 1) ∨ (apt l = true ∧ ∃ s : List Nd, s.Perm (l ++ ms.map ln) ∧ apt s = true ∧ er = smE bf (rt l) af (rt s))
theorem perm_sorted {s t : List Nd} (hp : s.Perm t) (hs : s.Pairwise (fun a b => pf a.p 256 ≤ pf b.p 256)) (ht : t.Pairwise (fun a b => pf a.p 256 < pf b.p 256)) : s = t := by
  have h1 : t.Pairwise (fun a b => pf a.p 256 ≠ pf b.p 256) := ht.imp (fun h => by omega)
  have h2 : s.Pairwise (fun a b => pf a.p 256 ≠ pf b.p 256) := (hp.pairwise_iff (fun h => by omega)).2 h1
  exact rise_uniq hp ((hs.and h2).imp (fun h => by omega)) ht
theorem cko_uniq {bf af : List Int} {l : List Nd} {ms : List Lf} (hk : ∀ x ∈ l, x.Ok) (hm : ∀ x ∈ ms, x.Ok) {e e' : Int} (h : CKo bf af l ms e) (h' : CKo bf af l ms e') : e = e' := by
  have ok : ∀ s : List Nd, s.Perm (l ++ ms.map ln) → ∀ x ∈ s, x.Ok := fun s hp x hx => by
    rcases List.mem_append.1 (hp.mem_iff.1 hx) with q | q
    · exact hk x q
    · obtain ⟨y, hy, rfl⟩ := List.mem_map.1 q
      exact ln_ok (hm y hy)
  rcases h with ⟨h1, h2⟩ | ⟨h1, h2, h3⟩ | ⟨h1, s, h2, h3, h4⟩ <;> rcases h' with ⟨k1, k2⟩ | ⟨k1, k2, k3⟩ | ⟨k1, t, k2, k3, k4⟩
  · rw [h2, k2]
  · rw [h1] at k1; cases k1
  · rw [h1] at k1; cases k1
  · rw [h1] at k1; cases k1
  · rw [h3, k3]
  · exact absurd ⟨t, k2, k3⟩ h2
  · rw [h1] at k1; cases k1
  · exact absurd ⟨s, h2, h3⟩ k2
  · have : s = t := rise_uniq (h2.trans k2.symm) (apt_ris (ok s h2) h3).up (apt_ris (ok t k2) k3).up
    rw [h4, k4, this]
end Go.Proofs.YtpojalbpekbfdabDoor
/- Package grow: Check. -/
namespace Go.Proofs.YtpojalbpekbfdabDoor
open Go Go.RowKit
set_option linter.unusedSimpArgs false
set_option linter.unusedVariables false
set_option maxRecDepth 100000

theorem box_two {w U : World} {a b : List Int} (h : (w.alloc (.cells (bv a).toArray 25)).alloc (.cells (bv b).toArray 25) = U) :
    U.rangeAt w.heap.size 0 (bv a) ∧ U.rangeAt (w.heap.size + 1) 0 (bv b) ∧ Below w.heap.size w U ∧ U.heap.size = w.heap.size + 2 := by
  have s1 : (w.alloc (.cells (bv a).toArray 25)).heap.size = w.heap.size + 1 := by simp
  have r1 := range_alloc w (bv a) 25 (0, 0)
  have r2 := range_alloc (w.alloc (.cells (bv a).toArray 25)) (bv b) 25 (0, 0)
  rw [s1] at r2
  refine ⟨?_, ?_, ?_, ?_⟩
  · rw [← h]; exact rng_al r1 (by omega) _
  · rw [← h]; exact r2
  · rw [← h]; exact ((Below.refl _ w).alloc (Nat.le_refl _) _).alloc (by omega) _
  · rw [← h]; simp
set_option maxHeartbeats 8000000 in
theorem Check_any (bf af : List Int) (hbf : L32 bf) (haf : L32 af) (l : List Nd) (hk : ∀ x ∈ l, x.Ok) (ms : List Lf) (hm : ∀ x ∈ ms, x.Ok) (hlen : l.length + ms.length ≤ 2400000000000) (v u : Value) (w : World) (hv : NS w v l) (hu : LS w u ms) (hT : Tb w) :
    Calls Tryd.prog 8 #[.agg (bv bf).toArray, .agg (bv af).toArray, v, u] w fun e w' => ∃ er, e = .returned (.int .i64 er) ∧ CKo bf af l ms er ∧ Below w.heap.size w w' := by
  have hz := zero_32
  rw [show List.replicate 32 (0 : Int) = z32 from rfl] at hz
  obtain ⟨Z, hZ⟩ : ∃ Z, (bv z32).toArray = Z := ⟨_, rfl⟩
  have HZS : Hid (Z.size = 32) := by show Z.size = 32; rw [← hZ]; simp [bv, z32]
  rw [hZ] at hz
  have sa : (bv bf).toArray.size = 32 := by rw [List.size_toArray, bv_length, hbf.len]
  have sb : (bv af).toArray.size = 32 := by rw [List.size_toArray, bv_length, haf.len]
  obtain ⟨U, hU⟩ : ∃ U, (w.alloc (.cells (bv bf).toArray 25)).alloc (.cells (bv af).toArray 25) = U := ⟨_, rfl⟩
  obtain ⟨q1, q2, q5, q6⟩ := box_two hU
  have HBF : Hid (L32 bf) := hbf
  have HAF : Hid (L32 af) := haf
  have BU : Hid (Below w.heap.size w U) := q5
  obtain ⟨D, hD⟩ : ∃ D, w.heap.size = D := ⟨_, rfl⟩
  rw [hD] at q1 q2 q6
  have R1 : Hid (U.rangeAt D 0 (bv bf)) := q1
  have R2 : Hid (U.rangeAt (D + 1) 0 (bv af)) := q2
  have SU : Hid (U.heap.size = D + 2) := q6
  have VU : Hid (NS U v l) := hv.below q5
  have TU : Hid (Tb U) := hT.below q5
  have HK : Hid (∀ x ∈ l, x.Ok) := hk
  have HM : Hid (∀ x ∈ ms, x.Ok) := hm
  have HLN : Hid (l.length + ms.length ≤ 2400000000000) := hlen
  have HR1 := Root_any l hk (by omega) v U VU.out TU.out
  have HLF : Hid (∀ W : World, Below U.heap.size U W → Calls Tryd.prog 11 #[u] W fun e w' => ∃ v', e = .returned v' ∧ NO W.heap.size w' v' (ms.map ln) ∧ Below W.heap.size W w') := fun W q => leafN_any ms hm (by omega) u W ((hu.below BU.out).below q) (TU.out.below q)
  obtain ⟨Aa, hAa⟩ : ∃ A, (bv bf).toArray = A := ⟨_, rfl⟩
  obtain ⟨Ab, hAb⟩ : ∃ A, (bv af).toArray = A := ⟨_, rfl⟩
  rw [hAa] at sa hU ⊢
  rw [hAb] at sb hU ⊢
  obtain ⟨ad, cap, hv0, -, -⟩ := id VU.out
  obtain ⟨n, hn⟩ : ∃ n, l.length = n := ⟨_, rfl⟩
  rw [hn] at hv0
  subst hv0
  clear q1 q2 q5 q6 hbf haf hAa hAb hk hm hlen hv hu hT hZ hn
  cases ha : apt l with
  | false =>
    rw [ha, if_neg (by decide), if_neg (by decide)] at HR1
    have HRR : Hid (Calls Tryd.prog 16 #[.slice ad n cap] U fun e w' => e = .returned (.tuple #[.agg (bv z32).toArray, .int .i64 1]) ∧ Below U.heap.size U w') := HR1
    have HAL : Hid (apt l = false) := ha
    have z32L : Hid (L32 z32) := z32_l32
    obtain ⟨z, hz3⟩ : ∃ z, z32 = z := ⟨_, rfl⟩
    rw [hz3] at HRR z32L
    clear HR1 ha hz3
    go_enter Tryd.func8, Tryd.ntmps8
    go_upto_region 1 with (fail)
    try rw [hU]
    try rw [hD]
    clear hU hD sa sb
    go_upto_region 2 with (first
      | (go_at_call 16; refine HRR.out.mono ?_; rintro e w1 ⟨rfl, g1⟩; have G1 : Hid (Below U.heap.size U w1) := g1; clear g1)
      | (refine wpList_store_mid rfl 25 (.tmp 9) (.tmp 15) rfl w1.heap.size 0 (bv z).toArray rfl rfl (there_new w1 (by rw [List.size_toArray, bv_length, z32L.out.len, HZS.out])) (by rw [List.size_toArray]; exact size_l32 z32L.out) (bv_one' _) ?_; simp only [List.toList_toArray]))
    obtain ⟨a1, ha1⟩ : ∃ a9, (w1.alloc (.cells Z 25)).setCells w1.heap.size 0 (bv z) = a9 := ⟨_, rfl⟩
    rw [ha1]
    obtain ⟨r1, r2, r3⟩ := laid_row (by rw [bv_length, z32L.out.len, HZS.out]) (by rw [bv_length, z32L.out.len]; omega) ha1
    obtain ⟨b9, hBb9⟩ : ∃ q, w1.heap.size = q := ⟨_, rfl⟩
    rw [hBb9] at r1 r3 ⊢
    have Rb9 : Hid (a1.rangeAt b9 0 (bv z)) := r1
    have Ga1 : Hid (Below w1.heap.size w1 a1) := r2
    have Lb9 : Hid (b9 < a1.heap.size) := r3
    clear r1 r2 r3 ha1 hBb9
    clear hz
    go_wp2_with fail
    go_ret
    exact ⟨1, rfl, .inl ⟨HAL.out, rfl⟩, Below.tr' BU.out (Below.tr' G1.out Ga1.out)⟩
  | true =>
    rw [ha, if_pos rfl, if_pos rfl] at HR1
    obtain ⟨R, hR⟩ : ∃ R, rt l = R := ⟨_, rfl⟩
    have HRL : Hid (L32 R) := by rw [← hR]; exact rt_l32 _
    have HRE : Hid (rt l = R) := hR
    rw [hR] at HR1
    have HRR : Hid (Calls Tryd.prog 16 #[.slice ad n cap] U fun e w' => e = .returned (.tuple #[.agg (bv R).toArray, .int .i64 0]) ∧ Below U.heap.size U w') := HR1
    have HAL : Hid (apt l = true) := ha
    clear HR1 ha hR
    go_enter Tryd.func8, Tryd.ntmps8
    go_upto_region 1 with (fail)
    try rw [hU]
    try rw [hD]
    clear hU hD sa sb
    go_upto_region 2 with (first
      | (go_at_call 16; refine HRR.out.mono ?_; rintro e w1 ⟨rfl, g1⟩; have G1 : Hid (Below U.heap.size U w1) := g1; clear g1)
      | (refine wpList_store_mid rfl 25 (.tmp 9) (.tmp 15) rfl w1.heap.size 0 (bv R).toArray rfl rfl (there_new w1 (by rw [List.size_toArray, bv_length, HRL.out.len, HZS.out])) (by rw [List.size_toArray]; exact size_l32 HRL.out) (bv_one' _) ?_; simp only [List.toList_toArray]))
    obtain ⟨a1, ha1⟩ : ∃ a9, (w1.alloc (.cells Z 25)).setCells w1.heap.size 0 (bv R) = a9 := ⟨_, rfl⟩
    rw [ha1]
    obtain ⟨r1, r2, r3⟩ := laid_row (by rw [bv_length, HRL.out.len, HZS.out]) (by rw [bv_length, HRL.out.len]; omega) ha1
    obtain ⟨b9, hBb9⟩ : ∃ q, w1.heap.size = q := ⟨_, rfl⟩
    rw [hBb9] at r1 r3 ⊢
    have Rb9 : Hid (a1.rangeAt b9 0 (bv R)) := r1
    have Ga1 : Hid (Below w1.heap.size w1 a1) := r2
    have Lb9 : Hid (b9 < a1.heap.size) := r3
    clear r1 r2 r3 ha1 hBb9
    have BA : Hid (Below U.heap.size U a1) := Below.tr' G1.out Ga1.out
    go_wp2_with fail
    refine (HLF.out a1 BA.out).mono ?_
    rintro e w2 ⟨v2, rfl, g1, g2⟩
    obtain ⟨a2, c2, e2, -, -⟩ := id g1.ns
    obtain ⟨n2, hn2⟩ : ∃ m, (ms.map ln).length = m := ⟨_, rfl⟩
    rw [hn2] at e2
    subst e2
    have N2 : Hid (NS w2 (.slice a2 n2 c2) (ms.map ln)) := g1.ns
    have G2 : Hid (Below a1.heap.size a1 w2) := g2
    have B2 : Hid (Below U.heap.size U w2) := Below.tr' BA.out g2
    have N1 : Hid (NS w2 (.slice ad n cap) l) := VU.out.below B2.out
    clear g1 g2 hn2
    go_wp2_with fail
    refine (inOrder_any [.slice ad n cap, .slice a2 n2 c2] [l, ms.map ln] (fun q hq x hx => by
      simp at hq
      rcases hq with rfl | rfl
      · exact HK.out x hx
      · obtain ⟨y, hy, rfl⟩ := List.mem_map.1 hx; exact ln_ok (HM.out y hy)) (by have := HLN.out; simp; omega) (by simp) _ _ (lln_two N1.out N2.out).1).mono ?_
    rintro e w3 ⟨v3, s, rfl, g1, g2, g3, -, g5⟩
    rw [show [l, ms.map ln].flatten = l ++ ms.map ln by simp] at g1
    have P3 : Hid (s.Perm (l ++ ms.map ln)) := g1
    have Q3 : Hid (s.Pairwise (fun a b => pf a.p 256 ≤ pf b.p 256)) := g2
    have G23 : Hid (Below w2.heap.size w2 w3) := Below.tr' (lln_two N1.out N2.out).2 g5
    have B3 : Hid (Below U.heap.size U w3) := Below.tr' B2.out G23.out
    have hok : ∀ x ∈ s, x.Ok := fun x hx => by
      rcases List.mem_append.1 (g1.mem_iff.1 hx) with q | q
      · exact HK.out x q
      · obtain ⟨y, hy, rfl⟩ := List.mem_map.1 q; exact ln_ok (HM.out y hy)
    have HOK : Hid (∀ x ∈ s, x.Ok) := hok
    have HR2 := Root_any s hok (by have h1 := g1.length_eq; rw [List.length_append, List.length_map] at h1; have := HLN.out; omega) v3 w3 g3 (TU.out.below B3.out)
    clear g1 g2 g3 g5 hok
    cases hs : apt s with
    | false =>
      rw [hs, if_neg (by decide), if_neg (by decide)] at HR2
      have HRS : Hid (Calls Tryd.prog 16 #[v3] w3 fun e w' => e = .returned (.tuple #[.agg (bv z32).toArray, .int .i64 1]) ∧ Below w3.heap.size w3 w') := HR2
      have HNO : Hid (¬ ∃ s : List Nd, s.Perm (l ++ ms.map ln) ∧ apt s = true) := fun ⟨t, t1, t2⟩ => by
        have ht : ∀ x ∈ t, x.Ok := fun x hx => HOK.out x (P3.out.mem_iff.2 (t1.mem_iff.1 hx))
        have := perm_sorted (P3.out.trans t1.symm) Q3.out (apt_ris ht t2).up
        rw [this, t2] at hs; cases hs
      have z32L : Hid (L32 z32) := z32_l32
      obtain ⟨z, hz3⟩ : ∃ z, z32 = z := ⟨_, rfl⟩
      rw [hz3] at HRS z32L
      clear HR2 hs hz3
      go_upto_region 5 with (first
        | (go_at_call 16; refine HRS.out.mono ?_; rintro e w4 ⟨rfl, g1⟩; have G4 : Hid (Below w3.heap.size w3 w4) := g1; clear g1)
        | (refine wpList_store_mid rfl 25 (.tmp 11) (.tmp 27) rfl w4.heap.size 0 (bv z).toArray rfl rfl (there_new w4 (by rw [List.size_toArray, bv_length, z32L.out.len, HZS.out])) (by rw [List.size_toArray]; exact size_l32 z32L.out) (bv_one' _) ?_; simp only [List.toList_toArray]))
      obtain ⟨a4, ha4⟩ : ∃ a9, (w4.alloc (.cells Z 25)).setCells w4.heap.size 0 (bv z) = a9 := ⟨_, rfl⟩
      rw [ha4]
      obtain ⟨r1, r2, r3⟩ := laid_row (by rw [bv_length, z32L.out.len, HZS.out]) (by rw [bv_length, z32L.out.len]; omega) ha4
      obtain ⟨b11, hBb11⟩ : ∃ q, w4.heap.size = q := ⟨_, rfl⟩
      rw [hBb11] at r1 r3 ⊢
      have Rb11 : Hid (a4.rangeAt b11 0 (bv z)) := r1
      have Ga4 : Hid (Below w4.heap.size w4 a4) := r2
      have Lb11 : Hid (b11 < a4.heap.size) := r3
      clear r1 r2 r3 ha4 hBb11
      clear hz
      go_wp2_with fail
      go_ret
      exact ⟨1, rfl, .inr (.inl ⟨HAL.out, HNO.out, rfl⟩), Below.tr' BU.out (Below.tr' B3.out (Below.tr' G4.out Ga4.out))⟩
    | true =>
      rw [hs, if_pos rfl, if_pos rfl] at HR2
      obtain ⟨R', hR'⟩ : ∃ R, rt s = R := ⟨_, rfl⟩
      have HRL' : Hid (L32 R') := by rw [← hR']; exact rt_l32 _
      have HRE' : Hid (rt s = R') := hR'
      rw [hR'] at HR2
      have HRS : Hid (Calls Tryd.prog 16 #[v3] w3 fun e w' => e = .returned (.tuple #[.agg (bv R').toArray, .int .i64 0]) ∧ Below w3.heap.size w3 w') := HR2
      have HAS : Hid (apt s = true) := hs
      clear HR2 hs hR'
      go_upto_region 5 with (first
        | (go_at_call 16; refine HRS.out.mono ?_; rintro e w4 ⟨rfl, g1⟩; have G4 : Hid (Below w3.heap.size w3 w4) := g1; clear g1)
        | (refine wpList_store_mid rfl 25 (.tmp 11) (.tmp 27) rfl w4.heap.size 0 (bv R').toArray rfl rfl (there_new w4 (by rw [List.size_toArray, bv_length, HRL'.out.len, HZS.out])) (by rw [List.size_toArray]; exact size_l32 HRL'.out) (bv_one' _) ?_; simp only [List.toList_toArray]))
      obtain ⟨a4, ha4⟩ : ∃ a9, (w4.alloc (.cells Z 25)).setCells w4.heap.size 0 (bv R') = a9 := ⟨_, rfl⟩
      rw [ha4]
      obtain ⟨r1, r2, r3⟩ := laid_row (by rw [bv_length, HRL'.out.len, HZS.out]) (by rw [bv_length, HRL'.out.len]; omega) ha4
      obtain ⟨b11, hBb11⟩ : ∃ q, w4.heap.size = q := ⟨_, rfl⟩
      rw [hBb11] at r1 r3 ⊢
      have Rb11 : Hid (a4.rangeAt b11 0 (bv R')) := r1
      have Ga4 : Hid (Below w4.heap.size w4 a4) := r2
      have Lb11 : Hid (b11 < a4.heap.size) := r3
      clear r1 r2 r3 ha4 hBb11
      clear hz
      have G14 : Hid (Below a1.heap.size a1 a4) := Below.tr' G2.out (Below.tr' G23.out (Below.tr' G4.out Ga4.out))
      have BU4 : Hid (Below U.heap.size U a4) := Below.tr' BA.out G14.out
      have X1 : Hid (a4.rangeAt D 0 (bv bf)) := range_below R1.out BU4.out (by have := SU.out; omega)
      have X2 : Hid (a4.rangeAt (D + 1) 0 (bv af)) := range_below R2.out BU4.out (by have := SU.out; omega)
      have X3 : Hid (a4.rangeAt b9 0 (bv R)) := range_below Rb9.out G14.out Lb9.out
      have HSA : Hid (Calls Tryd.prog 17 #[.agg (bv bf).toArray, .agg (bv R).toArray, .agg (bv af).toArray, .agg (bv R').toArray] a4 fun e w' => e = .returned (.int .i64 (smE bf R af R')) ∧ Below a4.heap.size a4 w') := same_any bf R af R' HBF.out HRL.out HAF.out HRL'.out a4
      go_wp2_with (first
        | (refine ld 25 (.tmp 4) rfl rfl D 0 rfl (bv bf) _ X1.out Tryd.underlying25 rfl (size_l32 HBF.out) ?_)
        | (refine ld 25 (.tmp 9) rfl rfl b9 0 rfl (bv R) _ X3.out Tryd.underlying25 rfl (size_l32 HRL.out) ?_)
        | (refine ld 25 (.tmp 5) rfl rfl (D + 1) 0 rfl (bv af) _ X2.out Tryd.underlying25 rfl (size_l32 HAF.out) ?_)
        | (refine ld 25 (.tmp 11) rfl rfl b11 0 rfl (bv R') _ Rb11.out Tryd.underlying25 rfl (size_l32 HRL'.out) ?_)
        | (go_at_call 17; refine HSA.out.mono ?_; rintro e w5 ⟨rfl, g1⟩; have G5 : Hid (Below a4.heap.size a4 w5) := g1; clear g1))
      go_ret
      exact ⟨_, rfl, .inr (.inr ⟨HAL.out, s, P3.out, HAS.out, by rw [HRE.out, HRE'.out]⟩), Below.tr' BU.out (Below.tr' BU4.out G5.out)⟩
end Go.Proofs.YtpojalbpekbfdabDoor
