/- Nodes put among nodes (mathematics). -/
import Derived.Test.YtpojalbpekbfdaaDoorGrnG
import Derived.Test.YtpojalbpekbfdaaDoorTrrK
namespace Go.Proofs.YtpojalbpekbfdaaDoor
open Go Go.RowKit
set_option linter.unusedSimpArgs false
set_option linter.unusedVariables false

/-- The place behind the last that is not above. -/
def insA (s : List Nd) (y : Nd) : Nat := s.length - (s.reverse.takeWhile (fun x => ltb y.p x.p)).length
def ins (s : List Nd) (y : Nd) : List Nd := s.take (insA s y) ++ [y] ++ s.drop (insA s y)
def am (l : List Nd) (ms : List Lf) : List Nd := (ms.map ln).foldl ins l
theorem ins_perm (s : List Nd) (y : Nd) : (ins s y).Perm (s ++ [y]) := put_perm (List.Perm.refl _) y _
theorem am_go : ∀ (ys s : List Nd), (ys.foldl ins s).Perm (s ++ ys)
  | [], s => by simp
  | y :: r, s => by
    have h1 := am_go r (ins s y)
    have h2 : (ins s y ++ r).Perm (s ++ [y] ++ r) := (ins_perm s y).append_right r
    rw [List.foldl_cons]
    exact (h1.trans h2).trans (by rw [List.append_assoc]; exact List.Perm.refl _)
theorem am_perm (l : List Nd) (ms : List Lf) : (am l ms).Perm (l ++ ms.map ln) := am_go _ _
theorem tw_len (p : Nd → Bool) (l : List Nd) : (l.takeWhile p).length ≤ l.length := (List.takeWhile_sublist _).length_le
theorem tw_mem (p : Nd → Bool) : ∀ (l : List Nd) (x : Nd), x ∈ l.takeWhile p → p x = true
  | [], x, h => by cases h
  | a :: r, x, h => by
    rw [List.takeWhile_cons] at h
    split at h
    · next ha =>
      rcases List.mem_cons.1 h with q | q
      · rw [q]; exact ha
      · exact tw_mem p r x q
    · cases h
/-- Behind the place all are above; right ahead of it stands one that is not. -/
theorem insA_hi {s : List Nd} {y : Nd} {x : Nd} (hx : x ∈ s.drop (insA s y)) : ltb y.p x.p = true := by
  have h1 := tw_len (fun x => ltb y.p x.p) s.reverse
  rw [List.length_reverse] at h1
  have e : (s.drop (insA s y)).reverse = s.reverse.takeWhile (fun x => ltb y.p x.p) := by
    rw [List.reverse_drop]
    have h2 : s.length - insA s y = (s.reverse.takeWhile (fun x => ltb y.p x.p)).length := by unfold insA; omega
    rw [h2]
    exact (List.prefix_iff_eq_take.1 (List.takeWhile_prefix _)).symm
  have : x ∈ s.reverse.takeWhile (fun x => ltb y.p x.p) := by rw [← e]; simpa using hx
  exact tw_mem _ _ _ this
theorem insA_lo {s : List Nd} {y z : Nd} (h0 : 0 < insA s y) (hz : s[insA s y - 1]? = some z) : ltb y.p z.p = false := by
  have h1 := tw_len (fun x => ltb y.p x.p) s.reverse
  rw [List.length_reverse] at h1
  obtain ⟨k, hk⟩ : ∃ k, (s.reverse.takeWhile (fun x => ltb y.p x.p)).length = k := ⟨_, rfl⟩
  have hi : insA s y = s.length - k := by unfold insA; rw [hk]
  have hlt : k < s.reverse.length := by rw [List.length_reverse]; omega
  have e : s.reverse[k]? = some z := by rw [List.getElem?_reverse (by rw [List.length_reverse] at hlt; exact hlt), show s.length - 1 - k = insA s y - 1 by omega]; exact hz
  have h2 : s.reverse.drop k = s.reverse.dropWhile (fun x => ltb y.p x.p) := by
    have := List.takeWhile_append_dropWhile (p := fun x => ltb y.p x.p) (l := s.reverse)
    conv => lhs; rw [← this]
    rw [← hk, List.drop_left]
  have h3 : (s.reverse.dropWhile (fun x => ltb y.p x.p)).head? = some z := by rw [← h2, List.head?_drop]; exact e
  have := List.head?_dropWhile_not (fun x => ltb y.p x.p) s.reverse
  rw [h3] at this
  simpa using this
/-- In order, they stay in order. -/
theorem ins_sorted {s : List Nd} {y : Nd} (hk : ∀ x ∈ s, x.Ok) (hy : y.Ok) (hs : s.Pairwise (fun a b => pf a.p 256 ≤ pf b.p 256)) : (ins s y).Pairwise (fun a b => pf a.p 256 ≤ pf b.p 256) := by
  have hle : insA s y ≤ s.length := by unfold insA; omega
  have hi : ∀ x ∈ s.drop (insA s y), pf y.p 256 < pf x.p 256 := fun x hx => (ltb_iff hy.p (hk x (List.mem_of_mem_drop hx)).p).1 (insA_hi hx)
  have lo : ∀ x ∈ s.take (insA s y), pf x.p 256 ≤ pf y.p 256 := fun x hx => by
    obtain ⟨i, hi', rfl⟩ := List.getElem_of_mem hx
    rw [List.length_take] at hi'
    have h0 : 0 < insA s y := by omega
    have hz : s[insA s y - 1]? = some (s[insA s y - 1]'(by omega)) := List.getElem?_eq_getElem (by omega)
    have hzl := insA_lo h0 hz
    have hzk := hk _ (List.getElem_mem (l := s) (n := insA s y - 1) (by omega))
    have h1 : ¬ pf y.p 256 < pf (s[insA s y - 1]'(by omega)).p 256 := fun q => by rw [(ltb_iff hy.p hzk.p).2 q] at hzl; cases hzl
    rw [List.getElem_take]
    rcases Nat.lt_or_eq_of_le (show i ≤ insA s y - 1 by omega) with q | q
    · have := List.pairwise_iff_getElem.1 hs i (insA s y - 1) (by omega) (by omega) q
      omega
    · subst q; omega
  unfold ins
  refine List.pairwise_append.2 ⟨List.pairwise_append.2 ⟨hs.sublist (List.take_sublist _ _), List.pairwise_singleton _ _, fun a ha b hb => by simp at hb; subst hb; exact lo a ha⟩, hs.sublist (List.drop_sublist _ _), fun a ha b hb => ?_⟩
  have h2 := hi b hb
  rcases List.mem_append.1 ha with q | q
  · have := lo a q; omega
  · simp at q; subst q; omega
theorem am_go_sorted : ∀ (ys s : List Nd), (∀ x ∈ ys, x.Ok) → (∀ x ∈ s, x.Ok) → s.Pairwise (fun a b => pf a.p 256 ≤ pf b.p 256) → (ys.foldl ins s).Pairwise (fun a b => pf a.p 256 ≤ pf b.p 256)
  | [], s, _, _, h => h
  | y :: r, s, hy, hk, h => am_go_sorted r (ins s y) (fun x hx => hy x (List.mem_cons_of_mem _ hx)) (fun x hx => by
      rcases List.mem_append.1 ((ins_perm s y).mem_iff.1 hx) with q | q
      · exact hk x q
      · simp at q; subst q; exact hy x (by simp)) (ins_sorted hk (hy y (by simp)) h)
/-- What is put among nodes that are apart is what Check asks of. -/
theorem am_cko {bf af : List Int} {l : List Nd} {ms : List Lf} (hk : ∀ x ∈ l, x.Ok) (hm : ∀ x ∈ ms, x.Ok) (ha : apt l = true) : CKo bf af l ms (if apt (am l ms) = true then smE bf (rt l) af (rt (am l ms)) else 1) := by
  have hln : ∀ x ∈ ms.map ln, x.Ok := fun x hx => by obtain ⟨y, hy, rfl⟩ := List.mem_map.1 hx; exact ln_ok (hm y hy)
  by_cases h : apt (am l ms) = true
  · rw [if_pos h]
    exact .inr (.inr ⟨ha, am l ms, am_perm l ms, h, rfl⟩)
  · rw [if_neg h]
    refine .inr (.inl ⟨ha, fun ⟨t, t1, t2⟩ => h ?_, rfl⟩)
    have ht : ∀ x ∈ t, x.Ok := fun x hx => by
      rcases List.mem_append.1 (t1.mem_iff.1 hx) with q | q
      · exact hk x q
      · exact hln x q
    have hs := am_go_sorted (ms.map ln) l hln hk ((apt_ris hk ha).up.imp (fun q => by omega))
    have := perm_sorted ((am_perm l ms).trans t1.symm) hs (apt_ris ht t2).up
    rw [this]; exact t2
end Go.Proofs.YtpojalbpekbfdaaDoor
/- The reference: Root, Over. -/
namespace Go.Proofs.YtpojalbpekbfdaaDoor
open Go Go.RowKit
set_option linter.unusedSimpArgs false
set_option linter.unusedVariables false
set_option maxRecDepth 100000

set_option maxHeartbeats 4000000 in
theorem rRoot_any (l : List Nd) (hk : ∀ x ∈ l, x.Ok) (hlen : l.length ≤ 140737488355328) (v : Value) (w : World) (hv : NS w v l) :
    Calls Tryd.prog 16 #[v] w fun e w' => e = .returned (.tuple #[.agg (bv (if apt l = true then rt l else z32)).toArray, .int .i64 (if apt l = true then 0 else 1)]) ∧ Below w.heap.size w w' := by
  have hz := zero_32
  rw [show List.replicate 32 (0 : Int) = z32 from rfl] at hz
  have rz : (w.alloc (.cells (bv z32).toArray 31)).heap[w.heap.size]? = some (.cells (bv z32).toArray 31 (0, 0)) := by show (w.heap.push _)[w.heap.size]? = _; simp
  have rl : Below w.heap.size w (w.alloc (.cells (bv z32).toArray 31)) := (Below.refl _ w).alloc (Nat.le_refl _) _
  have rs : (w.alloc (.cells (bv z32).toArray 31)).heap.size = w.heap.size + 1 := by simp
  have HBZ : Hid (∀ W : World, (Instr.build 31 #[]).run Tryd.prog W = .ok (.agg (bv z32).toArray) W) := build_32
  obtain ⟨Z, hZ⟩ : ∃ Z, (bv z32).toArray = Z := ⟨_, rfl⟩
  have HZ : Hid ((bv z32).toArray = Z) := hZ
  have hZs : Z.size = 32 := by rw [← hZ]; simp [bv, z32]
  rw [hZ] at hz rz rl rs
  clear hZ
  obtain ⟨U, hU⟩ : ∃ U, w.alloc (.cells Z 31) = U := ⟨_, rfl⟩
  rw [hU] at rz rl rs
  have BU : Hid (Below w.heap.size w U) := rl
  have VU : Hid (NS U v l) := hv.below rl
  obtain ⟨D, hD⟩ : ∃ D, w.heap.size = D := ⟨_, rfl⟩
  have HD : Hid (w.heap.size = D) := hD
  rw [hD] at rz rs
  have RZ : Hid (U.heap[D]? = some (.cells Z 31 (0, 0))) := rz
  have SU : Hid (U.heap.size = D + 1) := rs
  clear rz rl rs
  obtain ⟨ad, cap, rfl, hcp, hx⟩ := hv
  have HA : Hid (Calls Tryd.prog 20 #[.slice ad l.length cap] U fun e w' => e = .returned (.bool (apt l)) ∧ Below U.heap.size U w') := rApart_any l hk _ U VU.out hlen
  cases ha : apt l with
  | false =>
    rw [ha] at HA
    rw [if_neg (by decide), if_neg (by decide)]
    clear hx hk hcp ha
    go_enter Tryd.func16, Tryd.ntmps16
    go_upto_region 1 with (fail)
    try rw [hU]
    try rw [hD]
    clear hU hD hz
    go_upto_region 2 with (go_at_call 20; refine HA.out.mono ?_; rintro e w1 ⟨rfl, g1⟩; have B1 : Hid (Below U.heap.size U w1) := g1; clear g1)
    refine wp_region_list ?_
    refine wp_build0 31 rfl rfl _ (HBZ.out w1) ?_
    refine wpList_store_mid rfl 31 (.tmp 2) (.tmp 7) rfl D 0 (bv z32).toArray rfl rfl (by rw [List.size_toArray, bv_length, z32_l32.len]; exact there_of_row' ((B1.out.block _ (by have := SU.out; omega)).trans RZ.out) 0 32 (by omega)) (by rw [List.size_toArray]; exact size_l32 z32_l32) (bv_one' _) ?_
    simp only [List.toList_toArray]
    go_wp2_with fail
    have qq : (w1.setCells D 0 (bv z32)).rangeAt D 0 (bv z32) := World.rangeAt_setCells_same _ _ _ _ (by rw [bv_length, z32_l32.len]; exact there_of_row' ((B1.out.block _ (by have := SU.out; omega)).trans RZ.out) 0 32 (by omega))
    have hbl : Below w.heap.size w (w1.setCells D 0 (bv z32)) := below_setCells (by rw [HD.out]; exact Nat.le_refl _) _ _ (BU.out.trans (B1.out.mono BU.out.size))
    refine bodyPost_ret (v := .tuple #[.agg (bv z32).toArray, .int .i64 1]) ?_ rfl ⟨rfl, hbl⟩
    simp only [results, Tryd.results16]
    simp [Act.put, asAddr, run_loadVar_mid _ D 0 31 (bv z32) _ qq Tryd.underlying31 rfl (size_l32 z32_l32)]
  | true =>
    rw [ha] at HA
    rw [if_pos rfl, if_pos rfl]
    have HTH : Hid (∀ w1 : World, Below U.heap.size U w1 → w1.there D 0 32) := fun w1 B1 => there_of_row' ((B1.block _ (by have := SU.out; omega)).trans RZ.out) 0 32 (by omega)
    by_cases h0 : l = []
    · obtain ⟨H, hH⟩ : ∃ H, hs [0] = H := ⟨_, rfl⟩
      have HE : rt l = H := by rw [← hH]; unfold rt; rw [if_pos h0]
      have HL : Hid (L32 H) := by rw [← hH]; exact hs_l32 _
      have HS : Hid (∀ W : World, Calls Tryd.prog 32 #[.slice (some ⟨W.heap.size, 0, none⟩) 1 1] (W.alloc (.cells #[.int .u8 0] 5)) fun e w' => e = .returned (.agg (bv H).toArray) ∧ Below (W.alloc (.cells #[.int .u8 0] 5)).heap.size (W.alloc (.cells #[.int .u8 0] 5)) w') := fun W => rsum_sl [0] H _ hH (by simp) _ (fun z hz => by simp at hz; omega) (ow_one W 0).sq
      rw [HE]
      subst h0
      clear hx hk hcp ha hH HE
      simp only [List.length_nil] at HA ⊢
      go_enter Tryd.func16, Tryd.ntmps16
      go_upto_region 1 with (fail)
      try rw [hU]
      try rw [hD]
      clear hU hD hz
      go_wp2_with (first
        | (go_at_call 20; refine HA.out.mono ?_; rintro e w1 ⟨rfl, g1⟩; have B1 : Hid (Below U.heap.size U w1) := g1; clear g1)
        | (go_at_call 32; refine (HS.out w1).mono ?_; rintro e w2 ⟨rfl, g1⟩; have B2 : Hid (Below U.heap.size U w2) := B1.out.trans (((Below.alloc (Below.refl _ w1) (Nat.le_refl _) _).trans (g1.mono (by simp))).mono B1.out.size); clear g1)
        | (refine wpList_store_mid rfl 31 (.tmp 2) (.tmp 12) rfl D 0 (bv H).toArray rfl rfl (by rw [List.size_toArray, bv_length, HL.out.len]; exact HTH.out w2 B2.out) (by rw [List.size_toArray]; exact size_l32 HL.out) (bv_one' _) ?_; simp only [List.toList_toArray]))
      have qq : (w2.setCells D 0 (bv H)).rangeAt D 0 (bv H) := World.rangeAt_setCells_same _ _ _ _ (by rw [bv_length, HL.out.len]; exact HTH.out w2 B2.out)
      have hbl : Below w.heap.size w (w2.setCells D 0 (bv H)) := below_setCells (by rw [HD.out]; exact Nat.le_refl _) _ _ (BU.out.trans (B2.out.mono BU.out.size))
      refine bodyPost_ret (v := .tuple #[.agg (bv H).toArray, .int .i64 0]) ?_ rfl ⟨rfl, hbl⟩
      simp only [results, Tryd.results16]
      simp [Act.put, asAddr, run_loadVar_mid _ D 0 31 (bv H) _ qq Tryd.underlying31 rfl (size_l32 HL.out)]
    · obtain ⟨H, hH⟩ : ∃ H, hs ([3] ++ nbs (ovl l)) = H := ⟨_, rfl⟩
      have HE : rt l = H := by rw [← hH]; unfold rt; rw [if_neg h0]
      have HL : Hid (L32 H) := by rw [← hH]; exact hs_l32 _
      have hr := apt_rsn hk ha
      obtain ⟨o1, o2, o3⟩ : (ovl l).Ok ∧ 0 ≤ (ovl l).n ∧ (ovl l).n ≤ 256 := ov_ok hr h0 _ (Nat.le_refl _)
      have HO : Hid (∀ W : World, NS W (.slice ad l.length cap) l → Calls Tryd.prog 34 #[.slice ad l.length cap] W fun e w' => e = .returned (.agg (nc (ovl l)).toArray) ∧ Below W.heap.size W w') := fun W q1 => rover_any _ l (Nat.le_refl _) hr h0 hlen _ W q1
      have HTP : Hid (∀ W : World, Calls Tryd.prog 33 #[.agg (nc (ovl l)).toArray] W fun e w' => ∃ v', e = .returned v' ∧ Ow W.heap.size w' v' ([3] ++ nbs (ovl l)) ∧ Below W.heap.size W w') := fun W => rTop_any (ovl l) o1 o2 o3 W
      have HSU : Hid (∀ (v : Value) (W : World), Sq W v ([3] ++ nbs (ovl l)) → Calls Tryd.prog 32 #[v] W fun e w' => e = .returned (.agg (bv H).toArray) ∧ Below W.heap.size W w') := fun v W q2 => rsum_sl _ H v hH (by rw [List.length_append, nbs_length o1]; simp) W (Byt.append (fun z hz => by simp at hz; omega) (nbs_byt o1 o2 o3)) q2
      rw [HE]
      obtain ⟨R, hR⟩ : ∃ R, ovl l = R := ⟨_, rfl⟩
      rw [hR] at HO HTP HSU
      have hl0 : ¬ (l.length : Int) = 0 := by have := List.length_pos_iff.2 h0; omega
      obtain ⟨len, hlenq⟩ : ∃ len, l.length = len := ⟨_, rfl⟩
      rw [hlenq] at HA HO VU hl0 ⊢
      clear hx hk hcp ha hH HE hr o1 o2 o3 hR hlenq hlen h0
      go_enter Tryd.func16, Tryd.ntmps16
      go_upto_region 1 with (fail)
      try rw [hU]
      try rw [hD]
      clear hU hD hz
      go_wp2_with (first
        | (go_at_call 20; refine HA.out.mono ?_; rintro e w1 ⟨rfl, g1⟩; have B1 : Hid (Below U.heap.size U w1) := g1; clear g1)
        | (go_at_call 34; refine (HO.out w1 (VU.out.below B1.out)).mono ?_; rintro e w2 ⟨rfl, g1⟩; have B2 : Hid (Below U.heap.size U w2) := B1.out.trans (g1.mono B1.out.size); clear g1)
        | (go_at_call 33; refine (HTP.out w2).mono ?_; rintro e w3 ⟨v3, rfl, g1, g2⟩; have O3 : Hid (Ow w2.heap.size w3 v3 ([3] ++ nbs R)) := g1; have B3 : Hid (Below U.heap.size U w3) := B2.out.trans (g2.mono B2.out.size); clear g1 g2)
        | (go_at_call 32; refine (HSU.out v3 w3 O3.out.sq).mono ?_; rintro e w4 ⟨rfl, g1⟩; have B4 : Hid (Below U.heap.size U w4) := B3.out.trans (g1.mono B3.out.size); clear g1)
        | (refine wpList_store_mid rfl 31 (.tmp 2) (.tmp 16) rfl D 0 (bv H).toArray rfl rfl (by rw [List.size_toArray, bv_length, HL.out.len]; exact HTH.out w4 B4.out) (by rw [List.size_toArray]; exact size_l32 HL.out) (bv_one' _) ?_; simp only [List.toList_toArray]))
      have qq : (w4.setCells D 0 (bv H)).rangeAt D 0 (bv H) := World.rangeAt_setCells_same _ _ _ _ (by rw [bv_length, HL.out.len]; exact HTH.out w4 B4.out)
      have hbl : Below w.heap.size w (w4.setCells D 0 (bv H)) := below_setCells (by rw [HD.out]; exact Nat.le_refl _) _ _ (BU.out.trans (B4.out.mono BU.out.size))
      refine bodyPost_ret (v := .tuple #[.agg (bv H).toArray, .int .i64 0]) ?_ rfl ⟨rfl, hbl⟩
      simp only [results, Tryd.results16]
      simp [Act.put, asAddr, run_loadVar_mid _ D 0 31 (bv H) _ qq Tryd.underlying31 rfl (size_l32 HL.out)]
end Go.Proofs.YtpojalbpekbfdaaDoor
/- The reference's Check, given what its Among gives. -/
namespace Go.Proofs.YtpojalbpekbfdaaDoor
open Go Go.RowKit
set_option linter.unusedSimpArgs false
set_option linter.unusedVariables false
set_option maxRecDepth 100000

def AmC : Prop := ∀ (l : List Nd) (ms : List Lf), (∀ x ∈ l, x.Ok) → (∀ x ∈ ms, x.Ok) → l.length + ms.length ≤ 2400000000000 → ∀ (v u : Value) (w : World), NS w v l → LS w u ms →
  Calls Tryd.prog 17 #[v, u] w fun e w' => ∃ v', e = .returned v' ∧ NS w' v' (am l ms) ∧ Below w.heap.size w w'
set_option maxHeartbeats 8000000 in
theorem rCheck_core (HAM0 : AmC) (bf af : List Int) (hbf : L32 bf) (haf : L32 af) (l : List Nd) (hk : ∀ x ∈ l, x.Ok) (ms : List Lf) (hm : ∀ x ∈ ms, x.Ok) (hlen : l.length + ms.length ≤ 2400000000000) (v u : Value) (w : World) (hv : NS w v l) (hu : LS w u ms) :
    Calls Tryd.prog 15 #[.agg (bv bf).toArray, .agg (bv af).toArray, v, u] w fun e w' => ∃ er, e = .returned (.int .i64 er) ∧ CKo bf af l ms er ∧ Below w.heap.size w w' := by
  have hz := zero_32
  rw [show List.replicate 32 (0 : Int) = z32 from rfl] at hz
  obtain ⟨Z, hZ⟩ : ∃ Z, (bv z32).toArray = Z := ⟨_, rfl⟩
  have HZS : Hid (Z.size = 32) := by show Z.size = 32; rw [← hZ]; simp [bv, z32]
  rw [hZ] at hz
  have sa : (bv bf).toArray.size = 32 := by rw [List.size_toArray, bv_length, hbf.len]
  have sb : (bv af).toArray.size = 32 := by rw [List.size_toArray, bv_length, haf.len]
  obtain ⟨U, hU⟩ : ∃ U, (w.alloc (.cells (bv bf).toArray 31)).alloc (.cells (bv af).toArray 31) = U := ⟨_, rfl⟩
  obtain ⟨q1, q2, q5, q6⟩ := box_two hU
  have HBF : Hid (L32 bf) := hbf
  have HAF : Hid (L32 af) := haf
  have BU : Hid (Below w.heap.size w U) := q5
  obtain ⟨D, hD⟩ : ∃ D, w.heap.size = D := ⟨_, rfl⟩
  rw [hD] at q1 q2 q6
  have R1 : Hid (U.rangeAt D 0 (bv bf)) := q1
  have R2 : Hid (U.rangeAt (D + 1) 0 (bv af)) := q2
  have SU : Hid (U.heap.size = D + 2) := q6
  have VU : Hid (NS U v l) := hv.below q5
  have UU : Hid (LS U u ms) := hu.below q5
  have HAA := rApart_any l hk v U VU.out (by omega)
  have HCK : Hid (apt l = true → CKo bf af l ms (if apt (am l ms) = true then smE bf (rt l) af (rt (am l ms)) else 1)) := fun h => am_cko hk hm h
  have amk : ∀ x ∈ am l ms, x.Ok := fun x hx => by
    rcases List.mem_append.1 ((am_perm l ms).mem_iff.1 hx) with q | q
    · exact hk x q
    · obtain ⟨y, hy, rfl⟩ := List.mem_map.1 q; exact ln_ok (hm y hy)
  have aml : (am l ms).length ≤ 140737488355328 := by have := (am_perm l ms).length_eq; rw [List.length_append, List.length_map] at this; omega
  have HRT1 := fun W q => rRoot_any l hk (by omega) v W q
  have HAM : Hid (∀ W : World, Below U.heap.size U W → Calls Tryd.prog 17 #[v, u] W fun e w' => ∃ v', e = .returned v' ∧ NS w' v' (am l ms) ∧ Below W.heap.size W w') := fun W q => HAM0 l ms hk hm hlen v u W (VU.out.below q) (UU.out.below q)
  have HRT2 := fun v' W q => rRoot_any (am l ms) amk aml v' W q
  obtain ⟨Aa, hAa⟩ : ∃ A, (bv bf).toArray = A := ⟨_, rfl⟩
  obtain ⟨Ab, hAb⟩ : ∃ A, (bv af).toArray = A := ⟨_, rfl⟩
  rw [hAa] at sa hU ⊢
  rw [hAb] at sb hU ⊢
  clear q1 q2 q5 q6 hbf haf hAa hAb hk hm hlen hv hu hZ amk aml HAM0
  cases ha : apt l with
  | false =>
    rw [ha] at HAA
    have HAP : Hid (Calls Tryd.prog 20 #[v] U fun e w' => e = .returned (.bool false) ∧ Below U.heap.size U w') := HAA
    have HAL : Hid (apt l = false) := ha
    clear HAA HRT1 HRT2 ha
    go_enter Tryd.func15, Tryd.ntmps15
    go_upto_region 1 with (fail)
    try rw [hU]
    try rw [hD]
    clear hU hD sa sb hz
    go_wp2_with (go_at_call 20; refine HAP.out.mono ?_; rintro e w1 ⟨rfl, g1⟩; have G1 : Hid (Below U.heap.size U w1) := g1; clear g1)
    go_ret
    exact ⟨1, rfl, .inl ⟨HAL.out, rfl⟩, Below.tr' BU.out G1.out⟩
  | true =>
    rw [ha] at HAA
    have HAP : Hid (Calls Tryd.prog 20 #[v] U fun e w' => e = .returned (.bool true) ∧ Below U.heap.size U w') := HAA
    have HCA := HCK.out ha
    rw [ha, if_pos rfl, if_pos rfl] at HRT1
    obtain ⟨R, hR⟩ : ∃ R, rt l = R := ⟨_, rfl⟩
    have HRL : Hid (L32 R) := by rw [← hR]; exact rt_l32 _
    rw [hR] at HRT1 HCA
    have HRA : Hid (∀ W : World, Below U.heap.size U W → Calls Tryd.prog 16 #[v] W fun e w' => e = .returned (.tuple #[.agg (bv R).toArray, .int .i64 0]) ∧ Below W.heap.size W w') := fun W q => HRT1 W (VU.out.below q)
    obtain ⟨M, hM⟩ : ∃ M, am l ms = M := ⟨_, rfl⟩
    rw [hM] at HAM HRT2 HCA
    obtain ⟨R', E', hR', hE', HRL0⟩ : ∃ (R' : List Int) (E' : Int), (if apt M = true then rt M else z32) = R' ∧ (if apt M = true then (0 : Int) else 1) = E' ∧ L32 R' := ⟨_, _, rfl, rfl, by split; exact rt_l32 _; exact z32_l32⟩
    have HRL' : Hid (L32 R') := HRL0
    rw [hR', hE'] at HRT2
    have HRB : Hid (∀ (v' : Value) (W : World), NS W v' M → Calls Tryd.prog 16 #[v'] W fun e w' => e = .returned (.tuple #[.agg (bv R').toArray, .int .i64 E']) ∧ Below W.heap.size W w') := HRT2
    have HC1 : Hid (E' = 1 → CKo bf af l ms 1) := fun h => by
      cases hm : apt M with
      | true => rw [hm, if_pos rfl] at hE'; omega
      | false => rw [hm, if_neg (by decide)] at HCA; exact HCA
    have HC0 : Hid (E' = 0 → CKo bf af l ms (smE bf R af R')) := fun h => by
      cases hm : apt M with
      | true => rw [hm, if_pos rfl] at hR' HCA; rw [← hR']; exact HCA
      | false => rw [hm, if_neg (by decide)] at hE'; omega
    have hE2 : E' = 0 ∨ E' = 1 := by rw [← hE']; split <;> simp
    clear HAA HRT1 HRT2 ha hR hM hR' hE' HRL0 HCA HCK
    go_enter Tryd.func15, Tryd.ntmps15
    go_upto_region 1 with (fail)
    try rw [hU]
    try rw [hD]
    clear hU hD sa sb
    go_upto_region 4 with (first
      | (go_at_call 20; refine HAP.out.mono ?_; rintro e w0 ⟨rfl, g1⟩; have G0 : Hid (Below U.heap.size U w0) := g1; clear g1)
      | (go_at_call 16; refine (HRA.out w0 G0.out).mono ?_; rintro e w1 ⟨rfl, g1⟩; have G1 : Hid (Below U.heap.size U w1) := Below.tr' G0.out g1; clear g1)
      | (refine wpList_store_mid rfl 31 (.tmp 9) (.tmp 19) rfl w1.heap.size 0 (bv R).toArray rfl rfl (there_new w1 (by rw [List.size_toArray, bv_length, HRL.out.len, HZS.out])) (by rw [List.size_toArray]; exact size_l32 HRL.out) (bv_one' _) ?_; simp only [List.toList_toArray]))
    obtain ⟨a1, ha1⟩ : ∃ a9, (w1.alloc (.cells Z 31)).setCells w1.heap.size 0 (bv R) = a9 := ⟨_, rfl⟩
    rw [ha1]
    obtain ⟨r1, r2, r3⟩ := laid_row (by rw [bv_length, HRL.out.len, HZS.out]) (by rw [bv_length, HRL.out.len]; omega) ha1
    obtain ⟨b9, hBb9⟩ : ∃ q, w1.heap.size = q := ⟨_, rfl⟩
    rw [hBb9] at r1 r3 ⊢
    have Rb9 : Hid (a1.rangeAt b9 0 (bv R)) := r1
    have Ga1 : Hid (Below w1.heap.size w1 a1) := r2
    have Lb9 : Hid (b9 < a1.heap.size) := r3
    clear r1 r2 r3 ha1 hBb9
    have BA : Hid (Below U.heap.size U a1) := Below.tr' G1.out Ga1.out
    go_upto_region 5 with (first
      | (go_at_call 17; refine (HAM.out a1 BA.out).mono ?_; rintro e w2 ⟨v2, rfl, g1, g2⟩; have N2 : Hid (NS w2 v2 M) := g1; have G2 : Hid (Below a1.heap.size a1 w2) := g2; clear g1 g2)
      | (go_at_call 16; refine (HRB.out v2 w2 N2.out).mono ?_; rintro e w4 ⟨rfl, g1⟩; have G4 : Hid (Below a1.heap.size a1 w4) := Below.tr' G2.out g1; clear g1)
      | (refine wpList_store_mid rfl 31 (.tmp 11) (.tmp 26) rfl w4.heap.size 0 (bv R').toArray rfl rfl (there_new w4 (by rw [List.size_toArray, bv_length, HRL'.out.len, HZS.out])) (by rw [List.size_toArray]; exact size_l32 HRL'.out) (bv_one' _) ?_; simp only [List.toList_toArray]))
    obtain ⟨a4, ha4⟩ : ∃ a9, (w4.alloc (.cells Z 31)).setCells w4.heap.size 0 (bv R') = a9 := ⟨_, rfl⟩
    rw [ha4]
    obtain ⟨r1, r2, r3⟩ := laid_row (by rw [bv_length, HRL'.out.len, HZS.out]) (by rw [bv_length, HRL'.out.len]; omega) ha4
    obtain ⟨b11, hBb11⟩ : ∃ q, w4.heap.size = q := ⟨_, rfl⟩
    rw [hBb11] at r1 r3 ⊢
    have Rb11 : Hid (a4.rangeAt b11 0 (bv R')) := r1
    have Ga4 : Hid (Below w4.heap.size w4 a4) := r2
    have Lb11 : Hid (b11 < a4.heap.size) := r3
    clear r1 r2 r3 ha4 hBb11
    clear hz
    have G14 : Hid (Below a1.heap.size a1 a4) := Below.tr' G4.out Ga4.out
    have BU4 : Hid (Below U.heap.size U a4) := Below.tr' BA.out G14.out
    have CE : Hid (Below w.heap.size w a4) := Below.tr' BU.out BU4.out
    rcases hE2 with rfl | rfl
    · have X1 : Hid (a4.rangeAt D 0 (bv bf)) := range_below R1.out BU4.out (by have := SU.out; omega)
      have X2 : Hid (a4.rangeAt (D + 1) 0 (bv af)) := range_below R2.out BU4.out (by have := SU.out; omega)
      have X3 : Hid (a4.rangeAt b9 0 (bv R)) := range_below Rb9.out G14.out Lb9.out
      have HCC := HC0.out rfl
      by_cases h1 : R = bf
      · by_cases h2 : R' = af
        · have NE1 : Hid ((binOp .neq 31 (.agg (bv R).toArray) (.agg (bv bf).toArray)).run Tryd.prog a4 = .ok (.bool false) a4) := by have := neq_32 HRL.out HBF.out a4; rw [decide_eq_true h1] at this; exact this
          have NE2 : Hid ((binOp .neq 31 (.agg (bv R').toArray) (.agg (bv af).toArray)).run Tryd.prog a4 = .ok (.bool false) a4) := by have := neq_32 HRL'.out HAF.out a4; rw [decide_eq_true h2] at this; exact this
          have e : smE bf R af R' = 0 := by unfold smE; rw [if_pos ⟨h1.symm, h2.symm⟩]
          rw [e] at HCC
          have HCF : Hid (CKo bf af l ms 0) := HCC
          clear h1 h2 e HCC
          go_wp2_with (first
            | (refine ld 31 (.tmp 9) rfl rfl b9 0 rfl (bv R) _ X3.out Tryd.underlying31 rfl (size_l32 HRL.out) ?_)
            | (refine ld 31 (.tmp 4) rfl rfl D 0 rfl (bv bf) _ X1.out Tryd.underlying31 rfl (size_l32 HBF.out) ?_)
            | (refine ld 31 (.tmp 11) rfl rfl b11 0 rfl (bv R') _ Rb11.out Tryd.underlying31 rfl (size_l32 HRL'.out) ?_)
            | (refine ld 31 (.tmp 5) rfl rfl (D + 1) 0 rfl (bv af) _ X2.out Tryd.underlying31 rfl (size_l32 HAF.out) ?_)
            | (refine wp_neq_run 31 31 (.tmp 30) (.tmp 31) rfl rfl (.agg (bv R).toArray) (.agg (bv bf).toArray) (.bool false) rfl rfl (eqg_32 _ _ _ _ _ a4) NE1.out ?_)
            | (refine wp_neq_run 31 31 (.tmp 34) (.tmp 35) rfl rfl (.agg (bv R').toArray) (.agg (bv af).toArray) (.bool false) rfl rfl (eqg_32 _ _ _ _ _ a4) NE2.out ?_))
          go_ret
          exact ⟨0, rfl, HCF.out, CE.out⟩
        · have NE1 : Hid ((binOp .neq 31 (.agg (bv R).toArray) (.agg (bv bf).toArray)).run Tryd.prog a4 = .ok (.bool false) a4) := by have := neq_32 HRL.out HBF.out a4; rw [decide_eq_true h1] at this; exact this
          have NE2 : Hid ((binOp .neq 31 (.agg (bv R').toArray) (.agg (bv af).toArray)).run Tryd.prog a4 = .ok (.bool true) a4) := by have := neq_32 HRL'.out HAF.out a4; rw [decide_eq_false h2] at this; exact this
          have e : smE bf R af R' = 3 := by unfold smE; rw [if_neg (fun q => h2 q.2.symm)]
          rw [e] at HCC
          have HCF : Hid (CKo bf af l ms 3) := HCC
          clear h1 h2 e HCC
          go_wp2_with (first
            | (refine ld 31 (.tmp 9) rfl rfl b9 0 rfl (bv R) _ X3.out Tryd.underlying31 rfl (size_l32 HRL.out) ?_)
            | (refine ld 31 (.tmp 4) rfl rfl D 0 rfl (bv bf) _ X1.out Tryd.underlying31 rfl (size_l32 HBF.out) ?_)
            | (refine ld 31 (.tmp 11) rfl rfl b11 0 rfl (bv R') _ Rb11.out Tryd.underlying31 rfl (size_l32 HRL'.out) ?_)
            | (refine ld 31 (.tmp 5) rfl rfl (D + 1) 0 rfl (bv af) _ X2.out Tryd.underlying31 rfl (size_l32 HAF.out) ?_)
            | (refine wp_neq_run 31 31 (.tmp 30) (.tmp 31) rfl rfl (.agg (bv R).toArray) (.agg (bv bf).toArray) (.bool false) rfl rfl (eqg_32 _ _ _ _ _ a4) NE1.out ?_)
            | (refine wp_neq_run 31 31 (.tmp 34) (.tmp 35) rfl rfl (.agg (bv R').toArray) (.agg (bv af).toArray) (.bool true) rfl rfl (eqg_32 _ _ _ _ _ a4) NE2.out ?_))
          go_ret
          exact ⟨3, rfl, HCF.out, CE.out⟩
      · have NE1 : Hid ((binOp .neq 31 (.agg (bv R).toArray) (.agg (bv bf).toArray)).run Tryd.prog a4 = .ok (.bool true) a4) := by have := neq_32 HRL.out HBF.out a4; rw [decide_eq_false h1] at this; exact this
        have e : smE bf R af R' = 3 := by unfold smE; rw [if_neg (fun q => h1 q.1.symm)]
        rw [e] at HCC
        have HCF : Hid (CKo bf af l ms 3) := HCC
        clear h1 e HCC
        go_wp2_with (first
          | (refine ld 31 (.tmp 9) rfl rfl b9 0 rfl (bv R) _ X3.out Tryd.underlying31 rfl (size_l32 HRL.out) ?_)
          | (refine ld 31 (.tmp 4) rfl rfl D 0 rfl (bv bf) _ X1.out Tryd.underlying31 rfl (size_l32 HBF.out) ?_)
          | (refine ld 31 (.tmp 11) rfl rfl b11 0 rfl (bv R') _ Rb11.out Tryd.underlying31 rfl (size_l32 HRL'.out) ?_)
          | (refine ld 31 (.tmp 5) rfl rfl (D + 1) 0 rfl (bv af) _ X2.out Tryd.underlying31 rfl (size_l32 HAF.out) ?_)
          | (refine wp_neq_run 31 31 (.tmp 30) (.tmp 31) rfl rfl (.agg (bv R).toArray) (.agg (bv bf).toArray) (.bool true) rfl rfl (eqg_32 _ _ _ _ _ a4) NE1.out ?_))
        go_ret
        exact ⟨3, rfl, HCF.out, CE.out⟩
    · have HCF : Hid (CKo bf af l ms 1) := HC1.out rfl
      go_wp2_with fail
      go_ret
      exact ⟨1, rfl, HCF.out, CE.out⟩
end Go.Proofs.YtpojalbpekbfdaaDoor
