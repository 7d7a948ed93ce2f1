/- 'padded': the reference's message in whole blocks of 64 bytes. -/
import Derived.Test.YtkeobajlikhghabDoorTrrG
namespace Go.Proofs.YtkeobajlikhghabDoor.Sh
open Go Go.RowKit
attribute [local go_sem] ul_shr8 ul_shr16 ul_shr24 ul_shr32 ul_shr40 ul_shr48 ul_shr56 b_of_l

theorem Own.start (w : World) (f : Nat → BitVec 8) : Own w (w.alloc (.cells #[] 5)) (.slice (some ⟨w.heap.size, 0, none⟩) 0 0) 0 f :=
  ⟨(Below.refl _ _).alloc (Nat.le_refl _) _, rfl, Or.inr ⟨w.heap.size, 0, #[], rfl, Nat.le_refl _, heap_alloc_new _ _, Nat.le_refl _, Nat.zero_le _, rfl, rfl⟩⟩
theorem Own.form {w wr : World} {v : Value} {k : Nat} {f : Nat → BitVec 8} (h : Own w wr v k f) (hk : 0 < k) : ∃ g cap, v = .slice (some ⟨g, 0, none⟩) k cap ∧ w.heap.size ≤ g ∧ g < wr.heap.size ∧ k ≤ cap ∧ ∀ i, i < k → wr.cell? ⟨g, i, none⟩ = some (B (f i)) := by
  rcases h.own.2 with ⟨_, h0⟩ | ⟨g, cap, cur, hv, hb, hg, hc, _, hs, ht⟩
  · omega
  · refine ⟨g, cap, hv, hb, (Array.getElem?_eq_some_iff.1 hg).1, hc, fun i hi => ?_⟩
    rw [cell_of_row wr g i cur _ _ hg]
    have e : (cur.toList.take (k * 1))[i]? = some (B (f i)) := by rw [ht]; simp [bl, hi]
    rw [List.getElem?_take, if_pos (by omega), Array.getElem?_toList] at e
    exact e
theorem one_cell (wr : World) (x : Value) (y : BitVec 8) (hx : x = B y) : ∀ i, i < 1 → (wr.alloc (.cells #[x] 5)).cell? ((⟨wr.heap.size, 0, none⟩ : Addr).add i) = some (B y) := by
  intro i hi
  obtain rfl : i = 0 := by omega
  rw [hx, addr_add0, World.cell?_alloc_at _ _ _ _ rfl]; rfl

set_option maxRecDepth 100000 in
set_option maxHeartbeats 1000000 in
theorem padded_any (m : Nat → BitVec 8) (ad : Option Addr) (n cap : Nat) (hn : n < 140737488350000) (w : World) (hm : Src w ad n cap m) :
    Calls Tryd.prog 75 #[.slice ad n cap, .int .i64 64, .int .i64 8] w fun e w' => ∃ v, e = .returned v ∧ Own w w' v (64 * nblk n) (padM m n) := by
  have HM : Hid (Src w ad n cap m) := hm
  clear hm
  have hn1 : (n : Int) < 140737488350000 := by omega
  have HO : Hid (Own w (w.alloc (.cells #[] 5)) (.slice (some ⟨w.heap.size, 0, none⟩) 0 0) 0 (padM m n)) := Own.start w _
  have HG : Hid (Src (w.alloc (.cells #[] 5)) ad n cap (fun i => padM m n (0 + i))) :=
    (HM.out.below ((Below.refl w.heap.size w).alloc (Nat.le_refl _) _) (Nat.le_refl _)).congr (fun i hi => by rw [Nat.zero_add, padM, if_pos hi])
  go_enter Tryd.func75, Tryd.ntmps75
  have HC2 : Hid (∀ W : World, ∀ i, i < 1 → (W.alloc (.cells #[.int .u8 128] 5)).cell? ((⟨W.heap.size, 0, none⟩ : Addr).add i) = some (B (padM m n (n + i)))) := fun W i hi => by
    rw [show n + i = n by omega, show padM m n n = 128 by rw [padM, if_neg (by omega), if_pos rfl]]; exact one_cell W _ 128 rfl i hi
  go_wp2_with (first | (at_builtin; refine app_src rfl (.tmp 10) (.tmp 11) rfl _ 0 (padM m n) rfl HO.out ad n cap rfl (padM m n) (fun _ _ => rfl) HG.out (by omega) ?_; intro v1 w1 h1 hs1; rw [Nat.zero_add] at h1; have H1 : Hid (Own w w1 v1 n (padM m n)) := h1; clear h1) | (at_builtin; refine app_own rfl (.tmp 13) (.tmp 14) rfl _ n (padM m n) rfl (Own.alloc H1.out _) ⟨w1.heap.size, 0, none⟩ 1 1 rfl (padM m n) (fun _ _ => rfl) (HC2.out w1) (by omega) ?_; intro v2 w2 h2 hs2; have H2 : Hid (Own w w2 v2 (n + 1) (padM m n)) := h2; clear h2; obtain ⟨g2, cap2, hv2, -⟩ := H2.out.form (by omega); rw [hv2] at H2; rw [hv2]; clear hv2 hs2))
  clear HC2 HG HO
  obtain ⟨Z, hZ⟩ : ∃ Z, Z = 64 * nblk n := ⟨_, rfl⟩
  have hZ1 : n + 9 ≤ Z ∧ Z ≤ n + 72 ∧ Z % 64 = 0 := by rw [hZ]; unfold nblk; omega
  have HZ : Hid (Z = 64 * nblk n) := hZ
  have HZ1 : Hid (n + 9 ≤ Z ∧ Z ≤ n + 72 ∧ Z % 64 = 0) := hZ1
  clear hZ hZ1
  go_loopw [7] (fun x wr => ∃ L g c : Nat, n + 1 ≤ L ∧ L + 8 ≤ Z ∧ x = .slice (some ⟨g, 0, none⟩) L c ∧ Own w wr x L (padM m n)) (fun x _ => Z - lenOf x)
  case atStart => exact ⟨n + 1, g2, cap2, Nat.le_refl _, by have := HZ1.out; omega, rfl, H2.out⟩
  case round =>
    obtain ⟨L, g, c, hL1, hL2, rfl, ho⟩ := hrel
    have HOW : Hid (Own w _ (.slice (some ⟨g, 0, none⟩) L c) L (padM m n)) := ho
    clear ho H2 H1
    have hL3 : (L : Int) < 140737488355000 := by have := HZ1.out; omega
    by_cases hz : L + 8 = Z
    · have hb : (((L : Int) + 8) % 64 != 0) = false := by have := HZ1.out; simp; omega
      have HZL : Hid (L + 8 = Z) := hz
      clear hz hL2
      obtain ⟨X, hX⟩ : ∃ X, X = BitVec.ofNat 64 (8 * n) := ⟨_, rfl⟩
      have hx : (n : Int) * 8 = ul X := by
        rw [hX]
        show (n : Int) * 8 = ((BitVec.ofNat 64 (8 * n)).toNat : Int)
        rw [BitVec.toNat_ofNat]; omega
      have HX : Hid (X = BitVec.ofNat 64 (8 * n)) := hX
      clear hX
      have HP : Hid (∀ t, t < 8 → padM m n (L + t) = lenByte n t) := fun t ht => by
        have e1 := HZ.out
        have e2 := HZL.out
        rw [padM, if_neg (by omega), if_neg (by omega), if_neg (by omega), show L + t - (64 * nblk n - 8) = t by omega]
      go_wp2_with fail
      go_loopw [7, 9] (fun x i wr => ∃ t g c : Nat, t ≤ 8 ∧ x = .slice (some ⟨g, 0, none⟩) (L + t) c ∧ i = .int .i64 (7 - (t : Int)) ∧ Own w wr x (L + t) (padM m n)) (fun _ i _ => (intOf i + 1).toNat)
      case atStart => exact ⟨0, g, c, by omega, rfl, rfl, HOW.out⟩
      case round =>
        obtain ⟨t, g, c, ht, rfl, rfl, ho⟩ := hrel
        have HOW2 : Hid (Own w _ (.slice (some ⟨g, 0, none⟩) (L + t) c) (L + t) (padM m n)) := ho
        clear ho HOW
        obtain rfl | rfl | rfl | rfl | rfl | rfl | rfl | rfl | rfl : t = 0 ∨ t = 1 ∨ t = 2 ∨ t = 3 ∨ t = 4 ∨ t = 5 ∨ t = 6 ∨ t = 7 ∨ t = 8 := by omega
        · have HC : Hid (∀ W : World, ∀ i, i < 1 → (W.alloc (.cells #[.int .u8 (ub ((X >>> 56).setWidth 8))] 5)).cell? ((⟨W.heap.size, 0, none⟩ : Addr).add i) = some (B (padM m n (L + 0 + i)))) := fun W i hi => by
            rw [show L + 0 + i = L + 0 by omega, HP.out 0 (by omega)]; exact one_cell W _ _ (by rw [lenByte, ← HX.out]) i hi
          go_wp2_with (at_builtin; refine app_own rfl (.tmp 41) (.tmp 48) rfl _ (L + 0) (padM m n) rfl (Own.alloc HOW2.out _) ⟨_, 0, none⟩ 1 1 rfl (padM m n) (fun _ _ => rfl) (HC.out _) (by omega) ?_; intro v3 w3 h3 hs3; obtain ⟨g3, cap3, hv3, -⟩ := h3.form (by omega); have H3 : Hid (Own w w3 v3 (L + 0 + 1) (padM m n)) := h3; clear h3 hs3; rw [hv3] at H3; rw [hv3]; clear hv3)
          first | exact ⟨⟨1, g3, cap3, by omega, rfl, rfl, H3.out⟩, by simp [intOf]⟩ | (go_roundw; (case rel => exact ⟨1, g3, cap3, by omega, rfl, rfl, H3.out⟩); (case measure => simp [intOf]))
        · have HC : Hid (∀ W : World, ∀ i, i < 1 → (W.alloc (.cells #[.int .u8 (ub ((X >>> 48).setWidth 8))] 5)).cell? ((⟨W.heap.size, 0, none⟩ : Addr).add i) = some (B (padM m n (L + 1 + i)))) := fun W i hi => by
            rw [show L + 1 + i = L + 1 by omega, HP.out 1 (by omega)]; exact one_cell W _ _ (by rw [lenByte, ← HX.out]) i hi
          go_wp2_with (at_builtin; refine app_own rfl (.tmp 41) (.tmp 48) rfl _ (L + 1) (padM m n) rfl (Own.alloc HOW2.out _) ⟨_, 0, none⟩ 1 1 rfl (padM m n) (fun _ _ => rfl) (HC.out _) (by omega) ?_; intro v3 w3 h3 hs3; obtain ⟨g3, cap3, hv3, -⟩ := h3.form (by omega); have H3 : Hid (Own w w3 v3 (L + 1 + 1) (padM m n)) := h3; clear h3 hs3; rw [hv3] at H3; rw [hv3]; clear hv3)
          first | exact ⟨⟨2, g3, cap3, by omega, rfl, rfl, H3.out⟩, by simp [intOf]⟩ | (go_roundw; (case rel => exact ⟨2, g3, cap3, by omega, rfl, rfl, H3.out⟩); (case measure => simp [intOf]))
        · have HC : Hid (∀ W : World, ∀ i, i < 1 → (W.alloc (.cells #[.int .u8 (ub ((X >>> 40).setWidth 8))] 5)).cell? ((⟨W.heap.size, 0, none⟩ : Addr).add i) = some (B (padM m n (L + 2 + i)))) := fun W i hi => by
            rw [show L + 2 + i = L + 2 by omega, HP.out 2 (by omega)]; exact one_cell W _ _ (by rw [lenByte, ← HX.out]) i hi
          go_wp2_with (at_builtin; refine app_own rfl (.tmp 41) (.tmp 48) rfl _ (L + 2) (padM m n) rfl (Own.alloc HOW2.out _) ⟨_, 0, none⟩ 1 1 rfl (padM m n) (fun _ _ => rfl) (HC.out _) (by omega) ?_; intro v3 w3 h3 hs3; obtain ⟨g3, cap3, hv3, -⟩ := h3.form (by omega); have H3 : Hid (Own w w3 v3 (L + 2 + 1) (padM m n)) := h3; clear h3 hs3; rw [hv3] at H3; rw [hv3]; clear hv3)
          first | exact ⟨⟨3, g3, cap3, by omega, rfl, rfl, H3.out⟩, by simp [intOf]⟩ | (go_roundw; (case rel => exact ⟨3, g3, cap3, by omega, rfl, rfl, H3.out⟩); (case measure => simp [intOf]))
        · have HC : Hid (∀ W : World, ∀ i, i < 1 → (W.alloc (.cells #[.int .u8 (ub ((X >>> 32).setWidth 8))] 5)).cell? ((⟨W.heap.size, 0, none⟩ : Addr).add i) = some (B (padM m n (L + 3 + i)))) := fun W i hi => by
            rw [show L + 3 + i = L + 3 by omega, HP.out 3 (by omega)]; exact one_cell W _ _ (by rw [lenByte, ← HX.out]) i hi
          go_wp2_with (at_builtin; refine app_own rfl (.tmp 41) (.tmp 48) rfl _ (L + 3) (padM m n) rfl (Own.alloc HOW2.out _) ⟨_, 0, none⟩ 1 1 rfl (padM m n) (fun _ _ => rfl) (HC.out _) (by omega) ?_; intro v3 w3 h3 hs3; obtain ⟨g3, cap3, hv3, -⟩ := h3.form (by omega); have H3 : Hid (Own w w3 v3 (L + 3 + 1) (padM m n)) := h3; clear h3 hs3; rw [hv3] at H3; rw [hv3]; clear hv3)
          first | exact ⟨⟨4, g3, cap3, by omega, rfl, rfl, H3.out⟩, by simp [intOf]⟩ | (go_roundw; (case rel => exact ⟨4, g3, cap3, by omega, rfl, rfl, H3.out⟩); (case measure => simp [intOf]))
        · have HC : Hid (∀ W : World, ∀ i, i < 1 → (W.alloc (.cells #[.int .u8 (ub ((X >>> 24).setWidth 8))] 5)).cell? ((⟨W.heap.size, 0, none⟩ : Addr).add i) = some (B (padM m n (L + 4 + i)))) := fun W i hi => by
            rw [show L + 4 + i = L + 4 by omega, HP.out 4 (by omega)]; exact one_cell W _ _ (by rw [lenByte, ← HX.out]) i hi
          go_wp2_with (at_builtin; refine app_own rfl (.tmp 41) (.tmp 48) rfl _ (L + 4) (padM m n) rfl (Own.alloc HOW2.out _) ⟨_, 0, none⟩ 1 1 rfl (padM m n) (fun _ _ => rfl) (HC.out _) (by omega) ?_; intro v3 w3 h3 hs3; obtain ⟨g3, cap3, hv3, -⟩ := h3.form (by omega); have H3 : Hid (Own w w3 v3 (L + 4 + 1) (padM m n)) := h3; clear h3 hs3; rw [hv3] at H3; rw [hv3]; clear hv3)
          first | exact ⟨⟨5, g3, cap3, by omega, rfl, rfl, H3.out⟩, by simp [intOf]⟩ | (go_roundw; (case rel => exact ⟨5, g3, cap3, by omega, rfl, rfl, H3.out⟩); (case measure => simp [intOf]))
        · have HC : Hid (∀ W : World, ∀ i, i < 1 → (W.alloc (.cells #[.int .u8 (ub ((X >>> 16).setWidth 8))] 5)).cell? ((⟨W.heap.size, 0, none⟩ : Addr).add i) = some (B (padM m n (L + 5 + i)))) := fun W i hi => by
            rw [show L + 5 + i = L + 5 by omega, HP.out 5 (by omega)]; exact one_cell W _ _ (by rw [lenByte, ← HX.out]) i hi
          go_wp2_with (at_builtin; refine app_own rfl (.tmp 41) (.tmp 48) rfl _ (L + 5) (padM m n) rfl (Own.alloc HOW2.out _) ⟨_, 0, none⟩ 1 1 rfl (padM m n) (fun _ _ => rfl) (HC.out _) (by omega) ?_; intro v3 w3 h3 hs3; obtain ⟨g3, cap3, hv3, -⟩ := h3.form (by omega); have H3 : Hid (Own w w3 v3 (L + 5 + 1) (padM m n)) := h3; clear h3 hs3; rw [hv3] at H3; rw [hv3]; clear hv3)
          first | exact ⟨⟨6, g3, cap3, by omega, rfl, rfl, H3.out⟩, by simp [intOf]⟩ | (go_roundw; (case rel => exact ⟨6, g3, cap3, by omega, rfl, rfl, H3.out⟩); (case measure => simp [intOf]))
        · have HC : Hid (∀ W : World, ∀ i, i < 1 → (W.alloc (.cells #[.int .u8 (ub ((X >>> 8).setWidth 8))] 5)).cell? ((⟨W.heap.size, 0, none⟩ : Addr).add i) = some (B (padM m n (L + 6 + i)))) := fun W i hi => by
            rw [show L + 6 + i = L + 6 by omega, HP.out 6 (by omega)]; exact one_cell W _ _ (by rw [lenByte, ← HX.out]) i hi
          go_wp2_with (at_builtin; refine app_own rfl (.tmp 41) (.tmp 48) rfl _ (L + 6) (padM m n) rfl (Own.alloc HOW2.out _) ⟨_, 0, none⟩ 1 1 rfl (padM m n) (fun _ _ => rfl) (HC.out _) (by omega) ?_; intro v3 w3 h3 hs3; obtain ⟨g3, cap3, hv3, -⟩ := h3.form (by omega); have H3 : Hid (Own w w3 v3 (L + 6 + 1) (padM m n)) := h3; clear h3 hs3; rw [hv3] at H3; rw [hv3]; clear hv3)
          first | exact ⟨⟨7, g3, cap3, by omega, rfl, rfl, H3.out⟩, by simp [intOf]⟩ | (go_roundw; (case rel => exact ⟨7, g3, cap3, by omega, rfl, rfl, H3.out⟩); (case measure => simp [intOf]))
        · have HC : Hid (∀ W : World, ∀ i, i < 1 → (W.alloc (.cells #[.int .u8 (ub (X.setWidth 8))] 5)).cell? ((⟨W.heap.size, 0, none⟩ : Addr).add i) = some (B (padM m n (L + 7 + i)))) := fun W i hi => by
            rw [show L + 7 + i = L + 7 by omega, HP.out 7 (by omega)]; exact one_cell W _ _ (by rw [lenByte, ← HX.out]; simp) i hi
          go_wp2_with (at_builtin; refine app_own rfl (.tmp 41) (.tmp 48) rfl _ (L + 7) (padM m n) rfl (Own.alloc HOW2.out _) ⟨_, 0, none⟩ 1 1 rfl (padM m n) (fun _ _ => rfl) (HC.out _) (by omega) ?_; intro v3 w3 h3 hs3; obtain ⟨g3, cap3, hv3, -⟩ := h3.form (by omega); have H3 : Hid (Own w w3 v3 (L + 7 + 1) (padM m n)) := h3; clear h3 hs3; rw [hv3] at H3; rw [hv3]; clear hv3)
          first | exact ⟨⟨8, g3, cap3, by omega, rfl, rfl, H3.out⟩, by simp [intOf]⟩ | (go_roundw; (case rel => exact ⟨8, g3, cap3, by omega, rfl, rfl, H3.out⟩); (case measure => simp [intOf]))
        · go_wp2
          go_ret
          refine ⟨_, rfl, ?_⟩
          rw [← HZ.out, ← HZL.out]; exact HOW2.out
    · have hb : (((L : Int) + 8) % 64 != 0) = true := by have := HZ1.out; simp; omega
      have HC : Hid (∀ W : World, ∀ i, i < 1 → (W.alloc (.cells #[.int .u8 0] 5)).cell? ((⟨W.heap.size, 0, none⟩ : Addr).add i) = some (B (padM m n (L + i)))) := fun W i hi => by
        have e1 := HZ.out
        rw [show L + i = L by omega, show padM m n L = 0 by rw [padM, if_neg (by omega), if_neg (by omega), if_pos (by omega)]]; exact one_cell W _ 0 rfl i hi
      have hL4 : L + 1 + 8 ≤ Z := by omega
      clear hz
      go_wp2_with (at_builtin; refine app_own rfl (.tmp 23) (.tmp 24) rfl _ L (padM m n) rfl (Own.alloc HOW.out _) ⟨_, 0, none⟩ 1 1 rfl (padM m n) (fun _ _ => rfl) (HC.out _) (by omega) ?_; intro v3 w3 h3 hs3; obtain ⟨g3, cap3, hv3, -⟩ := h3.form (by omega); have H3 : Hid (Own w w3 v3 (L + 1) (padM m n)) := h3; clear h3 hs3; rw [hv3] at H3; rw [hv3]; clear hv3)
      exact ⟨⟨L + 1, g3, cap3, by omega, hL4, rfl, H3.out⟩, by simp [lenOf]; omega⟩
end Go.Proofs.YtkeobajlikhghabDoor.Sh
/- The reference's table of constants: what 'k256' answers. -/
namespace Go.Proofs.YtkeobajlikhghabDoor.Sh
open Go Go.RowKit

theorem k_row : (#[.int .u32 1116352408, .int .u32 1899447441, .int .u32 3049323471, .int .u32 3921009573, .int .u32 961987163, .int .u32 1508970993, .int .u32 2453635748, .int .u32 2870763221, .int .u32 3624381080, .int .u32 310598401, .int .u32 607225278, .int .u32 1426881987, .int .u32 1925078388, .int .u32 2162078206, .int .u32 2614888103, .int .u32 3248222580, .int .u32 3835390401, .int .u32 4022224774, .int .u32 264347078, .int .u32 604807628, .int .u32 770255983, .int .u32 1249150122, .int .u32 1555081692, .int .u32 1996064986, .int .u32 2554220882, .int .u32 2821834349, .int .u32 2952996808, .int .u32 3210313671, .int .u32 3336571891, .int .u32 3584528711, .int .u32 113926993, .int .u32 338241895, .int .u32 666307205, .int .u32 773529912, .int .u32 1294757372, .int .u32 1396182291, .int .u32 1695183700, .int .u32 1986661051, .int .u32 2177026350, .int .u32 2456956037, .int .u32 2730485921, .int .u32 2820302411, .int .u32 3259730800, .int .u32 3345764771, .int .u32 3516065817, .int .u32 3600352804, .int .u32 4094571909, .int .u32 275423344, .int .u32 430227734, .int .u32 506948616, .int .u32 659060556, .int .u32 883997877, .int .u32 958139571, .int .u32 1322822218, .int .u32 1537002063, .int .u32 1747873779, .int .u32 1955562222, .int .u32 2024104815, .int .u32 2227730452, .int .u32 2361852424, .int .u32 2428436474, .int .u32 2756734187, .int .u32 3204031479, .int .u32 3329325298] : Array Value) = rowW K256 64 := by kernel_rfl
set_option maxRecDepth 100000 in
set_option maxHeartbeats 1000000 in
theorem k256_any (w : World) : Calls Tryd.prog 74 #[] w fun e w' => e = .returned (.agg (rowW K256 64)) ∧ Below w.heap.size w w' := by
  have HT : Hid ((w.alloc (.cells (List.replicate 64 (Value.int .u32 0)).toArray 107)).there w.heap.size 0 (rowW K256 64).size) := there_of_row (heap_alloc_new _ _) 0 _ (by rw [rowW_size]; simp)
  go_enter Tryd.func74, Tryd.ntmps74
  go_wp2_with (refine wpList_store_mid rfl 107 _ _ rfl w.heap.size 0 (rowW K256 64) rfl (congrArg Value.agg k_row) HT.out (by rw [rowW_size]; kernel_rfl) (by exact rowW_one _ _) ?_)
  refine bodyPost_ret (v := .agg (rowW K256 64)) ?_ rfl ⟨rfl, ?_⟩
  · exact results_mid Tryd.results74 _ _ w.heap.size 0 (rowW K256 64).toList _ rfl (World.rangeAt_setCells_same _ _ _ _ HT.out) Tryd.underlying107 rfl (by rw [Array.length_toList, rowW_size]; kernel_rfl)
  · exact below_setCells _ (Nat.le_refl _) _ _ _ ((Below.refl _ _).alloc (Nat.le_refl _) _)
end Go.Proofs.YtkeobajlikhghabDoor.Sh
