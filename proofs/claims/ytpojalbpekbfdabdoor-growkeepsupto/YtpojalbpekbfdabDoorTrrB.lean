/- The reference: First. -/
import Derived.Test.YtpojalbpekbfdabDoorTrrA
namespace Go.Proofs.YtpojalbpekbfdabDoor
open Go Go.RowKit
set_option linter.unusedSimpArgs false
set_option linter.unusedVariables false
set_option maxRecDepth 100000

theorem or_all : (List.range 8).all (fun r => (List.range 256).all fun g => (List.range 2).all fun z => decide (bits .or .u8 ((g / 2 ^ (8 - r) * 2 ^ (8 - r) : Nat) : Int) ((z * 2 ^ (7 - r) : Nat) : Int) = ((g / 2 ^ (8 - r) * 2 ^ (8 - r) + z * 2 ^ (7 - r) : Nat) : Int))) = true := by kernel_rfl
theorem or_at (g r z : Nat) (hg : g < 256) (hr : r < 8) (hz : z < 2) : bits .or .u8 ((g / 2 ^ (8 - r) * 2 ^ (8 - r) : Nat) : Int) ((z * 2 ^ (7 - r) : Nat) : Int) = ((g / 2 ^ (8 - r) * 2 ^ (8 - r) + z * 2 ^ (7 - r) : Nat) : Int) :=
  of_decide_eq_true (List.all_eq_true.1 (List.all_eq_true.1 (List.all_eq_true.1 or_all r (List.mem_range.2 hr)) g (List.mem_range.2 hg)) z (List.mem_range.2 hz))
theorem fb_next {x : List Int} (h : L32 x) {n : Nat} (hn : n < 256) : (fb x n).set (n / 8) ((gn x (n / 8) / 2 ^ (8 - n % 8) * 2 ^ (8 - n % 8) + bt x n * 2 ^ (7 - n % 8) : Nat) : Int) = fb x (n + 1) := by
  have hl : n / 8 < (fb x n).length := by rw [fb_length]; omega
  refine ext_gi (by rw [List.length_set, fb_length, fb_length]) (fun i hi => ?_)
  rw [List.length_set, fb_length] at hi
  rw [gi_set hl, fb_get x n hi, fb_get x (n + 1) hi, fc_step h n hn i]
  by_cases e : n / 8 = i
  · rw [if_pos e, if_pos e.symm, ← e]
    unfold fc
    rw [if_neg (Nat.lt_irrefl _), if_pos rfl, Int.natCast_add]
  · rw [if_neg e, if_neg (fun q => e q.symm)]
theorem FQ.more {w W W2 : World} {x y r : List Int} (h : FQ w W x y r) (hb : Below W.heap.size W W2) : FQ w W2 x y r :=
  ⟨h.below.trans (hb.mono h.below.size), (hb.block _ (Array.getElem?_eq_some_iff.1 h.a).1).trans h.a, (hb.block _ (Array.getElem?_eq_some_iff.1 h.res).1).trans h.res, (hb.block _ (Array.getElem?_eq_some_iff.1 h.out).1).trans h.out⟩
def frf (n k r D z : Nat) (x : List Int) (c s v : Int) : Nat → Value
  | 0 => .int .i64 (n : Int)
  | 1 => .int .i64 (k : Int)
  | 2 => .int .i64 (n : Int)
  | 3 => .int .i64 (k : Int)
  | 4 => .pointer (some ⟨D + 2, k, none⟩)
  | 5 => .int .u8 c
  | 6 => .agg (bv x).toArray
  | 7 => .int .i64 (n : Int)
  | 8 => .int .u8 (z : Int)
  | 9 => .int .i64 (n : Int)
  | 10 => .int .i64 (r : Int)
  | 11 => .int .i64 (7 - (r : Int))
  | 12 => .int .u64 (7 - (r : Int))
  | 13 => .int .u8 s
  | 14 => .int .u8 v
  | 15 => .pointer (some ⟨D + 2, k, none⟩)
  | 16 => undef
  | _ => undef
set_option maxHeartbeats 4000000 in
theorem rFirst_any (x : List Int) (hx : L32 x) (m : Nat) (hm : m ≤ 256) (w : World) :
    Calls Tryd.prog 47 #[.agg (bv x).toArray, .int .i64 (m : Int)] w fun e w' => e = .returned (.agg (bv (fb x m)).toArray) ∧ Below w.heap.size w w' := by
  have s1 : (bv x).toArray.size = 32 := by simp [bv, hx.len]
  have HX : Hid (L32 x) := hx
  have HQ0 := FQ.start w x
  obtain ⟨A, hA⟩ : ∃ A, (bv x).toArray = A := ⟨_, rfl⟩
  rw [hA] at HQ0 s1 ⊢
  have hz := zero_32
  rw [show List.replicate 32 (0 : Int) = z32 from rfl] at hz
  obtain ⟨Z, hZ⟩ : ∃ Z, (bv z32).toArray = Z := ⟨_, rfl⟩
  rw [hZ] at hz HQ0
  have hZs : Z.size = 32 := by rw [← hZ]; simp [bv, z32]
  clear hx
  go_enter Tryd.func47, Tryd.ntmps47
  go_wp2_with fail
  obtain ⟨W, hW⟩ : ∃ W, (((w.alloc (.cells A 25)).alloc (.cells Z 25)).alloc (.cells Z 25)) = W := ⟨_, rfl⟩
  rw [hW] at HQ0 ⊢
  have Q0 : Hid (FQ w W x (fb x 0) z32) := by rw [fb_zero HX.out]; exact HQ0
  obtain ⟨D, hD⟩ : ∃ D, w.heap.size = D := ⟨_, rfl⟩
  have HD : Hid (w.heap.size = D) := hD
  rw [hD]
  clear hW HQ0 hz hD hA hZ
  go_loopw [8] (fun i wr => ∃ n : Nat, n ≤ m ∧ i = .int .i64 (n : Int) ∧ FQ w wr x (fb x n) z32) (fun i _ => m - (intOf i).toNat)
  case atStart => exact ⟨0, Nat.zero_le _, rfl, Q0.out⟩
  case round =>
    obtain ⟨n, hn, rfl, hq⟩ := hrel
    have QR : Hid (FQ w wr x (fb x n) z32) := hq
    clear hq
    by_cases hlt : n < m
    · obtain ⟨k, hk⟩ : ∃ k : Nat, (n : Int) / 8 = (k : Int) := ⟨n / 8, by omega⟩
      obtain ⟨r, hr⟩ : ∃ r : Nat, (n : Int) % 8 = (r : Int) := ⟨n % 8, by omega⟩
      have htd : Int.tdiv (n : Int) 8 = (k : Int) := by rw [Int.tdiv_eq_ediv_of_nonneg (by omega)]; exact hk
      have htm : Int.tmod (n : Int) 8 = (r : Int) := by rw [Int.tmod_eq_emod_of_nonneg (by omega)]; exact hr
      have hwk : IntKind.i64.wrap (k : Int) = (k : Int) := by rw [IntKind.wrap_i64]; omega
      have hwr : IntKind.i64.wrap (r : Int) = (r : Int) := by rw [IntKind.wrap_i64]; omega
      have hk32 : k < 32 := by omega
      have hr8 : r < 8 := by omega
      obtain ⟨z, hz⟩ : ∃ z, bt x n = z := ⟨_, rfl⟩
      have hz2 : z < 2 := by rw [← hz]; exact bt_le x n
      obtain ⟨c, hc⟩ : ∃ c : Int, ((gn x k / 2 ^ (8 - r) * 2 ^ (8 - r) : Nat) : Int) = c := ⟨_, rfl⟩
      obtain ⟨s, hs'⟩ : ∃ s : Int, ((z * 2 ^ (7 - r) : Nat) : Int) = s := ⟨_, rfl⟩
      obtain ⟨v, hv⟩ : ∃ v : Int, ((gn x k / 2 ^ (8 - r) * 2 ^ (8 - r) + z * 2 ^ (7 - r) : Nat) : Int) = v := ⟨_, rfl⟩
      have hor := or_at (gn x k) r z (HX.out.lt k) hr8 hz2
      rw [hc, hs', hv] at hor
      have HC : Hid (gi (fb x n) k = c) := by
        show gi (fb x n) k = c
        rw [fb_get x n hk32, ← hc]; unfold fc
        rw [if_neg (by omega), if_pos (by omega), show n % 8 = r by omega]
      have HNX : Hid ((fb x n).set k v = fb x (n + 1)) := by
        show (fb x n).set k v = fb x (n + 1)
        have := fb_next HX.out (n := n) (by omega)
        rw [show n / 8 = k by omega, show n % 8 = r by omega, hz, hv] at this; exact this
      have HBT : Hid (∀ W : World, Calls Tryd.prog 50 #[.agg (bv x).toArray, .int .i64 (n : Int)] W fun e w' => e = .returned (.int .u8 (z : Int)) ∧ Below W.heap.size W w') := fun W => by rw [← hz]; exact rBit_any x HX.out n (by omega) W
      have hz7 : z * 2 ^ (7 - r) ≤ 128 := by
        have h7 : 2 ^ (7 - r) ≤ 2 ^ 7 := Nat.pow_le_pow_right (by decide) (by omega)
        have : z * 2 ^ (7 - r) ≤ 1 * 2 ^ 7 := Nat.mul_le_mul (by omega) h7
        omega
      have HSV : Hid (IntKind.u8.wrap ((z : Int) * 2 ^ (7 - r)) = s) := by
        show _ = s
        rw [← hs', IntKind.wrap_u8, Int.natCast_mul, Int.natCast_pow]
        have e : (z : Int) * ((2 : Nat) : Int) ^ (7 - r) = ((z * 2 ^ (7 - r) : Nat) : Int) := by rw [Int.natCast_mul, Int.natCast_pow]
        rw [show ((2 : Int)) = ((2 : Nat) : Int) from rfl, e]; omega
      clear hc hs' hv hz
      go_wp2_with fail
      refine RU.wp_rgn' [16] (frf n k r D z x c s v) (fun _ => 0) (f4Ω w x (fb x n) (fb x (n + 1))) (by kernel_rfl) (by kernel_rfl) QR.out.drew ?_ ?_
      · refine ⟨?_, ?_, ?_, ?_, ?_, ?_, ?_, ?_, ?_, ?_, ?_, ?_, ?_, ?_, ?_, ?_, ?_, trivial⟩
        · refine RU.ObT.pure rfl rfl rfl (fun a V hf hp ev he hc W => ?_)
          have q6 : ev (.tmp 6) = .int .i64 (n : Int) := (he (.tmp 6)).trans (hf 6 rfl)
          simp only [List.getElem_toArray, List.getElem_cons_succ, List.getElem_cons_zero, execOp, Option.map_some, Option.map_none]; rw [q6]
          first | (go_simp; done) | (go_simp; rfl) | rfl
        · refine RU.ObT.pure rfl rfl rfl (fun a V hf hp ev he hc W => ?_)
          have q11 : ev (.tmp 11) = .int .i64 (n : Int) := (he (.tmp 11)).trans (hp 0 11 rfl)
          simp only [List.getElem_toArray, List.getElem_cons_succ, List.getElem_cons_zero, execOp, Option.map_some, Option.map_none]; rw [q11]
          try simp only [hc]
          first | (go_simp; done) | (go_simp; rfl) | rfl
        · refine RU.ObT.pure rfl rfl rfl (fun a V hf hp ev he hc W => ?_)
          have q6 : ev (.tmp 6) = .int .i64 (n : Int) := (he (.tmp 6)).trans (hf 6 rfl)
          simp only [List.getElem_toArray, List.getElem_cons_succ, List.getElem_cons_zero, execOp, Option.map_some, Option.map_none]; rw [q6]
          first | (go_simp; done) | (go_simp; rfl) | rfl
        · refine RU.ObT.pure rfl rfl rfl (fun a V hf hp ev he hc W => ?_)
          have q13 : ev (.tmp 13) = .int .i64 (n : Int) := (he (.tmp 13)).trans (hp 2 13 rfl)
          simp only [List.getElem_toArray, List.getElem_cons_succ, List.getElem_cons_zero, execOp, Option.map_some, Option.map_none]; rw [q13]
          try simp only [hc]
          first | (go_simp; done) | (go_simp; rfl) | rfl
        · refine RU.ObT.pure rfl rfl rfl (fun a V hf hp ev he hc W => ?_)
          have q5 : ev (.tmp 5) = .pointer (some ⟨D + 2, 0, none⟩) := (he (.tmp 5)).trans (hf 5 rfl)
          have q14 : ev (.tmp 14) = .int .i64 (k : Int) := (he (.tmp 14)).trans (hp 3 14 rfl)
          simp only [List.getElem_toArray, List.getElem_cons_succ, List.getElem_cons_zero, execOp, Option.map_some, Option.map_none]; rw [q5, q14]
          have hk2 : (k : Int) < 32 := by omega
          first | (go_simp; done) | (go_simp; rfl) | rfl
        · refine RU.ObT.silent rfl (fun a W k0 V hO hf hp hk => ?_)
          have hO1 : FQ w W x (fb x n) z32 := by cases k0 with | zero => exact hO | succ q => exact absurd hk (by simp)
          have ho := hO1.out
          rw [HD.out] at ho
          have hcell := blk_cell ho (i := k) (by rw [fb_length]; omega)
          rw [HC.out] at hcell
          refine RU.ob_val rfl (RU.wanted_none rfl) (fun ev he hc => ?_) ⟨rfl, hO⟩
          have q15 : ev (.tmp 15) = .pointer (some ⟨D + 2, k, none⟩) := (he (.tmp 15)).trans (hp 4 15 rfl)
          simp only [List.getElem_toArray, List.getElem_cons_succ, List.getElem_cons_zero, execOp, Option.map_some, Option.map_none]; rw [q15]
          first | (go_simp; done) | (go_simp; rfl) | rfl
        · refine RU.ObT.silent rfl (fun a W k0 V hO hf hp hk => ?_)
          have hO1 : FQ w W x (fb x n) z32 := by cases k0 with | zero => exact hO | succ q => exact absurd hk (by simp)
          have q2 : a.eval (.tmp 2) = .pointer (some ⟨D, 0, none⟩) := hf 2 rfl
          exact RU.ob_op rfl (RU.wanted_none rfl) (wp_load_mid 25 (.tmp 2) rfl (D) (0) q2 (bv x) _ (by have := hO1.a; rw [HD.out] at this; exact blk_range this) Tryd.underlying25 rfl (size_l32 HX.out) ⟨rfl, hO⟩)
        · refine RU.ObT.pure rfl rfl rfl (fun a V hf hp ev he hc W => ?_)
          have q6 : ev (.tmp 6) = .int .i64 (n : Int) := (he (.tmp 6)).trans (hf 6 rfl)
          simp only [List.getElem_toArray, List.getElem_cons_succ, List.getElem_cons_zero, execOp, Option.map_some, Option.map_none]; rw [q6]
          first | (go_simp; done) | (go_simp; rfl) | rfl
        · refine RU.ObT.silent rfl (fun a W k0 V hO hf hp hk => ?_)
          have hO1 : FQ w W x (fb x n) z32 := by cases k0 with | zero => exact hO | succ q => exact absurd hk (by simp)
          have e17 : a.eval (.tmp 17) = .agg (bv x).toArray := hp 6 17 rfl
          have e18 : a.eval (.tmp 18) = .int .i64 (n : Int) := hp 7 18 rfl
          refine RU.ob_call (g := 50) (args := #[.agg (bv x).toArray, .int .i64 (n : Int)]) rfl (RU.wanted_none rfl) (fun ev he hc => ?_) ((HBT.out W).mono ?_)
          · have h17 := (he (.tmp 17)).trans e17
            have h18 := (he (.tmp 18)).trans e18
            have hfn := he (.func 50)
            simp only [List.getElem_toArray, List.getElem_cons_succ, List.getElem_cons_zero, execOp, Option.map_some, Option.map_none]
            simp only [resolve, invoke, Sem.run_bind, Sem.run_pure, Result.andThen_ok, List.map_toArray, List.map_cons, List.map_nil, h17, h18, hfn, Act.eval, hc]
            rfl
          · rintro e' W3 ⟨rfl, hb2⟩
            exact ⟨_, rfl, rfl, by cases k0 with | zero => exact (hO1.more hb2 : FQ w W3 x (fb x n) z32) | succ q => exact absurd hk (by simp)⟩
        · refine RU.ObT.pure rfl rfl rfl (fun a V hf hp ev he hc W => ?_)
          have q6 : ev (.tmp 6) = .int .i64 (n : Int) := (he (.tmp 6)).trans (hf 6 rfl)
          simp only [List.getElem_toArray, List.getElem_cons_succ, List.getElem_cons_zero, execOp, Option.map_some, Option.map_none]; rw [q6]
          first | (go_simp; done) | (go_simp; rfl) | rfl
        · refine RU.ObT.pure rfl rfl rfl (fun a V hf hp ev he hc W => ?_)
          have q20 : ev (.tmp 20) = .int .i64 (n : Int) := (he (.tmp 20)).trans (hp 9 20 rfl)
          simp only [List.getElem_toArray, List.getElem_cons_succ, List.getElem_cons_zero, execOp, Option.map_some, Option.map_none]; rw [q20]
          try simp only [hc]
          first | (go_simp; done) | (go_simp; rfl) | rfl
        · refine RU.ObT.pure rfl rfl rfl (fun a V hf hp ev he hc W => ?_)
          have q21 : ev (.tmp 21) = .int .i64 (r : Int) := (he (.tmp 21)).trans (hp 10 21 rfl)
          simp only [List.getElem_toArray, List.getElem_cons_succ, List.getElem_cons_zero, execOp, Option.map_some, Option.map_none]; rw [q21]
          try simp only [hc]
          have hw7 : IntKind.i64.wrap (7 - (r : Int)) = 7 - (r : Int) := by rw [IntKind.wrap_i64]; omega
          first | (go_simp; done) | (go_simp; rfl) | rfl
        · refine RU.ObT.pure rfl rfl rfl (fun a V hf hp ev he hc W => ?_)
          have q22 : ev (.tmp 22) = .int .i64 (7 - (r : Int)) := (he (.tmp 22)).trans (hp 11 22 rfl)
          simp only [List.getElem_toArray, List.getElem_cons_succ, List.getElem_cons_zero, execOp, Option.map_some, Option.map_none]; rw [q22]
          have hw7 : IntKind.u64.wrap (7 - (r : Int)) = 7 - (r : Int) := by rw [IntKind.wrap_u64]; omega
          first | (go_simp; done) | (go_simp; rfl) | rfl
        · refine RU.ObT.pure rfl rfl rfl (fun a V hf hp ev he hc W => ?_)
          have q19 : ev (.tmp 19) = .int .u8 (z : Int) := (he (.tmp 19)).trans (hp 8 19 rfl)
          have q23 : ev (.tmp 23) = .int .u64 (7 - (r : Int)) := (he (.tmp 23)).trans (hp 12 23 rfl)
          simp only [List.getElem_toArray, List.getElem_cons_succ, List.getElem_cons_zero, execOp, Option.map_some, Option.map_none]; rw [q19, q23]
          go_simp; rw [HSV.out]; rfl
        · refine RU.ObT.pure rfl rfl rfl (fun a V hf hp ev he hc W => ?_)
          have q16 : ev (.tmp 16) = .int .u8 c := (he (.tmp 16)).trans (hp 5 16 rfl)
          have q24 : ev (.tmp 24) = .int .u8 s := (he (.tmp 24)).trans (hp 13 24 rfl)
          simp only [List.getElem_toArray, List.getElem_cons_succ, List.getElem_cons_zero, execOp, Option.map_some, Option.map_none]; rw [q16, q24]
          first | (go_simp; done) | (go_simp; rfl) | rfl
        · refine RU.ObT.pure rfl rfl rfl (fun a V hf hp ev he hc W => ?_)
          have q5 : ev (.tmp 5) = .pointer (some ⟨D + 2, 0, none⟩) := (he (.tmp 5)).trans (hf 5 rfl)
          have q12 : ev (.tmp 12) = .int .i64 (k : Int) := (he (.tmp 12)).trans (hp 1 12 rfl)
          simp only [List.getElem_toArray, List.getElem_cons_succ, List.getElem_cons_zero, execOp, Option.map_some, Option.map_none]; rw [q5, q12]
          have hk2 : (k : Int) < 32 := by omega
          first | (go_simp; done) | (go_simp; rfl) | rfl
        · refine RU.ObT.loud (j := 0) rfl (fun a W' V hO hf hp => ?_)
          have q24 : a.eval (.tmp 26) = .pointer (some ⟨D + 2, k, none⟩) := hp 15 26 rfl
          have q23 : a.eval (.tmp 25) = .int .u8 v := hp 14 25 rfl
          have hO1 : FQ w W' x (fb x n) z32 := hO
          have ho := hO1.out
          rw [HD.out] at ho
          have hcell := blk_cell ho (i := k) (by rw [fb_length]; omega)
          have hfr : W'.frozen? ⟨D + 2, k, none⟩ = false := by unfold World.frozen?; rw [ho]; simp
          refine RU.ob_skip (w' := W'.setCell ⟨D + 2, k, none⟩ (.int .u8 v)) rfl (RU.wanted_none rfl) (fun ev he hc => ?_) ⟨_, rfl, ?_⟩
          · have e1 := (he (.tmp 26)).trans q24
            have e2 := (he (.tmp 25)).trans q23
            simp only [List.getElem_toArray, List.getElem_cons_succ, List.getElem_cons_zero, execOp]
            rw [e1, e2]
            go_simp
          · show FQ w _ x (fb x (n + 1)) z32
            rw [← HNX.out]
            refine hO1.put ?_ ?_
            · rw [HD.out]
              exact ⟨rfl, rfl, rfl, by simp [World.setCell], fun j _ hj => Below.heap_setCell _ _ _ j (fun e => hj (by rw [e]))⟩
            · rw [HD.out, heap_setCell_same _ _ _ _ _ _ ho, List.setIfInBounds_toArray]
              unfold bv; rw [List.map_set]
      intro W2 VW2 hOW2
      have Q2 : Hid (FQ w W2 x (fb x (n + 1)) z32) := hOW2
      clear hOW2
      simp only [RU.lay, RU.val, RU.at', frf, Act.put]
      simp only [List.setIfInBounds_toArray, List.set_cons_succ, List.set_cons_zero]
      go_wp2_with fail
      exact ⟨⟨n + 1, hlt, by go_num, Q2.out⟩, by simp [intOf]; omega⟩
    · obtain rfl : n = m := by omega
      have R2 : Hid (wr.rangeAt (D + 2) 0 (bv (fb x n))) := by have := QR.out.out; rw [HD.out] at this; exact blk_range this
      have T1 : Hid (wr.there (D + 1) 0 32) := by have := QR.out.res; rw [HD.out] at this; exact there_of_row' this 0 32 (by rw [List.size_toArray, bv_length, z32_l32.len]; omega)
      go_upto_region 7 with (fail)
      refine wp_region_list ?_
      refine load_g rfl 25 (.tmp 5) rfl (D + 2) 0 rfl (bv (fb x n)) _ R2.out Tryd.underlying25 rfl (size_l32 (fb_l32 HX.out n)) ?_
      refine wpList_store_mid rfl 25 (.tmp 4) (.tmp 28) rfl (D + 1) 0 (bv (fb x n)).toArray rfl rfl (by rw [List.size_toArray, bv_length, fb_length]; exact T1.out) (by rw [List.size_toArray]; exact size_l32 (fb_l32 HX.out n)) (bv_one' _) ?_
      simp only [List.toList_toArray]
      go_wp2_with fail
      have q : (wr.setCells (D + 1) 0 (bv (fb x n))).rangeAt (D + 1) 0 (bv (fb x n)) := World.rangeAt_setCells_same _ _ _ _ (by rw [bv_length, fb_length]; exact T1.out)
      have hbl : Below w.heap.size w (wr.setCells (D + 1) 0 (bv (fb x n))) := below_setCells (by rw [HD.out]; omega) _ _ QR.out.below
      refine bodyPost_ret (v := .agg (bv (fb x n)).toArray) ?_ rfl ⟨rfl, hbl⟩
      simp only [results, Tryd.results47]
      simp [Act.put, asAddr, run_loadVar_mid _ (D + 1) 0 25 (bv (fb x n)) _ q Tryd.underlying25 rfl (size_l32 (fb_l32 HX.out n))]
end Go.Proofs.YtpojalbpekbfdabDoor
