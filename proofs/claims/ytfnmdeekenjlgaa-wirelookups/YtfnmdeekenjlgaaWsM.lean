/- The reference: readHashes, readNodes, ReadLinks. -/
import Derived.Test.YtfnmdeekenjlgaaWsL
import Derived.Test.YtfnmdeekenjlgaaWrtJ
namespace Go.Proofs.Ytfnmdeekenjlgaa
open Go Go.RowKit
set_option linter.unusedSimpArgs false
set_option linter.unusedVariables false
set_option maxRecDepth 100000

def rdh (e : Nat) (xs : List Int) : List (List Int) := if xs.length % (32 * e) = 0 then (List.range (xs.length / 32)).map (dvAt xs) else []
theorem cut_sl {w : World} {b o : Nat} {xs : List Int} (hlt : b < w.heap.size) (h : ∀ i, i < xs.length → w.cell? ⟨b, o + i, none⟩ = some (.int .u8 (gi xs i))) {off n c : Nat} (hn : off + n ≤ xs.length) (hc : n ≤ c) : Sl w (.slice (some ⟨b, o + off, none⟩) n c) (cut xs off n) := by
  have hl : (cut xs off n).length = n := by simp [cut]; omega
  exact ⟨_, c, by rw [hl], by rw [hl]; exact hc, .inr ⟨b, o + off, rfl, hlt, fun i hi => cut_range h hn i _ (bv_get _ hi)⟩⟩
theorem zero_32' (w : World) : (zeroValue 23).run Try.prog w = .ok (.agg (bv z32).toArray) w := zero_32 w
theorem row_l32 {x : List Int} (h : L32 x) (w : World) : (w.alloc (.cells (bv z32).toArray 23)).there w.heap.size 0 (bv x).toArray.size := there_new w (by simp [bv_length, h.len, z32])
set_option maxHeartbeats 4000000 in
theorem rreadHashes_any (e : Nat) (he : 1 ≤ e) (he3 : e ≤ 3) (xs : List Int) (v : Value) (w : World) (hb : Byt xs) (hs : Sl w v xs) (hl : xs.length ≤ 1048576) :
    Calls Try.prog 36 #[v, .int .i64 (e : Int)] w fun e' w' => ∃ v', e' = .returned (.tuple #[v', .bool (decide (xs.length % (32 * e) = 0))]) ∧ YO w.heap.size w' v' (rdh e xs) ∧ Below w.heap.size w w' := by
  obtain ⟨ad, cap, rfl, hc, hx⟩ := hs
  have HB : Hid (Byt xs) := hb
  obtain ⟨E, hE⟩ : ∃ E : Nat, 32 * e = E := ⟨_, rfl⟩
  have hw0 : IntKind.i64.wrap (32 * (e : Int)) = (E : Int) := by rw [IntKind.wrap_i64]; omega
  have hE0 : ¬ (E : Int) = 0 := by omega
  by_cases h0 : xs.length % E = 0
  · obtain ⟨m, hm⟩ : ∃ m, xs.length = m * 32 := ⟨xs.length / 32, by
      have h1 : xs.length % 32 = 0 := by
        have : 32 ∣ xs.length := Nat.dvd_trans ⟨e, hE.symm⟩ (Nat.dvd_of_mod_eq_zero h0)
        exact Nat.mod_eq_zero_of_dvd this
      omega⟩
    have e1 : rdh e xs = (List.range m).map (dvAt xs) := by unfold rdh; rw [hE, if_pos h0, show xs.length / 32 = m by omega]
    have e2 : decide (xs.length % (32 * e) = 0) = true := by rw [hE]; exact decide_eq_true h0
    rw [e1, e2]
    obtain ⟨b, o, hxx⟩ := sl_lies (n := 0) hx
    have HXX : Hid (0 < xs.length → ad = some ⟨b, o, none⟩ ∧ b < w.heap.size ∧ ∀ i, i < xs.length → w.cell? ⟨b, o + i, none⟩ = some (.int .u8 (gi xs i))) := hxx
    obtain ⟨M, hM⟩ : ∃ M, m * 32 = M := ⟨_, rfl⟩
    have HM : Hid (xs.length = m * 32) := hm
    have HMM : Hid (m * 32 = M) := hM
    have h1 : Int.tmod (M : Int) (E : Int) = 0 := by rw [Int.tmod_eq_emod_of_nonneg (by omega), ← hM, ← hm]; omega
    rw [hm, hM] at hc hl ⊢
    have HC : Hid (M ≤ cap ∧ M ≤ 1048576) := ⟨hc, hl⟩
    clear hx hb e1 e2 hxx hm hM h0 hE hc
    have hz := zero_32'
    go_enter Try.func36, Try.ntmps36
    go_wp2_with fail
    clear h1 hw0 hE0
    go_loopw [6, 7] (fun ov i wr => ∃ k : Nat, k ≤ m ∧ i = .int .i64 ((k * 32 : Nat) : Int) ∧ YO w.heap.size wr ov ((List.range k).map (dvAt xs)) ∧ Below w.heap.size w wr) (fun _ i _ => M - (intOf i).toNat)
    case atStart => exact ⟨0, Nat.zero_le _, rfl, YO.nil _, Below.refl _ _⟩
    case round =>
      obtain ⟨k, hkn, rfl, h1, h2⟩ := hrel
      have O1 : Hid (YO w.heap.size wr u6 ((List.range k).map (dvAt xs))) := h1
      have B1 : Hid (Below w.heap.size w wr) := h2
      clear h1 h2
      by_cases hlt : k < m
      · have hkc : k * 32 + 32 ≤ xs.length := by rw [HM.out]; omega
        obtain ⟨had, hlb, hcl⟩ := HXX.out (by omega)
        subst had
        have HX : Hid (L32 (dvAt xs k)) := dvAt_ok HB.out hkc
        obtain ⟨x, hxe⟩ : ∃ x, dvAt xs k = x := ⟨_, rfl⟩
        have HXE : Hid (dvAt xs k = x) := hxe
        have HSL : Hid (Sl wr (.slice (some ⟨b, o + k * 32, none⟩) 32 (cap - k * 32)) x) := by
          rw [← hxe]
          exact (cut_sl hlb hcl (by omega) (by have := HC.out.1; have := HMM.out; omega)).below B1.out (Nat.le_refl _)
        rw [hxe] at HX
        have HRN : Hid ((List.range (k + 1)).map (dvAt xs) = (List.range k).map (dvAt xs) ++ [x]) := by show _ = _; rw [List.range_succ, List.map_append, ← hxe]; rfl
        have HKM : Hid (k * 32 + 32 ≤ M) := by show _ ≤ _; rw [← HMM.out]; omega
        obtain ⟨K, hK⟩ : ∃ K, k * 32 = K := ⟨_, rfl⟩
        have HK : Hid (k * 32 = K) := hK
        rw [hK] at HSL HKM ⊢
        have hKM := HKM.out
        have hc := HC.out.1
        have hw1 : IntKind.i64.wrap ((K : Int) + 32) = ((K + 32 : Nat) : Int) := by rw [IntKind.wrap_i64]; omega
        have h3 : (K : Int) < (M : Int) := by omega
        clear hxe hcl hlb hK hkc
        obtain ⟨X, hX⟩ : ∃ X, (bv x).toArray = X := ⟨_, rfl⟩
        have HXA : Hid ((bv x).toArray = X) := hX
        have HL0 : Hid (((List.range k).map (dvAt xs)).length + [x].length ≤ 4400000000000) := by
          show _ ≤ _
          rw [List.length_map, List.length_range]
          have := HMM.out
          simp only [List.length_cons, List.length_nil]; omega
        obtain ⟨L, hL⟩ : ∃ L, (List.range k).map (dvAt xs) = L := ⟨_, rfl⟩
        rw [hL] at O1 HRN HL0
        clear hL
        go_upto_region 8 with (first
          | (go_at_call 65; refine (rhash_into x _ wr HSL.out (by have := HX.out.len; omega)).mono ?_; rintro e9 w9 ⟨rfl, h9⟩; have B9 : Hid (Below wr.heap.size wr w9) := h9; clear h9; rw [HX.out.len, into32_same HX.out.len, hX])
          | (refine wpList_store_mid rfl 23 (.tmp 8) (.tmp 29) rfl w9.heap.size 0 (bv x).toArray rfl (by rw [HXA.out]; rfl) (row_l32 HX.out w9) (by rw [List.size_toArray]; exact size_l32 HX.out) (bv_one' x) ?_; simp only [List.toList_toArray]))
        obtain ⟨U, hU⟩ : ∃ U, (w9.alloc (.cells (bv z32).toArray 23)).setCells w9.heap.size 0 (bv x) = U := ⟨_, rfl⟩
        rw [hU]
        obtain ⟨r1, r2, r3⟩ := laid_row (by simp [bv_length, HX.out.len, z32]) (by rw [bv_length, HX.out.len]; omega) hU
        have RE : Hid (U.rangeAt w9.heap.size 0 (bv x)) := r1
        have BU : Hid (Below w.heap.size w U) := B1.out.trans ((B9.out.mono B1.out.size).trans (r2.mono (Nat.le_trans B1.out.size B9.out.size)))
        have OU : Hid (YO w.heap.size U u6 L) := (O1.out.below B9.out).below r2
        obtain ⟨D, hD⟩ : ∃ D, w9.heap.size = D := ⟨_, rfl⟩
        rw [hD] at RE ⊢
        clear r1 r2 r3 hU hX B9 hD
        go_wp2_with (first
          | (refine wpList_load_mid rfl 23 (.tmp 8) rfl D 0 rfl (bv x) _ RE.out Try.underlying23 rfl (size_l32 HX.out) ?_)
          | (refine wpList_oney rfl (.tmp 32) rfl x HX.out rfl ?_)
          | (at_builtin; refine wp_appy rfl (.tmp 31) (.tmp 33) rfl rfl w.heap.size u6 (.slice (some ⟨U.heap.size, 0, none⟩) 1 1) L [x] rfl rfl (OU.out.alloc _) (fun z hz => by simp at hz; subst hz; exact HX.out) (ys_one U x _) HL0.out ?_; intro v6 w6 g1 g2; have O6 : Hid (YO w.heap.size w6 v6 ((List.range (k + 1)).map (dvAt xs))) := (HRN.out.symm ▸ g1); have G6 : Hid (Below w.heap.size w w6) := (BU.out.alloc BU.out.size _).trans g2; clear g1 g2))
        exact ⟨⟨k + 1, hlt, by rw [Nat.add_mul, HK.out]; rfl, O6.out, G6.out⟩, by simp [intOf]; omega⟩
      · obtain rfl : k = m := by omega
        have h3 : ¬ ((k * 32 : Nat) : Int) < (M : Int) := by rw [HMM.out]; omega
        go_wp2_with fail
        go_ret2
        exact ⟨_, rfl, O1.out, B1.out⟩
  · have e1 : rdh e xs = [] := by unfold rdh; rw [hE, if_neg h0]
    have e2 : decide (xs.length % (32 * e) = 0) = false := by rw [hE]; exact decide_eq_false h0
    rw [e1, e2]
    obtain ⟨M, hM⟩ : ∃ M, xs.length = M := ⟨_, rfl⟩
    rw [hM] at hc hl h0 ⊢
    have h1 : ¬ Int.tmod (M : Int) (E : Int) = 0 := by rw [Int.tmod_eq_emod_of_nonneg (by omega)]; omega
    clear hx hb e1 e2 hM
    go_enter Try.func36, Try.ntmps36
    go_wp2_with fail
    go_ret2
    exact ⟨_, rfl, YO.nil _, Below.refl _ _⟩
end Go.Proofs.Ytfnmdeekenjlgaa
