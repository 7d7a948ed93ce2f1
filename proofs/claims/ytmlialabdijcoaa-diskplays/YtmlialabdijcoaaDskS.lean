/- The reference's Read. -/
import Derived.Test.YtmlialabdijcoaaDskR
import Derived.Test.YtmlialabdijcoaaDskN
namespace Go.Proofs.Ytmlialabdijcoaa
open Go Go.RowKit
set_option linter.unusedSimpArgs false
set_option linter.unusedVariables false
set_option maxRecDepth 100000

variable {F : Nat → Prop} {w : World} {g : Nat} {s : Dk} {gs : Nat} {wv : Value} {fz : Int}
/-- Within Read: the disk, and two rows. -/
def RR (F : Nat → Prop) (w W : World) (g : Nat) (s : Dk) (gs : Nat) (wv : Value) (fz : Int) (b4 b6 : Nat) (x : List Int) : Prop := QX F W g s gs wv fz ∧ Below w.heap.size w W ∧ Rw W b4 z64 ∧ Rw W b6 x ∧ w.heap.size ≤ b4 ∧ w.heap.size ≤ b6 ∧ b4 ≠ b6 ∧ ¬ F b6
theorem RR.put {W : World} {b4 b6 : Nat} {x y : List Int} (h : RR F w W g s gs wv fz b4 b6 x) (hy : y.length = 64) : RR F w (W.setCells b6 0 (bv y)) g s gs wv fz b4 b6 y := by
  obtain ⟨h1, h2, h3, h4, h5, h6, h7, h8⟩ := h
  have hne : ∀ c, c ≠ b6 → (W.setCells b6 0 (bv y)).heap[c]? = W.heap[c]? := fun c hc => heap_past b6 c hc _ _ _
  refine ⟨h1.keep (by rw [size_setCells]; exact Nat.le_refl _) (fun c hc => hne c (fun e => h8 (by rw [← e]; exact hc))), below_setCells b6 h6 _ _ _ h2, h3.keep (hne b4 h7), ⟨hy, World.there_setCells h4.there _ _ _, World.rangeAt_setCells_same _ _ _ _ (by rw [bv_length, hy]; exact h4.there)⟩, h5, h6, h7, h8⟩
theorem RR.start {W1 W : World} {b4 : Nat} {x : List Int} (h1 : QX F W1 g s gs wv fz) (h2 : Below w.heap.size w W1) (h3 : Rw W1 b4 z64) (h4 : w.heap.size ≤ b4) (h5 : b4 < W1.heap.size) (hx : x.length = 64) (eW : (W1.alloc (.cells (bv z64).toArray 35)).setCells W1.heap.size 0 (bv x) = W) : RR F w W g s gs wv fz b4 W1.heap.size x := by
  have L := (laid hx eW).out
  have S0 := (sec_start (w := W1) rfl).out
  have ht : W.there W1.heap.size 0 64 := by rw [← eW]; exact World.there_setCells S0.1 _ _ _
  exact ⟨h1.keep L.1.size (fun b hb' => L.1.block b (h1.Flt b hb')), h2.trans (L.1.mono h2.size), h3.keep (L.1.block _ h5), ⟨hx, ht, L.2.1⟩, h4, h2.size, by omega, fun hf => by have := h1.Flt _ hf; omega⟩
theorem row_z64 {w W : World} (eW : w.alloc (.cells (bv z64).toArray 35) = W) : Rw W w.heap.size z64 := by
  have h := (sec_start eW).out
  refine ⟨z64_length, h.1, ?_⟩
  rw [← eW]; exact rangeAt_alloc w (bv z64) _
set_option maxHeartbeats 4000000 in
theorem rread_QX (h : QX F w g s gs wv fz) (i : Int) :
    Calls Try.prog 18 #[.pointer (some ⟨g, 0, none⟩), .int .i64 i] w fun e w' => e = .returned (.tuple #[.agg (bv (rdV s i)).toArray, .int .i64 (rdE s i)]) ∧ Below w.heap.size w w' := by
  have H : Hid (QX F w g s gs wv fz) := h
  clear h
  have hz := zero_sec
  have hbz := build_sec
  have S0 : Hid ((w.alloc (.cells (bv z64).toArray 35)).there w.heap.size 0 64 ∧ Below w.heap.size w (w.alloc (.cells (bv z64).toArray 35)) ∧ (w.alloc (.cells (bv z64).toArray 35)).heap.size = w.heap.size + 1) := sec_start rfl
  have H0 : Hid (QX F (w.alloc (.cells (bv z64).toArray 35)) g s gs wv fz) := H.out.keep S0.out.2.1.size (fun b hb => S0.out.2.1.block b (H.out.Flt b hb))
  have R0 : Hid (Rw (w.alloc (.cells (bv z64).toArray 35)) w.heap.size z64) := row_z64 rfl
  obtain ⟨k0, k1, -, -, k4⟩ := H0.out.db.cells
  cases hh : hasB s.n i with
  | false =>
    have fin : ∀ W, W = w.alloc (.cells (bv z64).toArray 35) → Below w.heap.size w (W.setCells w.heap.size 0 (bv z64)) ∧ (W.setCells w.heap.size 0 (bv z64)).rangeAt w.heap.size 0 (bv z64) := by
      rintro W rfl
      exact ⟨below_setCells _ (Nat.le_refl _) _ _ _ S0.out.2.1, World.rangeAt_setCells_same _ _ _ _ (there_sec z64_length S0.out.1)⟩
    by_cases h1 : i < 0
    · go_enter Try.func18, Try.ntmps18
      go_wp2_with (refine wpList_store_mid rfl 35 _ _ rfl w.heap.size 0 (bv z64).toArray rfl rfl (there_sec z64_length S0.out.1) (size_sec z64_length) (bv_one' _) ?_)
      obtain ⟨e1, q⟩ := fin _ rfl
      refine bodyPost_ret (v := .tuple #[.agg (bv z64).toArray, .int .i64 1]) ?_ rfl ⟨by simp [rdV, rdE, hh], e1⟩
      simp only [results, Try.results18]
      simp [asAddr, run_loadVar_mid _ w.heap.size 0 35 (bv z64) _ q Try.underlying35 rfl (by rw [bv_length, z64_length]; exact size64)]
    · have h2 : i ≥ (s.n : Int) := by
        unfold hasB at hh
        simp only [Bool.and_eq_false_iff, decide_eq_false_iff_not] at hh
        omega
      go_enter Try.func18, Try.ntmps18
      go_wp2_with (refine wpList_store_mid rfl 35 _ _ rfl w.heap.size 0 (bv z64).toArray rfl rfl (there_sec z64_length S0.out.1) (size_sec z64_length) (bv_one' _) ?_)
      obtain ⟨e1, q⟩ := fin _ rfl
      refine bodyPost_ret (v := .tuple #[.agg (bv z64).toArray, .int .i64 1]) ?_ rfl ⟨by simp [rdV, rdE, hh], e1⟩
      simp only [results, Try.results18]
      simp [asAddr, run_loadVar_mid _ w.heap.size 0 35 (bv z64) _ q Try.underlying35 rfl (by rw [bv_length, z64_length]; exact size64)]
  | true =>
    have hin : ((i.toNat : Nat) : Int) = i ∧ i.toNat < s.n := by
      unfold hasB at hh
      simp only [Bool.and_eq_true, decide_eq_true_eq] at hh
      omega
    have HI : Hid (((i.toNat : Nat) : Int) = i ∧ i.toNat < s.n) := hin
    have h1 : ¬ i < 0 := by omega
    have h2 : ¬ i ≥ (s.n : Int) := by omega
    have h3 : 0 ≤ i := by omega
    have h4 : i < (s.n : Int) := by omega
    clear hin
    cases hdn : s.dn with
    | true =>
      rw [hdn] at k4
      go_enter Try.func18, Try.ntmps18
      go_wp2_with (refine wpList_store_mid rfl 35 _ _ rfl w.heap.size 0 (bv z64).toArray rfl rfl (there_sec z64_length S0.out.1) (size_sec z64_length) (bv_one' _) ?_)
      refine bodyPost_ret (v := .tuple #[.agg (bv z64).toArray, .int .i64 9]) ?_ rfl ⟨by simp [rdV, rdE, hh, hdn], below_setCells _ (Nat.le_refl _) _ _ _ S0.out.2.1⟩
      have q := World.rangeAt_setCells_same _ w.heap.size 0 (bv z64) (there_sec z64_length S0.out.1)
      simp only [results, Try.results18]
      simp [asAddr, run_loadVar_mid _ w.heap.size 0 35 (bv z64) _ q Try.underlying35 rfl (by rw [bv_length, z64_length]; exact size64)]
    | false =>
      rw [hdn] at k4
      obtain ⟨ad, cap, hv, hcap, hn0, -⟩ := H0.out.wb.shape
      subst hv
      have hle := H0.out.wb.le
      have HL : Hid ((s.st i.toNat).length = 64) := H0.out.sb.len _ HI.out.2
      have HLK : Hid (∀ k, (look s.st (s.wt.take k) i.toNat).length = 64) := fun k => look_len H0.out.sb.len (fun q hq => H0.out.wb.ok q (List.mem_of_mem_take hq)) _ HI.out.2
      go_enter Try.func18, Try.ntmps18
      go_wp2_with (first
        | (refine wpList_load_mid rfl 35 _ rfl gs (i.toNat * 64) rfl (bv (s.st i.toNat)) _ (H0.out.sb.at' _ HI.out.2) Try.underlying35 rfl (by rw [bv_length, HL.out]; exact size64) ?_; generalize hw1 : w.alloc _ = w1 at S0 H0 R0 k0 k1 k4 ⊢; clear hw1)
        | (refine wpList_store_mid rfl 35 _ _ rfl w1.heap.size 0 (bv (s.st i.toNat)).toArray rfl rfl (lay_there w1 HL.out) (size_sec HL.out) (bv_one' _) ?_; generalize hW2 : World.setCells _ _ _ _ = W2; have Q2 : Hid (RR F w W2 g s gs (.slice ad s.wt.length cap) fz w.heap.size w1.heap.size (look s.st (s.wt.take 0) i.toNat)) := RR.start H0.out S0.out.2.1 R0.out (Nat.le_refl _) (by rw [S0.out.2.2]; exact Nat.lt_succ_self _) HL.out hW2; clear hW2 k0 k1 k4; obtain ⟨k0, k1, -, -, k4⟩ := Q2.out.1.db.cells; generalize hb6 : w1.heap.size = b6 at Q2 ⊢; clear hb6))
      go_loopw [37] (fun c wr => ∃ k : Nat, k ≤ s.wt.length ∧ c = .int .i64 (k : Int) ∧ Hid (RR F w wr g s gs (.slice ad s.wt.length cap) fz w.heap.size b6 (look s.st (s.wt.take k) i.toNat))) (fun c _ => s.wt.length - (intOf c).toNat)
      case atStart => exact ⟨0, Nat.zero_le _, rfl, Q2⟩
      case round =>
        obtain ⟨k, hk, rfl, HK⟩ := hrel
        obtain ⟨-, k1, -, -, -⟩ := HK.out.1.db.cells
        by_cases hlt : k < s.wt.length
        · obtain ⟨p, hp⟩ : ∃ p, s.wt[k]? = some p := ⟨s.wt[k], List.getElem?_eq_getElem hlt⟩
          cases ad with
          | none => rw [hn0 rfl] at hp; simp at hp
          | some ad =>
            obtain ⟨ad', cap', hv', -, -, hsh⟩ := HK.out.1.wb.shape
            cases hv'
            obtain ⟨b, rfl, hb, hm⟩ := hsh ad rfl
            have hr := hm k p hp
            have hc0 : wr.cell? ⟨b, k * 65, none⟩ = some (.int .i64 (p.1 : Int)) := hr 0 _ rfl
            have HR : Hid (wr.rangeAt b (k * 65 + 1) (bv p.2)) := fun m u hu => by
              have := hr (m + 1) u (by simpa [wc] using hu)
              rwa [show k * 65 + (m + 1) = k * 65 + 1 + m by omega] at this
            have HP : Hid (p.2.length = 64 ∧ s.wt[k]? = some p) := ⟨(HK.out.1.wb.ok p (List.mem_of_getElem? hp)).2, hp⟩
            have HS : Hid (look s.st (s.wt.take (k + 1)) = upd (look s.st (s.wt.take k)) p.1 p.2) := by
              show look s.st (s.wt.take (k + 1)) = _
              rw [take_snoc' hp, look_snoc]
            clear hm hr hp hn0 hb hsh
            by_cases he : (p.1 : Int) = i
            · go_wp2_with (first
                | (refine wpList_load_mid rfl 35 _ rfl b (k * 65 + 1) rfl (bv p.2) _ HR.out Try.underlying35 rfl (by rw [bv_length, HP.out.1]; exact size64) ?_)
                | (refine wpList_store_mid rfl 35 _ _ rfl b6 0 (bv p.2).toArray rfl rfl (HK.out.2.2.2.1.ths HP.out.1) (size_sec HP.out.1) (bv_one' _) ?_))
              refine ⟨⟨k + 1, hlt, by go_num, ?_⟩, by simp [intOf]; omega⟩
              rw [HS.out]
              unfold upd
              rw [if_pos (by omega)]
              exact HK.out.put HP.out.1
            · go_wp2_with fail
              refine ⟨⟨k + 1, hlt, by go_num, ?_⟩, by simp [intOf]; omega⟩
              rw [HS.out]
              unfold upd
              rw [if_neg (by have := HI.out.1; omega)]
              exact HK
        · obtain rfl : k = s.wt.length := by omega
          have HV : Hid (look s.st (s.wt.take s.wt.length) i.toNat = rdV s i) := by
            show _ = rdV s i
            rw [List.take_of_length_le (Nat.le_refl _)]
            simp only [rdV, hh, hdn]
          have HVL : Hid ((rdV s i).length = 64) := by rw [← HV.out]; exact HLK.out _
          rw [HV.out] at HK
          go_wp2_with (first
            | (refine wpList_load_mid rfl 35 _ rfl b6 0 rfl (bv (rdV s i)) _ HK.out.2.2.2.1.range Try.underlying35 rfl (by rw [bv_length, HVL.out]; exact size64) ?_)
            | (refine wpList_store_mid rfl 35 _ _ rfl w.heap.size 0 (bv (rdV s i)).toArray rfl rfl (HK.out.2.2.1.ths HVL.out) (size_sec HVL.out) (bv_one' _) ?_))
          refine bodyPost_ret (v := .tuple #[.agg (bv (rdV s i)).toArray, .int .i64 0]) ?_ rfl ⟨by simp [rdE, hh, hdn], below_setCells _ (Nat.le_refl _) _ _ _ HK.out.2.1⟩
          have q := World.rangeAt_setCells_same _ w.heap.size 0 (bv (rdV s i)) (HK.out.2.2.1.ths HVL.out)
          simp only [results, Try.results18]
          simp [asAddr, run_loadVar_mid _ w.heap.size 0 35 (bv (rdV s i)) _ q Try.underlying35 rfl (by rw [bv_length, HVL.out]; exact size64)]
end Go.Proofs.Ytmlialabdijcoaa
