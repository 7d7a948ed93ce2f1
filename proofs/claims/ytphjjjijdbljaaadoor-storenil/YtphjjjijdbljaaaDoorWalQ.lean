/- refresh, where nobody else has laid anything. -/
import Derived.Test.YtphjjjijdbljaaaDoorWalP
namespace Go.Proofs.YtphjjjijdbljaaaDoor
open Go Go.RowKit
set_option linter.unusedSimpArgs false
set_option linter.unusedVariables false
set_option maxRecDepth 100000

theorem LB.firsts {w : World} {lg : Nat} {l : Lo} {rv : Value} (h : LB w lg l rv) (h0 : l.f0.length = 64) (h1 : l.f1.length = 64) : w.rangeAt lg 2 (bv l.f0 ++ bv l.f1) := by
  intro j u hu
  rw [cell_of_row w _ _ _ _ _ h, List.getElem?_toArray]
  have hj := (List.getElem?_eq_some_iff.1 hu).1
  unfold lc
  rw [show 2 + j = j + 1 + 1 by omega, List.getElem?_cons_succ, List.getElem?_cons_succ, ← List.append_assoc, List.getElem?_append_left hj]
  exact hu
theorem size_two : (Tryd.prog.info? 68).map (·.size) = some 128 := by kernel_rfl
def fk (l : Lo) (k : Nat) : List Int := if k = 0 then l.f0 else l.f1
theorem index_two (f0 f1 : List Int) (h0 : f0.length = 64) (h1 : f1.length = 64) (w : World) :
    (Instr.index 68 (.agg (bv f0 ++ bv f1).toArray) (.int .i64 0)).run Tryd.prog w = .ok (.agg (bv f0).toArray) w ∧
    (Instr.index 68 (.agg (bv f0 ++ bv f1).toArray) (.int .i64 1)).run Tryd.prog w = .ok (.agg (bv f1).toArray) w := by
  have hu := Tryd.underlying68
  have hu2 := Tryd.underlying67
  have hs : (sizeOf 67).run Tryd.prog w = .ok 64 w := Sh.size_run size_sct w
  have b0 : (bv f0).length = 64 := by rw [bv_length, h0]
  have b1 : (bv f1).length = 64 := by rw [bv_length, h1]
  constructor
  · simp [Instr.index, run_underlying hu, asIntOf, part, isAgg, run_underlying hu2, hs, go_sem]
    rw [List.take_append_of_le_length (by omega), List.take_of_length_le (by omega)]
  · simp [Instr.index, run_underlying hu, asIntOf, part, isAgg, run_underlying hu2, hs, go_sem]
    rw [List.drop_append_of_le_length (by omega), List.drop_of_length_le (by omega), List.nil_append, List.take_of_length_le (by omega)]
set_option maxHeartbeats 2000000 in
theorem refresh_down {S : Nat → Prop} {w : World} {g : Nat} {s : Dk} {lg : Nat} {l : Lo} (h : WL S w g s lg l) (hd : l.lo = true ∨ s.dn = true) :
    Calls Tryd.prog 29 #[.pointer (some ⟨lg, 0, none⟩)] w fun e w' => e = .returned (.tuple #[]) ∧ w' = w := by
  obtain ⟨F, H, rv, us, hx⟩ := h
  have HX : Hid (WX S F H w g s lg l rv us) := hx
  obtain ⟨c0, -, -, -, c132⟩ := hx.lw.lb.cells hx.lw.f0 hx.lw.f1
  rw [hx.dk] at c0
  clear hx
  cases hlo : l.lo with
  | true =>
    rw [hlo] at c132
    go_enter Tryd.func29, Tryd.ntmps29
    go_wp2_with fail
    refine bodyPost_ret (v := .tuple #[]) (results_none Tryd.results29 _ _ _) rfl ?_
    exact ⟨rfl, rfl⟩
  | false =>
    rw [hlo] at c132
    have hdn : s.dn = true := by rcases hd with x | x; rw [hlo] at x; cases x; exact x
    go_enter Tryd.func29, Tryd.ntmps29
    go_wp2_with (go_at_call 27; refine (down_any HX.out.pd).mono ?_; rintro e w1 ⟨rfl, rfl⟩; rw [hdn])
    refine bodyPost_ret (v := .tuple #[]) (results_none Tryd.results29 _ _ _) rfl ?_
    exact ⟨rfl, rfl⟩
def qΩ (S F H : Nat → Prop) (w1 : World) (g : Nat) (s : Dk) (lg : Nat) (l : Lo) (rv : Value) (us : List Value) (b3 : Nat) (x : List Int) : Nat → (Nat → Value) → World → Prop := fun _ _ W => WX S F H W g s lg l rv us ∧ W.rangeAt b3 0 (bv x) ∧ b3 < W.heap.size ∧ Below w1.heap.size w1 W
def qf (lg g A : Nat) (x : List Int) : Nat → Value
  | 3 => .pointer (some ⟨g, 0, none⟩)
  | 4 => .int .i64 (A : Int)
  | 5 => .agg (bv x).toArray
  | 6 => .agg (bv x).toArray
  | 7 => .bool false
  | _ => .pointer (some ⟨lg, 0, none⟩)
set_option maxHeartbeats 2000000 in
theorem refresh_core {S : Nat → Prop} {w : World} {g : Nat} {s : Dk} {lg : Nat} {l : Lo} (h : WL S w g s lg l) (hlo : l.lo = false) (hdn : s.dn = false) (e0 : l.f0 = rdV s (hfF s.n 0 : Int)) (e1 : l.f1 = rdV s (hfF s.n 1 : Int)) (R : World → Prop)
    (hR : ∀ W, Below w.heap.size w W → Calls Tryd.prog 44 #[.pointer (some ⟨lg, 0, none⟩)] W fun e w' => e = .returned (.tuple #[]) ∧ R w') :
    Calls Tryd.prog 29 #[.pointer (some ⟨lg, 0, none⟩)] w fun e w' => e = .returned (.tuple #[]) ∧ R w' := by
  obtain ⟨F, H, rv, us, hx⟩ := h
  have HX : Hid (WX S F H w g s lg l rv us) := hx
  obtain ⟨c0, -, -, -, c132⟩ := hx.lw.lb.cells hx.lw.f0 hx.lw.f1
  rw [hx.dk] at c0
  rw [hlo] at c132
  have HL0 : Hid (l.f0.length = 64 ∧ l.f1.length = 64) := ⟨hx.lw.f0, hx.lw.f1⟩
  have HRA : Hid (∀ W, Below w.heap.size w W → W.rangeAt lg 2 (bv l.f0 ++ bv l.f1)) := fun W hb => (HX.out.below hb).lw.lb.firsts HL0.out.1 HL0.out.2
  have HLL : Hid ((bv l.f0 ++ bv l.f1).length = 128) := by show _ = 128; simp [bv_length, HL0.out.1, HL0.out.2]
  have E0 : Hid (l.f0 = rdV s (hfF s.n 0 : Int)) := e0
  have E1 : Hid (l.f1 = rdV s (hfF s.n 1 : Int)) := e1
  have HRR : Hid (∀ W, Below w.heap.size w W → Calls Tryd.prog 44 #[.pointer (some ⟨lg, 0, none⟩)] W fun e w' => e = .returned (.tuple #[]) ∧ R w') := hR
  clear hx e0 e1 hR
  go_enter Tryd.func29, Tryd.ntmps29
  go_wp2_with (first
    | (go_at_call 27; refine (down_any HX.out.pd).mono ?_; rintro e w1 ⟨rfl, rfl⟩; rw [hdn])
    | (refine wpList_load_mid rfl 68 _ rfl lg 2 rfl (bv l.f0 ++ bv l.f1) _ (HRA.out _ (Below.refl _ _)) Tryd.underlying68 rfl (by rw [HLL.out]; exact size_two) ?_))
  go_loopw [28] (fun i wr => ∃ k : Nat, k ≤ 2 ∧ i = .int .i64 (k : Int) ∧ Below w1.heap.size w1 wr) (fun i _ => 2 - (intOf i).toNat)
  case atStart => exact ⟨0, by omega, rfl, Below.refl _ _⟩
  case round =>
    obtain ⟨k, hk, rfl, hb⟩ := hrel
    have HB : Hid (Below w1.heap.size w1 wr) := hb
    clear hb
    by_cases hlt : k < 2
    · have hk2 : (k : Int) < 2 := by omega
      obtain ⟨x, hx⟩ : ∃ x, x = fk l k := ⟨_, rfl⟩
      have HXL : Hid (x.length = 64) := by rw [hx]; unfold fk; split; exact HL0.out.1; exact HL0.out.2
      have hix : ∀ W : World, (Instr.index 68 (.agg (bv l.f0 ++ bv l.f1).toArray) (.int .i64 (k : Int))).run Tryd.prog W = .ok (.agg (bv x).toArray) W := fun W => by
        have : k = 0 ∨ k = 1 := by omega
        rcases this with rfl | rfl
        · rw [hx]; exact (index_two _ _ HL0.out.1 HL0.out.2 W).1
        · rw [hx]; exact (index_two _ _ HL0.out.1 HL0.out.2 W).2
      have HXE : Hid (x = rdV s (hfF s.n k : Int)) := by
        show x = _
        rw [hx]
        have : k = 0 ∨ k = 1 := by omega
        rcases this with rfl | rfl
        · exact E0.out
        · exact E1.out
      clear hx
      have hz := zero_sct
      have HTH : Hid ((wr.alloc (.cells (bv z64).toArray 67)).there wr.heap.size 0 (bv x).toArray.size) := sec_there wr _ HXL.out z64_length
      go_wp2_with (refine Sh.wpList_store_midL rfl 67 _ _ rfl wr.heap.size 0 (bv x).toArray rfl rfl HTH.out (sct_size HXL.out) (bv_one' _) ?_; intro w2 hw2; have N2 : Hid (Below wr.heap.size wr w2 ∧ w2.rangeAt wr.heap.size 0 (bv x) ∧ wr.heap.size < w2.heap.size) := sec_new HXL.out z64_length hw2; clear hw2)
      have X2 : Hid (WX S F H w2 g s lg l rv us) := (HX.out.below HB.out).below N2.out.1
      have hn2 := HX.out.pd.n2
      obtain ⟨k0, -⟩ := X2.out.lw.lb.cells X2.out.lw.f0 X2.out.lw.f1
      rw [X2.out.dk] at k0
      refine (half_any X2.out.pd k0 (by omega) k (by omega)).mono ?_
      rintro e w3 ⟨rfl, rfl⟩
      obtain ⟨A, hA⟩ : ∃ A, hfF s.n k = A := ⟨_, rfl⟩
      have HXA : Hid (x = rdV s (A : Int)) := by rw [← hA]; exact HXE.out
      rw [hA]
      obtain ⟨b3, hb3⟩ : ∃ b, b = wr.heap.size := ⟨_, rfl⟩
      have Q3 : Hid (qΩ S F H w1 g s lg l rv us b3 x 0 (fun _ => undef) { w3 with drawn := w3.drawn + 1 }) := ⟨X2.out.below (Below.refl _ _).drew, by rw [hb3]; exact N2.out.2.1, by rw [hb3]; exact N2.out.2.2, (HB.out.trans (N2.out.1.mono HB.out.size)).trans ((Below.refl _ _).drew)⟩
      rw [← hb3]
      clear hA hb3 k0 N2 HTH X2 HXE hix
      go_wp2_with fail
      refine RU.wp_rgn' [] (qf lg g A x) hK0 (qΩ S F H w1 g s lg l rv us b3 x) (by kernel_rfl) (by kernel_rfl) Q3.out ?_ ?_
      · refine ⟨?_, ?_, ?_, ?_, ?_, ?_, ?_, ?_, trivial⟩
        · refine RU.ObT.pure rfl rfl rfl (fun a V hf hp ev he hc W => ?_)
          have q0 : ev (.tmp 0) = .pointer (some ⟨lg, 0, none⟩) := (he (.tmp 0)).trans (hf 0 rfl)
          simp only [List.getElem_toArray, List.getElem_cons_succ, List.getElem_cons_zero, execOp, Option.map_some, Option.map_none]; rw [q0]
          first | (go_simp; done) | (go_simp; rfl)
        · refine RU.ObT.pure rfl rfl rfl (fun a V hf hp ev he hc W => ?_)
          have q39 : ev (.tmp 39) = .pointer (some ⟨lg, 0, none⟩) := (he (.tmp 39)).trans (hp 0 39 rfl)
          simp only [List.getElem_toArray, List.getElem_cons_succ, List.getElem_cons_zero, execOp, Option.map_some, Option.map_none]; rw [q39]
          first | (go_simp; done) | (go_simp; rfl)
        · refine RU.ObT.pure rfl rfl rfl (fun a V hf hp ev he hc W => ?_)
          have q40 : ev (.tmp 40) = .pointer (some ⟨lg, 0, none⟩) := (he (.tmp 40)).trans (hp 1 40 rfl)
          simp only [List.getElem_toArray, List.getElem_cons_succ, List.getElem_cons_zero, execOp, Option.map_some, Option.map_none]; rw [q40]
          first | (go_simp; done) | (go_simp; rfl)
        · refine RU.ObT.silent rfl (fun a W k0 V hO hf hp hk => ?_)
          refine RU.ob_val rfl (RU.wanted_none rfl) (fun ev he hc => ?_) ⟨rfl, hO⟩
          have q41 : ev (.tmp 41) = .pointer (some ⟨lg, 0, none⟩) := (he (.tmp 41)).trans (hp 2 41 rfl)
          have hcell := (hO.1.lw.lb.cells hO.1.lw.f0 hO.1.lw.f1).1
          rw [hO.1.dk] at hcell
          simp only [List.getElem_toArray, List.getElem_cons_succ, List.getElem_cons_zero, execOp]; rw [q41]
          first | (go_simp; done) | (go_simp; rfl)
        · refine RU.ObT.pure rfl rfl rfl (fun a V hf hp ev he hc W => ?_)
          have q4 : ev (.tmp 4) = .int .i64 (A : Int) := (he (.tmp 4)).trans (hf 4 rfl)
          simp only [List.getElem_toArray, List.getElem_cons_succ, List.getElem_cons_zero, execOp, Option.map_some, Option.map_none]; rw [q4]
          first | (go_simp; done) | (go_simp; rfl)
        · refine RU.ObT.silent rfl (fun a W k0 V hO hf hp hk => ?_)
          have e1 : a.eval (.tmp 42) = .pointer (some ⟨g, 0, none⟩) := hp 3 42 rfl
          have e2 : a.eval (.tmp 43) = .int .i64 (A : Int) := hp 4 43 rfl
          refine RU.ob_call (g := 40) (args := #[.pointer (some ⟨g, 0, none⟩), .int .i64 (A : Int)]) rfl (RU.wanted_none rfl) (fun ev he hc => ?_) ((wread_any hO.1.pd (A : Int)).mono ?_)
          · have h1 := (he (.tmp 42)).trans e1
            have h2 := (he (.tmp 43)).trans e2
            have hfn := he (.func 40)
            simp only [List.getElem_toArray, List.getElem_cons_succ, List.getElem_cons_zero, execOp]
            simp only [resolve, invoke, Sem.run_bind, Sem.run_pure, Result.andThen_ok, List.map_toArray, List.map_cons, List.map_nil, h1, h2, hfn, Act.eval]
            rfl
          · rintro e' W2 ⟨rfl, hb2⟩
            exact ⟨_, rfl, by rw [← HXA.out]; rfl, hO.1.below hb2, fun j u hu => (hb2.cell (p := ⟨b3, 0 + j, none⟩) hO.2.2.1).trans (hO.2.1 j u hu), Nat.lt_of_lt_of_le hO.2.2.1 hb2.size, hO.2.2.2.trans (hb2.mono hO.2.2.2.size)⟩
        · refine RU.ObT.silent rfl (fun a W k0 V hO hf hp hk => ?_)
          exact RU.ob_op rfl (RU.wanted_none rfl) (wp_load_mid 67 (.tmp 3) rfl b3 0 (hf 3 rfl) (bv x) _ hO.2.1 Tryd.underlying67 rfl (by rw [bv_length, HXL.out]; exact size_sct) ⟨rfl, hO⟩)
        · refine RU.ObT.silent rfl (fun a W k0 V hO hf hp hk => ?_)
          refine RU.ob_val rfl (RU.wanted_none rfl) (fun ev he hc => ?_) ⟨rfl, hO⟩
          have q1 : ev (.tmp 44) = .agg (bv x).toArray := (he (.tmp 44)).trans (hp 5 44 rfl)
          have q2 : ev (.tmp 45) = .agg (bv x).toArray := (he (.tmp 45)).trans (hp 6 45 rfl)
          have hn : (Op.equalIn 10000 67 (.agg (bv x).toArray) (.agg (bv x).toArray)).run Tryd.prog W = .ok true W := by have h := eq_sct x x HXL.out HXL.out W; simpa using h
          simp only [List.getElem_toArray, List.getElem_cons_succ, List.getElem_cons_zero, execOp]; rw [q1, q2]
          first | (go_simp; done) | (go_simp; rfl)
      · intro w6 V6 hO6
        have B6 : Hid (Below w1.heap.size w1 w6) := hO6.2.2.2
        simp only [RU.lay, RU.val, RU.at', qf, Act.put]
        simp only [List.setIfInBounds_toArray, List.set_cons_succ, List.set_cons_zero]
        clear hO6 Q3
        go_wp2_with fail
        go_roundw
        case rel => exact ⟨k + 1, by omega, by go_num, B6.out⟩
        case measure => simp [intOf]; omega
    · obtain rfl : k = 2 := by omega
      go_wp2_with fail
      refine (HRR.out wr HB.out).mono ?_
      rintro e w2 ⟨rfl, h1⟩
      have HH : Hid (R w2) := h1
      clear h1
      go_wp2_with fail
      go_end0
      exact ⟨rfl, HH.out⟩
theorem refresh_any {S : Nat → Prop} {w : World} {g : Nat} {s : Dk} {lg : Nat} {l : Lo} (h : WL S w g s lg l) (hlo : l.lo = false) (hdn : s.dn = false) (e0 : l.f0 = rdV s (hfF s.n 0 : Int)) (e1 : l.f1 = rdV s (hfF s.n 1 : Int)) (h0 : l.t ≠ 0) (ht : l.t < 18446744073709551616) (he : l.en ≤ 65536) (hr : l.rs.length ≤ 1000000000) :
    Calls Tryd.prog 29 #[.pointer (some ⟨lg, 0, none⟩)] w fun e w' => e = .returned (.tuple #[]) ∧ ∃ ns e', Frs s (hfT s.n l.t) l.en ns e' ∧ tk s e' (hfT s.n l.t) = none ∧ AftL S w w' g s lg { l with rs := l.rs ++ ns, en := e' } :=
  refresh_core h hlo hdn e0 e1 _ (fun W hb => (follow_any (h.below hb) h0 ht he hr).mono fun e w2 ⟨h1, ns, e', h2, h3, h4⟩ => ⟨h1, ns, e', h2, h3, AftL.trans (chg_of_below hb) (fun b hb => .inl hb) h4⟩)
theorem refresh_zero {S : Nat → Prop} {w : World} {g : Nat} {s : Dk} {lg : Nat} {l : Lo} (h : WL S w g s lg l) (hlo : l.lo = false) (hdn : s.dn = false) (e0 : l.f0 = rdV s (hfF s.n 0 : Int)) (e1 : l.f1 = rdV s (hfF s.n 1 : Int)) (h0 : l.t = 0) :
    Calls Tryd.prog 29 #[.pointer (some ⟨lg, 0, none⟩)] w fun e w' => e = .returned (.tuple #[]) ∧ Below w.heap.size w w' :=
  refresh_core h hlo hdn e0 e1 _ (fun W hb => (follow_zero (h.below hb) h0).mono fun e w2 ⟨h1, h2⟩ => ⟨h1, by rw [h2]; exact hb⟩)
end Go.Proofs.YtphjjjijdbljaaaDoor
