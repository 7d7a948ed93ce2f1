/- DiskPlays, walked. -/
import Derived.Test.YtmlialabdijcoaaDskX
namespace Go.Proofs.Ytmlialabdijcoaa
open Go Go.RowKit
set_option linter.unusedSimpArgs false
set_option linter.unusedVariables false
set_option maxRecDepth 100000

/-- What the region with the two Writes has done. -/
structure PΩ (w : World) (gd gw : Nat) (s : Dk) (o : Itm) (b10 b13 : Nat) (k : Nat) (U : Nat → Value) (W : World) : Prop where
  rs : RS w W gd gw (if k < 2 then s else wrS s o.n (fill o.b)) (if k < 4 then s else wrS s o.n (fill o.b)) o b10 b13 (b13 + 1) z64 z64
  u0 : 0 < k → U 0 = .agg (bv (fill o.b)).toArray
  u1 : 1 < k → U 1 = .int .i64 (wrE s o.n)
  u2 : 2 < k → U 2 = .agg (bv (fill o.b)).toArray
  u3 : 3 < k → U 3 = .int .i64 (wrE s o.n)
variable {w W W' : World} {gd gw : Nat} {s : Dk} {o : Itm} {b10 b13 : Nat} {U : Nat → Value}
theorem PΩ.fill0 (h : PΩ w gd gw s o b10 b13 0 U W) (hb : Below W.heap.size W W') : PΩ w gd gw s o b10 b13 1 (RT.updU U 0 (.agg (bv (fill o.b)).toArray)) W' :=
  ⟨h.rs.below hb, fun _ => rfl, fun e => by omega, fun e => by omega, fun e => by omega⟩
theorem PΩ.fill2 (h : PΩ w gd gw s o b10 b13 2 U W) (hb : Below W.heap.size W W') : PΩ w gd gw s o b10 b13 3 (RT.updU U 2 (.agg (bv (fill o.b)).toArray)) W' :=
  ⟨h.rs.below hb, fun _ => h.u0 (by decide), fun _ => h.u1 (by decide), fun _ => rfl, fun e => by omega⟩
theorem PΩ.wr1 (h : PΩ w gd gw s o b10 b13 1 U W) (hN : (s.wt.length + 1) * 72 ≤ 216000000000000) :
    Calls Try.prog 12 #[.pointer (some ⟨gd, 0, none⟩), .int .i64 o.n, .agg (bv (fill o.b)).toArray] W fun e W' => e = .returned (.int .i64 (wrE s o.n)) ∧ PΩ w gd gw s o b10 b13 2 (RT.updU U 1 (.int .i64 (wrE s o.n))) W' := by
  have hr : RS w W gd gw s s o b10 b13 (b13 + 1) z64 z64 := h.rs
  exact (hr.call (s' := wrS s o.n (fill o.b)) (t' := s) fun X W0 q _ => q.write o.n (fill o.b) (fill_length _) hN).mono fun e W' ⟨he, h1⟩ => ⟨he, h1, fun _ => h.u0 (by decide), fun _ => rfl, fun e => by omega, fun e => by omega⟩
theorem PΩ.wr3 (h : PΩ w gd gw s o b10 b13 3 U W) (hN : (s.wt.length + 1) * 72 ≤ 216000000000000) :
    Calls Try.prog 14 #[.pointer (some ⟨gw, 0, none⟩), .int .i64 o.n, .agg (bv (fill o.b)).toArray] W fun e W' => e = .returned (.int .i64 (wrE s o.n)) ∧ PΩ w gd gw s o b10 b13 4 (RT.updU U 3 (.int .i64 (wrE s o.n))) W' := by
  have hr : RS w W gd gw (wrS s o.n (fill o.b)) s o b10 b13 (b13 + 1) z64 z64 := h.rs
  exact (hr.call (s' := wrS s o.n (fill o.b)) (t' := wrS s o.n (fill o.b)) fun X W0 q _ => q.rwrite o.n (fill o.b) (fill_length _) hN).mono fun e W' ⟨he, h1⟩ => ⟨he, h1, fun _ => h.u0 (by decide), fun _ => h.u1 (by decide), fun _ => h.u2 (by decide), fun _ => rfl⟩
def pf (gd gw b10 : Nat) (s : Dk) (o : Itm) : Nat → Value
  | 0 => .pointer (some ⟨gd, 0, none⟩)
  | 1 => .pointer (some ⟨b10, 1, none⟩)
  | 2 => .int .i64 o.n
  | 3 => .pointer (some ⟨b10, 2, none⟩)
  | 4 => .int .u8 o.b
  | 7 => .pointer (some ⟨gw, 0, none⟩)
  | 8 => .pointer (some ⟨b10, 1, none⟩)
  | 9 => .int .i64 o.n
  | 10 => .pointer (some ⟨b10, 2, none⟩)
  | 11 => .int .u8 o.b
  | 14 => .int .i64 (wrE s o.n)
  | 15 => .int .i64 (wrE s o.n)
  | _ => undef
set_option maxHeartbeats 16000000 in
theorem diskPlays_walk (sec : Int) (L : Nat) (f : Nat → Itm) (v : Value) (w : World) (hv : Scr w v L f) (hL : L * 48 ≤ 140737488351232) :
    Calls Try.prog 3 #[.int .i64 sec, v] w fun e w' => e = .returned (.bool true) ∧ Below w.heap.size w w' := by
  obtain ⟨ad, cap, rfl, hx⟩ := hv
  have HX : Hid _ := hx
  clear hx
  have hz := zero_sec
  have hz4 := zero_itm
  by_cases hsec : 1 ≤ sec ∧ sec ≤ 65536
  · obtain ⟨n, rfl⟩ : ∃ n : Nat, sec = (n : Int) := ⟨sec.toNat, by omega⟩
    have hn1 : 1 ≤ n := by omega
    have hn2 : n ≤ 65536 := by omega
    clear hsec
    go_enter Try.func3, Try.ntmps3
    go_wp2_with fail
    refine (awake_any w).mono ?_
    rintro e w1 ⟨rfl, h1⟩
    have B1 : Hid (Below w.heap.size w w1) := h1
    clear h1
    go_wp2_with fail
    refine (new_any w1 n hn1 hn2).mono ?_
    rintro e w2 ⟨gd, rfl, h2⟩
    have N2 : Hid (NewP w1 w2 gd n) := h2
    clear h2
    go_wp2_with fail
    refine (rnew_any w2 n hn1 hn2).mono ?_
    rintro e w3 ⟨gw, rfl, h3⟩
    have A3 : Hid (P2 (fun b => b < w.heap.size) w w3 gd gw (dk0 n) (dk0 n)) := P2.new N2.out h3 ⟨B1.out.os, B1.out.tape, B1.out.output, B1.out.size, fun c hc => B1.out.block c hc⟩ (fun c hc => Nat.lt_of_lt_of_le hc B1.out.size)
    clear h3
    go_wp2_with fail
    refine (A3.out.sectors).mono ?_
    rintro e w4 ⟨rfl, rfl⟩
    rw [show (dk0 n).n = n from rfl]
    go_wp2_with fail
    go_loopw [46] (fun c wr => ∃ k : Nat, k ≤ L ∧ c = .int .i64 (k : Int) ∧ Hid (∃ s, P2 (fun b => b < w.heap.size) w wr gd gw s s ∧ s.wt.length ≤ k)) (fun c _ => L - (intOf c).toNat)
    case atStart => exact ⟨0, Nat.zero_le _, rfl, ⟨_, A3.out, Nat.zero_le _⟩⟩
    case round =>
      obtain ⟨k, hk, rfl, HK0⟩ := hrel
      by_cases hlt : k < L
      · obtain ⟨s, ha, hsl⟩ := HK0.out
        have HK : Hid (P2 (fun b => b < w.heap.size) w wr gd gw s s) := ha
        clear ha HK0
        obtain ⟨sb, so, rfl, hsb, hso⟩ : ∃ sb so, ad = some ⟨sb, so, none⟩ ∧ sb < w.heap.size ∧ ∀ i, i < L → w.rangeAt sb (so + i * 4) (f i).cells ∧ (f i).Ok w := by
          rcases HX.out with h | h
          · omega
          · exact h
        obtain ⟨hr, hok⟩ := hso k hlt
        generalize f k = o at hr hok
        have HR : Hid (wr.rangeAt sb (so + k * 4) o.cells) := HK.out.kept.range hsb hr
        have HOK : Hid (o.Ok w) := hok
        have HNN : Hid ((s.wt.length + 1) * 72 ≤ 216000000000000) := (by omega : (s.wt.length + 1) * 72 ≤ 216000000000000)
        clear hso hr hok hsb
        by_cases hkd : o.kind = 1
        · go_wp2_with (first
            | (refine wpList_load_mid rfl 34 _ rfl sb (so + k * 4) rfl o.cells _ HR.out Try.underlying34 rfl size_itm ?_)
            | (refine wpList_store_mid rfl 34 _ _ rfl wr.heap.size 0 o.cells.toArray rfl rfl (itm_there wr) size_itm (itm_one HOK.out) ?_; generalize hW1 : World.setCells _ _ _ _ = W1; have HS0 : Hid (RS w ((W1.alloc (.cells (bv z64).toArray 35)).alloc (.cells (bv z64).toArray 35)) gd gw s s o wr.heap.size W1.heap.size (W1.heap.size + 1) z64 z64) := RS.start HK.out hW1; obtain ⟨c0, c1, c2, c3⟩ := itm_cells hW1; clear hW1; rw [hkd] at c0))
          generalize hW3 : World.alloc (World.alloc W1 _) _ = W3 at HS0 c0 c1 c2 c3 ⊢
          generalize hb10 : wr.heap.size = b10 at HS0 c0 c1 c2 c3 ⊢
          generalize hb13 : W1.heap.size = b13 at HS0 ⊢
          clear hW3 hb10 hb13
          have HS : Hid (RS w W3 gd gw s s o b10 b13 (b13 + 1) z64 z64) := HS0
          clear HS0
          refine RT.wp_rgn' [5, 6, 12, 13] (pf gd gw b10 s o) (fun _ => 4) (PΩ w gd gw s o b10 b13) (by kernel_rfl) (by kernel_rfl) ?_ ?_ ?_
          · exact ⟨HS.out.below ⟨rfl, rfl, rfl, Nat.le_refl _, fun _ _ => rfl⟩, fun e => by omega, fun e => by omega, fun e => by omega, fun e => by omega⟩
          · refine ⟨?_, ?_, ?_, ?_, ?_, ?_, ?_, ?_, ?_, ?_, ?_, ?_, ?_, ?_, ?_, ?_, trivial⟩
            · refine RT.ObT.pure rfl rfl rfl (fun a U hf hp ev he hc W => ?_)
              have q5 : ev (.tmp 5) = .pointer (some ⟨gd, 0, none⟩) := (he (.tmp 5)).trans (hf 5 rfl)
              simp only [List.getElem_toArray, List.getElem_cons_succ, List.getElem_cons_zero, execOp]; rw [q5]
              first | rfl | (go_simp; done) | (go_simp; rfl)
            · refine RT.ObT.pure rfl rfl rfl (fun a U hf hp ev he hc W => ?_)
              have q10 : ev (.tmp 10) = .pointer (some ⟨b10, 0, none⟩) := (he (.tmp 10)).trans (hf 10 rfl)
              simp only [List.getElem_toArray, List.getElem_cons_succ, List.getElem_cons_zero, execOp]; rw [q10]
              first | rfl | (go_simp; done) | (go_simp; rfl)
            · refine RT.ObT.silent rfl (fun a V k0 U hO hf hp hk => ?_)
              have hc1 := hO.rs.cells.2.1
              refine RT.ob_val rfl (RT.wanted_none rfl) (fun ev he hc => ?_) ⟨rfl, hO⟩
              have q58 : ev (.tmp 58) = .pointer (some ⟨b10, 1, none⟩) := (he (.tmp 58)).trans (hp 1 58 rfl)
              simp only [List.getElem_toArray, List.getElem_cons_succ, List.getElem_cons_zero, execOp]; rw [q58]; go_simp; rfl
            · refine RT.ObT.pure rfl rfl rfl (fun a U hf hp ev he hc W => ?_)
              have q10 : ev (.tmp 10) = .pointer (some ⟨b10, 0, none⟩) := (he (.tmp 10)).trans (hf 10 rfl)
              simp only [List.getElem_toArray, List.getElem_cons_succ, List.getElem_cons_zero, execOp]; rw [q10]
              first | rfl | (go_simp; done) | (go_simp; rfl)
            · refine RT.ObT.silent rfl (fun a V k0 U hO hf hp hk => ?_)
              have hc1 := hO.rs.cells.2.2.1
              refine RT.ob_val rfl (RT.wanted_none rfl) (fun ev he hc => ?_) ⟨rfl, hO⟩
              have q60 : ev (.tmp 60) = .pointer (some ⟨b10, 2, none⟩) := (he (.tmp 60)).trans (hp 3 60 rfl)
              simp only [List.getElem_toArray, List.getElem_cons_succ, List.getElem_cons_zero, execOp]; rw [q60]; go_simp; rfl
            · refine RT.ObT.loud (j := 0) rfl (fun a V U hO hf hp => ?_)
              refine RT.ob_call (g := 13) (args := #[.int .u8 o.b]) rfl (RT.wanted_none rfl) (fun ev he hc => ?_) ((filled_any o.b HOK.out.b V).mono ?_)
              · have e1 : ev (.tmp 61) = .int .u8 o.b := (he (.tmp 61)).trans (hp 4 61 rfl)
                simp only [List.getElem_toArray, List.getElem_cons_succ, List.getElem_cons_zero, execOp]
                simp only [resolve, invoke, builtin, Sem.run_bind, Sem.run_pure, Result.andThen_ok, List.map_toArray, List.map_cons, List.map_nil, e1, he, Act.eval]
                rfl
              · rintro e V' ⟨rfl, h1⟩
                exact ⟨_, rfl, _, rfl, hO.fill0 h1⟩
            · refine RT.ObT.loud (j := 1) rfl (fun a V U hO hf hp => ?_)
              refine RT.ob_call (g := 12) (args := #[.pointer (some ⟨gd, 0, none⟩), .int .i64 o.n, .agg (bv (fill o.b)).toArray]) rfl (RT.wanted_none rfl) (fun ev he hc => ?_) ((hO.wr1 HNN.out).mono ?_)
              · have e1 : ev (.tmp 57) = .pointer (some ⟨gd, 0, none⟩) := (he (.tmp 57)).trans (hp 0 57 rfl)
                have e2 : ev (.tmp 59) = .int .i64 o.n := (he (.tmp 59)).trans (hp 2 59 rfl)
                have e3 : ev (.tmp 62) = U 0 := (he (.tmp 62)).trans (hp 5 62 rfl)
                rw [hO.u0 (by decide)] at e3
                simp only [List.getElem_toArray, List.getElem_cons_succ, List.getElem_cons_zero, execOp]
                simp only [resolve, invoke, builtin, Sem.run_bind, Sem.run_pure, Result.andThen_ok, List.map_toArray, List.map_cons, List.map_nil, e1, e2, e3, he, Act.eval]
                rfl
              · rintro e V' ⟨rfl, h1⟩
                exact ⟨_, rfl, _, rfl, h1⟩
            · refine RT.ObT.pure rfl rfl rfl (fun a U hf hp ev he hc W => ?_)
              have q7 : ev (.tmp 7) = .pointer (some ⟨gw, 0, none⟩) := (he (.tmp 7)).trans (hf 7 rfl)
              simp only [List.getElem_toArray, List.getElem_cons_succ, List.getElem_cons_zero, execOp]; rw [q7]
              first | rfl | (go_simp; done) | (go_simp; rfl)
            · refine RT.ObT.pure rfl rfl rfl (fun a U hf hp ev he hc W => ?_)
              have q10 : ev (.tmp 10) = .pointer (some ⟨b10, 0, none⟩) := (he (.tmp 10)).trans (hf 10 rfl)
              simp only [List.getElem_toArray, List.getElem_cons_succ, List.getElem_cons_zero, execOp]; rw [q10]
              first | rfl | (go_simp; done) | (go_simp; rfl)
            · refine RT.ObT.silent rfl (fun a V k0 U hO hf hp hk => ?_)
              have hc1 := hO.rs.cells.2.1
              refine RT.ob_val rfl (RT.wanted_none rfl) (fun ev he hc => ?_) ⟨rfl, hO⟩
              have q65 : ev (.tmp 65) = .pointer (some ⟨b10, 1, none⟩) := (he (.tmp 65)).trans (hp 8 65 rfl)
              simp only [List.getElem_toArray, List.getElem_cons_succ, List.getElem_cons_zero, execOp]; rw [q65]; go_simp; rfl
            · refine RT.ObT.pure rfl rfl rfl (fun a U hf hp ev he hc W => ?_)
              have q10 : ev (.tmp 10) = .pointer (some ⟨b10, 0, none⟩) := (he (.tmp 10)).trans (hf 10 rfl)
              simp only [List.getElem_toArray, List.getElem_cons_succ, List.getElem_cons_zero, execOp]; rw [q10]
              first | rfl | (go_simp; done) | (go_simp; rfl)
            · refine RT.ObT.silent rfl (fun a V k0 U hO hf hp hk => ?_)
              have hc1 := hO.rs.cells.2.2.1
              refine RT.ob_val rfl (RT.wanted_none rfl) (fun ev he hc => ?_) ⟨rfl, hO⟩
              have q67 : ev (.tmp 67) = .pointer (some ⟨b10, 2, none⟩) := (he (.tmp 67)).trans (hp 10 67 rfl)
              simp only [List.getElem_toArray, List.getElem_cons_succ, List.getElem_cons_zero, execOp]; rw [q67]; go_simp; rfl
            · refine RT.ObT.loud (j := 2) rfl (fun a V U hO hf hp => ?_)
              refine RT.ob_call (g := 13) (args := #[.int .u8 o.b]) rfl (RT.wanted_none rfl) (fun ev he hc => ?_) ((filled_any o.b HOK.out.b V).mono ?_)
              · have e1 : ev (.tmp 68) = .int .u8 o.b := (he (.tmp 68)).trans (hp 11 68 rfl)
                simp only [List.getElem_toArray, List.getElem_cons_succ, List.getElem_cons_zero, execOp]
                simp only [resolve, invoke, builtin, Sem.run_bind, Sem.run_pure, Result.andThen_ok, List.map_toArray, List.map_cons, List.map_nil, e1, he, Act.eval]
                rfl
              · rintro e V' ⟨rfl, h1⟩
                exact ⟨_, rfl, _, rfl, hO.fill2 h1⟩
            · refine RT.ObT.loud (j := 3) rfl (fun a V U hO hf hp => ?_)
              refine RT.ob_call (g := 14) (args := #[.pointer (some ⟨gw, 0, none⟩), .int .i64 o.n, .agg (bv (fill o.b)).toArray]) rfl (RT.wanted_none rfl) (fun ev he hc => ?_) ((hO.wr3 HNN.out).mono ?_)
              · have e1 : ev (.tmp 64) = .pointer (some ⟨gw, 0, none⟩) := (he (.tmp 64)).trans (hp 7 64 rfl)
                have e2 : ev (.tmp 66) = .int .i64 o.n := (he (.tmp 66)).trans (hp 9 66 rfl)
                have e3 : ev (.tmp 69) = U 2 := (he (.tmp 69)).trans (hp 12 69 rfl)
                rw [hO.u2 (by decide)] at e3
                simp only [List.getElem_toArray, List.getElem_cons_succ, List.getElem_cons_zero, execOp]
                simp only [resolve, invoke, builtin, Sem.run_bind, Sem.run_pure, Result.andThen_ok, List.map_toArray, List.map_cons, List.map_nil, e1, e2, e3, he, Act.eval]
                rfl
              · rintro e V' ⟨rfl, h1⟩
                exact ⟨_, rfl, _, rfl, h1⟩
            · refine RT.ObT.silent' rfl (fun a V k0 U hO hf hp hl hk => ?_)
              have hj := hl 1 rfl
              refine RT.ob_val rfl (RT.wanted_none rfl) (fun ev he hc => ?_) ⟨rfl, hO⟩
              have q : ev (.tmp 63) = U 1 := (he (.tmp 63)).trans (hp 6 63 rfl)
              rw [hO.u1 hj] at q
              simp only [List.getElem_toArray, List.getElem_cons_succ, List.getElem_cons_zero, execOp]; rw [q]; rfl
            · refine RT.ObT.silent' rfl (fun a V k0 U hO hf hp hl hk => ?_)
              have hj := hl 3 rfl
              refine RT.ob_val rfl (RT.wanted_none rfl) (fun ev he hc => ?_) ⟨rfl, hO⟩
              have q : ev (.tmp 70) = U 3 := (he (.tmp 70)).trans (hp 13 70 rfl)
              rw [hO.u3 hj] at q
              simp only [List.getElem_toArray, List.getElem_cons_succ, List.getElem_cons_zero, execOp]; rw [q]; rfl
          · intro w' U hO
            have HS5 : Hid (RS w w' gd gw (wrS s o.n (fill o.b)) (wrS s o.n (fill o.b)) o b10 b13 (b13 + 1) z64 z64) := hO.rs
            clear hO
            simp only [RT.lay, RT.val, RT.at', pf, Act.put]
            have heq := eq_sec (z64) z64_length
            go_wp2_with (first
              | (refine load_g rfl 35 _ rfl b13 0 rfl (bv (z64)) _ HS5.out.row13.range Try.underlying35 rfl (by rw [bv_length, HS5.out.row13.len]; exact size64) ?_)
              | (refine load_g rfl 35 _ rfl (b13 + 1) 0 rfl (bv (z64)) _ HS5.out.row14.range Try.underlying35 rfl (by rw [bv_length, HS5.out.row14.len]; exact size64) ?_))
            refine (HS5.out.p2.waiting).mono ?_
            rintro e v1 ⟨rfl, rfl⟩
            go_wp2_with fail
            refine (HS5.out.p2.rwaiting).mono ?_
            rintro e v2 ⟨rfl, rfl⟩
            go_wp2_with fail
            refine (HS5.out.p2.down).mono ?_
            rintro e v3 ⟨rfl, rfl⟩
            go_wp2_with fail
            refine (HS5.out.p2.rdown).mono ?_
            rintro e v4 ⟨rfl, rfl⟩
            go_wp2_with fail
            exact ⟨⟨k + 1, hlt, by go_num, ⟨wrS s o.n (fill o.b), HS5.out.p2, by have := wrS_len s o.n (fill o.b); omega⟩⟩, by simp [intOf]; omega⟩
        by_cases hkd : o.kind = 2
        · go_wp2_with (first
            | (refine wpList_load_mid rfl 34 _ rfl sb (so + k * 4) rfl o.cells _ HR.out Try.underlying34 rfl size_itm ?_)
            | (refine wpList_store_mid rfl 34 _ _ rfl wr.heap.size 0 o.cells.toArray rfl rfl (itm_there wr) size_itm (itm_one HOK.out) ?_; generalize hW1 : World.setCells _ _ _ _ = W1; have HS0 : Hid (RS w ((W1.alloc (.cells (bv z64).toArray 35)).alloc (.cells (bv z64).toArray 35)) gd gw s s o wr.heap.size W1.heap.size (W1.heap.size + 1) z64 z64) := RS.start HK.out hW1; obtain ⟨c0, c1, c2, c3⟩ := itm_cells hW1; clear hW1; rw [hkd] at c0))
          generalize hW3 : World.alloc (World.alloc W1 _) _ = W3 at HS0 c0 c1 c2 c3 ⊢
          generalize hb10 : wr.heap.size = b10 at HS0 c0 c1 c2 c3 ⊢
          generalize hb13 : W1.heap.size = b13 at HS0 ⊢
          clear hW3 hb10 hb13
          have HS : Hid (RS w W3 gd gw s s o b10 b13 (b13 + 1) z64 z64) := HS0
          clear HS0
          refine (HS.out.call (s' := syS s) (t' := s) fun X W0 h hX => h.sync).mono ?_
          rintro e w4 ⟨rfl, h4⟩
          have HS4 : Hid (RS w w4 gd gw (syS s) s o b10 b13 (b13 + 1) z64 z64) := h4
          clear h4
          obtain ⟨c0, c1, c2, c3⟩ := HS4.out.cells
          rw [hkd] at c0
          go_wp2_with fail
          refine (HS4.out.call (s' := syS s) (t' := syS s) fun X W0 h hX => h.rsync).mono ?_
          rintro e w5 ⟨rfl, h5⟩
          have HS5 : Hid (RS w w5 gd gw (syS s) (syS s) o b10 b13 (b13 + 1) z64 z64) := h5
          clear h5
          have heq := eq_sec (z64) z64_length
          go_wp2_with (first
            | (refine load_g rfl 35 _ rfl b13 0 rfl (bv (z64)) _ HS5.out.row13.range Try.underlying35 rfl (by rw [bv_length, HS5.out.row13.len]; exact size64) ?_)
            | (refine load_g rfl 35 _ rfl (b13 + 1) 0 rfl (bv (z64)) _ HS5.out.row14.range Try.underlying35 rfl (by rw [bv_length, HS5.out.row14.len]; exact size64) ?_))
          refine (HS5.out.p2.waiting).mono ?_
          rintro e v1 ⟨rfl, rfl⟩
          go_wp2_with fail
          refine (HS5.out.p2.rwaiting).mono ?_
          rintro e v2 ⟨rfl, rfl⟩
          go_wp2_with fail
          refine (HS5.out.p2.down).mono ?_
          rintro e v3 ⟨rfl, rfl⟩
          go_wp2_with fail
          refine (HS5.out.p2.rdown).mono ?_
          rintro e v4 ⟨rfl, rfl⟩
          go_wp2_with fail
          exact ⟨⟨k + 1, hlt, by go_num, ⟨syS s, HS5.out.p2, by have := syS_len s; omega⟩⟩, by simp [intOf]; omega⟩
        by_cases hkd : o.kind = 3
        · go_wp2_with (first
            | (refine wpList_load_mid rfl 34 _ rfl sb (so + k * 4) rfl o.cells _ HR.out Try.underlying34 rfl size_itm ?_)
            | (refine wpList_store_mid rfl 34 _ _ rfl wr.heap.size 0 o.cells.toArray rfl rfl (itm_there wr) size_itm (itm_one HOK.out) ?_; generalize hW1 : World.setCells _ _ _ _ = W1; have HS0 : Hid (RS w ((W1.alloc (.cells (bv z64).toArray 35)).alloc (.cells (bv z64).toArray 35)) gd gw s s o wr.heap.size W1.heap.size (W1.heap.size + 1) z64 z64) := RS.start HK.out hW1; obtain ⟨c0, c1, c2, c3⟩ := itm_cells hW1; clear hW1; rw [hkd] at c0))
          generalize hW3 : World.alloc (World.alloc W1 _) _ = W3 at HS0 c0 c1 c2 c3 ⊢
          generalize hb10 : wr.heap.size = b10 at HS0 c0 c1 c2 c3 ⊢
          generalize hb13 : W1.heap.size = b13 at HS0 ⊢
          clear hW3 hb10 hb13
          have HS : Hid (RS w W3 gd gw s s o b10 b13 (b13 + 1) z64 z64) := HS0
          clear HS0
          have HRL : Hid ((rdV s o.n).length = 64) := HS.out.rdl o.n
          refine (HS.out.call (s' := s) (t' := s) fun X W0 h hX => h.read o.n).mono ?_
          rintro e w4 ⟨rfl, h4⟩
          have HS4 : Hid (RS w w4 gd gw s s o b10 b13 (b13 + 1) z64 z64) := h4
          clear h4
          go_wp2_with (refine wpList_store_mid rfl 35 _ _ rfl b13 0 (bv (rdV s o.n)).toArray rfl rfl (HS4.out.row13.ths HRL.out) (size_sec HRL.out) (bv_one' _) ?_; have HS4b : Hid (RS w (w4.setCells b13 0 (bv (rdV s o.n))) gd gw s s o b10 b13 (b13 + 1) (rdV s o.n) z64) := HS4.out.put13 HRL.out; generalize hW4 : World.setCells _ _ _ _ = W4 at HS4b ⊢; clear hW4; obtain ⟨c0, c1, c2, c3⟩ := HS4b.out.cells)
          refine (HS4b.out.call (s' := s) (t' := s) fun X W0 h hX => h.rread o.n).mono ?_
          rintro e w5 ⟨rfl, h5⟩
          have HS5a : Hid (RS w w5 gd gw s s o b10 b13 (b13 + 1) (rdV s o.n) z64) := h5
          clear h5
          have heq := eq_sec (rdV s o.n) HRL.out
          go_wp2_with (first
            | (refine wpList_store_mid rfl 35 _ _ rfl (b13 + 1) 0 (bv (rdV s o.n)).toArray rfl rfl (HS5a.out.row14.ths HRL.out) (size_sec HRL.out) (bv_one' _) ?_; have HS5 : Hid (RS w (w5.setCells (b13 + 1) 0 (bv (rdV s o.n))) gd gw s s o b10 b13 (b13 + 1) (rdV s o.n) (rdV s o.n)) := HS5a.out.put14 HRL.out; generalize hW5 : World.setCells _ _ _ _ = W5 at HS5 ⊢; clear hW5)
            | (refine load_g rfl 35 _ rfl b13 0 rfl (bv (rdV s o.n)) _ HS5.out.row13.range Try.underlying35 rfl (by rw [bv_length, HRL.out]; exact size64) ?_)
            | (refine load_g rfl 35 _ rfl (b13 + 1) 0 rfl (bv (rdV s o.n)) _ HS5.out.row14.range Try.underlying35 rfl (by rw [bv_length, HRL.out]; exact size64) ?_))
          refine (HS5.out.p2.waiting).mono ?_
          rintro e v1 ⟨rfl, rfl⟩
          go_wp2_with fail
          refine (HS5.out.p2.rwaiting).mono ?_
          rintro e v2 ⟨rfl, rfl⟩
          go_wp2_with fail
          refine (HS5.out.p2.down).mono ?_
          rintro e v3 ⟨rfl, rfl⟩
          go_wp2_with fail
          refine (HS5.out.p2.rdown).mono ?_
          rintro e v4 ⟨rfl, rfl⟩
          go_wp2_with fail
          exact ⟨⟨k + 1, hlt, by go_num, ⟨s, HS5.out.p2, by omega⟩⟩, by simp [intOf]; omega⟩
        by_cases hkd : o.kind = 4
        · go_wp2_with (first
            | (refine wpList_load_mid rfl 34 _ rfl sb (so + k * 4) rfl o.cells _ HR.out Try.underlying34 rfl size_itm ?_)
            | (refine wpList_store_mid rfl 34 _ _ rfl wr.heap.size 0 o.cells.toArray rfl rfl (itm_there wr) size_itm (itm_one HOK.out) ?_; generalize hW1 : World.setCells _ _ _ _ = W1; have HS0 : Hid (RS w ((W1.alloc (.cells (bv z64).toArray 35)).alloc (.cells (bv z64).toArray 35)) gd gw s s o wr.heap.size W1.heap.size (W1.heap.size + 1) z64 z64) := RS.start HK.out hW1; obtain ⟨c0, c1, c2, c3⟩ := itm_cells hW1; clear hW1; rw [hkd] at c0))
          generalize hW3 : World.alloc (World.alloc W1 _) _ = W3 at HS0 c0 c1 c2 c3 ⊢
          generalize hb10 : wr.heap.size = b10 at HS0 c0 c1 c2 c3 ⊢
          generalize hb13 : W1.heap.size = b13 at HS0 ⊢
          clear hW3 hb10 hb13
          have HS : Hid (RS w W3 gd gw s s o b10 b13 (b13 + 1) z64 z64) := HS0
          clear HS0
          refine (HS.out.call (s' := { s with fu := decide (o.b > 127) }) (t' := s) fun X W0 h hX => h.setFull _).mono ?_
          rintro e w4 ⟨rfl, h4⟩
          have HS4 : Hid (RS w w4 gd gw ({ s with fu := decide (o.b > 127) }) s o b10 b13 (b13 + 1) z64 z64) := h4
          clear h4
          obtain ⟨c0, c1, c2, c3⟩ := HS4.out.cells
          rw [hkd] at c0
          go_wp2_with fail
          refine (HS4.out.call (s' := { s with fu := decide (o.b > 127) }) (t' := { s with fu := decide (o.b > 127) }) fun X W0 h hX => h.rsetFull _).mono ?_
          rintro e w5 ⟨rfl, h5⟩
          have HS5 : Hid (RS w w5 gd gw ({ s with fu := decide (o.b > 127) }) ({ s with fu := decide (o.b > 127) }) o b10 b13 (b13 + 1) z64 z64) := h5
          clear h5
          have heq := eq_sec (z64) z64_length
          go_wp2_with (first
            | (refine load_g rfl 35 _ rfl b13 0 rfl (bv (z64)) _ HS5.out.row13.range Try.underlying35 rfl (by rw [bv_length, HS5.out.row13.len]; exact size64) ?_)
            | (refine load_g rfl 35 _ rfl (b13 + 1) 0 rfl (bv (z64)) _ HS5.out.row14.range Try.underlying35 rfl (by rw [bv_length, HS5.out.row14.len]; exact size64) ?_))
          refine (HS5.out.p2.waiting).mono ?_
          rintro e v1 ⟨rfl, rfl⟩
          go_wp2_with fail
          refine (HS5.out.p2.rwaiting).mono ?_
          rintro e v2 ⟨rfl, rfl⟩
          go_wp2_with fail
          refine (HS5.out.p2.down).mono ?_
          rintro e v3 ⟨rfl, rfl⟩
          go_wp2_with fail
          refine (HS5.out.p2.rdown).mono ?_
          rintro e v4 ⟨rfl, rfl⟩
          go_wp2_with fail
          exact ⟨⟨k + 1, hlt, by go_num, ⟨{ s with fu := decide (o.b > 127) }, HS5.out.p2, by show s.wt.length ≤ k + 1; omega⟩⟩, by simp [intOf]; omega⟩
        by_cases hkd : o.kind = 5
        · go_wp2_with (first
            | (refine wpList_load_mid rfl 34 _ rfl sb (so + k * 4) rfl o.cells _ HR.out Try.underlying34 rfl size_itm ?_)
            | (refine wpList_store_mid rfl 34 _ _ rfl wr.heap.size 0 o.cells.toArray rfl rfl (itm_there wr) size_itm (itm_one HOK.out) ?_; generalize hW1 : World.setCells _ _ _ _ = W1; have HS0 : Hid (RS w ((W1.alloc (.cells (bv z64).toArray 35)).alloc (.cells (bv z64).toArray 35)) gd gw s s o wr.heap.size W1.heap.size (W1.heap.size + 1) z64 z64) := RS.start HK.out hW1; obtain ⟨c0, c1, c2, c3⟩ := itm_cells hW1; clear hW1; rw [hkd] at c0))
          generalize hW3 : World.alloc (World.alloc W1 _) _ = W3 at HS0 c0 c1 c2 c3 ⊢
          generalize hb10 : wr.heap.size = b10 at HS0 c0 c1 c2 c3 ⊢
          generalize hb13 : W1.heap.size = b13 at HS0 ⊢
          clear hW3 hb10 hb13
          have HS : Hid (RS w W3 gd gw s s o b10 b13 (b13 + 1) z64 z64) := HS0
          clear HS0
          refine (HS.out.call (s' := { s with fz := fuseOf o.n }) (t' := s) fun X W0 h hX => h.setFuse o.n HOK.out.n.2).mono ?_
          rintro e w4 ⟨rfl, h4⟩
          have HS4 : Hid (RS w w4 gd gw ({ s with fz := fuseOf o.n }) s o b10 b13 (b13 + 1) z64 z64) := h4
          clear h4
          obtain ⟨c0, c1, c2, c3⟩ := HS4.out.cells
          rw [hkd] at c0
          go_wp2_with fail
          refine (HS4.out.call (s' := { s with fz := fuseOf o.n }) (t' := { s with fz := fuseOf o.n }) fun X W0 h hX => h.rsetFuse o.n HOK.out.n.2).mono ?_
          rintro e w5 ⟨rfl, h5⟩
          have HS5 : Hid (RS w w5 gd gw ({ s with fz := fuseOf o.n }) ({ s with fz := fuseOf o.n }) o b10 b13 (b13 + 1) z64 z64) := h5
          clear h5
          have heq := eq_sec (z64) z64_length
          go_wp2_with (first
            | (refine load_g rfl 35 _ rfl b13 0 rfl (bv (z64)) _ HS5.out.row13.range Try.underlying35 rfl (by rw [bv_length, HS5.out.row13.len]; exact size64) ?_)
            | (refine load_g rfl 35 _ rfl (b13 + 1) 0 rfl (bv (z64)) _ HS5.out.row14.range Try.underlying35 rfl (by rw [bv_length, HS5.out.row14.len]; exact size64) ?_))
          refine (HS5.out.p2.waiting).mono ?_
          rintro e v1 ⟨rfl, rfl⟩
          go_wp2_with fail
          refine (HS5.out.p2.rwaiting).mono ?_
          rintro e v2 ⟨rfl, rfl⟩
          go_wp2_with fail
          refine (HS5.out.p2.down).mono ?_
          rintro e v3 ⟨rfl, rfl⟩
          go_wp2_with fail
          refine (HS5.out.p2.rdown).mono ?_
          rintro e v4 ⟨rfl, rfl⟩
          go_wp2_with fail
          exact ⟨⟨k + 1, hlt, by go_num, ⟨{ s with fz := fuseOf o.n }, HS5.out.p2, by show s.wt.length ≤ k + 1; omega⟩⟩, by simp [intOf]; omega⟩
        by_cases hkd : o.kind = 6
        · go_wp2_with (first
            | (refine wpList_load_mid rfl 34 _ rfl sb (so + k * 4) rfl o.cells _ HR.out Try.underlying34 rfl size_itm ?_)
            | (refine wpList_store_mid rfl 34 _ _ rfl wr.heap.size 0 o.cells.toArray rfl rfl (itm_there wr) size_itm (itm_one HOK.out) ?_; generalize hW1 : World.setCells _ _ _ _ = W1; have HS0 : Hid (RS w ((W1.alloc (.cells (bv z64).toArray 35)).alloc (.cells (bv z64).toArray 35)) gd gw s s o wr.heap.size W1.heap.size (W1.heap.size + 1) z64 z64) := RS.start HK.out hW1; obtain ⟨c0, c1, c2, c3⟩ := itm_cells hW1; clear hW1; rw [hkd] at c0))
          generalize hW3 : World.alloc (World.alloc W1 _) _ = W3 at HS0 c0 c1 c2 c3 ⊢
          generalize hb10 : wr.heap.size = b10 at HS0 c0 c1 c2 c3 ⊢
          generalize hb13 : W1.heap.size = b13 at HS0 ⊢
          clear hW3 hb10 hb13
          have HS : Hid (RS w W3 gd gw s s o b10 b13 (b13 + 1) z64 z64) := HS0
          clear HS0
          have HSL : Hid (Sl w o.cv o.cs) := HOK.out.sl
          refine (HS.out.call (s' := rsS s o.cs) (t' := s) fun X W0 h hX => h.restart o.cs o.cv (HOK.out.sl.below HS.out.bel (Nat.le_refl _)) (fun b hb hn => hX b (HOK.out.own b hb hn)) HOK.out.len).mono ?_
          rintro e w4 ⟨rfl, h4⟩
          have HS4 : Hid (RS w w4 gd gw (rsS s o.cs) s o b10 b13 (b13 + 1) z64 z64) := h4
          clear h4
          obtain ⟨c0, c1, c2, c3⟩ := HS4.out.cells
          rw [hkd] at c0
          go_wp2_with fail
          refine (HS4.out.call (s' := rsS s o.cs) (t' := rsS s o.cs) fun X W0 h hX => h.rrestart o.cs o.cv (HOK.out.sl.below HS4.out.bel (Nat.le_refl _)) (fun b hb hn => hX b (HOK.out.own b hb hn)) HOK.out.len).mono ?_
          rintro e w5 ⟨rfl, h5⟩
          have HS5 : Hid (RS w w5 gd gw (rsS s o.cs) (rsS s o.cs) o b10 b13 (b13 + 1) z64 z64) := h5
          clear h5
          have heq := eq_sec (z64) z64_length
          go_wp2_with (first
            | (refine load_g rfl 35 _ rfl b13 0 rfl (bv (z64)) _ HS5.out.row13.range Try.underlying35 rfl (by rw [bv_length, HS5.out.row13.len]; exact size64) ?_)
            | (refine load_g rfl 35 _ rfl (b13 + 1) 0 rfl (bv (z64)) _ HS5.out.row14.range Try.underlying35 rfl (by rw [bv_length, HS5.out.row14.len]; exact size64) ?_))
          refine (HS5.out.p2.waiting).mono ?_
          rintro e v1 ⟨rfl, rfl⟩
          go_wp2_with fail
          refine (HS5.out.p2.rwaiting).mono ?_
          rintro e v2 ⟨rfl, rfl⟩
          go_wp2_with fail
          refine (HS5.out.p2.down).mono ?_
          rintro e v3 ⟨rfl, rfl⟩
          go_wp2_with fail
          refine (HS5.out.p2.rdown).mono ?_
          rintro e v4 ⟨rfl, rfl⟩
          go_wp2_with fail
          exact ⟨⟨k + 1, hlt, by go_num, ⟨rsS s o.cs, HS5.out.p2, Nat.zero_le _⟩⟩, by simp [intOf]; omega⟩
        go_wp2_with (first
          | (refine wpList_load_mid rfl 34 _ rfl sb (so + k * 4) rfl o.cells _ HR.out Try.underlying34 rfl size_itm ?_)
          | (refine wpList_store_mid rfl 34 _ _ rfl wr.heap.size 0 o.cells.toArray rfl rfl (itm_there wr) size_itm (itm_one HOK.out) ?_; generalize hW1 : World.setCells _ _ _ _ = W1; have HS0 : Hid (RS w ((W1.alloc (.cells (bv z64).toArray 35)).alloc (.cells (bv z64).toArray 35)) gd gw s s o wr.heap.size W1.heap.size (W1.heap.size + 1) z64 z64) := RS.start HK.out hW1; obtain ⟨c0, c1, c2, c3⟩ := itm_cells hW1; clear hW1; have heq := eq_sec z64 z64_length)
          | (refine load_g rfl 35 _ rfl W1.heap.size 0 rfl (bv z64) _ HS0.out.row13.range Try.underlying35 rfl (by rw [bv_length, z64_length]; exact size64) ?_)
          | (refine load_g rfl 35 _ rfl (W1.heap.size + 1) 0 rfl (bv z64) _ HS0.out.row14.range Try.underlying35 rfl (by rw [bv_length, z64_length]; exact size64) ?_))
        generalize hW3 : World.alloc (World.alloc W1 _) _ = W3 at HS0 ⊢
        clear hW3
        refine (HS0.out.p2.waiting).mono ?_
        rintro e v1 ⟨rfl, rfl⟩
        go_wp2_with fail
        refine (HS0.out.p2.rwaiting).mono ?_
        rintro e v2 ⟨rfl, rfl⟩
        go_wp2_with fail
        refine (HS0.out.p2.down).mono ?_
        rintro e v3 ⟨rfl, rfl⟩
        go_wp2_with fail
        refine (HS0.out.p2.rdown).mono ?_
        rintro e v4 ⟨rfl, rfl⟩
        go_wp2_with fail
        exact ⟨⟨k + 1, hlt, by go_num, ⟨s, HS0.out.p2, by omega⟩⟩, by simp [intOf]; omega⟩
      · obtain rfl : k = L := by omega
        obtain ⟨s, ha, hsl⟩ := HK0.out
        have HK : Hid (P2 (fun b => b < w.heap.size) w wr gd gw s s) := ha
        clear ha HK0
        go_wp2_with fail
        go_ret
        exact ⟨rfl, HK.out.kept.below (fun _ h => h)⟩
  · go_enter Try.func3, Try.ntmps3
    go_wp2_with fail
    refine (awake_any w).mono ?_
    rintro e w1 ⟨rfl, h1⟩
    have B1 : Hid (Below w.heap.size w w1) := h1
    clear h1
    go_wp2_with fail
    refine (new_bad w1 sec hsec).mono ?_
    rintro e w2 ⟨rfl, rfl⟩
    go_wp2_with fail
    refine (rnew_bad w2 sec hsec).mono ?_
    rintro e w3 ⟨rfl, rfl⟩
    go_wp2_with fail
    go_ret
    exact ⟨rfl, B1.out⟩
end Go.Proofs.Ytmlialabdijcoaa
