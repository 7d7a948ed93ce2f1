/- Restart. -/
import Derived.Test.YthfpakjfdncphaaDoorDskH
import Derived.Deep.QuietTactic
import Derived.BigQuiet
namespace Go.Proofs.YthfpakjfdncphaaDoor
open Go Go.RowKit
set_option linter.unusedSimpArgs false
set_option linter.unusedVariables false
set_option maxRecDepth 100000

/-- What stands behind a crash that has come to the write k. -/
def rsK (st : Nat → List Int) (wt : List (Nat × List Int)) (cs : List Int) : Nat → Nat → List Int
  | 0 => st
  | k + 1 => match wt[k]? with
    | some p => upd (rsK st wt cs k) p.1 (tear (gi cs k) (rsK st wt cs k p.1) p.2)
    | none => rsK st wt cs k
theorem rsK_step {st : Nat → List Int} {wt : List (Nat × List Int)} {cs : List Int} {k : Nat} {p : Nat × List Int} (h : wt[k]? = some p) : rsK st wt cs (k + 1) = upd (rsK st wt cs k) p.1 (tear (gi cs k) (rsK st wt cs k p.1) p.2) := by
  rw [rsK, h]
theorem gi_out {cs : List Int} {k : Nat} (h : cs.length ≤ k) : gi cs k = 0 := by simp [gi, List.getElem?_eq_none h]
theorem rsK_past {st : Nat → List Int} {wt : List (Nat × List Int)} {cs : List Int} : ∀ (k d : Nat), cs.length ≤ k ∨ wt.length ≤ k → rsK st wt cs (k + d) = rsK st wt cs k
  | k, 0, _ => rfl
  | k, d + 1, h => by
    rw [← Nat.add_assoc, rsK]
    cases hp : wt[k + d]? with
    | none => exact rsK_past k d h
    | some p =>
      have hl := (List.getElem?_eq_some_iff.1 hp).1
      have h0 : gi cs (k + d) = 0 := gi_out (by omega)
      simp only [h0]
      rw [show ∀ o x, tear 0 o x = o from fun o x => rfl, upd_self]
      exact rsK_past k d h
theorem rsK_min {st : Nat → List Int} {wt : List (Nat × List Int)} {cs : List Int} {m : Nat} (hm : m = min wt.length cs.length) : rsK st wt cs m = rsK st wt cs wt.length := by
  have := rsK_past (st := st) (wt := wt) (cs := cs) m (wt.length - m) (by omega)
  rw [← this]; congr 1; omega
def rsS (s : Dk) (cs : List Int) : Dk := { s with st := rsK s.st s.wt cs s.wt.length, wt := [], dn := false, fz := none }
theorem Sl.chg {F : Nat → Prop} {w w' : World} {v : Value} {xs : List Int} (h : Sl w v xs) (c : Chg F w w') (d : ∀ b, v.ownBlock = some b → xs ≠ [] → ¬ F b) : Sl w' v xs := by
  obtain ⟨ad, cap, rfl, hc, h⟩ := h
  refine ⟨ad, cap, rfl, hc, ?_⟩
  rcases h with h | ⟨b, o, rfl, hlt, hm⟩
  · exact .inl h
  · refine .inr ⟨b, o, rfl, Nat.lt_of_lt_of_le hlt c.size, fun i hi => ?_⟩
    rw [World.cell?_of_block (w := w) (w' := w') (a := ⟨b, o + i, none⟩) (c.other b hlt (d b rfl (fun e => by rw [e] at hi; simp at hi)))]; exact hm i hi
variable {F : Nat → Prop} {w : World} {g : Nat} {s : Dk} {gs : Nat} {wv : Value} {fd : Bool} {fz : Int}
theorem sl_cell {w : World} {cb co cap i : Nat} {cs : List Int} (h : Sl w (.slice (some ⟨cb, co, none⟩) cs.length cap) cs) (hi : i < cs.length) : w.cell? ⟨cb, co + i, none⟩ = some (.int .u8 (gi cs i)) := by
  obtain ⟨a1, c1, e1, -, h1⟩ := h
  cases e1
  rcases h1 with ⟨h1, -⟩ | ⟨cb, co, h1, h2, h3⟩
  · rw [h1] at hi; simp at hi
  · cases h1; exact h3 i hi
def RX (F : Nat → Prop) (w0 w : World) (g : Nat) (s : Dk) (cs : List Int) (gs : Nat) (wv : Value) (fd : Bool) (fz : Int) (k : Nat) : Prop := PX F w g { s with st := rsK s.st s.wt cs k } gs wv fd fz ∧ Chg F w0 w
theorem RX.keep {w0 w' : World} {cs : List Int} {k : Nat} (h : RX F w0 w g s cs gs wv fd fz k) (hb : Below w.heap.size w w') : RX F w0 w' g s cs gs wv fd fz k :=
  ⟨h.1.keep hb.size (fun b hb' => hb.block b (h.1.Flt b hb')), h.2.trans (Chg.ofBelow hb)⟩
theorem RX.step {w0 w' : World} {cs : List Int} {k : Nat} {p : Nat × List Int} (h : RX F w0 w g s cs gs wv fd fz k) (hp : s.wt[k]? = some p) (c : Chg (fun b => b = gs) w w') (hs : SB w' gs s.n (upd (rsK s.st s.wt cs k) p.1 (tear (gi cs k) (rsK s.st s.wt cs k p.1) p.2))) : RX F w0 w' g s cs gs wv fd fz (k + 1) := by
  obtain ⟨h, hc⟩ := h
  have hne : ∀ c, c < w.heap.size → c ≠ gs → w'.heap[c]? = w.heap[c]? := fun b hb hn => c.other b hb hn
  refine ⟨⟨h.db.keep (hne g h.db.lt h.ggs), h.fz, ?_, h.wb.keep (fun c hc => hne c (h.wb.lt hc) (fun e => h.wgs (by rw [hc, e]))), h.ggs, h.wg, h.wgs, h.Fg, h.Fgs, h.Fw, fun b hb => Nat.lt_of_lt_of_le (h.Flt b hb) c.size, h.n1, h.n2⟩, hc.trans (c.mono (fun b hb => by subst hb; exact h.Fgs))⟩
  show SB _ gs s.n (rsK s.st s.wt cs (k + 1))
  rw [rsK_step hp]; exact hs
def rΩ (F : Nat → Prop) (w0 : World) (g : Nat) (s : Dk) (cs : List Int) (cv : Value) (gs : Nat) (wv : Value) (fd : Bool) (fz : Int) (j b5 : Nat) (p : Nat × List Int) : Nat → (Nat → Value) → World → Prop
  | 0, _, w => RX F w0 w g s cs gs wv fd fz j ∧ w.rangeAt b5 0 (wc p) ∧ Sl w cv cs
  | _, _, w => RX F w0 w g s cs gs wv fd fz (j + 1)
def rf (g gs n b5 : Nat) (p : Nat × List Int) (cv : Value) (cb co k : Nat) (c : Int) : Nat → Value
  | 0 => .pointer (some ⟨g, 0, none⟩)
  | 1 => .pointer (some ⟨g, 0, none⟩)
  | 2 => .pointer (some ⟨g, 0, none⟩)
  | 3 => .slice (some ⟨gs, 0, none⟩) n n
  | 4 => .pointer (some ⟨b5, 0, none⟩)
  | 5 => .int .i64 (p.1 : Int)
  | 6 => .pointer (some ⟨gs, p.1 * 64, none⟩)
  | 7 => .pointer (some ⟨b5, 1, none⟩)
  | 8 => .agg (bv p.2).toArray
  | 9 => cv
  | 10 => .int .i64 (k : Int)
  | 11 => .pointer (some ⟨cb, co + k, none⟩)
  | 12 => .int .u8 c
  | _ => undef
set_option maxHeartbeats 4000000 in
theorem restart_PX (h : PX F w g s gs wv fd fz) (cs : List Int) (cv : Value) (hc : Sl w cv cs) (hF : ∀ b, cv.ownBlock = some b → cs ≠ [] → ¬ F b) (hcl : cs.length ≤ 140737488355328) :
    Calls Tryd.prog 20 #[.pointer (some ⟨g, 0, none⟩), cv] w fun e w' => e = .returned (.tuple #[]) ∧ Aft F w w' g (rsS s cs) := by
  have H : Hid (PX F w g s gs wv fd fz) := h
  have HC : Hid (Sl w cv cs) := hc
  have HF : Hid (∀ b, cv.ownBlock = some b → cs ≠ [] → ¬ F b) := hF
  obtain ⟨ad, cap, hv, hcap, hn0, -⟩ := h.wb.shape
  obtain ⟨k0, k1, -, -, -, -⟩ := h.db.cells
  have hle := h.wb.le
  obtain ⟨cad, ccap, hcv, hccap, -⟩ := hc
  subst hv
  subst hcv
  clear h hF
  have hz := zero_write
  go_enter Tryd.func20, Tryd.ntmps20
  go_wp2_with fail
  go_quiet (fail)
  obtain ⟨m, hm⟩ : ∃ m, m = min s.wt.length cs.length := ⟨_, rfl⟩
  have hif : (if cs.length < s.wt.length then (cs.length : Int) else (s.wt.length : Int)) = (m : Int) := by split <;> omega
  have hm1 : m ≤ s.wt.length := by omega
  have hm2 : m ≤ cs.length := by omega
  have HM : Hid (m = min s.wt.length cs.length) := hm
  rw [hif, show max (m : Int) 0 = (m : Int) by omega, show (m : Int).toNat = m by omega]
  generalize hw0 : w.drewN nq = w0
  have H0 : Hid (RX F w w0 g s cs gs (.slice ad s.wt.length cap) fd fz 0) := by
    subst hw0
    exact ⟨H.out.keep (Nat.le_refl _) (fun _ _ => rfl), ⟨rfl, rfl, rfl, Nat.le_refl _, fun _ _ _ => rfl⟩⟩
  clear hif hm hw0 k0 k1
  go_wp2_with fail
  go_loopw [22] (fun c wr => ∃ k : Nat, k ≤ m ∧ c = .int .i64 (k : Int) ∧ Hid (RX F w wr g s cs gs (.slice ad s.wt.length cap) fd fz k)) (fun c _ => m - (intOf c).toNat)
  case atStart => exact ⟨0, Nat.zero_le _, rfl, H0⟩
  case round =>
    obtain ⟨k, hk, rfl, HK⟩ := hrel
    by_cases hlt : k < m
    · obtain ⟨p, hp⟩ : ∃ p, s.wt[k]? = some p := ⟨s.wt[k], List.getElem?_eq_getElem (by omega)⟩
      cases ad with
      | none => rw [hn0 rfl] at hp; simp at hp
      | some ad =>
        obtain ⟨ad', cap', hv', -, -, hsh⟩ := HK.out.1.wb.shape
        cases hv'
        obtain ⟨b, rfl, hb, hmm⟩ := hsh ad rfl
        have HR : Hid (wr.rangeAt b (k * 65) (wc p)) := hmm k p hp
        have HP : Hid (s.wt[k]? = some p) := hp
        have hok := H.out.wb.ok p (List.mem_of_getElem? hp)
        have HO : Hid (p.1 < s.n ∧ p.2.length = 64) := hok
        have HCk : Hid (Sl wr (.slice cad cs.length ccap) cs) := HC.out.chg HK.out.2 HF.out
        clear hmm hsh hp hok hn0 hb
        go_wp2_with (first
          | (refine wpList_load_mid rfl 71 _ rfl b (k * 65) rfl (wc p) _ HR.out Tryd.underlying71 rfl (by rw [wc_length HO.out.2]; exact size_write) ?_)
          | (refine wpList_store_mid rfl 71 _ _ rfl wr.heap.size 0 (wc p).toArray rfl rfl (write_there wr HO.out.2) (write_size HO.out.2) (all_oneCell_toArray (wc_one p)) ?_; generalize hW3 : World.setCells _ _ _ _ = W3; have H3 := write_start HO.out.2 hW3; clear hW3; have HK3 : Hid (RX F w W3 g s cs gs (.slice (some ⟨b, 0, none⟩) s.wt.length cap) fd fz k) := HK.out.keep H3.out.1; have HC3 : Hid (Sl W3 (.slice cad cs.length ccap) cs) := HCk.out.below H3.out.1 (Nat.le_refl _)))
        generalize hb5 : wr.heap.size = b5 at H3 ⊢
        obtain ⟨cb, co, rfl, hclt, hcm⟩ : ∃ cb co, cad = some ⟨cb, co, none⟩ ∧ cb < W3.heap.size ∧ ∀ i, i < cs.length → W3.cell? ⟨cb, co + i, none⟩ = some (.int .u8 (gi cs i)) := by
          obtain ⟨a1, c1, e1, -, h1⟩ := HC3.out
          cases e1
          rcases h1 with ⟨h1, -⟩ | ⟨cb, co, h1, h2, h3⟩
          · rw [h1] at hm2; simp at hm2; omega
          · exact ⟨cb, co, h1, h2, h3⟩
        clear hcm hclt
        refine RT.wp_rgn' [13] (rf g gs s.n b5 p (.slice (some ⟨cb, co, none⟩) cs.length ccap) cb co k (gi cs k)) sK (rΩ F w g s cs (.slice (some ⟨cb, co, none⟩) cs.length ccap) gs (.slice (some ⟨b, 0, none⟩) s.wt.length cap) fd fz k b5 p) (by kernel_rfl) (by kernel_rfl) ?_ ?_ ?_
        · exact ⟨⟨HK3.out.1.keep (Nat.le_refl _) (fun _ _ => rfl), HK3.out.2.trans ⟨rfl, rfl, rfl, Nat.le_refl _, fun _ _ _ => rfl⟩⟩, fun j u hu => H3.out.2 j u hu, HC3.out.below (w' := { W3 with drawn := W3.drawn + 1 }) ⟨rfl, rfl, rfl, Nat.le_refl _, fun _ _ => rfl⟩ (Nat.le_refl _)⟩
        · refine ⟨?_, ?_, ?_, ?_, ?_, ?_, ?_, ?_, ?_, ?_, ?_, ?_, ?_, ?_, trivial⟩
          · refine RT.ObT.pure rfl rfl rfl (fun a U hf hp ev he hc W => ?_)
            have q0 : ev (.tmp 0) = .pointer (some ⟨g, 0, none⟩) := (he (.tmp 0)).trans (hf 0 rfl)
            simp only [List.getElem_toArray, List.getElem_cons_succ, List.getElem_cons_zero, execOp]; rw [q0]; rfl
          · refine RT.ObT.pure rfl rfl rfl (fun a U hf hp ev he hc W => ?_)
            have q27 : ev (.tmp 27) = .pointer (some ⟨g, 0, none⟩) := (he (.tmp 27)).trans (hp 0 27 rfl)
            simp only [List.getElem_toArray, List.getElem_cons_succ, List.getElem_cons_zero, execOp]; rw [q27]; rfl
          · refine RT.ObT.pure rfl rfl rfl (fun a U hf hp ev he hc W => ?_)
            have q28 : ev (.tmp 28) = .pointer (some ⟨g, 0, none⟩) := (he (.tmp 28)).trans (hp 1 28 rfl)
            simp only [List.getElem_toArray, List.getElem_cons_succ, List.getElem_cons_zero, execOp]; rw [q28]; rfl
          · refine RT.ObT.silent rfl (fun a W k0 U hO hf hp hk => ?_)
            have hk0 : k0 ≤ 0 := hk
            obtain rfl : k0 = 0 := by omega
            have hc1 := hO.1.1.db.cells.1
            refine RT.ob_val rfl (RT.wanted_none rfl) (fun ev he hc => ?_) ⟨rfl, hO⟩
            have q29 : ev (.tmp 29) = .pointer (some ⟨g, 0, none⟩) := (he (.tmp 29)).trans (hp 2 29 rfl)
            simp only [List.getElem_toArray, List.getElem_cons_succ, List.getElem_cons_zero, execOp]; rw [q29]; go_simp; rfl
          · refine RT.ObT.pure rfl rfl rfl (fun a U hf hp ev he hc W => ?_)
            have q5 : ev (.tmp 5) = .pointer (some ⟨b5, 0, none⟩) := (he (.tmp 5)).trans (hf 5 rfl)
            simp only [List.getElem_toArray, List.getElem_cons_succ, List.getElem_cons_zero, execOp]; rw [q5]; rfl
          · refine RT.ObT.silent rfl (fun a W k0 U hO hf hp hk => ?_)
            have hk0 : k0 ≤ 0 := hk
            obtain rfl : k0 = 0 := by omega
            have hc1 := (show W.cell? ⟨b5, 0, none⟩ = some (.int .i64 (p.1 : Int)) from hO.2.1 0 _ rfl)
            refine RT.ob_val rfl (RT.wanted_none rfl) (fun ev he hc => ?_) ⟨rfl, hO⟩
            have q31 : ev (.tmp 31) = .pointer (some ⟨b5, 0, none⟩) := (he (.tmp 31)).trans (hp 4 31 rfl)
            simp only [List.getElem_toArray, List.getElem_cons_succ, List.getElem_cons_zero, execOp]; rw [q31]; go_simp; rfl
          · refine RT.ObT.pure rfl rfl rfl (fun a U hf hp ev he hc W => ?_)
            have q30 : ev (.tmp 30) = .slice (some ⟨gs, 0, none⟩) s.n s.n := (he (.tmp 30)).trans (hp 3 30 rfl)
            have q32 : ev (.tmp 32) = .int .i64 (p.1 : Int) := (he (.tmp 32)).trans (hp 5 32 rfl)
            have hi1 : ((p.1 : Nat) : Int) < (s.n : Int) := by have := HO.out.1; omega
            simp only [List.getElem_toArray, List.getElem_cons_succ, List.getElem_cons_zero, execOp]; rw [q30, q32]; go_simp; rfl
          · refine RT.ObT.pure rfl rfl rfl (fun a U hf hp ev he hc W => ?_)
            have q5 : ev (.tmp 5) = .pointer (some ⟨b5, 0, none⟩) := (he (.tmp 5)).trans (hf 5 rfl)
            simp only [List.getElem_toArray, List.getElem_cons_succ, List.getElem_cons_zero, execOp]; rw [q5]; rfl
          · refine RT.ObT.silent rfl (fun a W k0 U hO hf hp hk => ?_)
            have hk0 : k0 ≤ 0 := hk
            obtain rfl : k0 = 0 := by omega
            have hr : W.rangeAt b5 1 (bv p.2) := fun m u hu => by
              have := hO.2.1 (m + 1) u (by simpa [wc] using hu)
              rwa [show 0 + (m + 1) = 1 + m by omega] at this
            refine RT.ob_op rfl (RT.wanted_none rfl) (wp_load_mid 59 (.tmp 34) rfl b5 1 (hp 7 34 rfl) (bv p.2) _ hr Tryd.underlying59 rfl (by rw [bv_length, HO.out.2]; exact size64) ⟨rfl, hO⟩)
          · refine RT.ObT.pure rfl rfl rfl (fun a U hf hp ev he hc W => ?_)
            have q1 : ev (.tmp 1) = .slice (some ⟨cb, co, none⟩) cs.length ccap := (he (.tmp 1)).trans (hf 1 rfl)
            simp only [List.getElem_toArray, List.getElem_cons_succ, List.getElem_cons_zero, execOp]; rw [q1]; rfl
          · refine RT.ObT.pure rfl rfl rfl (fun a U hf hp ev he hc W => ?_)
            have q4 : ev (.tmp 4) = .int .i64 (k : Int) := (he (.tmp 4)).trans (hf 4 rfl)
            simp only [List.getElem_toArray, List.getElem_cons_succ, List.getElem_cons_zero, execOp]; rw [q4]; rfl
          · refine RT.ObT.pure rfl rfl rfl (fun a U hf hp ev he hc W => ?_)
            have q36 : ev (.tmp 36) = .slice (some ⟨cb, co, none⟩) cs.length ccap := (he (.tmp 36)).trans (hp 9 36 rfl)
            have q37 : ev (.tmp 37) = .int .i64 (k : Int) := (he (.tmp 37)).trans (hp 10 37 rfl)
            have hi1 : ((k : Nat) : Int) < (cs.length : Int) := by omega
            simp only [List.getElem_toArray, List.getElem_cons_succ, List.getElem_cons_zero, execOp]; rw [q36, q37]; go_simp; rfl
          · refine RT.ObT.silent rfl (fun a W k0 U hO hf hp hk => ?_)
            have hk0 : k0 ≤ 0 := hk
            obtain rfl : k0 = 0 := by omega
            have hc1 := (show W.cell? ⟨cb, co + k, none⟩ = some (.int .u8 (gi cs k)) from sl_cell hO.2.2 (by omega))
            refine RT.ob_val rfl (RT.wanted_none rfl) (fun ev he hc => ?_) ⟨rfl, hO⟩
            have q38 : ev (.tmp 38) = .pointer (some ⟨cb, co + k, none⟩) := (he (.tmp 38)).trans (hp 11 38 rfl)
            simp only [List.getElem_toArray, List.getElem_cons_succ, List.getElem_cons_zero, execOp]; rw [q38]; go_simp; rfl
          · refine RT.ObT.loud (j := 0) rfl (fun a W U hO hf hp => ?_)
            refine RT.ob_call (g := 31) (args := #[.pointer (some ⟨gs, p.1 * 64, none⟩), .agg (bv p.2).toArray, .int .u8 (gi cs k)]) rfl (RT.wanted_none rfl) (fun ev he hc => ?_) ((land_any hO.1.1.sb HO.out.1 HO.out.2).mono ?_)
            · have e1 := (he (.tmp 33)).trans (hp 6 33 rfl)
              have e2 := (he (.tmp 35)).trans (hp 8 35 rfl)
              have e3 := (he (.tmp 39)).trans (hp 12 39 rfl)
              simp only [List.getElem_toArray, List.getElem_cons_succ, List.getElem_cons_zero, execOp]
              simp only [resolve, invoke, builtin, Sem.run_bind, Sem.run_pure, Result.andThen_ok, List.map_toArray, List.map_cons, List.map_nil, e1, e2, e3, he, Act.eval]
              rfl
            · rintro e w' ⟨rfl, h1, h2⟩
              exact ⟨_, rfl, _, rfl, hO.1.step HP.out h2 h1⟩
        · intro w' U hO
          have HO' : Hid (RX F w w' g s cs gs (.slice (some ⟨b, 0, none⟩) s.wt.length cap) fd fz (k + 1)) := hO
          clear hO
          simp only [RT.lay, RT.val, RT.at', rf, Act.put]
          go_wp2_with fail
          exact ⟨⟨k + 1, hlt, by go_num, HO'⟩, by simp [intOf]; omega⟩
    · obtain rfl : k = m := by omega
      have f1 := HK.out.1.db.froz 1
      have f3 := HK.out.1.db.froz 3
      have f4 := HK.out.1.db.froz 4
      have f5 := HK.out.1.db.froz 5
      obtain ⟨-, k1, -, k3, k4, k5⟩ := HK.out.1.db.cells
      go_wp2_with fail
      go_end0
      have h := HK.out.1.cleared
      have hr := rsK_min (st := s.st) HM.out
      refine ⟨rfl, F, ⟨gs, .slice none 0 0, false, 0, ?_⟩, (((HK.out.2.setCell h.Fg).setCell h.Fg).setCell h.Fg).setCell h.Fg, fun b hb => .inl hb⟩
      have hne : ∀ c, c ≠ g → ((((wr.setCell ⟨g, 1, none⟩ (.slice none 0 0)).setCell ⟨g, 4, none⟩ (.bool false)).setCell ⟨g, 5, none⟩ (.int .i64 0)).setCell ⟨g, 3, none⟩ (.bool false)).heap[c]? = (wr.setCell ⟨g, 1, none⟩ (.slice none 0 0)).heap[c]? := fun c hc => ((Below.heap_setCell _ _ _ _ hc).trans (Below.heap_setCell _ _ _ _ hc)).trans (Below.heap_setCell _ _ _ _ hc)
      have hs : ((((wr.setCell ⟨g, 1, none⟩ (.slice none 0 0)).setCell ⟨g, 4, none⟩ (.bool false)).setCell ⟨g, 5, none⟩ (.int .i64 0)).setCell ⟨g, 3, none⟩ (.bool false)).heap.size = (wr.setCell ⟨g, 1, none⟩ (.slice none 0 0)).heap.size := by simp [World.setCell]
      refine ⟨((h.db.set4 false).set5 0).set3 false, rfl, ?_, ⟨World.ownsRow_nil _ _ _ _, fun p hp => by cases hp⟩, h.ggs, by simp [Value.ownBlock], by simp [Value.ownBlock], h.Fg, h.Fgs, fun b hb => by simp [Value.ownBlock] at hb, fun c hc => by rw [hs]; exact h.Flt c hc, h.n1, h.n2⟩
      show SB _ gs s.n (rsK s.st s.wt cs s.wt.length)
      rw [← hr]
      exact h.sb.keep (hne gs (Ne.symm h.ggs))
end Go.Proofs.YthfpakjfdncphaaDoor
