/- follow. -/
import Derived.Test.YtphjjjijdbljaaaDoorWalK
namespace Go.Proofs.YtphjjjijdbljaaaDoor
open Go Go.RowKit
set_option linter.unusedSimpArgs false
set_option linter.unusedVariables false
set_option maxRecDepth 100000

/-- Memory only grows. -/
def gR : Nat → World → World → Prop := fun _ a b => Below a.heap.size a b
/-- What is yielded holds to the end. -/
def nD (n : Nat) : Nat → Nat := fun _ => n
def vff (lg g e t : Nat) : Nat → Value
  | 2 => .pointer (some ⟨lg, 0, none⟩)
  | 3 => .pointer (some ⟨g, 0, none⟩)
  | 6 => .pointer (some ⟨lg, 131, none⟩)
  | 7 => .int .i64 (e : Int)
  | 8 => .int .i64 (t : Int)
  | _ => .pointer (some ⟨lg, 0, none⟩)
def vφ (lg g e t B : Nat) (o : Option (List Int)) : Nat → Value → World → Prop
  | 9, v, W => ∃ v', v = .tuple #[v', .bool o.isSome] ∧ TkR B W v' o
  | 10, v, W => ∃ v', v = .tuple #[v', .bool o.isSome] ∧ TkR B W v' o
  | 11, v, W => TkR B W v o
  | 12, v, _ => v = .bool o.isSome
  | 13, v, W => TkR B W v o
  | 14, v, _ => v = .bool o.isSome
  | i, v, _ => v = vff lg g e t i
theorem TkR.below {B : Nat} {W W' : World} {v : Value} {o : Option (List Int)} (h : TkR B W v o) (hb : Below W.heap.size W W') : TkR B W' v o := by
  cases o with
  | none => exact h
  | some P => exact Ow.below h hb
theorem TkR.mono {B B' : Nat} {W : World} {v : Value} {o : Option (List Int)} (h : TkR B W v o) (hb : B' ≤ B) : TkR B' W v o := by
  cases o with
  | none => exact h
  | some P => exact Ow.mono h hb
theorem vφ.stay {lg g e t B : Nat} {o : Option (List Int)} (i : Nat) {v : Value} {W W' : World} (h : vφ lg g e t B o i v W) (hb : Below W.heap.size W W') : vφ lg g e t B o i v W' := by
  by_cases h9 : i = 9
  · subst h9; obtain ⟨v', h1, h2⟩ := h; exact ⟨v', h1, h2.below hb⟩
  by_cases h10 : i = 10
  · subst h10; obtain ⟨v', h1, h2⟩ := h; exact ⟨v', h1, h2.below hb⟩
  by_cases h11 : i = 11
  · subst h11; exact TkR.below h hb
  by_cases h13 : i = 13
  · subst h13; exact TkR.below h hb
  by_cases h12 : i = 12
  · subst h12; exact h
  by_cases h14 : i = 14
  · subst h14; exact h
  have e1 : ∀ W, vφ lg g e t B o i v W = (v = vff lg g e t i) := by
    intro W
    unfold vφ
    split <;> first | rfl | contradiction
  rw [e1] at h ⊢; exact h
theorem OL.shape {B0 : Nat} {w : World} {v : Value} {us : List Value} {xss : List (List Int)} (h : OL B0 w v us xss) : ∃ ad n c, v = .slice ad n c := by
  rcases h.row.2 with ⟨rfl, _⟩ | ⟨g, cap, cur, rfl, _⟩
  · exact ⟨_, _, _, rfl⟩
  · exact ⟨_, _, _, rfl⟩
theorem frz_after {S F H : Nat → Prop} {W w5 : World} {g : Nat} {s : Dk} {lg : Nat} {l : Lo} {rv : Value} {us : List Value} {o : Obj} (h : WX S F H W g s lg l rv us) (hg : (W.alloc o).grownBy w5 rv.ownBlock) : w5.frozen? ⟨lg, 130, none⟩ = false ∧ w5.cell? ⟨lg, 130, none⟩ = some rv := by
  have hlt := h.lw.lb.lt
  have hsz : (W.alloc o).heap.size = W.heap.size + 1 := by simp
  have e : w5.heap[lg]? = W.heap[lg]? := by
    rw [hg.block lg (by omega) (fun e => (h.lw.hrv lg e.symm).2 rfl)]
    exact ((Below.refl W.heap.size W).alloc (Nat.le_refl _) o).block lg hlt
  exact ⟨LB.froz (e.trans h.lw.lb) 130, (LB.cells (e.trans h.lw.lb) h.lw.f0 h.lw.f1).2.2.1⟩
/-- One more record is put to the log's list. -/
theorem WX.push {S F H : Nat → Prop} {W w5 : World} {g : Nat} {s : Dk} {lg : Nat} {l : Lo} {rv v4 v5 : Value} {us : List Value} {P : List Int} {o : Obj} {B : Nat} (h : WX S F H W g s lg l rv us) (hg : (W.alloc o).grownBy w5 rv.ownBlock) (ol : OL 0 w5 v5 (us ++ [v4]) (l.rs ++ [P]))
    (hv : v5.ownBlock = rv.ownBlock ∨ v5.ownBlock = some (W.alloc o).heap.size) (h4 : ∀ b, v4.ownBlock = some b → B ≤ b ∧ b < W.heap.size) (hH : ∀ b, H b ∨ F b → b < B) (hB : B ≤ W.heap.size) (hT : 1 < B ∧ 2 < B) :
    ∃ S' H', WX S' F H' (w5.setCell ⟨lg, 130, none⟩ v5) g s lg { l with rs := l.rs ++ [P] } v5 (us ++ [v4]) ∧ Chg S W (w5.setCell ⟨lg, 130, none⟩ v5) ∧ ∀ b, S' b → S b ∨ B ≤ b := by
  have hsz : (W.alloc o).heap.size = W.heap.size + 1 := by simp
  have hs5 : W.heap.size + 1 ≤ w5.heap.size := by have := hg.size; omega
  have hs6 : (w5.setCell ⟨lg, 130, none⟩ v5).heap.size = w5.heap.size := by simp [World.setCell]
  have k5 : ∀ b, b < W.heap.size → rv.ownBlock ≠ some b → w5.heap[b]? = W.heap[b]? := fun b hb hn => by
    rw [hg.block b (by omega) (Ne.symm hn)]
    exact ((Below.refl W.heap.size W).alloc (Nat.le_refl _) o).block b hb
  have k6 : ∀ b, b ≠ lg → (w5.setCell ⟨lg, 130, none⟩ v5).heap[b]? = w5.heap[b]? := fun b hb => Below.heap_setCell _ _ _ _ hb
  have hlg : lg < B := hH lg (.inl h.lw.hg)
  have hrl : rv.ownBlock ≠ some lg := fun e => (h.lw.hrv lg e).2 rfl
  have hv5 : ∀ b, v5.ownBlock = some b → b ≠ lg ∧ (rv.ownBlock = some b ∨ W.heap.size < b) := fun b e => by
    rcases hv with x | x
    · rw [x] at e; exact ⟨(h.lw.hrv b e).2, .inl e⟩
    · rw [x] at e; cases e; exact ⟨by omega, .inr (by omega)⟩
  have hF : ∀ b, F b → b < W.heap.size ∧ b ≠ lg ∧ rv.ownBlock ≠ some b := fun b hb => ⟨h.pd.lt hb, fun e => h.ap lg h.lw.hg (e ▸ hb), fun e => h.ap b (h.lw.hrv b e).1 hb⟩
  have hSn : ∀ b, b < W.heap.size → ¬ S b → (w5.setCell ⟨lg, 130, none⟩ v5).heap[b]? = W.heap[b]? := fun b hb hn => by
    rw [k6 b (fun e => hn (h.sh b (e ▸ h.lw.hg))), k5 b hb (fun e => hn (h.sh b (h.lw.hrv b e).1))]
  refine ⟨fun b => S b ∨ v5.ownBlock = some b ∨ v4.ownBlock = some b, fun b => H b ∨ v5.ownBlock = some b ∨ v4.ownBlock = some b, ⟨?_, ⟨?_, h.lw.f0, h.lw.f1, ?_, .inl h.lw.hg, ?_, ?_, ?_⟩, h.dk, ?_, fun b hb => .inl (h.sf b hb), ?_, h.bt, ?_, ?_, ?_⟩, ⟨?_, ?_, ?_, ?_, hSn⟩, ?_⟩
  · exact h.pd.keep (by omega) (fun b hb => by rw [k6 b (hF b hb).2.1, k5 b (hF b hb).1 (hF b hb).2.2])
  · exact LB.setR ((k5 lg (by omega) hrl).trans h.lw.lb) h.lw.f0 h.lw.f1 _ v5
  · refine ol.keep (by omega) (fun b e => k6 b (hv5 b e).1) (fun i u hu b e => k6 b ?_)
    rcases Nat.lt_or_ge i us.length with hl | hl
    · rw [List.getElem?_append_left hl] at hu; exact (h.lw.hus i u hu b e).2
    · rw [List.getElem?_append_right hl] at hu
      have : u = v4 := by
        obtain ⟨hj0, hj1⟩ := List.getElem?_eq_some_iff.1 hu
        simp at hj1; exact hj1.symm
      subst this
      have := (h4 b e).1; omega
  · exact fun b e => ⟨.inr (.inl e), (hv5 b e).1⟩
  · intro i u hu b e
    rcases Nat.lt_or_ge i us.length with hl | hl
    · rw [List.getElem?_append_left hl] at hu; exact ⟨.inl (h.lw.hus i u hu b e).1, (h.lw.hus i u hu b e).2⟩
    · rw [List.getElem?_append_right hl] at hu
      have : u = v4 := by
        obtain ⟨hj0, hj1⟩ := List.getElem?_eq_some_iff.1 hu
        simp at hj1; exact hj1.symm
      subst this
      exact ⟨.inr (.inr e), by have := (h4 b e).1; omega⟩
  · intro b hb
    rw [hs6]
    rcases hb with x | x | x
    · have := h.lw.hlt b x; omega
    · exact (ol.blk b x).2
    · have := (h4 b x).2; omega
  · intro b hb hf
    have h1 := hF b hf
    rcases hb with x | x | x
    · exact h.ap b x hf
    · rcases (hv5 b x).2 with y | y
      · exact h1.2.2 y
      · omega
    · have h2 := (h4 b x).1; have h3 := hH b (.inr hf); omega
  · intro b hb
    rcases hb with x | x | x
    · exact .inl (h.sh b x)
    · exact .inr (.inl x)
    · exact .inr (.inr x)
  · exact h.tb.keep (hSn _ h.tb.lt.1 h.at'.1) (hSn _ h.tb.lt.2 h.at'.2)
  · constructor
    · rintro (x | x | x)
      · exact h.at'.1 x
      · rcases (hv5 _ x).2 with y | y
        · exact h.at'.1 (h.sh _ (h.lw.hrv _ y).1)
        · have := h.tb.lt.1; omega
      · have := (h4 _ x).1; omega
    · rintro (x | x | x)
      · exact h.at'.2 x
      · rcases (hv5 _ x).2 with y | y
        · exact h.at'.2 (h.sh _ (h.lw.hrv _ y).1)
        · have := h.tb.lt.2; omega
      · have := (h4 _ x).1; omega
  · intro b hb
    rw [hs6]
    rcases hb with x | x | x
    · have := h.sl b x; omega
    · exact (ol.blk b x).2
    · have := (h4 b x).2; omega
  · exact hg.os
  · exact hg.tape
  · exact hg.output
  · rw [hs6]; omega
  · intro b hb
    rcases hb with x | x | x
    · exact .inl x
    · rcases (hv5 b x).2 with y | y
      · exact .inl (h.sh b (h.lw.hrv b y).1)
      · exact .inr (by omega)
    · exact .inr (h4 b x).1
theorem WX.setE {S F H : Nat → Prop} {W : World} {g : Nat} {s : Dk} {lg : Nat} {l : Lo} {rv : Value} {us : List Value} (h : WX S F H W g s lg l rv us) (e : Nat) :
    WX S F H (W.setCell ⟨lg, 131, none⟩ (.int .i64 (e : Int))) g s lg { l with en := e } rv us ∧ Chg S W (W.setCell ⟨lg, 131, none⟩ (.int .i64 (e : Int))) := by
  have hs : (W.setCell ⟨lg, 131, none⟩ (.int .i64 (e : Int))).heap.size = W.heap.size := by simp [World.setCell]
  have k : ∀ b, b ≠ lg → (W.setCell ⟨lg, 131, none⟩ (.int .i64 (e : Int))).heap[b]? = W.heap[b]? := fun b hb => Below.heap_setCell _ _ _ _ hb
  have hS : ∀ b, ¬ S b → b ≠ lg := fun b hn e => hn (e ▸ h.sh lg h.lw.hg)
  exact ⟨⟨h.pd.keep (by omega) (fun b hb => k b (fun e => h.ap lg h.lw.hg (e ▸ hb))), ⟨h.lw.lb.setE h.lw.f0 h.lw.f1 e, h.lw.f0, h.lw.f1, h.lw.ol.keep (by omega) (fun b x => k b (h.lw.hrv b x).2) (fun i u hu b x => k b (h.lw.hus i u hu b x).2), h.lw.hg, h.lw.hrv, h.lw.hus, fun b hb => by rw [hs]; exact h.lw.hlt b hb⟩, h.dk, h.ap, h.sf, h.sh, h.bt, h.tb.keep (k _ (hS _ h.at'.1)) (k _ (hS _ h.at'.2)), h.at', fun b x => by rw [hs]; exact h.sl b x⟩, (Chg.refl _ _).setCell (h.sh lg h.lw.hg)⟩
def eΩ (S F H : Nat → Prop) (w6 : World) (g : Nat) (s : Dk) (lg : Nat) (l : Lo) (rv : Value) (us : List Value) (e : Nat) : Nat → (Nat → Value) → World → Prop
  | 0, _, W => WX S F H W g s lg l rv us ∧ Chg S w6 W
  | _, _, W => WX S F H W g s lg { l with en := e } rv us ∧ Chg S w6 W
def ef (lg e n f : Nat) (v4 : Value) : Nat → Value
  | 2 => .pointer (some ⟨lg, 131, none⟩)
  | 3 => .int .i64 (e : Int)
  | 4 => v4
  | 5 => .int .i64 (n : Int)
  | 6 => .int .i64 (f : Int)
  | 7 => .int .i64 ((e + f : Nat) : Int)
  | 9 => .pointer (some ⟨lg, 131, none⟩)
  | 10 => undef
  | _ => .pointer (some ⟨lg, 0, none⟩)
set_option maxHeartbeats 2000000 in
theorem follow_any {S : Nat → Prop} {w : World} {g : Nat} {s : Dk} {lg : Nat} {l : Lo} (h : WL S w g s lg l) (h0 : l.t ≠ 0) (ht : l.t < 18446744073709551616) (he : l.en ≤ 65536) (hr : l.rs.length ≤ 1000000000) :
    Calls Tryd.prog 44 #[.pointer (some ⟨lg, 0, none⟩)] w fun e w' => e = .returned (.tuple #[]) ∧ ∃ ns e', Frs s (hfT s.n l.t) l.en ns e' ∧ tk s e' (hfT s.n l.t) = none ∧ AftL S w w' g s lg { l with rs := l.rs ++ ns, en := e' } := by
  have HW : Hid (WL S w g s lg l) := h
  have HR : Hid (l.rs.length ≤ 1000000000) := hr
  obtain ⟨F, H, rv, us, hx⟩ := h
  obtain ⟨c0, c1, c130, c131, c132⟩ := hx.lw.lb.cells hx.lw.f0 hx.lw.f1
  have HP : Hid (PD F w g s) := hx.pd
  have HSB : Hid (Sby s) := hx.by'
  rw [hx.dk] at c0
  have hn2 := hx.pd.n2
  clear hx c130 c131 c132 hr
  obtain ⟨T, hT⟩ : ∃ T, hfT s.n l.t = T := ⟨_, rfl⟩
  have HT : Hid (hfT s.n l.t = T) := hT
  have hTb : T ≤ 65536 := by
    rw [← hT]; unfold hfT
    have : l.t % 2 = 0 ∨ l.t % 2 = 1 := by omega
    rcases this with h | h <;> rw [h] <;> omega
  rw [hT]
  clear hT
  obtain ⟨tt, htt⟩ : ∃ tt, l.t = tt := ⟨_, rfl⟩
  have HTT : Hid (l.t = tt) := htt
  rw [htt] at c1 ht h0
  have g0 : ¬ ((tt : Int) = 0) := by omega
  clear htt
  go_enter Tryd.func44, Tryd.ntmps44
  go_wp2_with fail
  refine (half_any HP.out c0 (by omega) tt ht).mono ?_
  rintro e w' ⟨rfl, rfl⟩
  rw [← HTT.out, HT.out]
  clear c0 c1 HP
  go_wp2_with fail
  go_loopw [4] (fun _ wr => ∃ ns e', Frs s T l.en ns e' ∧ (e' ≤ 65536) ∧ AftL S w' wr g s lg { l with rs := l.rs ++ ns, en := e' }) (fun _ wr => T - (intOf ((wr.cell? ⟨lg, 131, none⟩).getD undef)).toNat)
  case atStart => exact ⟨[], l.en, rfl, he, by rw [List.append_nil]; exact AftL.refl HW.out⟩
  case round =>
    obtain ⟨ns, e, hf, heb, ha⟩ := hrel
    have HF : Hid (Frs s T l.en ns e) := hf
    obtain ⟨S1, hw1, hc1, hs1⟩ := ha
    have HC1 : Hid (Chg S w' wr) := hc1
    have HS1 : Hid (∀ b, S1 b → S b ∨ w'.heap.size ≤ b) := hs1
    obtain ⟨F1, H1, rv1, us1, hx1⟩ := hw1
    have HX : Hid (WX S1 F1 H1 wr g s lg { l with rs := l.rs ++ ns, en := e } rv1 us1) := hx1
    clear hf hc1 hs1 hx1 HW
    have HCS : Hid (∀ W, Below wr.heap.size wr W → W.cell? ⟨lg, 0, none⟩ = some (.pointer (some ⟨g, 0, none⟩)) ∧ W.cell? ⟨lg, 131, none⟩ = some (.int .i64 (e : Int)) ∧ W.cell? ⟨lg, 130, none⟩ = some rv1) := by
      intro W hb
      have hq := HX.out.below hb
      obtain ⟨k0, k1, k2, k3, k4⟩ := hq.lw.lb.cells hq.lw.f0 hq.lw.f1
      rw [hq.dk] at k0
      exact ⟨k0, k3, k2⟩
    go_wp2_with fail
    refine RD.wp_rgn (vφ lg g e T wr.heap.size (tk s e T)) (fun a b => wr.heap.size ≤ a.heap.size → Below wr.heap.size a b) gR (nD 15) (fun _ => (Below.refl _ wr).drew) (fun i a b c h r hB => (h hB).trans (Below.mono r (Nat.le_trans hB (h hB).size))) (by kernel_rfl) (by decide) (by kernel_rfl) (by kernel_rfl) (fun i o u W ho hd h => ?_) (fun i j u W W' hij hD hp h r => vφ.stay i h r) ⟨?_, ?_, ?_, ?_, ?_, ?_, ?_, ?_, ?_, ?_, ?_, ?_, ?_, ?_, ?_, trivial⟩ ?_
    · rcases i with _ | _ | _ | _ | _ | _ | _ | _ | _ | _ | _ | _ | _ | _ | _ | i
      all_goals first | (cases ho; cases hd; done) | (simp at ho; done)
    · intro a W h2 h3 h4
      have e1 : a.eval (.tmp 0) = .pointer (some ⟨lg, 0, none⟩) := h3 0 (by kernel_rfl)
      exact RD.ob_val rfl (RD.wanted_none rfl) (fun ev he hc => by have q := (he (.tmp 0)).trans e1; simp only [List.getElem_toArray, List.getElem_cons_succ, List.getElem_cons_zero, execOp, Option.map_some, Option.map_none]; rw [q]; first | (go_simp; done) | (go_simp; rfl)) rfl (Below.refl _ _)
    · intro a W h2 h3 h4
      have e1 : a.eval (.tmp 21) = .pointer (some ⟨lg, 0, none⟩) := RD.hpD h4 0 21 (by kernel_rfl) (.inr (by decide))
      exact RD.ob_val rfl (RD.wanted_none rfl) (fun ev he hc => by have q := (he (.tmp 21)).trans e1; simp only [List.getElem_toArray, List.getElem_cons_succ, List.getElem_cons_zero, execOp, Option.map_some, Option.map_none]; rw [q]; first | (go_simp; done) | (go_simp; rfl)) rfl (Below.refl _ _)
    · intro a W h2 h3 h4
      have e1 : a.eval (.tmp 22) = .pointer (some ⟨lg, 0, none⟩) := RD.hpD h4 1 22 (by kernel_rfl) (.inr (by decide))
      exact RD.ob_val rfl (RD.wanted_none rfl) (fun ev he hc => by have q := (he (.tmp 22)).trans e1; simp only [List.getElem_toArray, List.getElem_cons_succ, List.getElem_cons_zero, execOp, Option.map_some, Option.map_none]; rw [q]; first | (go_simp; done) | (go_simp; rfl)) rfl (Below.refl _ _)
    · intro a W h2 h3 h4
      have e1 : a.eval (.tmp 23) = .pointer (some ⟨lg, 0, none⟩) := RD.hpD h4 2 23 (by kernel_rfl) (.inr (by decide))
      have hcs := (HCS.out W (h2 (Nat.le_refl _))).1
      exact RD.ob_val rfl (RD.wanted_none rfl) (fun ev he hc => by have q := (he (.tmp 23)).trans e1; simp only [List.getElem_toArray, List.getElem_cons_succ, List.getElem_cons_zero, execOp, Option.map_some, Option.map_none]; rw [q]; first | (go_simp; done) | (go_simp; rfl)) rfl (Below.refl _ _)
    · intro a W h2 h3 h4
      have e1 : a.eval (.tmp 0) = .pointer (some ⟨lg, 0, none⟩) := h3 0 (by kernel_rfl)
      exact RD.ob_val rfl (RD.wanted_none rfl) (fun ev he hc => by have q := (he (.tmp 0)).trans e1; simp only [List.getElem_toArray, List.getElem_cons_succ, List.getElem_cons_zero, execOp, Option.map_some, Option.map_none]; rw [q]; first | (go_simp; done) | (go_simp; rfl)) rfl (Below.refl _ _)
    · intro a W h2 h3 h4
      have e1 : a.eval (.tmp 25) = .pointer (some ⟨lg, 0, none⟩) := RD.hpD h4 4 25 (by kernel_rfl) (.inr (by decide))
      exact RD.ob_val rfl (RD.wanted_none rfl) (fun ev he hc => by have q := (he (.tmp 25)).trans e1; simp only [List.getElem_toArray, List.getElem_cons_succ, List.getElem_cons_zero, execOp, Option.map_some, Option.map_none]; rw [q]; first | (go_simp; done) | (go_simp; rfl)) rfl (Below.refl _ _)
    · intro a W h2 h3 h4
      have e1 : a.eval (.tmp 26) = .pointer (some ⟨lg, 0, none⟩) := RD.hpD h4 5 26 (by kernel_rfl) (.inr (by decide))
      exact RD.ob_val rfl (RD.wanted_none rfl) (fun ev he hc => by have q := (he (.tmp 26)).trans e1; simp only [List.getElem_toArray, List.getElem_cons_succ, List.getElem_cons_zero, execOp, Option.map_some, Option.map_none]; rw [q]; first | (go_simp; done) | (go_simp; rfl)) rfl (Below.refl _ _)
    · intro a W h2 h3 h4
      have e1 : a.eval (.tmp 27) = .pointer (some ⟨lg, 131, none⟩) := RD.hpD h4 6 27 (by kernel_rfl) (.inr (by decide))
      have hcs := (HCS.out W (h2 (Nat.le_refl _))).2.1
      exact RD.ob_val rfl (RD.wanted_none rfl) (fun ev he hc => by have q := (he (.tmp 27)).trans e1; simp only [List.getElem_toArray, List.getElem_cons_succ, List.getElem_cons_zero, execOp, Option.map_some, Option.map_none]; rw [q]; first | (go_simp; done) | (go_simp; rfl)) rfl (Below.refl _ _)
    · intro a W h2 h3 h4
      have e1 : a.eval (.tmp 3) = .int .i64 (T : Int) := h3 3 (by kernel_rfl)
      exact RD.ob_val rfl (RD.wanted_none rfl) (fun ev he hc => by have q := (he (.tmp 3)).trans e1; simp only [List.getElem_toArray, List.getElem_cons_succ, List.getElem_cons_zero, execOp, Option.map_some, Option.map_none]; rw [q]; first | (go_simp; done) | (go_simp; rfl)) rfl (Below.refl _ _)
    · intro a W h2 h3 h4
      have e1 : a.eval (.tmp 24) = .pointer (some ⟨g, 0, none⟩) := RD.hpD h4 3 24 (by kernel_rfl) (.inr (by decide))
      have e2 : a.eval (.tmp 28) = .int .i64 (e : Int) := RD.hpD h4 7 28 (by kernel_rfl) (.inr (by decide))
      have e3 : a.eval (.tmp 29) = .int .i64 (T : Int) := RD.hpD h4 8 29 (by kernel_rfl) (.inr (by decide))
      have hb := h2 (Nat.le_refl _)
      have hq := HX.out.below hb
      refine RD.ob_call (f := 41) (args := #[.pointer (some ⟨g, 0, none⟩), .int .i64 (e : Int), .int .i64 (T : Int)]) rfl (RD.wanted_none rfl) (fun ev he hc => by
        have q1 := (he (.tmp 24)).trans e1
        have q2 := (he (.tmp 28)).trans e2
        have q3 := (he (.tmp 29)).trans e3
        simp only [List.getElem_toArray, List.getElem_cons_succ, List.getElem_cons_zero, execOp, Option.map_some, Option.map_none]; simp only [resolve, invoke, Sem.run_bind, Sem.run_pure, Result.andThen_ok, List.map_toArray, List.map_cons, List.map_nil, q1, q2, q3]; first | (go_simp; done) | (go_simp; rfl)) ?_
      refine (takeFrame_any hq.pd hq.by' hq.tb e T (by omega) (by omega)).mono ?_
      rintro e w1 ⟨v', rfl, h5, h6⟩
      exact ⟨_, rfl, ⟨v', rfl, h5.mono hb.size⟩, h6⟩
    · intro a W h2 h3 h4
      obtain ⟨v', e1, h5⟩ : ∃ v', a.eval (.tmp 30) = .tuple #[v', .bool (tk s e T).isSome] ∧ TkR wr.heap.size W v' (tk s e T) := RD.hpD h4 9 30 (by kernel_rfl) (.inr (by decide))
      exact RD.ob_val (v := .tuple #[v', .bool (tk s e T).isSome]) rfl (RD.wanted_none rfl) (fun ev he hc => by have q := (he (.tmp 30)).trans e1; simp only [List.getElem_toArray, List.getElem_cons_succ, List.getElem_cons_zero, execOp, Option.map_some, Option.map_none]; rw [q]; first | (go_simp; done) | (go_simp; rfl)) ⟨v', rfl, h5⟩ (Below.refl _ _)
    · intro a W h2 h3 h4
      obtain ⟨v', e1, h5⟩ : ∃ v', a.eval (.tmp 20) = .tuple #[v', .bool (tk s e T).isSome] ∧ TkR wr.heap.size W v' (tk s e T) := RD.hpD h4 10 20 (by kernel_rfl) (.inr (by decide))
      exact RD.ob_val (v := v') rfl (RD.wanted_none rfl) (fun ev he hc => by have q := (he (.tmp 20)).trans e1; simp only [List.getElem_toArray, List.getElem_cons_succ, List.getElem_cons_zero, execOp, Option.map_some, Option.map_none]; rw [q]; first | (go_simp; done) | (go_simp; rfl)) h5 (Below.refl _ _)
    · intro a W h2 h3 h4
      obtain ⟨v', e1, h5⟩ : ∃ v', a.eval (.tmp 20) = .tuple #[v', .bool (tk s e T).isSome] ∧ TkR wr.heap.size W v' (tk s e T) := RD.hpD h4 10 20 (by kernel_rfl) (.inr (by decide))
      exact RD.ob_val (v := .bool (tk s e T).isSome) rfl (RD.wanted_none rfl) (fun ev he hc => by have q := (he (.tmp 20)).trans e1; simp only [List.getElem_toArray, List.getElem_cons_succ, List.getElem_cons_zero, execOp, Option.map_some, Option.map_none]; rw [q]; first | (go_simp; done) | (go_simp; rfl)) rfl (Below.refl _ _)
    · intro a W h2 h3 h4
      have h5 : TkR wr.heap.size W (a.eval (.tmp 31)) (tk s e T) := RD.hpD h4 11 31 (by kernel_rfl) (.inr (by decide))
      exact RD.ob_val (v := a.eval (.tmp 31)) rfl (RD.wanted_none rfl) (fun ev he hc => by have q := he (.tmp 31); simp only [List.getElem_toArray, List.getElem_cons_succ, List.getElem_cons_zero, execOp, Option.map_some, Option.map_none]; rw [q]; first | (go_simp; done) | (go_simp; rfl)) h5 (Below.refl _ _)
    · intro a W h2 h3 h4
      have e1 : a.eval (.tmp 32) = .bool (tk s e T).isSome := RD.hpD h4 12 32 (by kernel_rfl) (.inr (by decide))
      exact RD.ob_val (v := .bool (tk s e T).isSome) rfl (RD.wanted_none rfl) (fun ev he hc => by have q := (he (.tmp 32)).trans e1; simp only [List.getElem_toArray, List.getElem_cons_succ, List.getElem_cons_zero, execOp, Option.map_some, Option.map_none]; rw [q]; first | (go_simp; done) | (go_simp; rfl)) rfl (Below.refl _ _)
    · intro a W h1 h2 h3 h4 h5
      have H4 : Hid (TkR wr.heap.size W (a.eval (.tmp 4)) (tk s e T)) := h5 13 _ rfl (by decide)
      have E5 : a.eval (.tmp 5) = .bool (tk s e T).isSome := h5 14 _ rfl (by decide)
      have HB : Hid (Below wr.heap.size wr W) := h3 (Nat.le_refl _)
      obtain ⟨v4, hv4⟩ : ∃ x, a.eval (.tmp 4) = x := ⟨_, rfl⟩
      rw [hv4] at H4
      have e21 : a.eval (.tmp 21) = .pointer (some ⟨lg, 0, none⟩) := h5 0 _ rfl (by decide)
      obtain ⟨y20, hy20⟩ : ∃ x, a.eval (.tmp 20) = x := ⟨_, rfl⟩
      obtain ⟨y21, hy21⟩ : ∃ x, a.eval (.tmp 21) = x := ⟨_, rfl⟩
      obtain ⟨y22, hy22⟩ : ∃ x, a.eval (.tmp 22) = x := ⟨_, rfl⟩
      obtain ⟨y23, hy23⟩ : ∃ x, a.eval (.tmp 23) = x := ⟨_, rfl⟩
      obtain ⟨y24, hy24⟩ : ∃ x, a.eval (.tmp 24) = x := ⟨_, rfl⟩
      obtain ⟨y25, hy25⟩ : ∃ x, a.eval (.tmp 25) = x := ⟨_, rfl⟩
      obtain ⟨y26, hy26⟩ : ∃ x, a.eval (.tmp 26) = x := ⟨_, rfl⟩
      obtain ⟨y27, hy27⟩ : ∃ x, a.eval (.tmp 27) = x := ⟨_, rfl⟩
      obtain ⟨y28, hy28⟩ : ∃ x, a.eval (.tmp 28) = x := ⟨_, rfl⟩
      obtain ⟨y29, hy29⟩ : ∃ x, a.eval (.tmp 29) = x := ⟨_, rfl⟩
      obtain ⟨y30, hy30⟩ : ∃ x, a.eval (.tmp 30) = x := ⟨_, rfl⟩
      obtain ⟨y31, hy31⟩ : ∃ x, a.eval (.tmp 31) = x := ⟨_, rfl⟩
      obtain ⟨y32, hy32⟩ : ∃ x, a.eval (.tmp 32) = x := ⟨_, rfl⟩
      have ha := RD.act_of (a := a) (l := [_, _, _, _, v4, .bool (tk s e T).isSome, _, _, _, _, _, _, _, _, _, _, _, _, _, _, y20, y21, y22, y23, y24, y25, y26, y27, y28, y29, y30, y31, y32, _, _, _, _, _, _, _, _, _, _, _, _, _, _, _, _, _, _, _, _, _, _]) h1 h2 ⟨h4 0 (by kernel_rfl), h4 1 (by kernel_rfl), h4 2 (by kernel_rfl), h4 3 (by kernel_rfl), hv4, E5, h4 6 (by kernel_rfl), h4 7 (by kernel_rfl), h4 8 (by kernel_rfl), h4 9 (by kernel_rfl), h4 10 (by kernel_rfl), h4 11 (by kernel_rfl), h4 12 (by kernel_rfl), h4 13 (by kernel_rfl), h4 14 (by kernel_rfl), h4 15 (by kernel_rfl), h4 16 (by kernel_rfl), h4 17 (by kernel_rfl), h4 18 (by kernel_rfl), h4 19 (by kernel_rfl), hy20, hy21, hy22, hy23, hy24, hy25, hy26, hy27, hy28, hy29, hy30, hy31, hy32, h4 33 (by kernel_rfl), h4 34 (by kernel_rfl), h4 35 (by kernel_rfl), h4 36 (by kernel_rfl), h4 37 (by kernel_rfl), h4 38 (by kernel_rfl), h4 39 (by kernel_rfl), h4 40 (by kernel_rfl), h4 41 (by kernel_rfl), h4 42 (by kernel_rfl), h4 43 (by kernel_rfl), h4 44 (by kernel_rfl), h4 45 (by kernel_rfl), h4 46 (by kernel_rfl), h4 47 (by kernel_rfl), h4 48 (by kernel_rfl), h4 49 (by kernel_rfl), h4 50 (by kernel_rfl), h4 51 (by kernel_rfl), h4 52 (by kernel_rfl), h4 53 (by kernel_rfl), h4 54 (by kernel_rfl), trivial⟩
      clear h5 h4 h3 hv4 E5 e21 hy20 hy21 hy22 hy23 hy24 hy25 hy26 hy27 hy28 hy29 hy30 hy31 hy32
      subst ha
      clear h1 h2
      simp only [Act.eval, Array.getD_eq_getD_getElem?, List.getElem?_toArray, List.getElem?_cons_succ, List.getElem?_cons_zero, Option.getD_some]
      cases ho : tk s e T with
      | none =>
        have HO : Hid (tk s e T = none) := ho
        simp only [Option.isSome_none]
        clear ho H4
        go_wp2_with fail
        refine bodyPost_ret (v := .tuple #[]) (results_none Tryd.results44 _ _ _) rfl ?_
        exact ⟨rfl, ns, e, HF.out, HO.out, AftL.trans HC1.out HS1.out ⟨S1, ⟨F1, H1, rv1, us1, HX.out.below HB.out⟩, chg_of_below HB.out, fun b hb => .inl hb⟩⟩
      | some P =>
        rw [ho] at H4
        have HO : Hid (tk s e T = some P) := ho
        simp only [Option.isSome_some]
        clear ho
        have O4 : Hid (Ow wr.heap.size W v4 P) := H4.out
        clear H4
        obtain ⟨ad4, cp4, hv4, hc4, -⟩ := O4.out.sl
        subst hv4
        have hfit := tk_fits HSB.out HO.out
        have hlP : P.length ≤ 67108864 := by have := hfit.2.1; unfold fl at this; omega
        obtain ⟨k0, k131, k130⟩ := HCS.out W HB.out
        have XW : Hid (WX S1 F1 H1 W g s lg { l with rs := l.rs ++ ns, en := e } rv1 us1) := HX.out.below HB.out
        have HU : Hid ((us1.length + 1) * 24 ≤ 140737488355328) := by
          show _ ≤ _
          have h1 := XW.out.lw.ol.len
          have h2 := Frs.le HSB.out HF.out
          have h3 := HR.out
          simp only [List.length_append] at h1
          omega
        have hb4 : ∀ b, Value.ownBlock (.slice ad4 P.length cp4) = some b → wr.heap.size ≤ b ∧ b < W.heap.size := fun b e => ⟨O4.out.blk b e, O4.out.lt b e⟩
        have HB4 : Hid (∀ b, Value.ownBlock (.slice ad4 P.length cp4) = some b → wr.heap.size ≤ b ∧ b < W.heap.size) := hb4
        clear hb4
        go_wp2_with (at_builtin; refine app_slw rfl (.tmp 39) (.tmp 41) rfl rv1 us1 (l.rs ++ ns) rfl (XW.out.lw.ol.alloc _) (.slice ad4 P.length cp4) P ⟨W.heap.size, 0, none⟩ 1 rfl (cell_alloc W #[.slice ad4 P.length cp4] _ _ 0) ((O4.out.mono (Nat.zero_le _)).alloc _) (fun b hb => ⟨by have := (HB4.out b hb).2; simp; omega, fun e => by have h1 := (HB4.out b hb).1; have h2 := HX.out.lw.hlt b (HX.out.lw.hrv b e).1; omega⟩) (fun b hb i u' hi e => by have h1 := (HB4.out b hb).1; have h2 := HX.out.lw.hlt b (HX.out.lw.hus i u' hi b e).1; omega) HU.out ?_; intro v5 w5 o5 g5 e5; have PU : Hid (∃ S' H', WX S' F1 H' (w5.setCell ⟨lg, 130, none⟩ v5) g s lg { l with rs := l.rs ++ ns ++ [P], en := e } v5 (us1 ++ [.slice ad4 P.length cp4]) ∧ Chg S1 W (w5.setCell ⟨lg, 130, none⟩ v5) ∧ ∀ b, S' b → S1 b ∨ wr.heap.size ≤ b) := XW.out.push g5 o5 e5 HB4.out (fun b hb => hb.elim (fun x => HX.out.lw.hlt b x) (fun x => HX.out.pd.lt x)) HB.out.size HX.out.tb.lt; obtain ⟨f130, c130⟩ := frz_after XW.out g5; obtain ⟨ad5, l5, cp5, hv5⟩ := o5.shape; subst hv5; clear o5 g5 e5)
        obtain ⟨w6, hw6⟩ : ∃ w6, w5.setCell ⟨lg, 130, none⟩ (.slice ad5 l5 cp5) = w6 := ⟨_, rfl⟩
        rw [hw6] at PU
        rw [hw6]
        obtain ⟨S2, H2, hx2, hc2, hs2⟩ := PU.out
        have X2 : Hid (WX S2 F1 H2 w6 g s lg { l with rs := l.rs ++ ns ++ [P], en := e } (.slice ad5 l5 cp5) (us1 ++ [.slice ad4 P.length cp4])) := hx2
        have C2 : Hid (Chg S1 W w6) := hc2
        have D2 : Hid (∀ b, S2 b → S1 b ∨ wr.heap.size ≤ b) := hs2
        clear PU hx2 hc2 hs2 hw6 f130 c130 k0 k130 k131
        obtain ⟨f, hf⟩ : ∃ f, fl P.length = f := ⟨_, rfl⟩
        have HFL : Hid (fl P.length = f) := hf
        have hfb : e + f ≤ 65536 ∧ 1 ≤ f ∧ e < T := by rw [← hf]; refine ⟨by have := hfit.2.1; omega, by unfold fl; omega, hfit.1⟩
        have hwr := add_at e f (by omega)
        clear hf hfit
        have X2d : Hid (eΩ S2 F1 H2 w6 g s lg { l with rs := l.rs ++ ns ++ [P], en := e } (Value.slice ad5 l5 cp5) (us1 ++ [Value.slice ad4 P.length cp4]) (e + f) 0 (fun _ => undef) { w6 with drawn := w6.drawn + 1 }) := ⟨X2.out.below (Below.refl _ _).drew, chg_of_below (Below.refl _ _).drew⟩
        refine RU.wp_rgn' [10] (ef lg e P.length f (Value.slice ad4 P.length cp4)) hK0 (eΩ S2 F1 H2 w6 g s lg { l with rs := l.rs ++ ns ++ [P], en := e } (Value.slice ad5 l5 cp5) (us1 ++ [Value.slice ad4 P.length cp4]) (e + f)) (by kernel_rfl) (by kernel_rfl) X2d.out ?_ ?_
        · refine ⟨?_, ?_, ?_, ?_, ?_, ?_, ?_, ?_, ?_, ?_, ?_, trivial⟩
          · refine RU.ObT.pure rfl rfl rfl (fun a V hf hp ev he hc W => ?_)
            have q0 : ev (.tmp 0) = .pointer (some ⟨lg, 0, none⟩) := (he (.tmp 0)).trans (hf 0 rfl)
            simp only [List.getElem_toArray, List.getElem_cons_succ, List.getElem_cons_zero, execOp, Option.map_some, Option.map_none]; rw [q0]
            first | (go_simp; done) | (go_simp; rfl)
          · refine RU.ObT.pure rfl rfl rfl (fun a V hf hp ev he hc W => ?_)
            have q45 : ev (.tmp 45) = .pointer (some ⟨lg, 0, none⟩) := (he (.tmp 45)).trans (hp 0 45 rfl)
            simp only [List.getElem_toArray, List.getElem_cons_succ, List.getElem_cons_zero, execOp, Option.map_some, Option.map_none]; rw [q45]
            first | (go_simp; done) | (go_simp; rfl)
          · refine RU.ObT.pure rfl rfl rfl (fun a V hf hp ev he hc W => ?_)
            have q46 : ev (.tmp 46) = .pointer (some ⟨lg, 0, none⟩) := (he (.tmp 46)).trans (hp 1 46 rfl)
            simp only [List.getElem_toArray, List.getElem_cons_succ, List.getElem_cons_zero, execOp, Option.map_some, Option.map_none]; rw [q46]
            first | (go_simp; done) | (go_simp; rfl)
          · refine RU.ObT.silent rfl (fun a W' k0 V hO hf hp hk => ?_)
            obtain rfl : k0 = 0 := Nat.le_zero.1 hk
            refine RU.ob_val rfl (RU.wanted_none rfl) (fun ev he hc => ?_) ⟨rfl, hO⟩
            have q47 : ev (.tmp 47) = .pointer (some ⟨lg, 131, none⟩) := (he (.tmp 47)).trans (hp 2 47 rfl)
            have hcell := (hO.1.lw.lb.cells hO.1.lw.f0 hO.1.lw.f1).2.2.2.1
            simp only [List.getElem_toArray, List.getElem_cons_succ, List.getElem_cons_zero, execOp]; rw [q47]
            first | (go_simp; done) | (go_simp; rfl)
          · refine RU.ObT.pure rfl rfl rfl (fun a V hf hp ev he hc W => ?_)
            have q4 : ev (.tmp 4) = .slice ad4 P.length cp4 := (he (.tmp 4)).trans (hf 4 rfl)
            simp only [List.getElem_toArray, List.getElem_cons_succ, List.getElem_cons_zero, execOp, Option.map_some, Option.map_none]; rw [q4]
            first | (go_simp; done) | (go_simp; rfl)
          · refine RU.ObT.pure rfl rfl rfl (fun a V hf hp ev he hc W => ?_)
            have q49 : ev (.tmp 49) = .slice ad4 P.length cp4 := (he (.tmp 49)).trans (hp 4 49 rfl)
            simp only [List.getElem_toArray, List.getElem_cons_succ, List.getElem_cons_zero, execOp, Option.map_some, Option.map_none]; simp only [resolve, invoke, builtin, Sem.run_bind, Sem.run_pure, Result.andThen_ok, List.map_toArray, List.map_cons, List.map_nil, q49]
            first | (go_simp; done) | (go_simp; rfl)
          · refine RU.ObT.silent rfl (fun a W' k0 V hO hf hp hk => ?_)
            obtain rfl : k0 = 0 := Nat.le_zero.1 hk
            have e1 : a.eval (.tmp 50) = .int .i64 (P.length : Int) := hp 5 50 rfl
            refine RU.ob_call (g := 43) (args := #[.int .i64 (P.length : Int)]) rfl (RU.wanted_none rfl) (fun ev he hc => ?_) ((frameLength_any P.length W' (by omega)).mono ?_)
            · have h1 := (he (.tmp 50)).trans e1
              have hfn := he (.func 43)
              simp only [List.getElem_toArray, List.getElem_cons_succ, List.getElem_cons_zero, execOp]
              simp only [resolve, invoke, Sem.run_bind, Sem.run_pure, Result.andThen_ok, List.map_toArray, List.map_cons, List.map_nil, h1, hfn, Act.eval]
              rfl
            · rintro e' W2 ⟨rfl, rfl⟩
              exact ⟨_, rfl, by rw [HFL.out]; rfl, hO⟩
          · refine RU.ObT.pure rfl rfl rfl (fun a V hf hp ev he hc W => ?_)
            have q48 : ev (.tmp 48) = .int .i64 (e : Int) := (he (.tmp 48)).trans (hp 3 48 rfl)
            have q51 : ev (.tmp 51) = .int .i64 (f : Int) := (he (.tmp 51)).trans (hp 6 51 rfl)
            simp only [List.getElem_toArray, List.getElem_cons_succ, List.getElem_cons_zero, execOp, Option.map_some, Option.map_none]; rw [q48, q51]
            have := hwr
            first | (go_simp; done) | (go_simp; rfl)
          · refine RU.ObT.pure rfl rfl rfl (fun a V hf hp ev he hc W => ?_)
            have q45 : ev (.tmp 45) = .pointer (some ⟨lg, 0, none⟩) := (he (.tmp 45)).trans (hp 0 45 rfl)
            simp only [List.getElem_toArray, List.getElem_cons_succ, List.getElem_cons_zero, execOp, Option.map_some, Option.map_none]; rw [q45]
            first | (go_simp; done) | (go_simp; rfl)
          · refine RU.ObT.pure rfl rfl rfl (fun a V hf hp ev he hc W => ?_)
            have q53 : ev (.tmp 53) = .pointer (some ⟨lg, 0, none⟩) := (he (.tmp 53)).trans (hp 8 53 rfl)
            simp only [List.getElem_toArray, List.getElem_cons_succ, List.getElem_cons_zero, execOp, Option.map_some, Option.map_none]; rw [q53]
            first | (go_simp; done) | (go_simp; rfl)
          · refine RU.ObT.loud (j := 0) rfl (fun a W' V hO hf hp => ?_)
            have q54 : a.eval (.tmp 54) = .pointer (some ⟨lg, 131, none⟩) := hp 9 54 rfl
            have q52 : a.eval (.tmp 52) = .int .i64 ((e + f : Nat) : Int) := hp 7 52 rfl
            have hcell := (hO.1.lw.lb.cells hO.1.lw.f0 hO.1.lw.f1).2.2.2.1
            have hfr := hO.1.lw.lb.froz 131
            have hse := hO.1.setE (e + f)
            refine RU.ob_skip (w' := W'.setCell ⟨lg, 131, none⟩ (.int .i64 ((e + f : Nat) : Int))) rfl (RU.wanted_none rfl) (fun ev he hc => ?_) ⟨_, rfl, hse.1, hO.2.trans hse.2⟩
            have e1 := (he (.tmp 54)).trans q54
            have e2 := (he (.tmp 52)).trans q52
            simp only [List.getElem_toArray, List.getElem_cons_succ, List.getElem_cons_zero, execOp]
            rw [e1, e2]
            go_simp
        · intro w7 V7 hO7
          have X7 : Hid (WX S2 F1 H2 w7 g s lg { l with rs := l.rs ++ ns ++ [P], en := e + f } (.slice ad5 l5 cp5) (us1 ++ [.slice ad4 P.length cp4])) := hO7.1
          have C7 : Hid (Chg S2 w6 w7) := hO7.2
          simp only [RU.lay, RU.val, RU.at', ef, Act.put]
          simp only [List.setIfInBounds_toArray, List.set_cons_succ, List.set_cons_zero]
          clear hO7
          go_wp2_with fail
          go_roundw
          case rel => exact ⟨ns ++ [P], e + f, by have := HF.out.snoc HO.out; rw [HFL.out] at this; exact this, hfb.1, AftL.trans HC1.out HS1.out (AftL.trans ((chg_of_below HB.out).trans C2.out) D2.out ⟨S2, ⟨F1, H2, _, _, by rw [← List.append_assoc]; exact X7.out⟩, C7.out, fun b hb => .inl hb⟩)⟩
          case measure =>
            have m1 : w7.cell? ⟨lg, 131, none⟩ = some (.int .i64 ((e + f : Nat) : Int)) := (X7.out.lw.lb.cells X7.out.lw.f0 X7.out.lw.f1).2.2.2.1
            have m2 : wr.cell? ⟨lg, 131, none⟩ = some (.int .i64 (e : Int)) := (HX.out.lw.lb.cells HX.out.lw.f0 HX.out.lw.f1).2.2.2.1
            rw [m1, m2]
            simp only [Option.getD_some, intOf, Int.toNat_natCast]
            omega
end Go.Proofs.YtphjjjijdbljaaaDoor
