/- WalPlays, walked. -/
import Derived.Test.YthfpakjfdncphaaDoorWalGA
namespace Go.Proofs.YthfpakjfdncphaaDoor
open Go Go.RowKit
set_option linter.unusedSimpArgs false
set_option linter.unusedVariables false
set_option maxRecDepth 100000

theorem row_laid (w : World) (old cs : Array Value) (t : TypeId) : Below w.heap.size w ((w.alloc (.cells old t)).setRow w.heap.size cs) ∧ ((w.alloc (.cells old t)).setRow w.heap.size cs).heap[w.heap.size]? = some (.cells cs t (0, 0)) ∧ w.heap.size < ((w.alloc (.cells old t)).setRow w.heap.size cs).heap.size := by
  have h1 : Below w.heap.size w (w.alloc (.cells old t)) := (Below.refl _ w).alloc (Nat.le_refl _) _
  refine ⟨⟨h1.os, h1.tape, h1.output, by simp, fun b hb => ?_⟩, setRow_heap _ _ _ _ _ _ (row_new w old t), by simp⟩
  rw [setRow_other _ _ _ _ (by omega)]
  exact h1.block b hb
theorem store_itm {ops : Array Oper} {rest : List Oper} {o : Oper} {a : Act} {Q : Exit → Act → World → Prop} (hgd : o.guard = none) (x y : Operand) (ho : o.op = .store 34 x y) (w6 : World) (old : Array Value) (c : List Value) (hx : a.eval x = .pointer (some ⟨w6.heap.size, 0, none⟩)) (hy : a.eval y = .agg c.toArray) (hc : c.length = 4) (hold : old.size = 4) (h1 : c.toArray.all (·.oneCell') = true)
    (h : ∀ w7, Below w6.heap.size w6 w7 → w7.heap[w6.heap.size]? = some (.cells c.toArray 34 (0, 0)) → w6.heap.size < w7.heap.size → wpList Tryd.prog ops Q rest (a.put o.dst undef) w7) : wpList Tryd.prog ops Q (o :: rest) a (w6.alloc (.cells old 34)) := by
  obtain ⟨a1, a2, a3⟩ := row_laid w6 old c.toArray 34
  exact wpList_store_row hgd 34 x y ho w6.heap.size c.toArray hx hy _ _ (row_new w6 _ _) (by rw [List.size_toArray, hc]; exact size_itm) (by rw [hold, List.size_toArray, hc]) h1 (h _ a1 a2 a3)
/-- What a script's item is, where the law holds it. -/
structure It (w : World) (bo : Nat) (o : Itm) : Prop where
  lt : bo < w.heap.size
  row : w.heap[bo]? = some (.cells o.cells.toArray 34 (0, 0))
theorem It.cell {w : World} {bo : Nat} {o : Itm} (h : It w bo o) : w.cell? ⟨bo, 0, none⟩ = some (.int .i64 o.kind) ∧ w.cell? ⟨bo, 1, none⟩ = some (.int .i64 o.n) ∧ w.cell? ⟨bo, 2, none⟩ = some o.dv := by
  refine ⟨?_, ?_, ?_⟩ <;> (rw [cell_of_row w _ _ _ _ _ h.row]; rfl)
theorem It.nx {S S' : Nat → Prop} {w w' : World} {bo : Nat} {o : Itm} (h : It w bo o) (n : Nx S w S' w') (hn : ¬ S bo) : It w' bo o ∧ ¬ S' bo :=
  ⟨⟨Nat.lt_of_lt_of_le h.lt n.c.size, by rw [n.c.other bo h.lt hn]; exact h.row⟩, fun x => (n.d bo x).elim hn (fun y => by have := h.lt; omega)⟩
theorem run_nob (w : World) : (Instr.buildSlice 32 0 #[]).run Tryd.prog w = .ok (.slice (some ⟨w.heap.size, 0, none⟩) 0 0) (w.alloc (.cells #[] 5)) := by
  kernel_rfl
theorem wpl_nob {ops : Array Oper} {rest : List Oper} {o : Oper} {a : Act} {w : World} {Q : Exit → Act → World → Prop} (hg : o.guard = none) (ho : o.op = .buildSlice 32 0 #[])
    (h : wpList Tryd.prog ops Q rest (a.put o.dst (.slice (some ⟨w.heap.size, 0, none⟩) 0 0)) (w.alloc (.cells #[] 5))) : wpList Tryd.prog ops Q (o :: rest) a w := by
  refine wpList_plain hg fun K hK => ?_
  have hr := run_nob w
  unfold Oper.wp
  simp only [execOp, ho, List.map_toArray, List.map_cons, List.map_nil, Sem.run_bind, hr, Result.andThen_ok, Sem.run_pure]
  exact hK _ _ h
theorem ow_none {B b : Nat} {w : World} (hB : B ≤ b) (h : w.heap[b]? = some (.cells #[] 5 (0, 0))) : Ow B w (.slice (some ⟨b, 0, none⟩) 0 0) [] :=
  ⟨rfl, .inr ⟨b, 0, #[], rfl, hB, h, Nat.le_refl _, by unfold maxLen; omega, rfl, rfl⟩⟩
theorem szr_rok {rs : List (List Int)} (h : Rok rs) : szr rs ≤ 65600 * rs.length := by
  induction rs with
  | nil => simp [szr]
  | cons m r ih =>
    have h1 := (h m List.mem_cons_self).2
    have h2 := ih (fun x hx => h x (List.mem_cons_of_mem _ hx))
    simp only [szr, List.length_cons]; omega
set_option maxHeartbeats 8000000 in
theorem plays_any (L : Nat) (f : Nat → Itm) (v : Value) (w : World) (hT : Tb w) (hv : Scr w v L f) (hl : L ≤ 2199023255552) :
    Calls Tryd.prog 3 #[v] w fun e w' => e = .returned (.bool true) ∧ Below w.heap.size w w' := by
  have HT : Hid (Tb w) := hT
  obtain ⟨ad, cap, rfl, hc, hm⟩ := hv
  have HM : Hid (L = 0 ∨ ∃ b o, ad = some ⟨b, o, none⟩ ∧ b < w.heap.size ∧ ∀ i, i < L → w.rangeAt b (o + i * 4) (f i).cells ∧ (f i).Ok w) := hm
  clear hT hm
  go_enter Tryd.func3, Tryd.ntmps3
  go_wp2_with fail
  refine (awake_any w HT.out).mono ?_
  rintro e w1 ⟨rfl, hb1⟩
  have HB1 : Hid (Below w.heap.size w w1) := hb1
  clear hb1
  go_wp2_with fail
  refine (new_any w1 512 (by omega) (by omega)).mono ?_
  rintro e w2 ⟨g, rfl, F, h1, h2, h3⟩
  have HP : Hid (PD F w2 g (dk0 512)) := h1
  have HB2 : Hid (Below w.heap.size w w2) := HB1.out.trans (h2.mono HB1.out.size)
  have HF : Hid (∀ b, F b → w.heap.size ≤ b) := fun b x => Nat.le_trans HB1.out.size (h3 b x)
  clear h1 h2 h3
  go_wp2_with fail
  refine (opened_new (B := w.heap.size) (w0 := w) _ HP.out (HT.out.below HB2.out) (by omega) HF.out HB2.out HB2.out.size HT.out.lt).mono ?_
  rintro e w3 ⟨lg, rfl, S3, h31, h32, h33⟩
  have L3 : Hid (Lg S3 w.heap.size w w3 g (dk0 512) lg (l0 g) (fun _ => none)) := ⟨h31, h32, h33, h33.size, LI.new 512 g (by omega), rfl, rfl, rfl⟩
  clear h31 h32 h33 HP HF HB1 HB2
  go_wp2_with fail
  go_loopw [5, 6, 7, 25] (fun lv okv wv i wr => ∃ (k lg : Nat) (us : List Value) (s : Dk) (l : Lo) (q : Nat → Option (Nat × List (List Int))) (S : Nat → Prop), k ≤ L ∧ i = .int .i64 (k : Int) ∧ lv = .pointer (some ⟨lg, 0, none⟩) ∧ okv = .bool true ∧ Lg S w.heap.size w wr g s lg l q ∧ Wt S wr wv us l.rs ∧ s.n = 512 ∧ s.fu = false ∧ l.t ≤ k) (fun _ _ _ i _ => L - (intOf i).toNat)
  case atStart => exact ⟨0, lg, [], _, _, _, S3, Nat.zero_le _, rfl, rfl, rfl, L3.out, Wt.nil _ _, rfl, rfl, Nat.le_refl _⟩
  case round =>
    obtain ⟨k, lg, us, s, l, q, S, hk, rfl, rfl, rfl, hL, hW, hsn, hfu, hlt⟩ := hrel
    have LL1 : Hid (Lg S w.heap.size w wr g s lg l q) := hL
    have W1 : Hid (Wt S wr u7 us l.rs) := hW
    clear hL hW L3
    by_cases hlt2 : k < L
    · rcases HM.out with h0 | ⟨b, so, rfl, hlb, hmm⟩
      · rw [h0] at hlt2; omega
      · obtain ⟨o, ho⟩ : ∃ o, f k = o := ⟨_, rfl⟩
        obtain ⟨hra, hok⟩ := hmm k hlt2
        rw [ho] at hra hok
        have HOK : Hid (o.Ok w) := hok
        have HR : Hid (wr.rangeAt b (so + k * 4) o.cells) := fun j u hu => (LL1.out.bel.cell (p := ⟨b, so + k * 4 + j, none⟩) hlb).trans (hra j u hu)
        have hkk : (k : Int) < (L : Int) := by omega
        clear hmm hra hok ho hlb
        by_cases hk3 : o.kind = 3
        · skip
          go_wp2_with (first
            | (refine wpList_load_mid rfl 34 _ rfl b (so + k * 4) rfl o.cells _ HR.out Tryd.underlying34 rfl size_itm ?_)
            | (refine store_itm rfl (.tmp 9) (.tmp 31) rfl wr _ o.cells rfl rfl rfl rfl (itm_one HOK.out) ?_; intro W1' h71 h72 h73; have B1 : Hid (Below wr.heap.size wr W1') := h71; have I1 : Hid (It W1' wr.heap.size o) := ⟨h73, h72⟩; obtain ⟨ck, cn, cd⟩ := (show It W1' wr.heap.size o from ⟨h73, h72⟩).cell; rw [hk3] at ck; clear h71 h72 h73))
          exact ⟨⟨k + 1, lg, us, s, l, q, S, hlt2, by go_num, rfl, rfl, LL1.out.below B1.out, W1.out.nx (Nx.below B1.out), hsn, hfu, by omega⟩, by simp [intOf]; omega⟩
        by_cases hk4 : o.kind = 4
        · skip
          go_wp2_with (first
            | (refine wpList_load_mid rfl 34 _ rfl b (so + k * 4) rfl o.cells _ HR.out Tryd.underlying34 rfl size_itm ?_)
            | (refine store_itm rfl (.tmp 9) (.tmp 31) rfl wr _ o.cells rfl rfl rfl rfl (itm_one HOK.out) ?_; intro W1' h71 h72 h73; have B1 : Hid (Below wr.heap.size wr W1') := h71; have I1 : Hid (It W1' wr.heap.size o) := ⟨h73, h72⟩; obtain ⟨ck, cn, cd⟩ := (show It W1' wr.heap.size o from ⟨h73, h72⟩).cell; rw [hk4] at ck; clear h71 h72 h73))
          exact ⟨⟨k + 1, lg, us, s, l, q, S, hlt2, by go_num, rfl, rfl, LL1.out.below B1.out, W1.out.nx (Nx.below B1.out), hsn, hfu, by omega⟩, by simp [intOf]; omega⟩
        by_cases hk5 : o.kind = 5
        · skip
          go_wp2_with (first
            | (refine wpList_load_mid rfl 34 _ rfl b (so + k * 4) rfl o.cells _ HR.out Tryd.underlying34 rfl size_itm ?_)
            | (refine store_itm rfl (.tmp 9) (.tmp 31) rfl wr _ o.cells rfl rfl rfl rfl (itm_one HOK.out) ?_; intro W1' h71 h72 h73; have B1 : Hid (Below wr.heap.size wr W1') := h71; have I1 : Hid (It W1' wr.heap.size o) := ⟨h73, h72⟩; obtain ⟨ck, cn, cd⟩ := (show It W1' wr.heap.size o from ⟨h73, h72⟩).cell; rw [hk5] at ck; clear h71 h72 h73))
          exact ⟨⟨k + 1, lg, us, s, l, q, S, hlt2, by go_num, rfl, rfl, LL1.out.below B1.out, W1.out.nx (Nx.below B1.out), hsn, hfu, by omega⟩, by simp [intOf]; omega⟩
        by_cases hk1 : o.kind = 1
        · skip
          obtain ⟨p, hp⟩ : ∃ p, o.ds = p := ⟨_, rfl⟩
          obtain ⟨dad, dcp, hde, -, -⟩ := HOK.out.sq.sl
          rw [hp] at hde
          have HD : Hid (o.dv = .slice dad p.length dcp) := hde
          have HDQ : Hid (Sq w (.slice dad p.length dcp) p ∧ Byt p ∧ p.length ≤ 140737488351232) := by
            refine ⟨?_, ?_, ?_⟩
            · have := HOK.out.sq; rw [hde, hp] at this; exact this
            · rw [← hp]; exact HOK.out.by'
            · rw [← hp]; exact HOK.out.len
          clear hde hp
          have hl2 := HDQ.out.2.2
          go_wp2_with (first
            | (refine wpList_load_mid rfl 34 _ rfl b (so + k * 4) rfl o.cells _ HR.out Tryd.underlying34 rfl size_itm ?_)
            | (refine store_itm rfl (.tmp 9) (.tmp 31) rfl wr _ o.cells rfl rfl rfl rfl (itm_one HOK.out) ?_; intro W1' h71 h72 h73; have B1 : Hid (Below wr.heap.size wr W1') := h71; have I1 : Hid (It W1' wr.heap.size o) := ⟨h73, h72⟩; obtain ⟨ck, cn, cd⟩ := (show It W1' wr.heap.size o from ⟨h73, h72⟩).cell; rw [hk1] at ck; rw [HD.out] at cd; clear h71 h72 h73))
          have L2 : Hid (Lg S w.heap.size w W1' g s lg l q) := LL1.out.below B1.out
          have WW : Hid (Wt S W1' u7 us l.rs) := W1.out.nx (Nx.below B1.out)
          have NB : Hid (¬ S wr.heap.size) := fun x => by obtain ⟨F', H', rv', us', hx'⟩ := LL1.out.wl; have := hx'.sl _ x; omega
          have HSL : Hid (∀ b', S b' → b' < W1'.heap.size) := by obtain ⟨F', H', rv', us', hx'⟩ := L2.out.wl; exact fun b' x => hx'.sl b' x
          have HUL : Hid (us.length ≤ 999999998) := by
            show _ ≤ _
            obtain ⟨h1, h2, -⟩ := L2.out.sby
            rw [WW.out.len]; exact L2.out.li.rsl h1 h2
          have HDS : Hid (∀ W, Below W1'.heap.size W1' W → W.cell? ⟨wr.heap.size, 2, none⟩ = some (.slice dad p.length dcp) ∧ Sl W (.slice dad p.length dcp) p) := fun W hW => ⟨(hW.cell (p := ⟨wr.heap.size, 2, none⟩) I1.out.lt).trans cd, HDQ.out.1.sl.below (L2.out.bel.trans (hW.mono L2.out.bs)) (Nat.le_refl _)⟩
          clear cd cn ck
          refine RE.wp_rgn (pφ W1'.heap.size u7 (.pointer (some ⟨wr.heap.size, 2, none⟩)) (.slice dad p.length dcp) p us) (fun a b => W1'.heap.size ≤ a.heap.size → Below W1'.heap.size a b) (pR W1'.heap.size) pD (fun _ => (Below.refl _ W1').drew) (fun i a b c h r hB => pR.tr i hB (h hB) r) (by kernel_rfl) (by decide) (by kernel_rfl) (by kernel_rfl) (fun i o u W ho hd h => ?_) (fun i j u W W' hij hD hp hq h r => pφ.stay i j hij hD (fun e1 e2 => ?_) (fun e1 e2 => ?_) (fun e1 e2 => ?_) (fun e1 e2 => ?_) (fun e1 e2 => ?_) h r) ⟨?_, ?_, ?_, ?_, ?_, ?_, ?_, ?_, ?_, ?_, trivial⟩ ?_
          · rcases i with _ | _ | _ | _ | _ | _ | _ | _ | _ | _ | i
            all_goals first | (cases ho; cases hd; done) | (simp at ho; done)
          · subst e1
            rcases e2 with e2 | e2
            · subst e2; exact absurd hp (by decide)
            · subst e2
              exact absurd hp (by decide)
          · subst e1
            rcases e2 with e2 | e2 | e2 <;> subst e2 <;> exact absurd hp (by decide)
          · subst e1; subst e2; exact absurd hp (by decide)
          · subst e1; subst e2; exact absurd hq (by decide)
          · subst e1; subst e2; exact absurd hq (by decide)
          · intro a W h2 h3 h4
            refine RE.ob_list rfl (RE.wanted_none rfl) ?_
            refine wpl_none rfl rfl ?_
            exact ⟨_, rfl, ⟨W.heap.size, rfl, (h2 (Nat.le_refl _)).size, row_new W _ _⟩, (Below.refl _ W).alloc (Nat.le_refl _) _⟩
          · intro a W h2 h3 h4
            have e1 : a.eval (.tmp 7) = u7 := h3 7 (by kernel_rfl)
            exact RE.ob_val rfl (RE.wanted_none rfl) (fun ev he hc => by have q := (he (.tmp 7)).trans e1; simp only [List.getElem_toArray, List.getElem_cons_succ, List.getElem_cons_zero, execOp, Option.map_some, Option.map_none]; rw [q]; first | (go_simp; done) | (go_simp; rfl)) rfl (Below.refl _ _)
          · intro a W h2 h3 h4
            obtain ⟨b0, e46, hB0, hg0⟩ : ∃ b, a.eval (.tmp 46) = .slice (some ⟨b, 0, none⟩) 0 0 ∧ W1'.heap.size ≤ b ∧ W.heap[b]? = some (.cells #[] 32 (0, 0)) := RE.hpD h4 0 46 (by kernel_rfl) (.inl rfl)
            have e47 : a.eval (.tmp 47) = u7 := RE.hpD h4 1 47 (by kernel_rfl) (.inr (by decide))
            have hbW := h2 (Nat.le_refl _)
            refine RE.ob_list rfl (RE.wanted_none rfl) ?_
            refine app_us (B0 := W1'.heap.size) rfl (.tmp 46) (.tmp 47) rfl hbW.size _ [] e46 (ov_none hB0 hg0) _ e47 us (WW.out.src.keep hbW.size (fun b' e hb' => hbW.block b' hb')) WW.out.one (by have := HUL.out; simp; omega) ?_
            intro v' w' o1 g1 e1
            rw [List.nil_append] at o1
            refine ⟨_, rfl, ⟨o1, Nat.le_trans hbW.size g1.size⟩, (Below.refl _ W).grown g1 hbW.size (fun b' e => by cases e; exact hB0), fun b' hlt' hne => g1.block b' hlt' (fun e => ?_)⟩
            cases e
            exact hne hg0
          · intro a W h2 h3 h4
            refine RE.ob_list rfl (RE.wanted_none rfl) ?_
            refine wpl_nob rfl rfl ?_
            exact ⟨_, rfl, ⟨W.heap.size, rfl, (h2 (Nat.le_refl _)).size, row_new W _ _⟩, (Below.refl _ W).alloc (Nat.le_refl _) _⟩
          · intro a W h2 h3 h4
            have e1 : a.eval (.tmp 9) = .pointer (some ⟨wr.heap.size, 0, none⟩) := h3 9 (by kernel_rfl)
            exact RE.ob_val rfl (RE.wanted_none rfl) (fun ev he hc => by have q := (he (.tmp 9)).trans e1; simp only [List.getElem_toArray, List.getElem_cons_succ, List.getElem_cons_zero, execOp, Option.map_some, Option.map_none]; rw [q]; first | (go_simp; done) | (go_simp; rfl)) rfl (Below.refl _ _)
          · intro a W h2 h3 h4
            have e1 : a.eval (.tmp 50) = .pointer (some ⟨wr.heap.size, 2, none⟩) := RE.hpD h4 4 50 (by kernel_rfl) (.inr (by decide))
            have hcs := (HDS.out W (h2 (Nat.le_refl _))).1
            exact RE.ob_val rfl (RE.wanted_none rfl) (fun ev he hc => by have q := (he (.tmp 50)).trans e1; simp only [List.getElem_toArray, List.getElem_cons_succ, List.getElem_cons_zero, execOp, Option.map_some, Option.map_none]; rw [q]; first | (go_simp; done) | (go_simp; rfl)) rfl (Below.refl _ _)
          · intro a W h2 h3 h4
            obtain ⟨b3, e49, hB3, hg3⟩ : ∃ b, a.eval (.tmp 49) = .slice (some ⟨b, 0, none⟩) 0 0 ∧ W1'.heap.size ≤ b ∧ W.heap[b]? = some (.cells #[] 5 (0, 0)) := RE.hpD h4 3 49 (by kernel_rfl) (.inl rfl)
            have e51 : a.eval (.tmp 51) = .slice dad p.length dcp := RE.hpD h4 5 51 (by kernel_rfl) (.inr (by decide))
            have hbW := h2 (Nat.le_refl _)
            refine RE.ob_list rfl (RE.wanted_none rfl) ?_
            refine app_u8 (B0 := W1'.heap.size) rfl (.tmp 49) (.tmp 51) rfl hbW.size _ [] e49 (ow_none hB3 hg3) _ e51 p (HDS.out W hbW).2 (by simp; omega) ?_
            intro v' w' o1 g1 b1 e1
            rw [List.nil_append] at o1
            refine ⟨_, rfl, o1, b1, fun b' hlt' hne => g1.block b' hlt' (fun e => ?_)⟩
            cases e
            exact hne hg3
          · intro a W h2 h3 h4
            have o52 : Ow W1'.heap.size W (a.eval (.tmp 52)) p := RE.hpD h4 6 52 (by kernel_rfl) (.inl rfl)
            obtain ⟨uad, ucp, hue, -, -⟩ := o52.sl
            refine RE.ob_list rfl (RE.wanted_none rfl) ?_
            refine wpl_rec rfl (.tmp 52) rfl _ _ _ hue ?_
            rw [hue] at o52
            exact ⟨_, rfl, ⟨W.heap.size, _, rfl, row_new W _ _, o52.alloc _⟩, (Below.refl _ W).alloc (Nat.le_refl _) _⟩
          · intro a W h2 h3 h4
            obtain ⟨o48, z48⟩ : OV W1'.heap.size W (a.eval (.tmp 48)) us ∧ W1'.heap.size ≤ W.heap.size := RE.hpD h4 2 48 (by kernel_rfl) (.inl rfl)
            obtain ⟨b7, u, e53, hg7, hou⟩ : ∃ b' u, a.eval (.tmp 53) = .slice (some ⟨b', 0, none⟩) 1 1 ∧ W.heap[b']? = some (.cells #[u] 32 (0, 0)) ∧ Ow W1'.heap.size W u p := RE.hpD h4 7 53 (by kernel_rfl) (.inl rfl)
            refine RE.ob_list rfl (RE.wanted_none rfl) ?_
            refine app_us (B0 := W1'.heap.size) rfl (.tmp 48) (.tmp 53) rfl z48 _ us rfl o48 _ e53 [u] ⟨_, 1, rfl, Nat.le_refl _, .inr ⟨b7, 0, rfl, (Array.getElem?_eq_some_iff.1 hg7).1, fun i y hy => ?_⟩⟩ (fun y hy => by simp at hy; subst hy; obtain ⟨_, _, e, -⟩ := hou.sl; rw [e]; rfl) (by have := HUL.out; simp; omega) ?_
            · have hi : i = 0 := by have := (List.getElem?_eq_some_iff.1 hy).1; simp at this; omega
              subst hi
              simp at hy
              subst hy
              simp only [World.cell?, hg7, Nat.zero_add, Option.isSome_none, Bool.false_eq_true, if_false]; rfl
            · intro v' w' o1 g1 e1
              have hkeep : ∀ (b' : Nat) (cs : Array Value), W.heap[b']? = some (Obj.cells cs 5 (0, 0)) → w'.heap[b']? = W.heap[b']? := fun b' cs hc' => g1.block b' (Array.getElem?_eq_some_iff.1 hc').1 (fun e => by
                rcases o48.2 with ⟨h', _⟩ | ⟨g', cap', cur, h', hb', hg', _⟩
                · rw [h'] at e; cases e
                · rw [h'] at e; cases e; rw [hg'] at hc'; exact typ_ne (Option.some.inj hc').symm)
              exact ⟨_, rfl, ⟨u, o1, hou.keep (fun b' e => by obtain ⟨cs, hc'⟩ := hou.typ e; exact hkeep b' cs hc')⟩, (Below.refl _ W).grown g1 z48 (fun b' e => (o48.rs.2 b' e).1), hkeep⟩
          · intro a W h2 h3 h4
            have e1 : ∃ u, OV W1'.heap.size W (a.eval (.tmp 54)) (us ++ [u]) ∧ Ow W1'.heap.size W u p := RE.hpD h4 8 54 (by kernel_rfl) (.inr (by decide))
            exact RE.ob_val (v := a.eval (.tmp 54)) rfl (RE.wanted_none rfl) (fun ev he hc => by have q := he (.tmp 54); simp only [List.getElem_toArray, List.getElem_cons_succ, List.getElem_cons_zero, execOp, Option.map_some, Option.map_none]; rw [q]; first | (go_simp; done) | (go_simp; rfl)) e1 rfl
          · intro a W h1 h2 h3 h4 h5
            have H10 : ∃ u, OV W1'.heap.size W (a.eval (.tmp 10)) (us ++ [u]) ∧ Ow W1'.heap.size W u p := h5 9 _ rfl (by decide)
            have HBW : Hid (Below W1'.heap.size W1' W) := h3 (Nat.le_refl _)
            obtain ⟨v10, hv10⟩ : ∃ x, a.eval (.tmp 10) = x := ⟨_, rfl⟩
            rw [hv10] at H10
            obtain ⟨un, hun1, hun2⟩ := H10
            have NX : Hid (Wt S W v10 (us ++ [un]) (l.rs ++ [p])) := WW.out.snocN (B0 := W1'.heap.size) HSL.out (chg_of_below HBW.out) hun2 hun1
            clear hun1 hun2
            obtain ⟨y46, hy46⟩ : ∃ x, a.eval (.tmp 46) = x := ⟨_, rfl⟩
            obtain ⟨y47, hy47⟩ : ∃ x, a.eval (.tmp 47) = x := ⟨_, rfl⟩
            obtain ⟨y48, hy48⟩ : ∃ x, a.eval (.tmp 48) = x := ⟨_, rfl⟩
            obtain ⟨y49, hy49⟩ : ∃ x, a.eval (.tmp 49) = x := ⟨_, rfl⟩
            obtain ⟨y50, hy50⟩ : ∃ x, a.eval (.tmp 50) = x := ⟨_, rfl⟩
            obtain ⟨y51, hy51⟩ : ∃ x, a.eval (.tmp 51) = x := ⟨_, rfl⟩
            obtain ⟨y52, hy52⟩ : ∃ x, a.eval (.tmp 52) = x := ⟨_, rfl⟩
            obtain ⟨y53, hy53⟩ : ∃ x, a.eval (.tmp 53) = x := ⟨_, rfl⟩
            obtain ⟨y54, hy54⟩ : ∃ x, a.eval (.tmp 54) = x := ⟨_, rfl⟩
            have ha := RE.act_of (a := a) (l := [_, _, _, _, _, _, _, _, _, _, v10, _, _, _, _, _, _, _, _, _, _, _, _, _, _, _, _, _, _, _, _, _, _, _, _, _, _, _, _, _, _, _, _, _, _, _, y46, y47, y48, y49, y50, y51, y52, y53, y54, _, _, _, _, _, _, _, _, _, _, _, _, _, _, _, _, _, _, _, _, _, _, _, _, _, _, _, _, _, _, _, _, _, _, _, _, _, _, _, _, _, _, _, _, _, _, _, _, _, _, _, _, _, _, _, _, _, _, _]) h1 h2 ⟨h4 0 (by kernel_rfl), h4 1 (by kernel_rfl), h4 2 (by kernel_rfl), h4 3 (by kernel_rfl), h4 4 (by kernel_rfl), h4 5 (by kernel_rfl), h4 6 (by kernel_rfl), h4 7 (by kernel_rfl), h4 8 (by kernel_rfl), h4 9 (by kernel_rfl), hv10, h4 11 (by kernel_rfl), h4 12 (by kernel_rfl), h4 13 (by kernel_rfl), h4 14 (by kernel_rfl), h4 15 (by kernel_rfl), h4 16 (by kernel_rfl), h4 17 (by kernel_rfl), h4 18 (by kernel_rfl), h4 19 (by kernel_rfl), h4 20 (by kernel_rfl), h4 21 (by kernel_rfl), h4 22 (by kernel_rfl), h4 23 (by kernel_rfl), h4 24 (by kernel_rfl), h4 25 (by kernel_rfl), h4 26 (by kernel_rfl), h4 27 (by kernel_rfl), h4 28 (by kernel_rfl), h4 29 (by kernel_rfl), h4 30 (by kernel_rfl), h4 31 (by kernel_rfl), h4 32 (by kernel_rfl), h4 33 (by kernel_rfl), h4 34 (by kernel_rfl), h4 35 (by kernel_rfl), h4 36 (by kernel_rfl), h4 37 (by kernel_rfl), h4 38 (by kernel_rfl), h4 39 (by kernel_rfl), h4 40 (by kernel_rfl), h4 41 (by kernel_rfl), h4 42 (by kernel_rfl), h4 43 (by kernel_rfl), h4 44 (by kernel_rfl), h4 45 (by kernel_rfl), hy46, hy47, hy48, hy49, hy50, hy51, hy52, hy53, hy54, h4 55 (by kernel_rfl), h4 56 (by kernel_rfl), h4 57 (by kernel_rfl), h4 58 (by kernel_rfl), h4 59 (by kernel_rfl), h4 60 (by kernel_rfl), h4 61 (by kernel_rfl), h4 62 (by kernel_rfl), h4 63 (by kernel_rfl), h4 64 (by kernel_rfl), h4 65 (by kernel_rfl), h4 66 (by kernel_rfl), h4 67 (by kernel_rfl), h4 68 (by kernel_rfl), h4 69 (by kernel_rfl), h4 70 (by kernel_rfl), h4 71 (by kernel_rfl), h4 72 (by kernel_rfl), h4 73 (by kernel_rfl), h4 74 (by kernel_rfl), h4 75 (by kernel_rfl), h4 76 (by kernel_rfl), h4 77 (by kernel_rfl), h4 78 (by kernel_rfl), h4 79 (by kernel_rfl), h4 80 (by kernel_rfl), h4 81 (by kernel_rfl), h4 82 (by kernel_rfl), h4 83 (by kernel_rfl), h4 84 (by kernel_rfl), h4 85 (by kernel_rfl), h4 86 (by kernel_rfl), h4 87 (by kernel_rfl), h4 88 (by kernel_rfl), h4 89 (by kernel_rfl), h4 90 (by kernel_rfl), h4 91 (by kernel_rfl), h4 92 (by kernel_rfl), h4 93 (by kernel_rfl), h4 94 (by kernel_rfl), h4 95 (by kernel_rfl), h4 96 (by kernel_rfl), h4 97 (by kernel_rfl), h4 98 (by kernel_rfl), h4 99 (by kernel_rfl), h4 100 (by kernel_rfl), h4 101 (by kernel_rfl), h4 102 (by kernel_rfl), h4 103 (by kernel_rfl), h4 104 (by kernel_rfl), h4 105 (by kernel_rfl), h4 106 (by kernel_rfl), h4 107 (by kernel_rfl), h4 108 (by kernel_rfl), h4 109 (by kernel_rfl), h4 110 (by kernel_rfl), h4 111 (by kernel_rfl), h4 112 (by kernel_rfl), h4 113 (by kernel_rfl), trivial⟩
            clear h5 h4 h3 hv10 hy46 hy47 hy48 hy49 hy50 hy51 hy52 hy53 hy54
            subst ha
            clear h1 h2
            simp only [Act.eval, Array.getD_eq_getD_getElem?, List.getElem?_toArray, List.getElem?_cons_succ, List.getElem?_cons_zero, Option.getD_some, Array.getInternal_eq_getElem, List.getElem_toArray, List.getElem_cons_succ, List.getElem_cons_zero]
            have L3 : Hid (Lg S w.heap.size w W g s lg l q) := L2.out.below HBW.out
            have W3 : Hid (Wt S W u7 us l.rs) := WW.out.nx (Nx.below HBW.out)
            have I3 : Hid (It W wr.heap.size o) := (I1.out.nx (Nx.below HBW.out) NB.out).1
            have c3 : W.cell? ⟨wr.heap.size, 2, none⟩ = some (.slice dad p.length dcp) := by rw [← HD.out]; exact I3.out.cell.2.2
            have UR3 : Hid (Sq W (.slice dad p.length dcp) p) := ⟨HDQ.out.1.sl.below L3.out.bel (Nat.le_refl _), fun A l c e h0 => ⟨(HDQ.out.1.some' A l c e h0).1, Nat.lt_of_lt_of_le (HDQ.out.1.some' A l c e h0).2 L3.out.bs⟩, HDQ.out.1.none'⟩
            have UN3 : Hid (∀ b', slB (.slice dad p.length dcp) = some b' → b' < W.heap.size ∧ ¬ S b') := fun b' e => ⟨Nat.lt_of_lt_of_le (HDQ.out.1.own e) L3.out.bs, fun x => by have h1 := HDQ.out.1.own e; have h2 := L3.out.lo b' x; omega⟩
            clear L2 WW I1 HSL HDS HUL HBW
            go_wp2_with fail
            refine (append_lg L3.out (by omega) p _ UR3.out HDQ.out.2.1 UN3.out).mono ?_
            rintro e W4 ⟨z, s4, l4, q4, S4, rfl, h41, h42, h43, h44, h45, hap⟩
            have L4 : Hid (Lg S4 w.heap.size w W4 g s4 lg l4 q4) := h41
            have HN4 : Hid (s4.n = 512 ∧ s4.fu = false) := ⟨by rw [h43]; exact hsn, by rw [h44]; exact hfu⟩
            have HN4t : Hid (l4.t ≤ k + 1) := by show _ ≤ _; omega
            have NX4 : Hid (Wt S4 W4 v10 (us ++ [un]) (l.rs ++ [p])) := NX.out.nx h42
            have W4w : Hid (Wt S4 W4 u7 us l.rs) := W3.out.nx h42
            have c4 : W4.cell? ⟨wr.heap.size, 2, none⟩ = some (.slice dad p.length dcp) := by rw [← HD.out]; exact (I3.out.nx h42 NB.out).1.cell.2.2
            have HRK : Hid (l.rs.length ≤ 999999998 ∧ Rok l.rs) := by
              show _ ∧ _
              obtain ⟨h1, h2, -⟩ := L3.out.sby
              exact ⟨L3.out.li.rsl h1 h2, L3.out.li.rok⟩
            have HR4 : Hid (l4.rs.length ≤ 999999998) := by
              show _ ≤ _
              obtain ⟨h1, h2, -⟩ := L4.out.sby
              exact L4.out.li.rsl h1 h2
            clear h41 h42 h43 h44 L3 W3 I3 UR3 UN3 c3 NX
            cases hap with
            | ok hz hrs hfu' hp6 =>
              subst hz
              have hpl : ¬ ((65536 : Int) < (p.length : Int)) := by omega
              have WT : Hid (Wt S4 W4 v10 (us ++ [un]) l4.rs) := by show Wt _ _ _ _ _; rw [hrs]; exact NX4.out
              clear hrs hfu'
              go_wp2_with fail
              refine (records_lg L4.out).mono ?_
              rintro e W5 ⟨v5, S5, us5, B5, rfl, h51, h52, h53⟩
              have L5 : Hid (Lg S5 w.heap.size w W5 g s4 lg l4 q4) := h51
              have N5 : Hid (Nx S4 _ S5 W5) := h52
              have O5 : Hid (OL B5 W5 v5 us5 l4.rs) := h53
              clear h51 h52 h53
              go_wp2_with fail
              refine (sameList_same l4.rs _ _ W5 O5.out.ll (WT.out.nx N5.out).ll (by have := HR4.out; omega)).mono ?_
              rintro e W6 ⟨rfl, h6⟩
              have B6 : Hid (Below W5.heap.size W5 W6) := h6
              clear h6
              go_wp2_with fail
              exact ⟨⟨k + 1, lg, _, s4, l4, q4, S5, hlt2, by go_num, rfl, rfl, L5.out.below B6.out, (WT.out.nx N5.out).nx (Nx.below B6.out), HN4.out.1, HN4.out.2, HN4t.out⟩, by simp [intOf]; omega⟩
            | full hz hrs hp6 hor =>
              subst hz
              have hpl : ¬ ((65536 : Int) < (p.length : Int)) := by omega
              have WT : Hid (Wt S4 W4 u7 us l4.rs) := by show Wt _ _ _ _ _; rw [hrs]; exact W4w.out
              have HZ : Hid (szr (l.rs ++ [p]) ≤ 140737488355328) := by
                show _ ≤ _
                have h1 := HRK.out.1
                have h2 := szr_rok HRK.out.2
                rw [szr_app]
                simp only [szr]
                omega
              have hroom : decide (szr (l.rs ++ [p]) ≤ (512 / 2 - 8) * 32) = false := by
                refine decide_eq_false ?_
                rcases hor with x | x
                · rw [hfu] at x; cases x
                · intro hr
                  refine x ?_
                  show szr (l.rs ++ [p]) ≤ (s.n / 2 - 8) * 32
                  rw [hsn]; exact hr
              clear hor hrs
              go_wp2_with fail
              refine (room_any (l.rs ++ [p]) 512 _ W4 NX4.out.ll (by have := HZ.out; omega) (by omega)).mono ?_
              rintro e W4' ⟨rfl, hw4⟩
              subst hw4
              rw [hroom]
              go_wp2_with fail
              refine (records_lg L4.out).mono ?_
              rintro e W5 ⟨v5, S5, us5, B5, rfl, h51, h52, h53⟩
              have L5 : Hid (Lg S5 w.heap.size w W5 g s4 lg l4 q4) := h51
              have N5 : Hid (Nx S4 _ S5 W5) := h52
              have O5 : Hid (OL B5 W5 v5 us5 l4.rs) := h53
              clear h51 h52 h53
              go_wp2_with fail
              refine (sameList_same l4.rs _ _ W5 O5.out.ll (WT.out.nx N5.out).ll (by have := HR4.out; omega)).mono ?_
              rintro e W6 ⟨rfl, h6⟩
              have B6 : Hid (Below W5.heap.size W5 W6) := h6
              clear h6
              go_wp2_with fail
              exact ⟨⟨k + 1, lg, _, s4, l4, q4, S5, hlt2, by go_num, rfl, rfl, L5.out.below B6.out, (WT.out.nx N5.out).nx (Nx.below B6.out), HN4.out.1, HN4.out.2, HN4t.out⟩, by simp [intOf]; omega⟩
            | large hz hrs hp6 =>
              subst hz
              have hpl : (65536 : Int) < (p.length : Int) := by omega
              have WT : Hid (Wt S4 W4 u7 us l4.rs) := by show Wt _ _ _ _ _; rw [hrs]; exact W4w.out
              clear hrs
              go_wp2_with fail
              refine (records_lg L4.out).mono ?_
              rintro e W5 ⟨v5, S5, us5, B5, rfl, h51, h52, h53⟩
              have L5 : Hid (Lg S5 w.heap.size w W5 g s4 lg l4 q4) := h51
              have N5 : Hid (Nx S4 _ S5 W5) := h52
              have O5 : Hid (OL B5 W5 v5 us5 l4.rs) := h53
              clear h51 h52 h53
              go_wp2_with fail
              refine (sameList_same l4.rs _ _ W5 O5.out.ll (WT.out.nx N5.out).ll (by have := HR4.out; omega)).mono ?_
              rintro e W6 ⟨rfl, h6⟩
              have B6 : Hid (Below W5.heap.size W5 W6) := h6
              clear h6
              go_wp2_with fail
              exact ⟨⟨k + 1, lg, _, s4, l4, q4, S5, hlt2, by go_num, rfl, rfl, L5.out.below B6.out, (WT.out.nx N5.out).nx (Nx.below B6.out), HN4.out.1, HN4.out.2, HN4t.out⟩, by simp [intOf]; omega⟩
        by_cases hk2 : o.kind = 2
        · skip
          have HUL0 : Hid (us.length ≤ 999999998 ∧ l.rs.length ≤ 999999998) := by
            show _ ∧ _
            obtain ⟨h1, h2, -⟩ := LL1.out.sby
            rw [W1.out.len]; exact ⟨LL1.out.li.rsl h1 h2, LL1.out.li.rsl h1 h2⟩
          go_wp2_with (first
            | (refine wpList_load_mid rfl 34 _ rfl b (so + k * 4) rfl o.cells _ HR.out Tryd.underlying34 rfl size_itm ?_)
            | (refine store_itm rfl (.tmp 9) (.tmp 31) rfl wr _ o.cells rfl rfl rfl rfl (itm_one HOK.out) ?_; intro W1' h71 h72 h73; have B1 : Hid (Below wr.heap.size wr W1') := h71; have I1 : Hid (It W1' wr.heap.size o) := ⟨h73, h72⟩; obtain ⟨ck, cn, cd⟩ := (show It W1' wr.heap.size o from ⟨h73, h72⟩).cell; rw [hk2] at ck; have cna : (W1'.alloc (.cells #[] 32)).cell? ⟨wr.heap.size, 1, none⟩ = some (.int .i64 o.n) := (((Below.refl _ W1').alloc (Nat.le_refl _) _).cell (p := ⟨wr.heap.size, 1, none⟩) h73).trans cn; clear h71 h72 h73))
          have L2 : Hid (Lg S w.heap.size w W1' g s lg l q) := LL1.out.below B1.out
          have WW : Hid (Wt S W1' u7 us l.rs) := W1.out.nx (Nx.below B1.out)
          have NB : Hid (¬ S wr.heap.size) := fun x => by obtain ⟨F', H', rv', us', hx'⟩ := LL1.out.wl; have := hx'.sl _ x; omega
          have BA : Below W1'.heap.size W1' (W1'.alloc (.cells #[] 32)) := (Below.refl _ W1').alloc (Nat.le_refl _) _
          refine (behind_any (WW.out.nx (Nx.below BA)) o.n HUL0.out.2).mono ?_
          rintro e W2 ⟨hW2, v', j, rfl, hj, hwj⟩
          subst hW2
          have WJ : Hid (Wt S (W1'.alloc (.cells #[] 32)) v' (us.drop j) (l.rs.drop j)) := hwj
          clear hwj
          go_wp2_with (at_builtin; refine app_us (B0 := W1'.heap.size) rfl (.tmp 68) (.tmp 72) rfl (by simp) _ [] rfl (ov_none (Nat.le_refl _) (row_new W1' _ _)) _ rfl (us.drop j) WJ.out.src WJ.out.one (by have := HUL0.out.1; simp; omega) ?_; intro v10 W o1 g1 e1; rw [List.nil_append] at o1; have O10 : Hid (OV W1'.heap.size W v10 (us.drop j)) := o1; have BW : Hid (Below W1'.heap.size W1' W) := BA.trans ((Below.refl _ _).grown g1 (by simp) (fun b' e => by cases e; exact Nat.le_refl _)); clear o1 g1 e1)
          have L3 : Hid (Lg S w.heap.size w W g s lg l q) := L2.out.below BW.out
          have W3 : Hid (Wt S W u7 us l.rs) := WW.out.nx (Nx.below BW.out)
          have HSL : Hid (∀ b', S b' → b' < W1'.heap.size) := by obtain ⟨F', H', rv', us', hx'⟩ := L2.out.wl; exact fun b' x => hx'.sl b' x
          have NX : Hid (Wt S W v10 (us.drop j) (l.rs.drop j)) := by
            obtain ⟨o1, o2⟩ := O10.out.rs
            exact ⟨WJ.out.len, o1, fun b' e => ⟨fun x => by have h1 := HSL.out b' x; have h2 := (o2 b' e).1; omega, (o2 b' e).2⟩, fun i u hu => by
              rw [List.getElem?_drop] at hu
              rw [mi_drop]
              exact W3.out.mem (j + i) u hu⟩
          have HRD : Hid (Rok (l.rs.drop j)) := fun m hm => L3.out.li.rok m (List.mem_of_mem_drop hm)
          clear L2 WW BA O10 WJ HSL
          refine (checkpoint_lg L3.out (by omega) (l.rs.drop j) v10 (us.drop j) NX.out HRD.out (by have := HUL0.out.2; simp; omega)).mono ?_
          rintro e W4 ⟨z, s4, l4, q4, S4, rfl, h41, h42, h43, h44, h45, hap⟩
          have L4 : Hid (Lg S4 w.heap.size w W4 g s4 lg l4 q4) := h41
          have HN4 : Hid (s4.n = 512 ∧ s4.fu = false) := ⟨by rw [h43]; exact hsn, by rw [h44]; exact hfu⟩
          have HN4t : Hid (l4.t ≤ k + 1) := by show _ ≤ _; omega
          have NX4 : Hid (Wt S4 W4 v10 (us.drop j) (l.rs.drop j)) := NX.out.nx h42
          have W4w : Hid (Wt S4 W4 u7 us l.rs) := W3.out.nx h42
          have HR4 : Hid (l4.rs.length ≤ 999999998) := by
            show _ ≤ _
            obtain ⟨h1, h2, -⟩ := L4.out.sby
            exact L4.out.li.rsl h1 h2
          clear h41 h42 h43 h44 L3 W3 NX
          rcases hap with ⟨hz, hrs⟩ | ⟨hz, hrs, hor⟩
          · subst hz
            have WT : Hid (Wt S4 W4 v10 (us.drop j) l4.rs) := by show Wt _ _ _ _ _; rw [hrs]; exact NX4.out
            clear hrs
            go_wp2_with fail
            refine (records_lg L4.out).mono ?_
            rintro e W5 ⟨v5, S5, us5, B5, rfl, h51, h52, h53⟩
            have L5 : Hid (Lg S5 w.heap.size w W5 g s4 lg l4 q4) := h51
            have N5 : Hid (Nx S4 _ S5 W5) := h52
            have O5 : Hid (OL B5 W5 v5 us5 l4.rs) := h53
            clear h51 h52 h53
            go_wp2_with fail
            refine (sameList_same l4.rs _ _ W5 O5.out.ll (WT.out.nx N5.out).ll (by have := HR4.out; omega)).mono ?_
            rintro e W6 ⟨rfl, h6⟩
            have B6 : Hid (Below W5.heap.size W5 W6) := h6
            clear h6
            go_wp2_with fail
            exact ⟨⟨k + 1, lg, _, s4, l4, q4, S5, hlt2, by go_num, rfl, rfl, L5.out.below B6.out, (WT.out.nx N5.out).nx (Nx.below B6.out), HN4.out.1, HN4.out.2, HN4t.out⟩, by simp [intOf]; omega⟩
          · subst hz
            have WT : Hid (Wt S4 W4 u7 us l4.rs) := by show Wt _ _ _ _ _; rw [hrs]; exact W4w.out
            have HZ : Hid (szr (l.rs.drop j) ≤ 140737488355328) := by
              show _ ≤ _
              have h1 := HUL0.out.2
              have h2 := szr_rok HRD.out
              simp at h2
              omega
            have hroom : decide (szr (l.rs.drop j) ≤ (512 / 2 - 8) * 32) = false := by
              refine decide_eq_false ?_
              rcases hor with x | x
              · rw [hfu] at x; cases x
              · intro hr
                refine x ?_
                show szr (l.rs.drop j) ≤ (s.n / 2 - 8) * 32
                rw [hsn]; exact hr
            clear hor hrs
            go_wp2_with fail
            refine (room_any (l.rs.drop j) 512 _ W4 NX4.out.ll (by have := HZ.out; omega) (by omega)).mono ?_
            rintro e W4' ⟨rfl, hw4⟩
            subst hw4
            rw [hroom]
            go_wp2_with fail
            refine (records_lg L4.out).mono ?_
            rintro e W5 ⟨v5, S5, us5, B5, rfl, h51, h52, h53⟩
            have L5 : Hid (Lg S5 w.heap.size w W5 g s4 lg l4 q4) := h51
            have N5 : Hid (Nx S4 _ S5 W5) := h52
            have O5 : Hid (OL B5 W5 v5 us5 l4.rs) := h53
            clear h51 h52 h53
            go_wp2_with fail
            refine (sameList_same l4.rs _ _ W5 O5.out.ll (WT.out.nx N5.out).ll (by have := HR4.out; omega)).mono ?_
            rintro e W6 ⟨rfl, h6⟩
            have B6 : Hid (Below W5.heap.size W5 W6) := h6
            clear h6
            go_wp2_with fail
            exact ⟨⟨k + 1, lg, _, s4, l4, q4, S5, hlt2, by go_num, rfl, rfl, L5.out.below B6.out, (WT.out.nx N5.out).nx (Nx.below B6.out), HN4.out.1, HN4.out.2, HN4t.out⟩, by simp [intOf]; omega⟩
        go_wp2_with (first
          | (refine wpList_load_mid rfl 34 _ rfl b (so + k * 4) rfl o.cells _ HR.out Tryd.underlying34 rfl size_itm ?_)
          | (refine store_itm rfl (.tmp 9) (.tmp 31) rfl wr _ o.cells rfl rfl rfl rfl (itm_one HOK.out) ?_; intro W1' h71 h72 h73; have B1 : Hid (Below wr.heap.size wr W1') := h71; have I1 : Hid (It W1' wr.heap.size o) := ⟨h73, h72⟩; obtain ⟨ck, cn, cd⟩ := (show It W1' wr.heap.size o from ⟨h73, h72⟩).cell; clear h71 h72 h73))
        have L2 : Hid (Lg S w.heap.size w W1' g s lg l q) := LL1.out.below B1.out
        have WW : Hid (Wt S W1' u7 us l.rs) := W1.out.nx (Nx.below B1.out)
        have NB : Hid (¬ S wr.heap.size) := fun x => by obtain ⟨F', H', rv', us', hx'⟩ := LL1.out.wl; have := hx'.sl _ x; omega
        refine (opened_lg L2.out _).mono ?_
        rintro e W4 ⟨lg', rfl, S4, h41, h42⟩
        have L4 : Hid (Lg S4 w.heap.size w W4 g s lg' l q) := h41
        have WT : Hid (Wt S4 W4 u7 us l.rs) := WW.out.nx h42
        have HN4 : Hid (s.n = 512 ∧ s.fu = false) := ⟨hsn, hfu⟩
        have HN4t : Hid (l.t ≤ k + 1) := by show _ ≤ _; omega
        have HR4 : Hid (l.rs.length ≤ 999999998) := by
          show _ ≤ _
          obtain ⟨h1, h2, -⟩ := L4.out.sby
          exact L4.out.li.rsl h1 h2
        clear h41 h42 L2 WW
        go_wp2_with fail
        refine (records_lg L4.out).mono ?_
        rintro e W5 ⟨v5, S5, us5, B5, rfl, h51, h52, h53⟩
        have L5 : Hid (Lg S5 w.heap.size w W5 g s lg' l q) := h51
        have N5 : Hid (Nx S4 _ S5 W5) := h52
        have O5 : Hid (OL B5 W5 v5 us5 l.rs) := h53
        clear h51 h52 h53
        go_wp2_with fail
        refine (sameList_same l.rs _ _ W5 O5.out.ll (WT.out.nx N5.out).ll (by have := HR4.out; omega)).mono ?_
        rintro e W6 ⟨rfl, h6⟩
        have B6 : Hid (Below W5.heap.size W5 W6) := h6
        clear h6
        go_wp2_with fail
        exact ⟨⟨k + 1, lg', _, s, l, q, S5, hlt2, by go_num, rfl, rfl, L5.out.below B6.out, (WT.out.nx N5.out).nx (Nx.below B6.out), HN4.out.1, HN4.out.2, HN4t.out⟩, by simp [intOf]; omega⟩
    · skip
      obtain rfl : k = L := by omega
      go_wp2_with fail
      refine (opened_lg LL1.out _).mono ?_
      rintro e W4 ⟨lg', rfl, S4, h41, h42⟩
      have L4 : Hid (Lg S4 w.heap.size w W4 g s lg' l q) := h41
      have WT : Hid (Wt S4 W4 u7 us l.rs) := W1.out.nx h42
      have HR4 : Hid (l.rs.length ≤ 999999998) := by
        show _ ≤ _
        obtain ⟨h1, h2, -⟩ := h41.sby
        exact h41.li.rsl h1 h2
      clear h41 h42 LL1 W1
      go_wp2_with fail
      refine (records_lg L4.out).mono ?_
      rintro e W5 ⟨v5, S5, us5, B5, rfl, h51, h52, h53⟩
      have L5 : Hid (Lg S5 w.heap.size w W5 g s lg' l q) := h51
      have N5 : Hid (Nx S4 W4 S5 W5) := h52
      have O5 : Hid (OL B5 W5 v5 us5 l.rs) := h53
      clear h51 h52 h53
      go_wp2_with fail
      refine (sameList_same l.rs _ _ W5 O5.out.ll (WT.out.nx N5.out).ll (by have := HR4.out; omega)).mono ?_
      rintro e W6 ⟨rfl, h6⟩
      have B6 : Hid (Below W5.heap.size W5 W6) := h6
      clear h6
      go_wp2_with fail
      go_ret
      exact ⟨rfl, L5.out.bel.trans (B6.out.mono L5.out.bs)⟩
end Go.Proofs.YthfpakjfdncphaaDoor
