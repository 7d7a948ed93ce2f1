/- The reference's MAC. -/
import Derived.Test.YtbljijopgpcieaaDoorMacB
namespace Go.Proofs.YtbljijopgpcieaaDoor
open Go Go.RowKit
set_option linter.unusedSimpArgs false
set_option linter.unusedVariables false

theorem b_xor54 (a : BitVec 8) : bits .xor .u8 (ub a) 54 = ub (a ^^^ 54) := b_xor a 54
theorem b_xor92 (a : BitVec 8) : bits .xor .u8 (ub a) 92 = ub (a ^^^ 92) := b_xor a 92
attribute [local go_sem] b_xor54 b_xor92
/-- append of whatever bytes onto a row of the call's own: what else stays. -/
theorem app_more {ops : Array Oper} {rest : List Oper} {o : Oper} {a : Act} {Q : Exit → Act → World → Prop} {w wr : World} (hgd : o.guard = none) (s x : Operand) (ho : o.op = .call { callee := .builtin .append, args := #[s, x], argTypes := #[22, 22] })
    (v : Value) (k : Nat) (f : Nat → BitVec 8) (hs : a.eval s = v) (h0 : Own w wr v k f) (ad : Option Addr) (m c : Nat) (hx : a.eval x = .slice ad m c) (f' : Nat → BitVec 8) (hf : ∀ i, i < k → f i = f' i)
    (hg : Src wr ad m c (fun i => f' (k + i))) (hk : k + m ≤ 140737488355328)
    (h : ∀ v' w', Own w w' v' (k + m) f' → wr.grownBy w' v.ownBlock → (v'.ownBlock = v.ownBlock ∨ v'.ownBlock = some wr.heap.size) → wpList Tryd.prog ops Q rest (a.put o.dst v') w') : wpList Tryd.prog ops Q (o :: rest) a wr := by
  obtain ⟨i, hi, hz, hsz, hby⟩ := info_u8
  have hb := h0.below.size
  have main : ∀ A : Addr, a.eval x = .slice (some A) m c → (∀ i, i < m → wr.cell? (A.add i) = some (B (f' (k + i)))) → wpList Tryd.prog ops Q (o :: rest) a wr := by
    intro A hx hg
    refine wpList_append_own_at wr hgd s x 22 ho w.heap.size 5 i (.int .u8 0) 1 1 Tryd.underlying22 hi hz hsz hby rfl (by decide) v k (bl f k) hs h0.own A m c (bl (fun j => f' (k + j)) m) hx (by rw [bl_length]; omega) ?_ (bl_one _ _) (by unfold maxLen; omega) (by omega) hb ?_
    · intro j u hu
      obtain ⟨hj, hv⟩ := List.getElem?_eq_some_iff.1 hu
      rw [bl_length] at hj
      rw [hg j hj, ← hv]
      simp [bl]
    · intro v' w' h1 h2 h3 h4
      refine h v' w' ⟨h0.below.grown h2 hb (fun b hb' => h0.blk b hb'), ?_⟩ h2 h4
      have e : bl f k ++ bl (fun j => f' (k + j)) m = bl f' (k + m) := by
        rw [bl_congr f f' k hf]
        apply List.ext_getElem?
        intro j
        by_cases hj : j < k
        · rw [List.getElem?_append_left (by rw [bl_length]; exact hj)]
          simp [bl, hj, show j < k + m by omega]
        · rw [List.getElem?_append_right (by rw [bl_length]; omega), bl_length]
          by_cases hj2 : j < k + m
          · simp [bl, show j - k < m by omega, hj2, show k + (j - k) = j by omega]
          · rw [List.getElem?_eq_none (by rw [bl_length]; omega), List.getElem?_eq_none (by rw [bl_length]; omega)]
      rw [← e]; exact h1
  rcases hg with ⟨rfl, rfl⟩ | ⟨b, off, rfl, _, hm⟩
  · cases ad with
    | some A => exact main A hx (fun i hi => absurd hi (Nat.not_lt_zero i))
    | none => exact wpList_append_own_none hgd s x 22 ho w.heap.size 5 i 1 Tryd.underlying22 hi v k (bl f k) hs h0.own hx (h v wr (h0.congr hf) (World.grownBy.refl _ _) (.inl rfl))
  · exact main ⟨b, off, none⟩ hx (fun i hi => by rw [addr_add0]; exact hm i hi)
theorem Own.keep {w wr w' : World} {v : Value} {k : Nat} {f : Nat → BitVec 8} (h : Own w wr v k f) (hb : Below w.heap.size w w') (hk : ∀ b, v.ownBlock = some b → w'.heap[b]? = wr.heap[b]?) : Own w w' v k f := by
  refine ⟨hb, h.own.1, ?_⟩
  rcases h.own.2 with h1 | ⟨g, cap, cur, rfl, hb1, hg, hc⟩
  · exact .inl h1
  · exact .inr ⟨g, cap, cur, rfl, hb1, by rw [hk g rfl]; exact hg, hc⟩
theorem Own.lt' {w wr : World} {v : Value} {k : Nat} {f : Nat → BitVec 8} (h : Own w wr v k f) : ∀ b, v.ownBlock = some b → b < wr.heap.size := by
  intro b e
  rcases h.own.2 with ⟨rfl, _⟩ | ⟨g, cap, cur, rfl, _, hg, _⟩
  · simp [Value.ownBlock] at e
  · simp [Value.ownBlock] at e; subst e; exact (Array.getElem?_eq_some_iff.1 hg).1
/-- Two rows side by side. -/
structure Two (W wr : World) (vi vo : Value) (f : Nat → BitVec 8) (k : Nat) : Prop where
  i : Own W wr vi k (fun j => f j ^^^ 54)
  o : Own W wr vo k (fun j => f j ^^^ 92)
  ne : ∀ b, vi.ownBlock = some b → vo.ownBlock ≠ some b
theorem Two.alloc {W wr : World} {vi vo : Value} {f : Nat → BitVec 8} {k : Nat} (h : Two W wr vi vo f k) (ob : Obj) : Two W (wr.alloc ob) vi vo f k := ⟨h.i.alloc ob, h.o.alloc ob, h.ne⟩
/-- One more byte on the first; the second stays. -/
structure Tw1 (W wr : World) (vi vo : Value) (f : Nat → BitVec 8) (k : Nat) : Prop where
  i : Own W wr vi (k + 1) (fun j => f j ^^^ 54)
  o : Own W wr vo k (fun j => f j ^^^ 92)
  ne : ∀ b, vi.ownBlock = some b → vo.ownBlock ≠ some b
theorem Tw1.alloc {W wr : World} {vi vo : Value} {f : Nat → BitVec 8} {k : Nat} (h : Tw1 W wr vi vo f k) (ob : Obj) : Tw1 W (wr.alloc ob) vi vo f k := ⟨h.i.alloc ob, h.o.alloc ob, h.ne⟩
theorem Two.step {W wr w' : World} {vi vo v' : Value} {f : Nat → BitVec 8} {k : Nat} (h : Two W wr vi vo f k) (h1 : Own W w' v' (k + 1) (fun j => f j ^^^ 54)) (h2 : wr.grownBy w' vi.ownBlock) (h4 : v'.ownBlock = vi.ownBlock ∨ v'.ownBlock = some wr.heap.size) : Tw1 W w' v' vo f k := by
  refine ⟨h1, h.o.keep h1.below (fun b hb => h2.block b (h.o.lt' b hb) (fun e => h.ne b e.symm hb)), fun b hb hb' => ?_⟩
  rcases h4 with e | e
  · exact h.ne b (e ▸ hb) hb'
  · rw [e] at hb; cases hb; exact absurd (h.o.lt' _ hb') (by omega)
theorem Tw1.step {W wr w' : World} {vi vo v' : Value} {f : Nat → BitVec 8} {k : Nat} (h : Tw1 W wr vi vo f k) (h1 : Own W w' v' (k + 1) (fun j => f j ^^^ 92)) (h2 : wr.grownBy w' vo.ownBlock) (h4 : v'.ownBlock = vo.ownBlock ∨ v'.ownBlock = some wr.heap.size) : Two W w' vi v' f (k + 1) := by
  refine ⟨h.i.keep h1.below (fun b hb => h2.block b (h.i.lt' b hb) (fun e => h.ne b hb e.symm)), h1, fun b hb hb' => ?_⟩
  rcases h4 with e | e
  · exact h.ne b hb (e ▸ hb')
  · rw [e] at hb'; cases hb'; exact absurd (h.i.lt' _ hb) (by omega)
theorem one_new (W : World) (z : BitVec 8) (t : TypeId) (g : Nat → BitVec 8) (hg : g 0 = z) : Src (W.alloc (.cells #[B z] t)) (some ⟨W.heap.size, 0, none⟩) 1 1 g := by
  refine .inr ⟨_, 0, rfl, by simp, fun i hi => ?_⟩
  obtain rfl : i = 0 := by omega
  rw [hg]
  have : (W.alloc (.cells #[B z] t)).heap[W.heap.size]? = some (.cells #[B z] t) := by show (W.heap.push _)[W.heap.size]? = _; simp
  unfold World.cell?; rw [this]; rfl
/-- What stands behind the key's block. -/
structure RK (w W : World) (f : Nat → BitVec 8) : Prop where
  below : Below w.heap.size w W
  res : W.heap[w.heap.size]? = some (.cells z32 24 (0, 0))
  key : W.heap[w.heap.size + 1]? = some (.cells (brow 64 f) 28 (0, 0))
theorem RK.keep {w W W' : World} {f : Nat → BitVec 8} (h : RK w W f) (hb : Below W.heap.size W W') : RK w W' f :=
  ⟨h.below.trans (hb.mono h.below.size), (hb.block _ (Array.getElem?_eq_some_iff.1 h.res).1).trans h.res, (hb.block _ (Array.getElem?_eq_some_iff.1 h.key).1).trans h.key⟩
theorem RK.cell {w W : World} {f : Nat → BitVec 8} (h : RK w W f) (i : Nat) (hi : i < 64) : W.cell? ⟨w.heap.size + 1, i, none⟩ = some (B (f i)) := by
  rw [cell_of_row W _ i _ _ _ h.key, brow_get, if_pos hi]
theorem rk_copy {w W0 W1 : World} {f : Nat → BitVec 8} (hB : Below w.heap.size w W0) (h0 : W0.heap[w.heap.size]? = some (.cells z32 24 (0, 0))) (hg : W0.grownBy W1 (some (w.heap.size + 1))) (hr : W1.heap[w.heap.size + 1]? = some (.cells (brow 64 f) 28 (0, 0))) : RK w W1 f :=
  ⟨hB.grown hg hB.size (fun q hq => by cases hq; omega), (hg.block _ (Array.getElem?_eq_some_iff.1 h0).1 (by simp)).trans h0, hr⟩
theorem rk_splice {W1 : World} {b n : Nat} {k f : Nat → BitVec 8} {t : TypeId} (hn : n ≤ 64) (hf : kb n k = f) (hr : W1.heap[b]? = some (.cells ((brow 64 (fun _ => 0)).toList.take 0 ++ (((List.range n).map fun i => B (k i)) ++ (brow 64 (fun _ => 0)).toList.drop (0 + ((List.range n).map fun i => B (k i)).length))).toArray t (0, 0))) : W1.heap[b]? = some (.cells (brow 64 f) t (0, 0)) := by
  rw [brow_splice 64 (fun _ => 0) 0 n k (by omega)] at hr
  rw [← hf, show kb n k = kfun n k from if_pos hn]; exact hr
/-- The first row grown to the whole; the second as it was. -/
structure Tx (W wr : World) (vi vo : Value) (f M : Nat → BitVec 8) (n : Nat) : Prop where
  i : Own W wr vi n M
  o : Own W wr vo 64 (fun j => f j ^^^ 92)
theorem Two.grow {W wr w' : World} {vi vo v' : Value} {f M : Nat → BitVec 8} {n : Nat} (h : Two W wr vi vo f 64) (h1 : Own W w' v' n M) (h2 : wr.grownBy w' vi.ownBlock) (h4 : v'.ownBlock = vi.ownBlock ∨ v'.ownBlock = some wr.heap.size) : Tx W w' v' vo f M n :=
  ⟨h1, h.o.keep h1.below (fun b hb => h2.block b (h.o.lt' b hb) (fun e => h.ne b e.symm hb))⟩
theorem Tx.below {W wr w' : World} {vi vo : Value} {f M : Nat → BitVec 8} {n : Nat} (h : Tx W wr vi vo f M n) (hb : Below wr.heap.size wr w') : Tx W w' vi vo f M n :=
  ⟨h.i.keep (h.i.below.trans (hb.mono h.i.below.size)) (fun b e => hb.block b (h.i.lt' b e)), h.o.keep (h.i.below.trans (hb.mono h.i.below.size)) (fun b e => hb.block b (h.o.lt' b e))⟩
theorem rh_below {w2 w3 : World} {S : St} (h : w3 = (w2.alloc (.cells z32 24)).setCells w2.heap.size 0 (srow S).toList) : Below w2.heap.size w2 w3 := by
  rw [h]; exact below_setCells _ (Nat.le_refl _) _ _ _ ((Below.refl _ _).alloc (Nat.le_refl _) _)
theorem rh_src {w2 w3 : World} {S : St} {g : Nat → BitVec 8} (ht : (w2.alloc (.cells z32 24)).there w2.heap.size 0 (srow S).size) (h : w3 = (w2.alloc (.cells z32 24)).setCells w2.heap.size 0 (srow S).toList) (hg : ∀ i, i < 32 → sbyte S i = g i) : Src w3 (some ⟨w2.heap.size, 0, none⟩) 32 32 g := by
  have hra : w3.rangeAt w2.heap.size 0 (srow S).toList := by rw [h]; exact World.rangeAt_setCells_same _ _ _ _ ht
  have hc : ∀ i, i < 32 → w3.cell? ⟨w2.heap.size, 0 + i, none⟩ = some (B (sbyte S i)) := fun i hi => hra i _ (by rw [Array.getElem?_toList]; exact srow_get S i hi)
  exact .inr ⟨_, 0, rfl, block_lt_of_cell (hc 0 (by omega)), fun i hi => by rw [← hg i hi]; exact hc i hi⟩
set_option maxRecDepth 100000 in
set_option maxHeartbeats 4000000 in
theorem rmac_any (S1 S2 : St) (f k m : Nat → BitVec 8) (ka ma : Option Addr) (kn kc mn mc N1 : Nat) (hf : kb kn k = f) (hN : N1 = 64 + mn) (h1 : sumSt K256 H256 (cat 64 (fun i => f i ^^^ 54) m) N1 = S1)
    (h2 : sumSt K256 H256 (cat 64 (fun i => f i ^^^ 92) (sbyte S1)) 96 = S2) (hkn : kn < 140737488354900) (hmn : N1 < 140737488354900) (w : World)
    (hk : Bytes w (.slice ka kn kc) kn k w.heap.size) (hm : Bytes w (.slice ma mn mc) mn m w.heap.size) :
    Calls Tryd.prog 6 #[.slice ka kn kc, .slice ma mn mc] w fun e w' => e = .returned (.agg (srow S2)) ∧ Below w.heap.size w w' := by
  have HSK : Hid (Src w ka kn kc k) := by obtain ⟨ad, cap, hv, hs⟩ := hk.src; cases hv; exact hs
  have HSM : Hid (Src w ma mn mc m) := by obtain ⟨ad, cap, hv, hs⟩ := hm.src; cases hv; exact hs
  have HF : Hid (kb kn k = f) := hf
  have HN : Hid (N1 = 64 + mn) := hN
  obtain ⟨M1, hM1⟩ : ∃ M1, M1 = cat 64 (fun i => f i ^^^ 54) m := ⟨_, rfl⟩
  obtain ⟨M2, hM2⟩ : ∃ M2, M2 = cat 64 (fun i => f i ^^^ 92) (sbyte S1) := ⟨_, rfl⟩
  have p1 : Hid (∀ i, i < 64 → f i ^^^ 54 = M1 i) := fun i hi => by rw [hM1, cat_lo _ _ _ _ hi]
  have p2 : Hid (∀ i, i < 64 → f i ^^^ 92 = M2 i) := fun i hi => by rw [hM2, cat_lo _ _ _ _ hi]
  have q1 : Hid (∀ i, m i = M1 (64 + i)) := fun i => by rw [hM1, cat_hi]
  have q2 : Hid (∀ i, sbyte S1 i = M2 (64 + i)) := fun i => by rw [hM2, cat_hi]
  have H1 : Hid (sumSt K256 H256 M1 N1 = S1) := by show sumSt K256 H256 M1 N1 = S1; rw [hM1]; exact h1
  have H2 : Hid (sumSt K256 H256 M2 96 = S2) := by show sumSt K256 H256 M2 96 = S2; rw [hM2]; exact h2
  have g1 : (N1 : Int) < 140737488354900 := by omega
  have g2 : Hid (64 + mn ≤ 140737488355328) := by show 64 + mn ≤ 140737488355328; omega
  clear hM1 hM2 h1 h2 hf hk hm hN
  have hz := zero_64
  have hz2 := zero_32
  have HB0 : Hid (Below w.heap.size w ((w.alloc (.cells z32 24)).alloc (.cells z64 28))) := ((Below.refl _ _).alloc (Nat.le_refl _) _).alloc (by simp) _
  have HR0 : Hid (((w.alloc (.cells z32 24)).alloc (.cells z64 28)).heap[w.heap.size]? = some (.cells z32 24 (0, 0))) := heap_alloc2_old w _ _
  have HR1 : Hid (((w.alloc (.cells z32 24)).alloc (.cells z64 28)).heap[w.heap.size + 1]? = some (.cells (brow 64 (fun _ => 0)) 28 (0, 0))) := by
    have := heap_alloc2_new w (.cells z32 24) (.cells z64 28)
    rw [← z64_brow]; exact this
  have sl0 := fun w1 => sliceAt_all w1 28 5 64 (w.heap.size + 1) 0 Tryd.underlying28 size_u8
  have cs : Hid ((kn = 0 ∧ kc = 0) ∨ (kn ≤ 64 ∧ ∃ b off, ka = some ⟨b, off, none⟩ ∧ b < w.heap.size ∧ ∀ i, i < kn → w.cell? ⟨b, off + i, none⟩ = some (B (k i))) ∨ 64 < kn) := by
    rcases HSK.out with h | ⟨b, off, e, hlt, hm⟩
    · exact .inl h
    · by_cases h : kn ≤ 64
      · exact .inr (.inl ⟨h, b, off, e, hlt, hm⟩)
      · exact .inr (.inr (by omega))
  rcases cs.out with ⟨rfl, rfl⟩ | ⟨h64, b, off, rfl, hlt, hm⟩ | h64
  · clear cs
    have RK1 : Hid (RK w ((w.alloc (.cells z32 24)).alloc (.cells z64 28)) f) := ⟨HB0.out, HR0.out, by
      have e : brow 64 f = brow 64 (fun _ => 0) := by rw [← HF.out, show kb 0 k = kfun 0 k from if_pos (by omega), kfun_zero]
      rw [e]; exact HR1.out⟩
    go_enter Tryd.func6, Tryd.ntmps6
    go_wp2_with (refine wpList_copy_nothing rfl _ _ 22 22 rfl 5 Tryd.underlying22 size_u8 (some ⟨w.heap.size + 1, 0, none⟩) ka 64 64 0 0 rfl rfl rfl ?_)
    clear HB0 HR0 HR1 sl0
    generalize (w.alloc (.cells z32 24)).alloc (.cells z64 28) = W1 at RK1 ⊢
    go_loopw [7, 8, 9, 22] (fun vi vo _ x wr => ∃ q : Nat, q ≤ 64 ∧ x = .int .i64 (q : Int) ∧ Two W1 wr vi vo f q) (fun _ _ _ x _ => 64 - (intOf x).toNat)
    case atStart => exact ⟨0, by omega, rfl, ⟨⟨Below.refl _ _, ⟨rfl, .inl ⟨rfl, rfl⟩⟩⟩, ⟨Below.refl _ _, ⟨rfl, .inl ⟨rfl, rfl⟩⟩⟩, fun b hb => by simp [Value.ownBlock] at hb⟩⟩
    case round =>
      obtain ⟨q, hq, rfl, hrel⟩ := hrel
      have HQ : Hid (Two W1 _ _ _ f q) := hrel
      clear hrel
      by_cases hq64 : q = 64
      · subst hq64
        have RKr : Hid (RK w wr f) := RK1.out.keep HQ.out.i.below
        go_wp2_with (at_builtin; refine app_more rfl (.tmp 40) (.tmp 41) rfl _ 64 _ rfl HQ.out.i ma mn mc rfl M1 p1.out ((HSM.out.below RKr.out.below (Nat.le_refl _)).congr (fun i _ => q1.out i)) g2.out ?_; intro v1 w1 o1 g1' e1; have T1 : Hid (Tx W1 w1 v1 _ f M1 (64 + mn)) := HQ.out.grow o1 g1' e1; clear o1 g1' e1; rw [← HN.out] at T1; obtain ⟨x1, y1, hv1, hs1⟩ := T1.out.i.src; rw [hv1]; have S1' : Hid (Src w1 x1 N1 y1 M1) := hs1; clear hs1)
        refine (rsum_at S1 M1 x1 N1 y1 H1.out hmn w1 S1'.out).mono ?_
        rintro e w2 ⟨rfl, hb2⟩
        have T2 : Hid (Tx W1 w2 v1 _ f M1 N1) := T1.out.below hb2
        have RK2 : Hid (RK w w2 f) := RK1.out.keep T2.out.i.below
        clear hb2 T1 S1' RKr HQ
        have HTH : Hid ((w2.alloc (.cells z32 24)).there w2.heap.size 0 (srow S1).size) := there_of_row (heap_alloc_new _ _) 0 _ (by rw [srow_size, z32_size]; omega)
        have sl1 := fun w1 => sliceAt_all w1 24 5 32 w2.heap.size 0 Tryd.underlying24 size_u8
        go_wp2_with (first
          | (refine wpList_store_midL rfl 24 _ _ rfl w2.heap.size 0 (srow S1) rfl rfl HTH.out (by rw [srow_size]; exact size_24) (by exact srow_one _) ?_; intro w3 hw3; have B3 : Hid (Below w2.heap.size w2 w3) := rh_below hw3; have S3 : Hid (Src w3 (some ⟨w2.heap.size, 0, none⟩) 32 32 (fun i => M2 (64 + i))) := rh_src HTH.out hw3 (fun i _ => q2.out i); have T3 : Hid (Tx W1 w3 v1 _ f M1 N1) := T2.out.below B3.out; clear hw3)
          | (at_builtin; refine app_more rfl (.tmp 44) (.tmp 45) rfl _ 64 _ rfl T3.out.o (some ⟨w2.heap.size, 0, none⟩) 32 32 rfl M2 p2.out S3.out (by omega) ?_; intro v4 w4 o4 g4 e4; have O4 : Hid (Own W1 w4 v4 96 M2) := o4; clear o4 g4 e4; obtain ⟨x4, y4, hv4, hs4⟩ := O4.out.src; rw [hv4]; have S4 : Hid (Src w4 x4 96 y4 M2) := hs4; clear hs4))
        refine (rsum_at S2 M2 x4 96 y4 H2.out (by omega) w4 S4.out).mono ?_
        rintro e w5 ⟨rfl, hb5⟩
        have RK5 : Hid (RK w w5 f) := (RK1.out.keep O4.out.below).keep hb5
        clear hb5
        have HT5 : Hid (w5.there w.heap.size 0 (srow S2).size) := by rw [srow_size]; exact there_of_row RK5.out.res 0 32 (by rw [z32_size]; omega)
        go_wp2_with (refine wpList_store_mid rfl 24 _ _ rfl w.heap.size 0 (srow S2) rfl rfl HT5.out (by rw [srow_size]; exact size_24) (by exact srow_one _) ?_)
        refine bodyPost_ret (v := .agg (srow S2)) ?_ rfl ⟨rfl, ?_⟩
        · exact results_mid Tryd.results6 _ _ w.heap.size 0 (srow S2).toList _ rfl (World.rangeAt_setCells_same _ _ _ _ HT5.out) Tryd.underlying24 rfl (by rw [Array.length_toList, srow_size]; exact size_24)
        · exact below_setCells _ (Nat.le_refl _) _ _ _ RK5.out.below
      · have hlt : q < 64 := by omega
        have g : (q : Int) < 64 := by omega
        have hc := (RK1.out.keep HQ.out.i.below).cell q hlt
        go_wp2_with (first
          | (at_builtin; refine app_more rfl (.tmp 25) (.tmp 30) rfl _ q _ rfl (HQ.out.i.alloc _) (some ⟨wr.heap.size, 0, none⟩) 1 1 rfl (fun j => f j ^^^ 54) (fun _ _ => rfl) (one_new wr (f q ^^^ 54) _ _ rfl) (by omega) ?_; intro v1 w1 o1 g1' e1; have T1 : Hid (Tw1 W1 w1 v1 _ f q) := (HQ.out.alloc _).step o1 g1' e1; clear o1 g1' e1; have hcB := (RK1.out.keep T1.out.i.below).cell q hlt)
          | (at_builtin; refine app_more rfl (.tmp 32) (.tmp 37) rfl _ q _ rfl (T1.out.o.alloc _) (some ⟨w1.heap.size, 0, none⟩) 1 1 rfl (fun j => f j ^^^ 92) (fun _ _ => rfl) (one_new w1 (f q ^^^ 92) _ _ rfl) (by omega) ?_; intro v2 w2 o2 g2' e2; have T2 : Hid (Two W1 w2 v1 v2 f (q + 1)) := (T1.out.alloc _).step o2 g2' e2; clear o2 g2' e2))
        go_roundw
        case rel => exact ⟨q + 1, hlt, by simp, T2.out⟩
        case measure => simp [intOf]; omega
  · clear cs
    have g : ¬ ((kn : Int) > 64) := by omega
    have g' : ¬ (64 < (kn : Int)) := by omega
    have g'' : decide (64 < (kn : Int)) = false := by simp; omega
    have HS : Hid (∀ j v, ((List.range kn).map fun i => B (k i))[j]? = some v → ((w.alloc (.cells z32 24)).alloc (.cells z64 28)).cell? ((⟨b, off, none⟩ : Addr).add j) = some v) :=
      src_cells (n := kn) (fun i hi => by rw [HB0.out.cell (p := ⟨b, off + i, none⟩) hlt]; exact hm i hi) kn (Nat.le_refl _)
    have HFi : Hid (0 + ((List.range kn).map fun i => B (k i)).length ≤ (brow 64 (fun _ => 0)).size) := by
      show 0 + ((List.range kn).map fun i => B (k i)).length ≤ (brow 64 (fun _ => 0)).size
      rw [brow_size, List.length_map, List.length_range]; omega
    have HLE : Hid (((List.range kn).map fun i => B (k i)).length = Nat.min kn 64) := by
      show _ = min kn 64
      simp; omega
    clear hm
    go_enter Tryd.func6, Tryd.ntmps6
    go_wp2_with (refine wpList_copyL rfl _ _ 22 22 rfl 5 Tryd.underlying22 size_u8 (w.heap.size + 1) 0 64 64 ⟨b, off, none⟩ kn kc rfl rfl (brow 64 (fun _ => 0)) 28 HR1.out ((List.range kn).map fun i => B (k i)) HLE.out HS.out HFi.out (bytes_one kn k) ?_; intro W1 hg2 hz2 hr2; have RK1 : Hid (RK w W1 f) := rk_copy HB0.out HR0.out hg2 (rk_splice h64 HF.out hr2); clear hg2 hz2 hr2 HS HFi HLE)
    clear HB0 HR0 HR1 sl0
    go_loopw [7, 8, 9, 22] (fun vi vo _ x wr => ∃ q : Nat, q ≤ 64 ∧ x = .int .i64 (q : Int) ∧ Two W1 wr vi vo f q) (fun _ _ _ x _ => 64 - (intOf x).toNat)
    case atStart => exact ⟨0, by omega, rfl, ⟨⟨Below.refl _ _, ⟨rfl, .inl ⟨rfl, rfl⟩⟩⟩, ⟨Below.refl _ _, ⟨rfl, .inl ⟨rfl, rfl⟩⟩⟩, fun b hb => by simp [Value.ownBlock] at hb⟩⟩
    case round =>
      obtain ⟨q, hq, rfl, hrel⟩ := hrel
      have HQ : Hid (Two W1 _ _ _ f q) := hrel
      clear hrel
      by_cases hq64 : q = 64
      · subst hq64
        have RKr : Hid (RK w wr f) := RK1.out.keep HQ.out.i.below
        go_wp2_with (at_builtin; refine app_more rfl (.tmp 40) (.tmp 41) rfl _ 64 _ rfl HQ.out.i ma mn mc rfl M1 p1.out ((HSM.out.below RKr.out.below (Nat.le_refl _)).congr (fun i _ => q1.out i)) g2.out ?_; intro v1 w1 o1 g1' e1; have T1 : Hid (Tx W1 w1 v1 _ f M1 (64 + mn)) := HQ.out.grow o1 g1' e1; clear o1 g1' e1; rw [← HN.out] at T1; obtain ⟨x1, y1, hv1, hs1⟩ := T1.out.i.src; rw [hv1]; have S1' : Hid (Src w1 x1 N1 y1 M1) := hs1; clear hs1)
        refine (rsum_at S1 M1 x1 N1 y1 H1.out hmn w1 S1'.out).mono ?_
        rintro e w2 ⟨rfl, hb2⟩
        have T2 : Hid (Tx W1 w2 v1 _ f M1 N1) := T1.out.below hb2
        have RK2 : Hid (RK w w2 f) := RK1.out.keep T2.out.i.below
        clear hb2 T1 S1' RKr HQ
        have HTH : Hid ((w2.alloc (.cells z32 24)).there w2.heap.size 0 (srow S1).size) := there_of_row (heap_alloc_new _ _) 0 _ (by rw [srow_size, z32_size]; omega)
        have sl1 := fun w1 => sliceAt_all w1 24 5 32 w2.heap.size 0 Tryd.underlying24 size_u8
        go_wp2_with (first
          | (refine wpList_store_midL rfl 24 _ _ rfl w2.heap.size 0 (srow S1) rfl rfl HTH.out (by rw [srow_size]; exact size_24) (by exact srow_one _) ?_; intro w3 hw3; have B3 : Hid (Below w2.heap.size w2 w3) := rh_below hw3; have S3 : Hid (Src w3 (some ⟨w2.heap.size, 0, none⟩) 32 32 (fun i => M2 (64 + i))) := rh_src HTH.out hw3 (fun i _ => q2.out i); have T3 : Hid (Tx W1 w3 v1 _ f M1 N1) := T2.out.below B3.out; clear hw3)
          | (at_builtin; refine app_more rfl (.tmp 44) (.tmp 45) rfl _ 64 _ rfl T3.out.o (some ⟨w2.heap.size, 0, none⟩) 32 32 rfl M2 p2.out S3.out (by omega) ?_; intro v4 w4 o4 g4 e4; have O4 : Hid (Own W1 w4 v4 96 M2) := o4; clear o4 g4 e4; obtain ⟨x4, y4, hv4, hs4⟩ := O4.out.src; rw [hv4]; have S4 : Hid (Src w4 x4 96 y4 M2) := hs4; clear hs4))
        refine (rsum_at S2 M2 x4 96 y4 H2.out (by omega) w4 S4.out).mono ?_
        rintro e w5 ⟨rfl, hb5⟩
        have RK5 : Hid (RK w w5 f) := (RK1.out.keep O4.out.below).keep hb5
        clear hb5
        have HT5 : Hid (w5.there w.heap.size 0 (srow S2).size) := by rw [srow_size]; exact there_of_row RK5.out.res 0 32 (by rw [z32_size]; omega)
        go_wp2_with (refine wpList_store_mid rfl 24 _ _ rfl w.heap.size 0 (srow S2) rfl rfl HT5.out (by rw [srow_size]; exact size_24) (by exact srow_one _) ?_)
        refine bodyPost_ret (v := .agg (srow S2)) ?_ rfl ⟨rfl, ?_⟩
        · exact results_mid Tryd.results6 _ _ w.heap.size 0 (srow S2).toList _ rfl (World.rangeAt_setCells_same _ _ _ _ HT5.out) Tryd.underlying24 rfl (by rw [Array.length_toList, srow_size]; exact size_24)
        · exact below_setCells _ (Nat.le_refl _) _ _ _ RK5.out.below
      · have hlt : q < 64 := by omega
        have g : (q : Int) < 64 := by omega
        have hc := (RK1.out.keep HQ.out.i.below).cell q hlt
        go_wp2_with (first
          | (at_builtin; refine app_more rfl (.tmp 25) (.tmp 30) rfl _ q _ rfl (HQ.out.i.alloc _) (some ⟨wr.heap.size, 0, none⟩) 1 1 rfl (fun j => f j ^^^ 54) (fun _ _ => rfl) (one_new wr (f q ^^^ 54) _ _ rfl) (by omega) ?_; intro v1 w1 o1 g1' e1; have T1 : Hid (Tw1 W1 w1 v1 _ f q) := (HQ.out.alloc _).step o1 g1' e1; clear o1 g1' e1; have hcB := (RK1.out.keep T1.out.i.below).cell q hlt)
          | (at_builtin; refine app_more rfl (.tmp 32) (.tmp 37) rfl _ q _ rfl (T1.out.o.alloc _) (some ⟨w1.heap.size, 0, none⟩) 1 1 rfl (fun j => f j ^^^ 92) (fun _ _ => rfl) (one_new w1 (f q ^^^ 92) _ _ rfl) (by omega) ?_; intro v2 w2 o2 g2' e2; have T2 : Hid (Two W1 w2 v1 v2 f (q + 1)) := (T1.out.alloc _).step o2 g2' e2; clear o2 g2' e2))
        go_roundw
        case rel => exact ⟨q + 1, hlt, by simp, T2.out⟩
        case measure => simp [intOf]; omega
  · clear cs
    have g : (kn : Int) > 64 := by omega
    obtain ⟨SK, hSK⟩ : ∃ SK, sumSt K256 H256 k kn = SK := ⟨_, rfl⟩
    have HSK2 : Hid (sumSt K256 H256 k kn = SK) := hSK
    have HFK : Hid (kfun 32 (sbyte SK) = f) := by show _ = f; rw [← HF.out, ← hSK]; exact (if_neg (by omega)).symm
    clear hSK
    go_enter Tryd.func6, Tryd.ntmps6
    go_wp2_with fail
    refine (rsum_at SK k ka kn kc HSK2.out hkn _ (HSK.out.below HB0.out (Nat.le_refl _))).mono ?_
    rintro e w1 ⟨rfl, hb1⟩
    have hs1 : w.heap.size + 2 ≤ w1.heap.size := by have := hb1.size; simp at this; omega
    have HB1 : Hid (Below w.heap.size w w1) := HB0.out.trans (hb1.mono (by simp; omega))
    have HS1 : Hid (w1.heap[w.heap.size]? = some (.cells z32 24 (0, 0))) := (hb1.block _ (by simp; omega)).trans HR0.out
    have HS2 : Hid (w1.heap[w.heap.size + 1]? = some (.cells (brow 64 (fun _ => 0)) 28 (0, 0))) := (hb1.block _ (by simp)).trans HR1.out
    clear hb1 HB0 HR0 HR1
    have HTH : Hid ((w1.alloc (.cells z32 24)).there w1.heap.size 0 (srow SK).size) := there_of_row (heap_alloc_new _ _) 0 _ (by rw [srow_size, z32_size]; omega)
    go_wp2_with (refine wpList_store_midL rfl 24 _ _ rfl w1.heap.size 0 (srow SK) rfl rfl HTH.out (by rw [srow_size]; kernel_rfl) (by exact srow_one _) ?_; intro w2 hw2; have KB2 : Hid (Below w.heap.size w w2 ∧ w2.heap[w.heap.size]? = some (.cells z32 24 (0, 0)) ∧ w2.heap[w.heap.size + 1]? = some (.cells (brow 64 (fun _ => 0)) 28 (0, 0)) ∧ (∀ i, i < 32 → w2.cell? ⟨w1.heap.size, 0 + i, none⟩ = some (B (sbyte SK i))) ∧ w1.heap.size < w2.heap.size) := (by
        have hb2 : Below w1.heap.size w1 w2 := by rw [hw2]; exact below_setCells _ (Nat.le_refl _) _ _ _ ((Below.refl _ _).alloc (Nat.le_refl _) _)
        have hra : w2.rangeAt w1.heap.size 0 (srow SK).toList := by rw [hw2]; exact World.rangeAt_setCells_same _ _ _ _ HTH.out
        have h0 := hra 0 _ (by rw [Array.getElem?_toList]; exact srow_get SK 0 (by omega))
        exact ⟨HB1.out.trans (hb2.mono (by omega)), (hb2.block _ (by omega)).trans HS1.out, (hb2.block _ (by omega)).trans HS2.out, fun i hi => hra i _ (by rw [Array.getElem?_toList]; exact srow_get SK i hi), block_lt_of_cell h0⟩); clear hw2)
    clear HTH HS1 HS2 HB1
    obtain ⟨h, hh⟩ : ∃ h, h = w1.heap.size := ⟨_, rfl⟩
    rw [← hh] at KB2
    rw [← hh]
    have hne : Hid (w.heap.size + 2 ≤ h) := by show w.heap.size + 2 ≤ h; omega
    clear hh
    have sl1 := fun w1 => sliceAt_all w1 24 5 32 h 0 Tryd.underlying24 size_u8
    have HSS : Hid (∀ j v, ((List.range 32).map fun i => B (sbyte SK i))[j]? = some v → w2.cell? ((⟨h, 0, none⟩ : Addr).add j) = some v) := src_cells (n := 32) KB2.out.2.2.2.1 32 (Nat.le_refl _)
    have HFi : Hid (0 + ((List.range 32).map fun i => B (sbyte SK i)).length ≤ (brow 64 (fun _ => 0)).size) := by
      show 0 + ((List.range 32).map fun i => B (sbyte SK i)).length ≤ (brow 64 (fun _ => 0)).size
      rw [brow_size, List.length_map, List.length_range]; omega
    have HLE : Hid (((List.range 32).map fun i => B (sbyte SK i)).length = Nat.min 32 64) := by
      show _ = min 32 64
      simp
    go_region_held3 (fun _ => True) (trivial) (first | (refine step_copyL rfl (.tmp 16) (.tmp 17) 22 22 rfl 5 Tryd.underlying22 size_u8 (w.heap.size + 1) 0 64 64 ⟨h, 0, none⟩ 32 32 ?_ ?_ (brow 64 (fun _ => 0)) 28 ?_ ((List.range 32).map fun i => B (sbyte SK i)) HLE.out ?_ HFi.out (bytes_one 32 _) ?_; rfl; rfl; exact KB2.out.2.2.1; exact HSS.out; intro W1 hg3 hz3 hr3))
    rw [brow_splice 64 (fun _ => 0) 0 32 (sbyte SK) (by omega)] at hr3
    have RK1 : Hid (RK w W1 f) := ⟨KB2.out.1.drew.grown hg3 (by have := KB2.out.1.size; simpa using this) (fun q hq => by cases hq; omega), (hg3.block _ (by have h1 := KB2.out.2.2.2.2; have h2 := hne.out; simp; omega) (by simp)).trans KB2.out.2.1, by rw [← HFK.out]; exact hr3⟩
    clear hr3 hg3 hz3 HSS HFi HLE sl0 sl1 KB2
    rw [show (((List.range 32).map fun i => B (sbyte SK i)).length : Int) = 32 by simp]
    go_wp2_with fail
    go_loopw [7, 8, 9, 22] (fun vi vo _ x wr => ∃ q : Nat, q ≤ 64 ∧ x = .int .i64 (q : Int) ∧ Two W1 wr vi vo f q) (fun _ _ _ x _ => 64 - (intOf x).toNat)
    case atStart => exact ⟨0, by omega, rfl, ⟨⟨Below.refl _ _, ⟨rfl, .inl ⟨rfl, rfl⟩⟩⟩, ⟨Below.refl _ _, ⟨rfl, .inl ⟨rfl, rfl⟩⟩⟩, fun b hb => by simp [Value.ownBlock] at hb⟩⟩
    case round =>
      obtain ⟨q, hq, rfl, hrel⟩ := hrel
      have HQ : Hid (Two W1 _ _ _ f q) := hrel
      clear hrel
      by_cases hq64 : q = 64
      · subst hq64
        have RKr : Hid (RK w wr f) := RK1.out.keep HQ.out.i.below
        go_wp2_with (at_builtin; refine app_more rfl (.tmp 40) (.tmp 41) rfl _ 64 _ rfl HQ.out.i ma mn mc rfl M1 p1.out ((HSM.out.below RKr.out.below (Nat.le_refl _)).congr (fun i _ => q1.out i)) g2.out ?_; intro v1 w1 o1 g1' e1; have T1 : Hid (Tx W1 w1 v1 _ f M1 (64 + mn)) := HQ.out.grow o1 g1' e1; clear o1 g1' e1; rw [← HN.out] at T1; obtain ⟨x1, y1, hv1, hs1⟩ := T1.out.i.src; rw [hv1]; have S1' : Hid (Src w1 x1 N1 y1 M1) := hs1; clear hs1)
        refine (rsum_at S1 M1 x1 N1 y1 H1.out hmn w1 S1'.out).mono ?_
        rintro e w2 ⟨rfl, hb2⟩
        have T2 : Hid (Tx W1 w2 v1 _ f M1 N1) := T1.out.below hb2
        have RK2 : Hid (RK w w2 f) := RK1.out.keep T2.out.i.below
        clear hb2 T1 S1' RKr HQ
        have HTH : Hid ((w2.alloc (.cells z32 24)).there w2.heap.size 0 (srow S1).size) := there_of_row (heap_alloc_new _ _) 0 _ (by rw [srow_size, z32_size]; omega)
        have sl1 := fun w1 => sliceAt_all w1 24 5 32 w2.heap.size 0 Tryd.underlying24 size_u8
        go_wp2_with (first
          | (refine wpList_store_midL rfl 24 _ _ rfl w2.heap.size 0 (srow S1) rfl rfl HTH.out (by rw [srow_size]; exact size_24) (by exact srow_one _) ?_; intro w3 hw3; have B3 : Hid (Below w2.heap.size w2 w3) := rh_below hw3; have S3 : Hid (Src w3 (some ⟨w2.heap.size, 0, none⟩) 32 32 (fun i => M2 (64 + i))) := rh_src HTH.out hw3 (fun i _ => q2.out i); have T3 : Hid (Tx W1 w3 v1 _ f M1 N1) := T2.out.below B3.out; clear hw3)
          | (at_builtin; refine app_more rfl (.tmp 44) (.tmp 45) rfl _ 64 _ rfl T3.out.o (some ⟨w2.heap.size, 0, none⟩) 32 32 rfl M2 p2.out S3.out (by omega) ?_; intro v4 w4 o4 g4 e4; have O4 : Hid (Own W1 w4 v4 96 M2) := o4; clear o4 g4 e4; obtain ⟨x4, y4, hv4, hs4⟩ := O4.out.src; rw [hv4]; have S4 : Hid (Src w4 x4 96 y4 M2) := hs4; clear hs4))
        refine (rsum_at S2 M2 x4 96 y4 H2.out (by omega) w4 S4.out).mono ?_
        rintro e w5 ⟨rfl, hb5⟩
        have RK5 : Hid (RK w w5 f) := (RK1.out.keep O4.out.below).keep hb5
        clear hb5
        have HT5 : Hid (w5.there w.heap.size 0 (srow S2).size) := by rw [srow_size]; exact there_of_row RK5.out.res 0 32 (by rw [z32_size]; omega)
        go_wp2_with (refine wpList_store_mid rfl 24 _ _ rfl w.heap.size 0 (srow S2) rfl rfl HT5.out (by rw [srow_size]; exact size_24) (by exact srow_one _) ?_)
        refine bodyPost_ret (v := .agg (srow S2)) ?_ rfl ⟨rfl, ?_⟩
        · exact results_mid Tryd.results6 _ _ w.heap.size 0 (srow S2).toList _ rfl (World.rangeAt_setCells_same _ _ _ _ HT5.out) Tryd.underlying24 rfl (by rw [Array.length_toList, srow_size]; exact size_24)
        · exact below_setCells _ (Nat.le_refl _) _ _ _ RK5.out.below
      · have hlt : q < 64 := by omega
        have g : (q : Int) < 64 := by omega
        have hc := (RK1.out.keep HQ.out.i.below).cell q hlt
        go_wp2_with (first
          | (at_builtin; refine app_more rfl (.tmp 25) (.tmp 30) rfl _ q _ rfl (HQ.out.i.alloc _) (some ⟨wr.heap.size, 0, none⟩) 1 1 rfl (fun j => f j ^^^ 54) (fun _ _ => rfl) (one_new wr (f q ^^^ 54) _ _ rfl) (by omega) ?_; intro v1 w1 o1 g1' e1; have T1 : Hid (Tw1 W1 w1 v1 _ f q) := (HQ.out.alloc _).step o1 g1' e1; clear o1 g1' e1; have hcB := (RK1.out.keep T1.out.i.below).cell q hlt)
          | (at_builtin; refine app_more rfl (.tmp 32) (.tmp 37) rfl _ q _ rfl (T1.out.o.alloc _) (some ⟨w1.heap.size, 0, none⟩) 1 1 rfl (fun j => f j ^^^ 92) (fun _ _ => rfl) (one_new w1 (f q ^^^ 92) _ _ rfl) (by omega) ?_; intro v2 w2 o2 g2' e2; have T2 : Hid (Two W1 w2 v1 v2 f (q + 1)) := (T1.out.alloc _).step o2 g2' e2; clear o2 g2' e2))
        go_roundw
        case rel => exact ⟨q + 1, hlt, by simp, T2.out⟩
        case measure => simp [intOf]; omega
end Go.Proofs.YtbljijopgpcieaaDoor
