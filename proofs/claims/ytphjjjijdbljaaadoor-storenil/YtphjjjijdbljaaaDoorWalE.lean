/- store. -/
import Derived.Test.YtphjjjijdbljaaaDoorWalD
namespace Go.Proofs.YtphjjjijdbljaaaDoor
open Go Go.RowKit
set_option linter.unusedSimpArgs false
set_option linter.unusedVariables false
set_option maxRecDepth 100000

theorem Aft.join {F F' : Nat → Prop} {w wr W1 w2 : World} {g : Nat} {s2 : Dk} (hc : Chg F w wr) (hs : ∀ b, F' b → F b ∨ w.heap.size ≤ b) (hb : Below wr.heap.size wr W1) (k : Aft F' W1 w2 g s2) : Aft F w w2 g s2 := by
  obtain ⟨F'', p, c, d⟩ := k
  have c1 : Chg F w W1 := hc.trans (Chg.ofBelow hb)
  refine ⟨F'', p, c1.trans' c hs, fun b h => ?_⟩
  rcases d b h with h | h
  · exact hs b h
  · exact .inr (Nat.le_trans c1.size h)
theorem Aft.refl {F : Nat → Prop} {w : World} {g : Nat} {s : Dk} (h : PD F w g s) : Aft F w w g s := ⟨F, h, Chg.refl _ _, fun _ h => .inl h⟩
theorem Aft.below {F : Nat → Prop} {w wr W1 : World} {g : Nat} {s : Dk} (h : Aft F w wr g s) (hb : Below wr.heap.size wr W1) : Aft F w W1 g s := by
  obtain ⟨F', p, c, d⟩ := h
  exact ⟨F', p.below hb, c.trans (Chg.ofBelow hb), d⟩
/-- The first k writes. -/
def wrK (s : Dk) (a : Int) (xs : List (List Int)) : Nat → Dk
  | 0 => s
  | k + 1 => wrS (wrK s a xs k) (a + (k : Int)) (mi xs k)
/-- Sectors written one behind the other, and synced: the answer, and what is left. -/
def sto (s : Dk) (a : Int) : List (List Int) → Int × Dk
  | [] => (syE s, syS s)
  | x :: r => if wrE s a = 0 then sto (wrS s a x) (a + 1) r else (wrE s a, wrS s a x)
theorem wrS_wt (s : Dk) (i : Int) (x : List Int) : (wrS s i x).wt.length ≤ s.wt.length + 1 := by
  unfold wrS
  have h := (burn_n s).2.1
  cases hasB s.n i <;> cases s.lost <;> cases s.fu <;> simp [h]
theorem wrS_n (s : Dk) (i : Int) (x : List Int) : (wrS s i x).n = s.n := by
  unfold wrS
  have h := (burn_n s).1
  cases hasB s.n i <;> cases s.lost <;> cases s.fu <;> simp [h]
theorem wrK_wt (s : Dk) (a : Int) (xs : List (List Int)) : ∀ k, (wrK s a xs k).wt.length ≤ s.wt.length + k
  | 0 => Nat.le_refl _
  | k + 1 => by
    have h1 := wrK_wt s a xs k
    have h2 := wrS_wt (wrK s a xs k) (a + (k : Int)) (mi xs k)
    rw [wrK]; omega
theorem wrK_shift (s : Dk) (a : Int) (x : List Int) (r : List (List Int)) : ∀ k, wrK (wrS s a x) (a + 1) r k = wrK s a (x :: r) (k + 1)
  | 0 => by simp [wrK, mi]
  | k + 1 => by
    rw [wrK, wrK_shift s a x r k, wrK]
    have e1 : a + 1 + (k : Int) = a + ((k + 1 : Nat) : Int) := by omega
    have e2 : mi r k = mi (x :: r) (k + 1) := by simp [mi]
    rw [e1, e2]; rfl
theorem sto_from : ∀ (xs : List (List Int)) (s : Dk) (a : Int) (k : Nat), k ≤ xs.length → (∀ j, j < k → wrE (wrK s a xs j) (a + (j : Int)) = 0) → sto s a xs = sto (wrK s a xs k) (a + (k : Int)) (xs.drop k)
  | xs, s, a, 0, _, _ => by simp [wrK]
  | [], s, a, k + 1, h, _ => by simp at h
  | x :: r, s, a, k + 1, h, hj => by
    have h0 := hj 0 (by omega)
    simp [wrK] at h0
    rw [sto, if_pos h0]
    have ih := sto_from r (wrS s a x) (a + 1) k (by simpa using h) (fun j hjk => by
      rw [wrK_shift, show a + 1 + (j : Int) = a + ((j + 1 : Nat) : Int) by omega]
      exact hj (j + 1) (by omega))
    rw [ih, wrK_shift, List.drop_succ_cons, show a + 1 + (k : Int) = a + ((k + 1 : Nat) : Int) by omega]
theorem sto_all {xs : List (List Int)} {s : Dk} {a : Int} (hj : ∀ j, j < xs.length → wrE (wrK s a xs j) (a + (j : Int)) = 0) : sto s a xs = (syE (wrK s a xs xs.length), syS (wrK s a xs xs.length)) := by
  rw [sto_from xs s a xs.length (Nat.le_refl _) hj, List.drop_length]; rfl
theorem sto_stop {xs : List (List Int)} {s : Dk} {a : Int} {k : Nat} (hk : k < xs.length) (hj : ∀ j, j < k → wrE (wrK s a xs j) (a + (j : Int)) = 0) (he : wrE (wrK s a xs k) (a + (k : Int)) ≠ 0) : sto s a xs = (wrE (wrK s a xs k) (a + (k : Int)), wrK s a xs (k + 1)) := by
  rw [sto_from xs s a k (by omega) hj, ← List.getElem_cons_drop hk, sto, if_neg he, wrK, mi_get hk]
structure ER (F : Nat → Prop) (w wr : World) (g : Nat) (s : Dk) (a : Int) (xs : List (List Int)) (k : Nat) : Prop where
  aft : Aft F w wr g (wrK s a xs k)
  ok : ∀ j, j < k → wrE (wrK s a xs j) (a + (j : Int)) = 0
set_option maxHeartbeats 2000000 in
theorem store_any {F : Nat → Prop} {w : World} {g : Nat} {s : Dk} (h : PD F w g s) (a : Int) (xs : List (List Int)) (v : Value) (hv : SS w v xs) (hF : ∀ b, v.ownBlock = some b → ¬ F b) (ha : 0 ≤ a ∧ a ≤ 1099511627776) (hx : xs.length ≤ 1099511627776) (hN : s.wt.length ≤ 1099511627776) :
    Calls Tryd.prog 77 #[.pointer (some ⟨g, 0, none⟩), .int .i64 a, v] w fun e w' => e = .returned (.int .i64 (sto s a xs).1) ∧ Aft F w w' g (sto s a xs).2 := by
  obtain ⟨b, cap, rfl, hcap, hblt, hok, hcells⟩ := hv
  have HF : Hid (¬ F b) := hF b rfl
  have HC : Hid (∀ i, i < xs.length → w.rangeAt b (i * 64) (bv (mi xs i))) := hcells
  have HO : Hid (Sok xs) := hok
  have HN : Hid (s.wt.length ≤ 1099511627776) := hN
  have HE0 : Hid (ER F w w g s a xs 0) := ⟨Aft.refl h, fun j hj => by omega⟩
  clear h hF hcells hok hN
  have hz := zero_sct
  go_enter Tryd.func77, Tryd.ntmps77
  go_wp2_with fail
  go_loopw [12] (fun i wr => ∃ k : Nat, k ≤ xs.length ∧ i = .int .i64 (k : Int) ∧ ER F w wr g s a xs k) (fun i _ => xs.length - (intOf i).toNat)
  case atStart => exact ⟨0, by omega, rfl, HE0.out⟩
  case round =>
    obtain ⟨k, hk, rfl, hr⟩ := hrel
    have HR : Hid (ER F w wr g s a xs k) := hr
    clear hr HE0
    by_cases hlt : k < xs.length
    · have x1 : (k : Int) < (xs.length : Int) := by omega
      obtain ⟨F', hpd, hchg, hsub⟩ := HR.out.aft
      have HP : Hid (PD F' wr g (wrK s a xs k)) := hpd
      have HG : Hid (Chg F w wr) := hchg
      have HS : Hid (∀ b, F' b → F b ∨ w.heap.size ≤ b) := hsub
      clear hpd hchg hsub
      obtain ⟨x, hxe⟩ : ∃ x, x = mi xs k := ⟨_, rfl⟩
      have HXL : Hid (x.length = 64) := by show x.length = 64; rw [hxe]; exact HO.out _ (by rw [mi_get hlt]; exact List.getElem_mem _)
      have HRG : Hid (wr.rangeAt b (k * 64) (bv x)) := fun j u hu => by
        rw [World.cell?_of_block (w := w) (w' := wr) (a := ⟨b, k * 64 + j, none⟩) (HG.out.other b hblt HF.out)]
        exact HC.out k hlt j u (by rw [← hxe]; exact hu)
      have HXE : Hid (x = mi xs k) := hxe
      clear hxe
      have HTH : Hid ((wr.alloc (.cells (bv z64).toArray 67)).there wr.heap.size 0 (bv x).toArray.size) := sec_there wr _ HXL.out z64_length
      go_wp2_with (first
        | (refine wpList_load_mid rfl 67 _ rfl b (k * 64) rfl (bv x) _ HRG.out Tryd.underlying67 rfl (by rw [bv_length, HXL.out]; exact size_sct) ?_)
        | (refine Sh.wpList_store_midL rfl 67 _ _ rfl wr.heap.size 0 (bv x).toArray rfl rfl HTH.out (sct_size HXL.out) (bv_one' _) ?_; intro w2 hw2; have N2 : Hid (Below wr.heap.size wr w2 ∧ w2.rangeAt wr.heap.size 0 (bv x) ∧ wr.heap.size < w2.heap.size) := sec_new HXL.out z64_length hw2; clear hw2)
        | (refine wpList_load_mid rfl 67 _ rfl wr.heap.size 0 rfl (bv x) _ N2.out.2.1 Tryd.underlying67 rfl (by rw [bv_length, HXL.out]; exact size_sct) ?_))
      refine (write_any (HP.out.below N2.out.1) (a + (k : Int)) x HXL.out (by have h1 := wrK_wt s a xs k; have h2 := HN.out; omega)).mono ?_
      rintro e w3 ⟨rfl, haft⟩
      have A3 : Hid (Aft F w w3 g (wrK s a xs (k + 1))) := by rw [wrK, ← HXE.out]; exact Aft.join HG.out HS.out N2.out.1 haft
      clear haft
      obtain ⟨z, hz3⟩ : ∃ z, z = wrE (wrK s a xs k) (a + (k : Int)) := ⟨_, rfl⟩
      rw [← hz3]
      have HZ : Hid (z = wrE (wrK s a xs k) (a + (k : Int))) := hz3
      clear hz3
      by_cases h0 : z = 0
      · subst h0
        go_wp2
        go_roundw
        case rel => exact ⟨k + 1, by omega, by go_num, A3.out, fun j hj => by
          by_cases e : j = k
          · subst e; exact HZ.out.symm
          · exact HR.out.ok j (by omega)⟩
        case measure => simp [intOf]; omega
      · have n0 : ¬ ((z == 0) = true) := by simpa using h0
        have n1 : (z != 0) = true := by simpa using h0
        go_wp2
        go_ret
        have hst := sto_stop hlt HR.out.ok (by rw [← HZ.out]; exact h0)
        exact ⟨by rw [hst, ← HZ.out]; rfl, by rw [hst]; exact A3.out⟩
    · obtain rfl : k = xs.length := by omega
      obtain ⟨F', hpd, hchg, hsub⟩ := HR.out.aft
      go_wp2_with fail
      refine (sync_any hpd).mono ?_
      rintro e w3 ⟨rfl, haft⟩
      have hst := sto_all HR.out.ok
      have A3 : Hid (Aft F w w3 g (sto s a xs).2) := by rw [hst]; exact Aft.join hchg hsub (Below.refl _ _) haft
      clear haft hpd hchg hsub
      go_wp2
      go_ret
      exact ⟨by rw [hst]; rfl, A3.out⟩
end Go.Proofs.YtphjjjijdbljaaaDoor
/- layFrame. -/
namespace Go.Proofs.YtphjjjijdbljaaaDoor
open Go Go.RowKit
set_option linter.unusedSimpArgs false
set_option linter.unusedVariables false
set_option maxRecDepth 100000

theorem build_sct (w : World) : (Instr.build 67 #[]).run Tryd.prog w = .ok (.agg (bv z64).toArray) w := run_build w _ _ _ (by kernel_rfl)
theorem Sq.keep {w w' : World} {v : Value} {xs : List Int} (h : Sq w v xs) (hs : w.heap.size ≤ w'.heap.size) (k : ∀ b, slB v = some b → w'.heap[b]? = w.heap[b]?) : Sq w' v xs := by
  refine ⟨?_, fun A l c e h0 => ⟨(h.some' A l c e h0).1, Nat.lt_of_lt_of_le (h.some' A l c e h0).2 hs⟩, h.none'⟩
  obtain ⟨ad, cap, rfl, hc, hm⟩ := h.sl
  refine ⟨ad, cap, rfl, hc, hm.imp id ?_⟩
  rintro ⟨b, o, rfl, hb, hcell⟩
  refine ⟨b, o, rfl, Nat.lt_of_lt_of_le hb hs, fun i hi => ?_⟩
  rw [World.cell?_of_block (w := w) (a := ⟨b, o + i, none⟩) (k b (by show (if cap = 0 then none else some b) = some b; rw [if_neg (by omega)]))]; exact hcell i hi
theorem Sq.lt {w : World} {v : Value} {xs : List Int} (h : Sq w v xs) {b : Nat} (e : slB v = some b) : b < w.heap.size := by
  obtain ⟨ad, cap, rfl, _⟩ := h.sl
  cases ad with
  | none => cases e
  | some A =>
    unfold slB at e
    simp only at e
    split at e
    · cases e
    · rename_i h0
      cases e; exact (h.some' A _ _ rfl h0).2
theorem Sq.chg {F : Nat → Prop} {w w' : World} {v : Value} {xs : List Int} (h : Sq w v xs) (c : Chg F w w') (d : ∀ b, slB v = some b → ¬ F b) : Sq w' v xs :=
  h.keep c.size (fun b e => c.other b (h.lt e) (d b e))
theorem Tb.keep {w w' : World} (h : Tb w) (k1 : w'.heap[1]? = w.heap[1]?) (k2 : w'.heap[2]? = w.heap[2]?) : Tb w' :=
  ⟨fun i hi => (World.cell?_of_block (w := w) (w' := w') (a := ⟨1, i, none⟩) k1).trans (h.sq i hi), fun i hi => (World.cell?_of_block (w := w) (w' := w') (a := ⟨2, i, none⟩) k2).trans (h.cu i hi)⟩
/-- The tables lie apart from the blocks of F. -/
def Ap (F : Nat → Prop) : Prop := ¬ F 1 ∧ ¬ F 2
theorem Tb.chg {F : Nat → Prop} {w w' : World} (h : Tb w) (c : Chg F w w') (d : Ap F) : Tb w' := h.keep (c.other _ h.lt.1 d.1) (c.other _ h.lt.2 d.2)
theorem Ap.next {F F' : Nat → Prop} {w : World} (h : Ap F) (hT : Tb w) (d : ∀ b, F' b → F b ∨ w.heap.size ≤ b) : Ap F' :=
  ⟨fun x => (d _ x).elim h.1 (fun y => by have := hT.lt.1; omega), fun x => (d _ x).elim h.2 (fun y => by have := hT.lt.2; omega)⟩
theorem syS_wt (s : Dk) : (syS s).wt.length ≤ s.wt.length := by
  unfold syS
  have h := (burn_n s).2.1
  cases s.lost <;> simp [h]
theorem sto_wt : ∀ (xs : List (List Int)) (s : Dk) (a : Int), (sto s a xs).2.wt.length ≤ s.wt.length + xs.length
  | [], s, a => by rw [sto]; exact syS_wt s
  | x :: r, s, a => by
    rw [sto]
    have h1 := wrS_wt s a x
    split
    · have h2 := sto_wt r (wrS s a x) (a + 1)
      simp only [List.length_cons]; omega
    · simp only [List.length_cons]; omega
theorem SS.one (w : World) (x : List Int) (hx : x.length = 64) : SS (w.alloc (.cells (bv x).toArray 67)) (.slice (some ⟨w.heap.size, 0, none⟩) 1 1) [x] := by
  refine ⟨w.heap.size, 1, rfl, Nat.le_refl _, by simp, fun q hq => by rw [List.mem_singleton.1 hq]; exact hx, fun i hi => ?_⟩
  obtain rfl : i = 0 := by simpa using hi
  rw [Nat.zero_mul]
  exact rangeAt_alloc w (bv x) _
/-- A frame laid. -/
def lay2 (r : Int × Dk) (a : Int) (h : List Int) : Int × Dk := if r.1 = 0 then sto r.2 a [h] else r
def lay1 (r : Int × Dk) (a : Int) (p h : List Int) : Int × Dk := if r.1 = 0 then lay2 (sto r.2 (a + 1) (cuts p (nsec p.length) ++ [z64])) a h else r
def lay (s : Dk) (a : Int) (p : List Int) : Int × Dk := lay1 (sto s a [z64]) a p (hd p)
set_option maxHeartbeats 2000000 in
theorem layFrame_any {F : Nat → Prop} {w : World} {g : Nat} {s : Dk} (h : PD F w g s) (a : Int) (p : List Int) (ad : Option Addr) (cap : Nat) (hv : Sq w (.slice ad p.length cap) p) (hb : Byt p) (hT : Tb w) (hA : Ap F) (hF : ∀ b, slB (.slice ad p.length cap) = some b → ¬ F b)
    (ha : 0 ≤ a ∧ a ≤ 1099511627775) (hp : p.length ≤ 1099511627776) (hN : s.wt.length ≤ 549755813888) :
    Calls Tryd.prog 69 #[.pointer (some ⟨g, 0, none⟩), .int .i64 a, .slice ad p.length cap] w fun e w' => e = .returned (.int .i64 (lay s a p).1) ∧ Aft F w w' g (lay s a p).2 := by
  have H : Hid (PD F w g s) := h
  have HV : Hid (Sq w (.slice ad p.length cap) p) := hv
  have HB : Hid (Byt p) := hb
  have HT : Hid (Tb w) := hT
  have HA : Hid (Ap F) := hA
  have HF : Hid (∀ b, slB (.slice ad p.length cap) = some b → ¬ F b) := hF
  have HN : Hid (s.wt.length ≤ 549755813888) := hN
  have HP : Hid (p.length ≤ 1099511627776) := hp
  clear h hv hb hT hA hF hN
  have hbz := build_sct
  obtain ⟨hh, hhe⟩ : ∃ x, x = hd p := ⟨_, rfl⟩
  have HHD : Hid (hh = hd p) := hhe
  clear hhe
  go_enter Tryd.func69, Tryd.ntmps69
  go_wp2_with (refine wpList_one rfl _ rfl z64 z64_length rfl ?_)
  refine (store_any (H.out.below ((Below.refl _ w).alloc (Nat.le_refl _) _)) a [z64] _ (SS.one w z64 z64_length) (fun b e => by simp [Value.ownBlock] at e; subst e; intro q; obtain ⟨gs, wv, fd, fz, hx⟩ := H.out; have := hx.Flt _ q; omega) ⟨ha.1, by omega⟩ (by simp) (by have := HN.out; omega)).mono ?_
  rintro e w1 ⟨rfl, haft⟩
  have A1 : Hid (Aft F w w1 g (sto s a [z64]).2) := Aft.join (Chg.refl F w) (fun b q => .inl q) ((Below.refl _ w).alloc (Nat.le_refl _) _) haft
  have W1 : Hid ((sto s a [z64]).2.wt.length ≤ 549755813889) := by
    show _ ≤ 549755813889
    have h1 := sto_wt [z64] s a; have h2 := HN.out; simp only [List.length_singleton] at h1; omega
  clear haft
  obtain ⟨r1, hr1⟩ : ∃ r, r = sto s a [z64] := ⟨_, rfl⟩
  have HR1 : Hid (r1 = sto s a [z64]) := hr1
  rw [← hr1] at A1 W1
  rw [← hr1]
  clear hr1
  obtain ⟨z1, s1⟩ := r1
  dsimp only at A1 W1 ⊢
  have HL1 : Hid (lay s a p = lay1 (z1, s1) a p hh) := by show lay s a p = _; rw [HHD.out, HR1.out]; rfl
  by_cases h1 : z1 = 0
  · subst h1
    have HL1' : Hid (lay s a p = lay2 (sto s1 (a + 1) (cuts p (nsec p.length) ++ [z64])) a hh) := HL1.out.trans (if_pos rfl)
    clear HL1
    obtain ⟨F1, hpd, hchg, hsub⟩ := A1.out
    have HP1 : Hid (PD F1 w1 g s1) := hpd
    have HG1 : Hid (Chg F w w1) := hchg
    have HS1 : Hid (∀ b, F1 b → F b ∨ w.heap.size ≤ b) := hsub
    clear hpd hchg hsub A1
    have V1 : Hid (Sq w1 (.slice ad p.length cap) p) := HV.out.chg HG1.out HF.out
    have T1 : Hid (Tb w1) := HT.out.chg HG1.out HA.out
    go_wp2_with fail
    refine (cut_any p ad cap w1 HP.out V1.out).mono ?_
    rintro e w2 ⟨v2, rfl, ho2, hb2⟩
    have O2 : Hid (OS w1.heap.size w2 v2 (cuts p (nsec p.length))) := ho2
    have B2 : Hid (Below w1.heap.size w1 w2) := hb2
    clear ho2 hb2
    go_wp2_with (first
      | (refine wpList_one rfl _ rfl z64 z64_length rfl ?_)
      | (at_builtin; refine app_sct rfl (.tmp 21) (.tmp 23) rfl (by have h1 := B2.out.size; show w1.heap.size ≤ (w2.alloc _).heap.size; simp; omega) _ (cuts p (nsec p.length)) rfl (O2.out.alloc _) z64 z64_length w2.heap.size 1 rfl (rangeAt_alloc w2 _ _) (by rw [cuts_length]; have h1 := HP.out; unfold nsec; omega) ?_; intro v3 w3 o3 g3 b3 e3; have O3 : Hid (OS w1.heap.size w3 v3 (cuts p (nsec p.length) ++ [z64])) := o3; have B3 : Hid (Below w1.heap.size w1 w3) := (B2.out.alloc B2.out.size _).trans b3; clear o3 g3 b3 e3))
    refine (store_any (HP1.out.below B3.out) (a + 1) (cuts p (nsec p.length) ++ [z64]) v3 O3.out.ss.1 (fun b e q => by
        obtain ⟨gs, wv, fd, fz, hx⟩ := HP1.out
        have h1 := hx.Flt _ q
        have h2 := O3.out.ss.2 b e
        omega) ⟨by omega, by omega⟩ (by rw [List.length_append, cuts_length]; have h1 := HP.out; unfold nsec; simp; omega) (by have := W1.out; omega)).mono ?_
    rintro e w4 ⟨rfl, haft⟩
    have A4 : Hid (Aft F w w4 g (sto s1 (a + 1) (cuts p (nsec p.length) ++ [z64])).2) := Aft.join HG1.out HS1.out B3.out haft
    have W4 : Hid ((sto s1 (a + 1) (cuts p (nsec p.length) ++ [z64])).2.wt.length ≤ 1099511627776) := by
      show _ ≤ 1099511627776
      have h1 := sto_wt (cuts p (nsec p.length) ++ [z64]) s1 (a + 1); have h2 := W1.out; have h3 := HP.out
      rw [List.length_append, cuts_length, List.length_singleton] at h1; have h4 : nsec p.length ≤ 17179869185 := by { unfold nsec; omega }; omega
    clear haft O2 B2 O3 V1 T1 HP1
    obtain ⟨r2, hr2⟩ : ∃ r, r = sto s1 (a + 1) (cuts p (nsec p.length) ++ [z64]) := ⟨_, rfl⟩
    rw [← hr2] at A4 W4 HL1'
    rw [← hr2]
    clear hr2
    obtain ⟨z2, s2⟩ := r2
    dsimp only at A4 W4 ⊢
    by_cases h2 : z2 = 0
    · subst h2
      have HL2 : Hid (lay s a p = sto s2 a [hh]) := HL1'.out.trans (if_pos rfl)
      clear HL1'
      obtain ⟨F4, hpd, hchg, hsub⟩ := A4.out
      have HP4 : Hid (PD F4 w4 g s2) := hpd
      have HG4 : Hid (Chg F w w4) := hchg
      have HS4 : Hid (∀ b, F4 b → F b ∨ w.heap.size ≤ b) := hsub
      clear hpd hchg hsub A4
      go_wp2_with fail
      refine (headOf_any p ad cap w4 (by have := HP.out; omega) (HT.out.chg HG4.out HA.out) HB.out (HV.out.chg HG4.out HF.out)).mono ?_
      rintro e w5 ⟨rfl, hb5⟩
      have B5 : Hid (Below w4.heap.size w4 w5) := hb5
      clear hb5
      rw [← HHD.out]
      have HHL : Hid (hh.length = 64) := by show hh.length = 64; rw [HHD.out]; exact hd_length p
      go_wp2_with (refine wpList_one rfl _ rfl hh HHL.out rfl ?_)
      have B6 : Below w4.heap.size w4 (w5.alloc (.cells (bv hh).toArray 67)) := B5.out.alloc B5.out.size _
      refine (store_any (HP4.out.below B6) a [hh] _ (SS.one w5 hh HHL.out) (fun b e => by simp [Value.ownBlock] at e; subst e; intro q; obtain ⟨gs, wv, fd, fz, hx⟩ := HP4.out; have h1 := hx.Flt _ q; have h2 := B5.out.size; omega) ⟨ha.1, by omega⟩ (by simp) W4.out).mono ?_
      rintro e w7 ⟨rfl, haft⟩
      have A7 : Hid (Aft F w w7 g (sto s2 a [hh]).2) := Aft.join HG4.out HS4.out B6 haft
      clear haft B6
      go_wp2
      go_ret
      exact ⟨by rw [HL2.out]; rfl, by rw [HL2.out]; exact A7.out⟩
    · have n1 : (z2 != 0) = true := by simpa using h2
      have HL2 : Hid (lay s a p = (z2, s2)) := HL1'.out.trans (if_neg h2)
      go_wp2
      go_ret
      exact ⟨by rw [HL2.out]; rfl, by rw [HL2.out]; exact A4.out⟩
  · have n1 : (z1 != 0) = true := by simpa using h1
    have HL2 : Hid (lay s a p = (z1, s1)) := HL1.out.trans (if_neg h1)
    go_wp2
    go_ret
    exact ⟨by rw [HL2.out]; rfl, by rw [HL2.out]; exact A1.out⟩
end Go.Proofs.YtphjjjijdbljaaaDoor
