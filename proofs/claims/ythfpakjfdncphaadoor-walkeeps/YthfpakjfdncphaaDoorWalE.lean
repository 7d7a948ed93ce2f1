/- store. -/
import Derived.Test.YthfpakjfdncphaaDoorWalD
namespace Go.Proofs.YthfpakjfdncphaaDoor
open Go Go.RowKit
set_option linter.unusedSimpArgs false
set_option linter.unusedVariables false
set_option maxRecDepth 100000

theorem Aft.join {F F' : Nat → Prop} {w wr W1 w2 : World} {g : Nat} {s2 : Dk} (hc : Chg F w wr) (hs : ∀ b, F' b → F b ∨ w.heap.size ≤ b) (hb : Below wr.heap.size wr W1) (k : Aft F' W1 w2 g s2) : Aft F w w2 g s2 := by
  obtain ⟨F'', p, c, d⟩ := k
  have c1 : Chg F w W1 := hc.trans (Chg.ofBelow hb)
  refine ⟨F'', p, c1.trans' c hs, fun b h => ?_⟩
  rcases d b h with h | h
  · exact hs b h
  · exact .inr (Nat.le_trans c1.size h)
theorem Aft.refl {F : Nat → Prop} {w : World} {g : Nat} {s : Dk} (h : PD F w g s) : Aft F w w g s := ⟨F, h, Chg.refl _ _, fun _ h => .inl h⟩
theorem Aft.below {F : Nat → Prop} {w wr W1 : World} {g : Nat} {s : Dk} (h : Aft F w wr g s) (hb : Below wr.heap.size wr W1) : Aft F w W1 g s := by
  obtain ⟨F', p, c, d⟩ := h
  exact ⟨F', p.below hb, c.trans (Chg.ofBelow hb), d⟩
/-- The first k writes. -/
def wrK (s : Dk) (a : Int) (xs : List (List Int)) : Nat → Dk
  | 0 => s
  | k + 1 => wrS (wrK s a xs k) (a + (k : Int)) (mi xs k)
/-- Sectors written one behind the other, and synced: the answer, and what is left. -/
def sto (s : Dk) (a : Int) : List (List Int) → Int × Dk
  | [] => (syE s, syS s)
  | x :: r => if wrE s a = 0 then sto (wrS s a x) (a + 1) r else (wrE s a, wrS s a x)
theorem wrS_wt (s : Dk) (i : Int) (x : List Int) : (wrS s i x).wt.length ≤ s.wt.length + 1 := by
  unfold wrS
  have h := (burn_n s).2.1
  cases hasB s.n i <;> cases s.lost <;> cases s.fu <;> simp [h]
theorem wrS_n (s : Dk) (i : Int) (x : List Int) : (wrS s i x).n = s.n := by
  unfold wrS
  have h := (burn_n s).1
  cases hasB s.n i <;> cases s.lost <;> cases s.fu <;> simp [h]
theorem wrK_wt (s : Dk) (a : Int) (xs : List (List Int)) : ∀ k, (wrK s a xs k).wt.length ≤ s.wt.length + k
  | 0 => Nat.le_refl _
  | k + 1 => by
    have h1 := wrK_wt s a xs k
    have h2 := wrS_wt (wrK s a xs k) (a + (k : Int)) (mi xs k)
    rw [wrK]; omega
theorem wrK_shift (s : Dk) (a : Int) (x : List Int) (r : List (List Int)) : ∀ k, wrK (wrS s a x) (a + 1) r k = wrK s a (x :: r) (k + 1)
  | 0 => by simp [wrK, mi]
  | k + 1 => by
    rw [wrK, wrK_shift s a x r k, wrK]
    have e1 : a + 1 + (k : Int) = a + ((k + 1 : Nat) : Int) := by omega
    have e2 : mi r k = mi (x :: r) (k + 1) := by simp [mi]
    rw [e1, e2]; rfl
theorem sto_from : ∀ (xs : List (List Int)) (s : Dk) (a : Int) (k : Nat), k ≤ xs.length → (∀ j, j < k → wrE (wrK s a xs j) (a + (j : Int)) = 0) → sto s a xs = sto (wrK s a xs k) (a + (k : Int)) (xs.drop k)
  | xs, s, a, 0, _, _ => by simp [wrK]
  | [], s, a, k + 1, h, _ => by simp at h
  | x :: r, s, a, k + 1, h, hj => by
    have h0 := hj 0 (by omega)
    simp [wrK] at h0
    rw [sto, if_pos h0]
    have ih := sto_from r (wrS s a x) (a + 1) k (by simpa using h) (fun j hjk => by
      rw [wrK_shift, show a + 1 + (j : Int) = a + ((j + 1 : Nat) : Int) by omega]
      exact hj (j + 1) (by omega))
    rw [ih, wrK_shift, List.drop_succ_cons, show a + 1 + (k : Int) = a + ((k + 1 : Nat) : Int) by omega]
theorem sto_all {xs : List (List Int)} {s : Dk} {a : Int} (hj : ∀ j, j < xs.length → wrE (wrK s a xs j) (a + (j : Int)) = 0) : sto s a xs = (syE (wrK s a xs xs.length), syS (wrK s a xs xs.length)) := by
  rw [sto_from xs s a xs.length (Nat.le_refl _) hj, List.drop_length]; rfl
theorem sto_stop {xs : List (List Int)} {s : Dk} {a : Int} {k : Nat} (hk : k < xs.length) (hj : ∀ j, j < k → wrE (wrK s a xs j) (a + (j : Int)) = 0) (he : wrE (wrK s a xs k) (a + (k : Int)) ≠ 0) : sto s a xs = (wrE (wrK s a xs k) (a + (k : Int)), wrK s a xs (k + 1)) := by
  rw [sto_from xs s a k (by omega) hj, ← List.getElem_cons_drop hk, sto, if_neg he, wrK, mi_get hk]
structure ER (F : Nat → Prop) (w wr : World) (g : Nat) (s : Dk) (a : Int) (xs : List (List Int)) (k : Nat) : Prop where
  aft : Aft F w wr g (wrK s a xs k)
  ok : ∀ j, j < k → wrE (wrK s a xs j) (a + (j : Int)) = 0
set_option maxHeartbeats 2000000 in
theorem store_any {F : Nat → Prop} {w : World} {g : Nat} {s : Dk} (h : PD F w g s) (a : Int) (xs : List (List Int)) (v : Value) (hv : SS w v xs) (hF : ∀ b, v.ownBlock = some b → ¬ F b) (ha : 0 ≤ a ∧ a ≤ 1099511627776) (hx : xs.length ≤ 1099511627776) (hN : s.wt.length ≤ 1099511627776) :
    Calls Tryd.prog 47 #[.pointer (some ⟨g, 0, none⟩), .int .i64 a, v] w fun e w' => e = .returned (.int .i64 (sto s a xs).1) ∧ Aft F w w' g (sto s a xs).2 := by
  obtain ⟨b, cap, rfl, hcap, hblt, hok, hcells⟩ := hv
  have HF : Hid (¬ F b) := hF b rfl
  have HC : Hid (∀ i, i < xs.length → w.rangeAt b (i * 64) (bv (mi xs i))) := hcells
  have HO : Hid (Sok xs) := hok
  have HN : Hid (s.wt.length ≤ 1099511627776) := hN
  have HE0 : Hid (ER F w w g s a xs 0) := ⟨Aft.refl h, fun j hj => by omega⟩
  clear h hF hcells hok hN
  have hz := zero_sct
  go_enter Tryd.func47, Tryd.ntmps47
  go_wp2_with fail
  go_loopw [12] (fun i wr => ∃ k : Nat, k ≤ xs.length ∧ i = .int .i64 (k : Int) ∧ ER F w wr g s a xs k) (fun i _ => xs.length - (intOf i).toNat)
  case atStart => exact ⟨0, by omega, rfl, HE0.out⟩
  case round =>
    obtain ⟨k, hk, rfl, hr⟩ := hrel
    have HR : Hid (ER F w wr g s a xs k) := hr
    clear hr HE0
    by_cases hlt : k < xs.length
    · have x1 : (k : Int) < (xs.length : Int) := by omega
      obtain ⟨F', hpd, hchg, hsub⟩ := HR.out.aft
      have HP : Hid (PD F' wr g (wrK s a xs k)) := hpd
      have HG : Hid (Chg F w wr) := hchg
      have HS : Hid (∀ b, F' b → F b ∨ w.heap.size ≤ b) := hsub
      clear hpd hchg hsub
      obtain ⟨x, hxe⟩ : ∃ x, x = mi xs k := ⟨_, rfl⟩
      have HXL : Hid (x.length = 64) := by show x.length = 64; rw [hxe]; exact HO.out _ (by rw [mi_get hlt]; exact List.getElem_mem _)
      have HRG : Hid (wr.rangeAt b (k * 64) (bv x)) := fun j u hu => by
        rw [World.cell?_of_block (w := w) (w' := wr) (a := ⟨b, k * 64 + j, none⟩) (HG.out.other b hblt HF.out)]
        exact HC.out k hlt j u (by rw [← hxe]; exact hu)
      have HXE : Hid (x = mi xs k) := hxe
      clear hxe
      have HTH : Hid ((wr.alloc (.cells (bv z64).toArray 60)).there wr.heap.size 0 (bv x).toArray.size) := sec_there wr _ HXL.out z64_length
      go_wp2_with (first
        | (refine wpList_load_mid rfl 60 _ rfl b (k * 64) rfl (bv x) _ HRG.out Tryd.underlying60 rfl (by rw [bv_length, HXL.out]; exact size_sct) ?_)
        | (refine Sh.wpList_store_midL rfl 60 _ _ rfl wr.heap.size 0 (bv x).toArray rfl rfl HTH.out (sct_size HXL.out) (bv_one' _) ?_; intro w2 hw2; have N2 : Hid (Below wr.heap.size wr w2 ∧ w2.rangeAt wr.heap.size 0 (bv x) ∧ wr.heap.size < w2.heap.size) := sec_new HXL.out z64_length hw2; clear hw2)
        | (refine wpList_load_mid rfl 60 _ rfl wr.heap.size 0 rfl (bv x) _ N2.out.2.1 Tryd.underlying60 rfl (by rw [bv_length, HXL.out]; exact size_sct) ?_))
      refine (write_any (HP.out.below N2.out.1) (a + (k : Int)) x HXL.out (by have h1 := wrK_wt s a xs k; have h2 := HN.out; omega)).mono ?_
      rintro e w3 ⟨rfl, haft⟩
      have A3 : Hid (Aft F w w3 g (wrK s a xs (k + 1))) := by rw [wrK, ← HXE.out]; exact Aft.join HG.out HS.out N2.out.1 haft
      clear haft
      obtain ⟨z, hz3⟩ : ∃ z, z = wrE (wrK s a xs k) (a + (k : Int)) := ⟨_, rfl⟩
      rw [← hz3]
      have HZ : Hid (z = wrE (wrK s a xs k) (a + (k : Int))) := hz3
      clear hz3
      by_cases h0 : z = 0
      · subst h0
        go_wp2
        go_roundw
        case rel => exact ⟨k + 1, by omega, by go_num, A3.out, fun j hj => by
          by_cases e : j = k
          · subst e; exact HZ.out.symm
          · exact HR.out.ok j (by omega)⟩
        case measure => simp [intOf]; omega
      · have n0 : ¬ ((z == 0) = true) := by simpa using h0
        have n1 : (z != 0) = true := by simpa using h0
        go_wp2
        go_ret
        have hst := sto_stop hlt HR.out.ok (by rw [← HZ.out]; exact h0)
        exact ⟨by rw [hst, ← HZ.out]; rfl, by rw [hst]; exact A3.out⟩
    · obtain rfl : k = xs.length := by omega
      obtain ⟨F', hpd, hchg, hsub⟩ := HR.out.aft
      go_wp2_with fail
      refine (sync_any hpd).mono ?_
      rintro e w3 ⟨rfl, haft⟩
      have hst := sto_all HR.out.ok
      have A3 : Hid (Aft F w w3 g (sto s a xs).2) := by rw [hst]; exact Aft.join hchg hsub (Below.refl _ _) haft
      clear haft hpd hchg hsub
      go_wp2
      go_ret
      exact ⟨by rw [hst]; rfl, A3.out⟩
end Go.Proofs.YthfpakjfdncphaaDoor
