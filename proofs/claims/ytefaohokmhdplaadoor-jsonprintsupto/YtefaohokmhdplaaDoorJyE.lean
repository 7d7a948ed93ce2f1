/- Package json: objects put behind bytes. -/
import Derived.Test.YtefaohokmhdplaaDoorJyC
namespace Go.Proofs.YtefaohokmhdplaaDoor
open Go Go.RowKit
set_option linter.unusedSimpArgs false
set_option linter.unusedVariables false
set_option maxRecDepth 100000

theorem store_mem (wr : World) (kk : ByteArray) {x : Value} (h : IsI x) : Sem.run Tryd.prog (store ⟨wr.heap.size, 1, none⟩ x) (wr.alloc (.cells #[.string kk, .nilIface] 75)) = .ok () (wr.alloc (.cells #[.string kk, x] 75)) := by
  rcases h with ⟨t, p, rfl⟩ | rfl <;> go_simp
theorem mem_ne {a : Array Value} {f : Nat × Nat} : ∀ (cs : Array Value) (f' : Nat × Nat), Obj.cells a 75 f ≠ Obj.cells cs 5 f' := by
  intro cs f' h; injection h with _ h2 _; exact absurd h2 (by decide)
set_option maxHeartbeats 16000000 in
theorem aobj_any {w0 : World} {A : Nat → Prop} {sv : Value} {ms : List (ByteArray × Value)} {ts : List (List Int)} (hv : RV A w0 2 sv (mcs ms)) (hl : ms.length = ts.length) (h1 : ∀ m ∈ ms, IsI m.2)
    (hc : ∀ (i : Nat) (m : ByteArray × Value) (t : List Int), ms[i]? = some m → ts[i]? = some t → AVC w0 m.2 t) {W : World} {v : Value} {xs : List Int} (hw : Below w0.heap.size w0 W) (h : Ow w0.heap.size W v xs) (hb : xs.length + ([123] ++ (cm (List.zipWith (fun (m : ByteArray × Value) (t : List Int) => qt m.1 ++ ([58] ++ t)) ms ts) ++ [125])).length ≤ 140737488355000) :
    Calls Tryd.prog 57 #[v, sv] W fun e W' => ∃ v', e = .returned v' ∧ Ow w0.heap.size W' v' (xs ++ ([123] ++ (cm (List.zipWith (fun (m : ByteArray × Value) (t : List Int) => qt m.1 ++ ([58] ++ t)) ms ts) ++ [125]))) ∧ Kq w0.heap.size W W' := by
  obtain ⟨ad, n, cap, rfl, hcl, hcc, hx⟩ := hv
  rw [mcs_length] at hcl
  have hn : n = ts.length := by omega
  have HLV : Hid (ms.length = n) := by show _ = _; omega
  have HXX : Hid (n = 0 ∨ ∃ b o, ad = some ⟨b, o, none⟩ ∧ A b ∧ b < w0.heap.size ∧ w0.rangeAt b o (mcs ms)) := hx
  have H1 : Hid (∀ m ∈ ms, IsI m.2) := h1
  have HC : Hid (∀ (i : Nat) (m : ByteArray × Value) (t : List Int), ms[i]? = some m → ts[i]? = some t → AVC w0 m.2 t) := hc
  have HW : Hid (Below w0.heap.size w0 W) := hw
  have hBW : w0.heap.size ≤ W.heap.size := hw.size
  have HLT : Hid (ts.length = n) := hn.symm
  obtain ⟨zs, hzs⟩ : ∃ zs, (List.zipWith (fun (m : ByteArray × Value) (t : List Int) => qt m.1 ++ ([58] ++ t)) ms ts) = zs := ⟨_, rfl⟩
  have HZ : Hid (∀ (i : Nat) (m : ByteArray × Value) (t : List Int), ms[i]? = some m → ts[i]? = some t → zs[i]? = some (qt m.1 ++ ([58] ++ t))) := by
    intro i m t hm ht; rw [← hzs, List.getElem?_zipWith, hm, ht]
  have hzl : zs.length = n := by rw [← hzs, List.length_zipWith]; omega
  have HZL : Hid (zs.length = n) := hzl
  rw [hzs] at hb ⊢
  have hcm := cm_len zs
  have hn9 : (n : Int) ≤ 140737488355001 := by simp at hb; omega
  obtain ⟨E, hE⟩ : ∃ E, cm zs = E := ⟨_, rfl⟩
  have HE0 : Hid (cr zs 0 = E) := by show _ = _; rw [cr_zero]; exact hE
  rw [hE] at hb ⊢
  have HL : Hid (xs.length + ([123] ++ (E ++ [125])).length ≤ 140737488355000) := hb
  have HO1 : Hid (Ow w0.heap.size (W.alloc (.cells #[.int .u8 123] 5)) v (xs)) := h.alloc _
  have HS1 : Hid (Sl (W.alloc (.cells #[.int .u8 123] 5)) (.slice (some ⟨W.heap.size, 0, none⟩) 1 1) [123]) := Sl.one W 123 _
  have HB1 : Hid (w0.heap.size ≤ (W.alloc (.cells #[.int .u8 123] 5)).heap.size) := by show _ ≤ _; have := hBW; simp; omega
  have HL1 : Hid ((xs).length + ([123] : List Int).length ≤ 140737488355328) := by show _ ≤ _; have := HL.out; simp at this ⊢; omega
  clear h hb hx hc h1 hw hcl hn hcm hE hl hzs hzl
  go_enter Tryd.func57, Tryd.ntmps57
  go_wp2_with (first
    | (at_builtin; refine app_u8 rfl (.tmp 7) (.tmp 8) rfl HB1.out v (xs) rfl HO1.out _ rfl [123] HS1.out HL1.out ?_
       intro v1 w1 o1 o2 o3 o4
       have HOA : Hid (Ow w0.heap.size w1 v1 (xs ++ [123])) := o1
       have HKA : Hid (Kq w0.heap.size W w1) := Kq.grown ((Kq.refl w0.heap.size W).alloc hBW _) hBW HO1.out o2
       clear o1 o2 o3 o4))
  have HST : Hid (∃ (k : Nat) (L : List Int), k ≤ n ∧ Value.int .i64 0 = .int .i64 (k : Int) ∧ Ow w0.heap.size w1 v1 (xs ++ [123] ++ L) ∧ Hid (L ++ cr zs k = E) ∧ Kq w0.heap.size W w1) := ⟨0, [], Nat.zero_le _, rfl, by rw [List.append_nil]; exact HOA.out, HE0.out, HKA.out⟩
  clear HO1 HS1 HB1 HL1 HOA HKA HE0
  go_loopw [0, 12] (fun v0 i Wr => ∃ (k : Nat) (L : List Int), k ≤ n ∧ i = .int .i64 (k : Int) ∧ Ow w0.heap.size Wr v0 (xs ++ [123] ++ L) ∧ Hid (L ++ cr zs k = E) ∧ Kq w0.heap.size W Wr) (fun _ i _ => n - (intOf i).toNat)
  case atStart => exact HST.out
  case round =>
    obtain ⟨k, L, hk, rfl, ho, he, hkq⟩ := hrel
    have HO : Hid (Ow w0.heap.size wr u0 (xs ++ [123] ++ L)) := ho
    have HK : Hid (Kq w0.heap.size W wr) := hkq
    have HBR : Hid (Below w0.heap.size w0 wr) := hkq.below HW.out
    have hBs : w0.heap.size ≤ wr.heap.size := HBR.out.size
    clear HST ho hkq
    by_cases hlt : k < n
    · rcases HXX.out with h0 | ⟨b, o, rfl, -, hlb, hm⟩
      · omega
      obtain ⟨⟨kk, x⟩, hx⟩ : ∃ x, ms[k]? = some x := ⟨ms[k]'(by have := HLV.out; omega), List.getElem?_eq_getElem _⟩
      obtain ⟨t, ht⟩ : ∃ t, ts[k]? = some t := ⟨ts[k]'(by have := HLT.out; omega), List.getElem?_eq_getElem _⟩
      have hIx : IsI x := H1.out _ (List.mem_of_getElem? hx)
      have h1x : x.oneCell' = true := hIx.one
      have hst := store_mem wr kk hIx
      obtain ⟨e0, e1⟩ := mcs_at ms k _ hx
      have c0 : wr.cell? ⟨b, o + k * 2, none⟩ = some (.string kk) := (HBR.out.cell (p := ⟨b, o + k * 2, none⟩) hlb).trans (hm _ _ e0)
      have c1 : wr.cell? ⟨b, o + k * 2 + 1, none⟩ = some x := (HBR.out.cell (p := ⟨b, o + k * 2 + 1, none⟩) hlb).trans (by have := hm _ _ e1; rwa [← Nat.add_assoc] at this)
      have HCX : Hid (AVC w0 x t) := HC.out k (kk, x) t hx ht
      have hstep := cr_step (HZ.out k (kk, x) t hx ht)
      obtain ⟨sp, hsp⟩ : ∃ sp, (if 0 < k then ([44] : List Int) else []) = sp := ⟨_, rfl⟩
      rw [hsp] at hstep
      have HSP : Hid ((if 0 < k then ([44] : List Int) else []) = sp) := hsp
      have HLL : Hid (xs.length + 1 + L.length + sp.length + (qt kk).length + 1 + t.length ≤ 140737488355000) := by
        have a1 := HL.out; have a2 := he.out; rw [hstep] at a2; rw [← a2] at a1; simp at a1 ⊢; show _ ≤ _; omega
      have HEE : Hid (L ++ (sp ++ (qt kk ++ ([58] ++ t))) ++ cr zs (k + 1) = E) := by show _ = _; rw [List.append_assoc, ← hstep]; exact he.out
      have HM1 : Hid ((wr.alloc (.cells #[.string kk, x] 75)).heap[wr.heap.size]? = some (.cells #[.string kk, x] 75 (0, 0))) := heap_alloc_new _ _
      have HOX : Hid (Ow w0.heap.size (wr.alloc (.cells #[.string kk, x] 75)) u0 (xs ++ [123] ++ L)) := HO.out.alloc _
      have HKX : Hid (Kq w0.heap.size W (wr.alloc (.cells #[.string kk, x] 75))) := HK.out.alloc hBW _
      have HSZ : Hid (w0.heap.size ≤ wr.heap.size) := hBs
      clear hm hx ht hstep he hsp hlb e0 e1 hBs hIx
      rcases Nat.eq_zero_or_pos k with hk0 | hk0
      case' inl =>
        subst hk0
        have d0 : wr.cell? ⟨b, o, none⟩ = some (.string kk) := by simpa using c0
        have d1 : wr.cell? ⟨b, o + 1, none⟩ = some x := by simpa using c1
        clear c0 c1
        go_wp2_with fail
        have HO2 : Hid (Ow w0.heap.size (wr.alloc (.cells #[.string kk, x] 75)) u0 (xs ++ [123] ++ L ++ sp)) := by show Ow _ _ _ _; rw [← HSP.out, if_neg (by omega), List.append_nil]; exact HOX.out
        obtain ⟨W2, hW2⟩ : ∃ W2, (wr.alloc (.cells #[.string kk, x] 75)) = W2 := ⟨_, rfl⟩
        obtain ⟨u2, hu2⟩ : ∃ u2, u0 = u2 := ⟨_, rfl⟩
        rw [hW2] at HO2 HM1 HKX ⊢
        rw [hu2] at HO2 ⊢
        have HM2 := HM1
        have HK2 := HKX
        obtain ⟨C6, hC6⟩ : ∃ C6, wr.heap.size = C6 := ⟨_, rfl⟩
        rw [hC6] at HM2 ⊢
        clear hu2 hW2 hC6 d0 d1 hst HM1 HKX HOX HSZ
      case' inr =>
        have hk1 : (0 : Int) < (k : Int) := by omega
        have hif : sp = [44] := by rw [← HSP.out]; exact if_pos hk0
        have HOY : Hid (Ow w0.heap.size ((wr.alloc (.cells #[.string kk, x] 75)).alloc (.cells #[.int .u8 44] 5)) u0 (xs ++ [123] ++ L)) := HOX.out.alloc _
        have HSY : Hid (Sl ((wr.alloc (.cells #[.string kk, x] 75)).alloc (.cells #[.int .u8 44] 5)) (.slice (some ⟨wr.heap.size + 1, 0, none⟩) 1 1) [44]) := by have h9 := Sl.one (wr.alloc (.cells #[.string kk, x] 75)) 44 5; rw [World.size_alloc] at h9; exact h9
        have HBY : Hid (w0.heap.size ≤ ((wr.alloc (.cells #[.string kk, x] 75)).alloc (.cells #[.int .u8 44] 5)).heap.size) := by show _ ≤ _; have := HSZ.out; simp; omega
        have HLY : Hid ((xs ++ [123] ++ L).length + ([44] : List Int).length ≤ 140737488355328) := by show _ ≤ _; have h9 := HLL.out; rw [hif] at h9; simp at h9 ⊢; omega
        go_wp2_with (first
          | (at_builtin; refine app_u8 rfl (.tmp 19) (.tmp 20) rfl HBY.out u0 (xs ++ [123] ++ L) rfl HOY.out _ rfl [44] HSY.out HLY.out ?_
             intro u2 W2 o1 o2 o3 o4
             have HOB : Hid (Ow w0.heap.size W2 u2 (xs ++ [123] ++ L ++ [44])) := o1
             have HKB : Hid (Kq w0.heap.size (wr.alloc (.cells #[.string kk, x] 75)) W2) := Kq.grown ((Kq.refl _ _).alloc (by have := HSZ.out; simp; omega) _) (by have := HSZ.out; simp; omega) HOY.out o2
             have HM2 : Hid (W2.heap[wr.heap.size]? = some (.cells #[.string kk, x] 75 (0, 0))) := HKB.out.2 _ _ HM1.out mem_ne
             obtain ⟨m0, m1, -, -⟩ := cell_of2 HM2.out
             clear o1 o2 o3 o4))
        have HO2 : Hid (Ow w0.heap.size W2 u2 (xs ++ [123] ++ L ++ sp)) := by rw [hif]; exact HOB.out
        have HK2 : Hid (Kq w0.heap.size W W2) := HKX.out.trans HKB.out
        obtain ⟨C6, hC6⟩ : ∃ C6, wr.heap.size = C6 := ⟨_, rfl⟩
        rw [hC6] at HM2 ⊢
        clear hif HOB hC6 c0 c1 hst m0 m1 HM1 HKX HOX HSZ HOY HSY HBY HLY HKB
      all_goals (
        have hB2 : w0.heap.size ≤ W2.heap.size := (HK2.out.below HW.out).size
        refine (atext_any HO2.out hB2 (by have := HLL.out; simp only [List.length_append, List.length_cons, List.length_nil] at this ⊢; omega)).mono ?_
        rintro e W3 ⟨u3, rfl, p1, p2⟩
        have HO3 : Hid (Ow w0.heap.size W3 u3 (xs ++ [123] ++ L ++ sp ++ qt kk)) := p1
        have HK3 : Hid (Kq w0.heap.size W W3) := HK2.out.trans p2
        have HM3 : Hid (W3.heap[C6]? = some (.cells #[.string kk, x] 75 (0, 0))) := p2.2 _ _ HM2.out mem_ne
        have hB3 : w0.heap.size ≤ W3.heap.size := (HK3.out.below HW.out).size
        have HLE : Hid (xs.length + 1 + L.length + sp.length + (qt kk).length + 1 ≤ 140737488355000) := by show _ ≤ _; have := HLL.out; omega
        have HO4 : Hid (Ow w0.heap.size (W3.alloc (.cells #[.int .u8 58] 5)) u3 (xs ++ [123] ++ L ++ sp ++ qt kk)) := HO3.out.alloc _
        have HS4 : Hid (Sl (W3.alloc (.cells #[.int .u8 58] 5)) (.slice (some ⟨W3.heap.size, 0, none⟩) 1 1) [58]) := Sl.one W3 58 _
        have HB4 : Hid (w0.heap.size ≤ (W3.alloc (.cells #[.int .u8 58] 5)).heap.size) := by show _ ≤ _; have := hB3; simp; omega
        have HL4 : Hid ((xs ++ [123] ++ L ++ sp ++ qt kk).length + ([58] : List Int).length ≤ 140737488355328) := by show _ ≤ _; have := HLE.out; simp at this ⊢; omega
        clear p1 p2 HO2 HK2 HM2 hB2
        go_wp2_with (first
          | (at_builtin; refine app_u8 rfl (.tmp 25) (.tmp 26) rfl HB4.out u3 (xs ++ [123] ++ L ++ sp ++ qt kk) rfl HO4.out _ rfl [58] HS4.out HL4.out ?_
             intro u4 W4 o1 o2 o3 o4
             have HO5 : Hid (Ow w0.heap.size W4 u4 (xs ++ [123] ++ L ++ sp ++ qt kk ++ [58])) := o1
             have HKC : Hid (Kq w0.heap.size W3 W4) := Kq.grown ((Kq.refl w0.heap.size W3).alloc hB3 _) hB3 HO4.out o2
             have HM4 : Hid (W4.heap[C6]? = some (.cells #[.string kk, x] 75 (0, 0))) := HKC.out.2 _ _ HM3.out mem_ne
             obtain ⟨m0, m1, -, -⟩ := cell_of2 HM4.out
             clear o1 o2 o3 o4))
        have HK4 : Hid (Kq w0.heap.size W W4) := HK3.out.trans HKC.out
        refine (HCX.out W4 u4 _ (HK4.out.below HW.out) HO5.out (by have := HLL.out; simp only [List.length_append, List.length_cons, List.length_nil] at this ⊢; omega)).mono ?_
        rintro e W5 ⟨u5', rfl, q1, q2⟩
        have HO6 : Hid (Ow w0.heap.size W5 u5' (xs ++ [123] ++ (L ++ (sp ++ (qt kk ++ ([58] ++ t)))))) := by
          have := q1; simp only [List.append_assoc] at this ⊢; exact this
        have HK6 : Hid (Kq w0.heap.size W W5) := HK4.out.trans q2
        clear q1 q2 m0 m1
        go_wp2
        go_roundw
        case rel => exact ⟨_, L ++ (sp ++ (qt kk ++ ([58] ++ t))), hlt, by go_num, HO6.out, HEE.out, HK6.out⟩
        case measure => simp [intOf]; omega)
    · have HLE : Hid (L = E) := by show _ = _; have := he.out; rw [cr_end (by have := HZL.out; omega), List.append_nil] at this; exact this
      have HO2 : Hid (Ow w0.heap.size (wr.alloc (.cells #[.int .u8 125] 5)) u0 (xs ++ [123] ++ L)) := HO.out.alloc _
      have HS2 : Hid (Sl (wr.alloc (.cells #[.int .u8 125] 5)) (.slice (some ⟨wr.heap.size, 0, none⟩) 1 1) [125]) := Sl.one wr 125 _
      have HB2 : Hid (w0.heap.size ≤ (wr.alloc (.cells #[.int .u8 125] 5)).heap.size) := by show _ ≤ _; have := hBs; simp; omega
      have HL2 : Hid ((xs ++ [123] ++ L).length + ([125] : List Int).length ≤ 140737488355328) := by show _ ≤ _; have := (by have h9 := HL.out; rw [← HLE.out] at h9; simp at h9; exact h9 : xs.length + (L.length + 1 + 1) ≤ 140737488355000); simp at this ⊢; omega
      clear he
      go_wp2_with (first
        | (at_builtin; refine app_u8 rfl (.tmp 33) (.tmp 34) rfl HB2.out u0 (xs ++ [123] ++ L) rfl HO2.out _ rfl [125] HS2.out HL2.out ?_
           intro u2 W2 o1 o2 o3 o4
           have HF : Hid (Ow w0.heap.size W2 u2 (xs ++ ([123] ++ (E ++ [125]))) ∧ Kq w0.heap.size W W2) := ⟨by rw [← HLE.out]; simpa using o1, HK.out.trans (Kq.grown ((Kq.refl w0.heap.size wr).alloc hBs _) hBs HO2.out o2)⟩
           clear o1 o2 o3 o4))
      go_ret
      exact ⟨_, rfl, HF.out.1, HF.out.2⟩
end Go.Proofs.YtefaohokmhdplaaDoor
