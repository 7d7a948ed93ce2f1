/- The law's objects as values. -/
import Derived.Test.YtefaohokmhdplaaDoorJwB
namespace Go.Proofs.YtefaohokmhdplaaDoor
open Go Go.RowKit
set_option linter.unusedSimpArgs false
set_option linter.unusedVariables false
set_option maxRecDepth 100000

theorem VO.push {K k : Nat} {ks : List ByteArray} {ps : List JT} {X : Tv} {wr W2 W3 W4 : World} {sv sv' : Value} {key : ByteArray} {v : Value} {j : JT} {ms : List (ByteArray × Value)} (hlc : LC wr K X) (h0 : wr.ownsRow (K + 1) 75 2 sv k (mcs ms)) (hvl : ms.length = k) (hkk : ∀ (i : Nat) (m : ByteArray × Value), ms[i]? = some m → m.1 = (ks[i]?).getD ⟨#[]⟩) (hvs : ∀ (i : Nat) (m : ByteArray × Value) (j : JT), ms[i]? = some m → ps[i]? = some j → VT (fun b => K ≤ b ∧ sv.ownBlock ≠ some b) wr m.2 j)
    (hb : Below wr.heap.size wr W2) (hv : VT (fun b => wr.heap.size ≤ b) W2 v j) (hj : ps[k]? = some j) (hkey : key = (ks[k]?).getD ⟨#[]⟩) (hb3 : Below W2.heap.size W2 W3) (o1 : W4.ownsRow (K + 1) 75 2 sv' (k + 1) (mcs ms ++ [.string key, v])) (o2 : W3.grownBy W4 sv.ownBlock) (o3 : sv'.ownBlock = sv.ownBlock ∨ sv'.ownBlock = some W3.heap.size) : VO K ks ps X W4 sv' (k + 1) := by
  have own : ∀ b, sv.ownBlock = some b → K + 1 ≤ b ∧ b < wr.heap.size := fun b e => own_lt h0 b e
  have hs3 := hb3.size
  have hs2 := hb.size
  have old : ∀ b, b < W3.heap.size → sv.ownBlock ≠ some b → W4.heap[b]? = W3.heap[b]? := fun b hlt hne => o2.block b hlt (fun e => hne e.symm)
  have nb : ∀ b, b < W3.heap.size → sv.ownBlock ≠ some b → sv'.ownBlock ≠ some b := fun b hlt hne e => by
    rcases o3 with q | q
    · exact hne (q ▸ e)
    · rw [q] at e; cases e; omega
  have lK := hlc.lt
  have hKb : sv.ownBlock ≠ some K := fun e => by have := (own _ e).1; omega
  have last : ∀ (i : Nat) (m : ByteArray × Value), (ms ++ [(key, v)])[i]? = some m → ms.length ≤ i → i = k ∧ m = (key, v) := fun i m hx q => by
    rw [List.getElem?_append_right q] at hx
    have := (List.getElem?_eq_some_iff.1 hx).1
    have e : i = ms.length := by simp at this; omega
    subst e
    rw [Nat.sub_self] at hx
    simp at hx
    exact ⟨hvl, hx.symm⟩
  refine ⟨hlc.keep ((old K (by omega) hKb).trans ((hb3.block K (by omega)).trans (hb.block K lK))), ms ++ [(key, v)], ?_, by rw [List.length_append, hvl]; rfl, fun i m hx => ?_, fun i m j' hx hj' => ?_⟩
  · rw [show mcs (ms ++ [(key, v)]) = mcs ms ++ [.string key, v] by simp [mcs]]; exact o1
  · rcases Nat.lt_or_ge i ms.length with q | q
    · rw [List.getElem?_append_left q] at hx
      exact hkk i m hx
    · obtain ⟨rfl, rfl⟩ := last i m hx q
      exact hkey
  · rcases Nat.lt_or_ge i ms.length with q | q
    · rw [List.getElem?_append_left q] at hx
      exact (hvs i m j' hx hj').keep (fun b hbb hlt => ⟨⟨hbb.1, nb b (by omega) hbb.2⟩, (old b (by omega) hbb.2).trans ((hb3.block b (by omega)).trans (hb.block b hlt))⟩) (by have := o2.size; omega)
    · obtain ⟨rfl, rfl⟩ := last i m hx q
      rw [hj] at hj'; cases hj'
      refine hv.keep (fun b hbb hlt => ?_) (by have := o2.size; omega)
      have hbb' : wr.heap.size ≤ b := hbb
      have hne : sv.ownBlock ≠ some b := fun e => by have := (own _ e).2; omega
      exact ⟨⟨by omega, nb b (by omega) hne⟩, (old b (by omega) hne).trans (hb3.block b hlt)⟩
set_option maxHeartbeats 16000000 in
theorem vobj_walk {A : Nat → Prop} {w : World} {x : Tv} {ks : List ByteArray} {xs : List Tv} {ps : List JT} (hx5 : x.k = 5) (hkr : RV A w 1 x.ks.v (keyc ks)) (h : RV A w 5 x.ps.v (tcs xs)) (hl : xs.length = ps.length) (hl2 : ps.length ≤ 1048576) (hl3 : ks.length ≤ 1048576) (hv : ∀ (i : Nat) (y : Tv) (j : JT), xs[i]? = some y → ps[i]? = some j → VLC w y j) : VLC w x (.mk 5 x.b x.t ks ps) := by
  intro W hb
  obtain ⟨xk, xb, xt, ⟨ka, kn, kc⟩, ⟨pa, pn, pc⟩⟩ := x
  obtain rfl : xk = 5 := hx5
  obtain ⟨ad, n, cap, hsl, hcl, hcc, hx⟩ := h
  cases hsl
  rw [tcs_length] at hcl
  have hcl : xs.length * 5 = pn * 5 := hcl
  have hn : pn = ps.length := by omega
  obtain ⟨ad, n, cap, hsl, hcl2, hcc2, hx2⟩ := hkr
  cases hsl
  have hcl2 : (keyc ks).length = kn * 1 := hcl2
  have hkn : kn = ks.length := by simp [keyc] at hcl2; omega
  have HXX : Hid (pn = 0 ∨ ∃ b o, pa = some ⟨b, o, none⟩ ∧ A b ∧ b < w.heap.size ∧ w.rangeAt b o (tcs xs)) := hx
  have HXK : Hid (kn = 0 ∨ ∃ b o, ka = some ⟨b, o, none⟩ ∧ A b ∧ b < w.heap.size ∧ w.rangeAt b o (keyc ks)) := hx2
  have HLX : Hid (xs.length = pn) := by show _ = _; omega
  have HLP : Hid (ps.length = pn) := hn.symm
  have HLK : Hid (ks.length = kn) := hkn.symm
  have HV : Hid (∀ (i : Nat) (y : Tv) (j : JT), xs[i]? = some y → ps[i]? = some j → VLC w y j) := hv
  have HB : Hid (Below w.heap.size w W) := hb
  have hpn : (pn : Int) ≤ 1048576 := by omega
  have hkn' : (kn : Int) ≤ 1048576 := by omega
  show Calls Tryd.prog 15 #[Tv.val ⟨5, xb, xt, ⟨ka, kn, kc⟩, ⟨pa, pn, pc⟩⟩] W fun e W' => ∃ v, e = .returned v ∧ VT (fun b => W.heap.size ≤ b) W' v (.mk 5 xb xt ks ps) ∧ Below W.heap.size W W'
  rw [show Tv.val ⟨5, xb, xt, ⟨ka, kn, kc⟩, ⟨pa, pn, pc⟩⟩ = .agg #[.int .i64 5, .bool xb, .string xt, .slice ka kn kc, .slice pa pn pc] from rfl]
  obtain ⟨K, hK⟩ : ∃ K, W.heap.size = K := ⟨_, rfl⟩
  have HK : Hid (W.heap.size = K) := hK
  have HC : Hid (LC (W.alloc (.cells #[.int .i64 5, .bool xb, .string xt, .slice ka kn kc, .slice pa pn pc] 38)) K ⟨5, xb, xt, ⟨ka, kn, kc⟩, ⟨pa, pn, pc⟩⟩) := by show LC _ _ _; rw [← hK]; exact heap_alloc_new _ _
  have HBA : Hid (Below W.heap.size W (W.alloc (.cells #[.int .i64 5, .bool xb, .string xt, .slice ka kn kc, .slice pa pn pc] 38))) := (Below.refl _ _).alloc (Nat.le_refl _) _
  clear hx hcl hv hl hb hcc hn hx2 hcl2 hcc2 hkn
  go_enter Tryd.func15, Tryd.ntmps15
  go_wp2_with fail
  go_loopw [5, 54] (fun sv v W' => ∃ k : Nat, k ≤ pn ∧ v = .int .i64 (k : Int) ∧ VO K ks ps ⟨5, xb, xt, ⟨ka, kn, kc⟩, ⟨pa, pn, pc⟩⟩ W' sv k ∧ Below W.heap.size W W') (fun _ v _ => pn - (intOf v).toNat)
  case atStart => exact ⟨0, Nat.zero_le _, rfl, ⟨HC.out, [], ⟨rfl, .inl ⟨rfl, rfl⟩⟩, rfl, fun i m h => by simp at h, fun i m j h => by simp at h⟩, HBA.out⟩
  case round =>
    obtain ⟨k, hk, rfl, ⟨hlc, ms, hrow, hvl, hkk, hvs⟩, hbw⟩ := hrel
    have HLC : Hid (LC wr K ⟨5, xb, xt, ⟨ka, kn, kc⟩, ⟨pa, pn, pc⟩⟩) := hlc
    have HRW : Hid (wr.ownsRow (K + 1) 75 2 u5 k (mcs ms)) := hrow
    have HVL : Hid (ms.length = k) := hvl
    have HKK : Hid (∀ (i : Nat) (m : ByteArray × Value), ms[i]? = some m → m.1 = (ks[i]?).getD ⟨#[]⟩) := hkk
    have HVS : Hid (∀ (i : Nat) (m : ByteArray × Value) (j : JT), ms[i]? = some m → ps[i]? = some j → VT (fun b => K ≤ b ∧ u5.ownBlock ≠ some b) wr m.2 j) := hvs
    have HBW : Hid (Below W.heap.size W wr) := hbw
    obtain ⟨z0, z1, z2, z3, z4⟩ := hlc.cells
    simp only at z0 z1 z2 z3 z4
    have hKl := hlc.lt
    clear hlc hbw HC HBA hrow hvl hvs hkk
    by_cases hlt : k < pn
    · rcases HXX.out with h0 | ⟨b, o, rfl, -, hlb, hm⟩
      · omega
      obtain ⟨y, hy⟩ : ∃ y, xs[k]? = some y := ⟨xs[k]'(by have := HLX.out; omega), List.getElem?_eq_getElem _⟩
      obtain ⟨j, hj⟩ : ∃ j, ps[k]? = some j := ⟨ps[k]'(by have := HLP.out; omega), List.getElem?_eq_getElem _⟩
      have HBT : Hid (Below w.heap.size w wr) := HB.out.trans (HBW.out.mono HB.out.size)
      obtain ⟨c0, c1, c2, c3, c4⟩ := tcs_cells hm HBT.out hlb hy
      have HCL := HV.out k y j hy hj wr HBT.out
      have HJ : Hid (ps[k]? = some j) := hj
      obtain ⟨yk, yb, yt, ⟨ya, yn, yc⟩, ⟨qa, qn, qc⟩⟩ := y
      rw [show Tv.val ⟨yk, yb, yt, ⟨ya, yn, yc⟩, ⟨qa, qn, qc⟩⟩ = .agg #[.int .i64 yk, .bool yb, .string yt, .slice ya yn yc, .slice qa qn qc] from rfl] at HCL
      simp only at c0 c1 c2 c3 c4
      clear hm hlb hy hj
      have HCL2 : Hid _ := HCL
      clear HCL
      by_cases hkl : k < kn
      case pos =>
        rcases HXK.out with h0 | ⟨b2, o2, rfl, -, hlb2, hm2⟩
        case' inl => exfalso; omega
        have e2 : ks[k]? = some (ks[k]'(by have := HLK.out; omega)) := List.getElem?_eq_getElem _
        obtain ⟨key, hkey⟩ : ∃ key, ks[k]'(by have := HLK.out; omega) = key := ⟨_, rfl⟩
        rw [hkey] at e2
        have HKEY : Hid (key = (ks[k]?).getD ⟨#[]⟩) := by show _ = _; rw [e2]; rfl
        have d0 : wr.cell? ⟨b2, o2 + k, none⟩ = some (.string key) := (HBT.out.cell (p := ⟨b2, o2 + k, none⟩) hlb2).trans (hm2 _ _ (by simp [keyc, List.getElem?_map, e2]))
        clear hm2 hlb2 e2 hkey
        go_wp2_with fail
        clear d0
        refine Calls.mono HCL2.out ?_
        rintro e W2 ⟨v, rfl, hvt, hb2⟩
        have HI : Hid (IsI v) := hvt.isI
        have hI := hvt.isI
        have HVT : Hid (VT (fun b => wr.heap.size ≤ b) W2 v j) := hvt
        have HB2 : Hid (Below wr.heap.size wr W2) := hb2
        have hk9 : k ≤ 1000000000 := by omega
        have hv1 : v.oneCell' = true := hI.one
        obtain ⟨W3, hW3⟩ : ∃ W3, W2.alloc (.cells #[.string key, v] 75) = W3 := ⟨_, rfl⟩
        have HW3 : Hid (W2.alloc (.cells #[.string key, v] 75) = W3) := hW3
        have HB3 : Hid (Below W2.heap.size W2 W3) := by show Below _ _ _; rw [← hW3]; exact (Below.refl _ _).alloc (Nat.le_refl _) _
        have HR3 : Hid (W3.ownsRow (K + 1) 75 2 u5 k (mcs ms)) := own_keep HRW.out (fun b e => (HB3.out.block b (Nat.lt_of_lt_of_le (own_lt HRW.out b e).2 HB2.out.size)).trans (HB2.out.block b (own_lt HRW.out b e).2))
        have HC3 : Hid (W3.cell? ⟨W2.heap.size, 0, none⟩ = some (.string key)) := by show _ = _; rw [← hW3]; exact cell_alloc W2 #[.string key, v] _ _ 0
        have HC4 : Hid (W3.cell? ⟨W2.heap.size, 1, none⟩ = some v) := by show _ = _; rw [← hW3]; exact cell_alloc W2 #[.string key, v] _ _ 1
        have HBK : Hid (K + 1 ≤ W3.heap.size) := by show _ ≤ _; have := HB2.out.size; have := HB3.out.size; omega
        clear hvt hb2 HCL2 c0 c1 c2 c3 c4 hW3
        rcases hI with ⟨it, ip, rfl⟩ | rfl
        all_goals (
          go_wp2_with (first
            | (refine bs_mem rfl (.tmp 75) rfl key _ HI.out rfl ?_; rw [HW3.out])
            | (at_builtin; refine app_mem rfl (.tmp 67) (.tmp 76) rfl u5 k (mcs ms) rfl HR3.out W2.heap.size key _ rfl HC3.out HC4.out hv1 hk9 HBK.out ?_
               intro sv' W4 o1 p2 o3
               have HVO : Hid (VO K ks ps ⟨5, xb, xt, ⟨some ⟨b2, o2, none⟩, kn, kc⟩, ⟨some ⟨b, o, none⟩, pn, pc⟩⟩ W4 sv' (k + 1)) := VO.push HLC.out HRW.out HVL.out HKK.out HVS.out HB2.out HVT.out HJ.out HKEY.out HB3.out o1 p2 o3
               have HB4 : Hid (Below W.heap.size W W4) := (bl_tr (bl_tr HBW.out HB2.out) HB3.out).grown p2 (bl_tr (bl_tr HBW.out HB2.out) HB3.out).size (fun b e => by have := (own_lt HRW.out b e).1; have := HK.out; omega)
               clear o1 p2 o3))
          go_roundw
          case rel => exact ⟨k + 1, hlt, by go_num, HVO.out, HB4.out⟩
          case measure => simp [intOf]; omega)
      case neg =>
        have HKEY : Hid ((⟨#[]⟩ : ByteArray) = (ks[k]?).getD ⟨#[]⟩) := by show _ = _; rw [List.getElem?_eq_none (by have := HLK.out; omega)]; rfl
        go_wp2_with fail
        refine Calls.mono HCL2.out ?_
        rintro e W2 ⟨v, rfl, hvt, hb2⟩
        have HI : Hid (IsI v) := hvt.isI
        have hI := hvt.isI
        have HVT : Hid (VT (fun b => wr.heap.size ≤ b) W2 v j) := hvt
        have HB2 : Hid (Below wr.heap.size wr W2) := hb2
        have hk9 : k ≤ 1000000000 := by omega
        have hv1 : v.oneCell' = true := hI.one
        obtain ⟨W3, hW3⟩ : ∃ W3, W2.alloc (.cells #[.string ⟨#[]⟩, v] 75) = W3 := ⟨_, rfl⟩
        have HW3 : Hid (W2.alloc (.cells #[.string ⟨#[]⟩, v] 75) = W3) := hW3
        have HB3 : Hid (Below W2.heap.size W2 W3) := by show Below _ _ _; rw [← hW3]; exact (Below.refl _ _).alloc (Nat.le_refl _) _
        have HR3 : Hid (W3.ownsRow (K + 1) 75 2 u5 k (mcs ms)) := own_keep HRW.out (fun b e => (HB3.out.block b (Nat.lt_of_lt_of_le (own_lt HRW.out b e).2 HB2.out.size)).trans (HB2.out.block b (own_lt HRW.out b e).2))
        have HC3 : Hid (W3.cell? ⟨W2.heap.size, 0, none⟩ = some (.string ⟨#[]⟩)) := by show _ = _; rw [← hW3]; exact cell_alloc W2 #[.string ⟨#[]⟩, v] _ _ 0
        have HC4 : Hid (W3.cell? ⟨W2.heap.size, 1, none⟩ = some v) := by show _ = _; rw [← hW3]; exact cell_alloc W2 #[.string ⟨#[]⟩, v] _ _ 1
        have HBK : Hid (K + 1 ≤ W3.heap.size) := by show _ ≤ _; have := HB2.out.size; have := HB3.out.size; omega
        clear hvt hb2 HCL2 c0 c1 c2 c3 c4 hW3
        rcases hI with ⟨it, ip, rfl⟩ | rfl
        all_goals (
          go_wp2_with (first
            | (refine bs_mem rfl (.tmp 75) rfl ⟨#[]⟩ _ HI.out rfl ?_; rw [HW3.out])
            | (at_builtin; refine app_mem rfl (.tmp 67) (.tmp 76) rfl u5 k (mcs ms) rfl HR3.out W2.heap.size ⟨#[]⟩ _ rfl HC3.out HC4.out hv1 hk9 HBK.out ?_
               intro sv' W4 o1 o2 o3
               have HVO : Hid (VO K ks ps ⟨5, xb, xt, ⟨ka, kn, kc⟩, ⟨some ⟨b, o, none⟩, pn, pc⟩⟩ W4 sv' (k + 1)) := VO.push HLC.out HRW.out HVL.out HKK.out HVS.out HB2.out HVT.out HJ.out HKEY.out HB3.out o1 o2 o3
               have HB4 : Hid (Below W.heap.size W W4) := (bl_tr (bl_tr HBW.out HB2.out) HB3.out).grown o2 (bl_tr (bl_tr HBW.out HB2.out) HB3.out).size (fun b e => by have := (own_lt HRW.out b e).1; have := HK.out; omega)
               clear o1 o2 o3))
          go_roundw
          case rel => exact ⟨k + 1, hlt, by go_num, HVO.out, HB4.out⟩
          case measure => simp [intOf]; omega)
    · have hkp : k = pn := by omega
      have HF : Hid (VT (fun b => W.heap.size ≤ b) wr (.iface 73 u5) (.mk 5 xb xt ks ps)) := by
        refine .obj xb xt ks ps u5 ms (own_rv HRW.out (fun b e => by have := (own_lt HRW.out b e).1; have := HK.out; show _ ≤ _; omega)) (by have := HVL.out; have := HLP.out; omega) HKK.out (fun i x j hx hj => (HVS.out i x j hx hj).keep (fun b hbb hlt => ⟨by have := hbb.1; have := HK.out; show _ ≤ _; omega, rfl⟩) (Nat.le_refl _))
      clear hkp
      go_wp2
      go_ret
      exact ⟨_, rfl, by first | exact HF.out | (rw [← HK.out]; exact HF.out), by first | exact HBW.out | (rw [← HK.out]; exact HBW.out)⟩
theorem value_tree {A : Nat → Prop} {w : World} {x : Tv} {j : JT} (h : LT A w x j) : SJ j → VLC w x j := by
  induction h with
  | mk x ks xs ps hk hr hl hv ih =>
    intro hs
    cases hs with
    | mk _ _ _ _ _ h1 h2 h3 h4 h5 =>
      have ih' := fun (i : Nat) (y : Tv) (j : JT) (hy : xs[i]? = some y) (hj : ps[i]? = some j) => ih i y j hy hj (h5 j (List.mem_of_getElem? hj))
      exact vtree_walk hk hr hl h2 h3 ih' (fun h5 => vobj_walk h5 hk hr hl h2 h3 ih')
end Go.Proofs.YtefaohokmhdplaaDoor
