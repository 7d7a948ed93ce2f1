/- The law's trees as values. -/
import Derived.Test.YtefaohokmhdplaaDoorJwA
import Derived.Test.YtefaohokmhdplaaDoorJsW
namespace Go.Proofs.YtefaohokmhdplaaDoor
open Go Go.RowKit
set_option linter.unusedSimpArgs false
set_option linter.unusedVariables false
set_option maxRecDepth 100000

/-- A value that says what a tree says. -/
inductive VT (A : Nat → Prop) (w : World) : Value → JT → Prop
  | null (b : Bool) (t : ByteArray) (ks : List ByteArray) (ps : List JT) : VT A w (.iface 68 (.agg #[])) (.mk 0 b t ks ps)
  | bool (b : Bool) (t : ByteArray) (ks : List ByteArray) (ps : List JT) : VT A w (.iface 70 (.bool b)) (.mk 1 b t ks ps)
  | num (b : Bool) (t : ByteArray) (ks : List ByteArray) (ps : List JT) : VT A w (.iface 71 (.string t)) (.mk 2 b t ks ps)
  | txt (b : Bool) (t : ByteArray) (ks : List ByteArray) (ps : List JT) : VT A w (.iface 45 (.string t)) (.mk 3 b t ks ps)
  | lst (b : Bool) (t : ByteArray) (ks : List ByteArray) (ps : List JT) (v : Value) (vs : List Value) (h : RV A w 1 v vs) (hl : vs.length = ps.length) (hv : ∀ (i : Nat) (x : Value) (j : JT), vs[i]? = some x → ps[i]? = some j → VT A w x j) : VT A w (.iface 49 v) (.mk 4 b t ks ps)
  | obj (b : Bool) (t : ByteArray) (ks : List ByteArray) (ps : List JT) (v : Value) (ms : List (ByteArray × Value)) (h : RV A w 2 v (mcs ms)) (hl : ms.length = ps.length) (hk : ∀ (i : Nat) (m : ByteArray × Value), ms[i]? = some m → m.1 = (ks[i]?).getD ⟨#[]⟩) (hv : ∀ (i : Nat) (m : ByteArray × Value) (j : JT), ms[i]? = some m → ps[i]? = some j → VT A w m.2 j) : VT A w (.iface 73 v) (.mk 5 b t ks ps)
  | nil (k : Int) (b : Bool) (t : ByteArray) (ks : List ByteArray) (ps : List JT) (hk : k < 0 ∨ 5 < k) : VT A w .nilIface (.mk k b t ks ps)
theorem VT.keep {A A' : Nat → Prop} {w w' : World} {v : Value} {j : JT} (h : VT A w v j) (hk : ∀ b, A b → b < w.heap.size → A' b ∧ w'.heap[b]? = w.heap[b]?) (hs : w.heap.size ≤ w'.heap.size) : VT A' w' v j := by
  induction h with
  | null b t ks ps => exact .null b t ks ps
  | bool b t ks ps => exact .bool b t ks ps
  | num b t ks ps => exact .num b t ks ps
  | txt b t ks ps => exact .txt b t ks ps
  | lst b t ks ps v vs h hl hv ih => exact .lst b t ks ps v vs (h.keep hk hs) hl ih
  | obj b t ks ps v ms h hl hkk hv ih => exact .obj b t ks ps v ms (h.keep hk hs) hl hkk ih
  | nil k b t ks ps h => exact .nil k b t ks ps h
theorem VT.isI {A : Nat → Prop} {w : World} {v : Value} {j : JT} (h : VT A w v j) : IsI v := by
  cases h
  case nil => exact .inr rfl
  all_goals exact .inl ⟨_, _, rfl⟩
def VLC (w : World) (x : Tv) (j : JT) : Prop := ∀ (W : World), Below w.heap.size w W → Calls Tryd.prog 15 #[x.val] W fun e W' => ∃ v, e = .returned v ∧ VT (fun b => W.heap.size ≤ b) W' v j ∧ Below W.heap.size W W'
/-- A list that grows: the tree's box, the row. -/
def VI (K : Nat) (ps : List JT) (X : Tv) (W' : World) (sv : Value) (k : Nat) : Prop := LC W' K X ∧ ∃ vs : List Value, W'.ownsRow (K + 1) 31 1 sv k vs ∧ vs.length = k ∧ ∀ (i : Nat) (x : Value) (j : JT), vs[i]? = some x → ps[i]? = some j → VT (fun b => K ≤ b ∧ sv.ownBlock ≠ some b) W' x j
def VO (K : Nat) (ks : List ByteArray) (ps : List JT) (X : Tv) (W' : World) (sv : Value) (k : Nat) : Prop := LC W' K X ∧ ∃ ms : List (ByteArray × Value), W'.ownsRow (K + 1) 75 2 sv k (mcs ms) ∧ ms.length = k ∧ (∀ (i : Nat) (m : ByteArray × Value), ms[i]? = some m → m.1 = (ks[i]?).getD ⟨#[]⟩) ∧ ∀ (i : Nat) (m : ByteArray × Value) (j : JT), ms[i]? = some m → ps[i]? = some j → VT (fun b => K ≤ b ∧ sv.ownBlock ≠ some b) W' m.2 j
theorem VI.push {K k : Nat} {ps : List JT} {X : Tv} {wr W2 W3 W4 : World} {sv sv' : Value} {v : Value} {j : JT} {vs : List Value} (hlc : LC wr K X) (h0 : wr.ownsRow (K + 1) 31 1 sv k vs) (hvl : vs.length = k) (hvs : ∀ (i : Nat) (x : Value) (j : JT), vs[i]? = some x → ps[i]? = some j → VT (fun b => K ≤ b ∧ sv.ownBlock ≠ some b) wr x j)
    (hb : Below wr.heap.size wr W2) (hv : VT (fun b => wr.heap.size ≤ b) W2 v j) (hj : ps[k]? = some j) (hb3 : Below W2.heap.size W2 W3) (o1 : W4.ownsRow (K + 1) 31 1 sv' (k + 1) (vs ++ [v])) (o2 : W3.grownBy W4 sv.ownBlock) (o3 : sv'.ownBlock = sv.ownBlock ∨ sv'.ownBlock = some W3.heap.size) : VI K ps X W4 sv' (k + 1) := by
  have own : ∀ b, sv.ownBlock = some b → K + 1 ≤ b ∧ b < wr.heap.size := fun b e => own_lt h0 b e
  have hs3 := hb3.size
  have hs2 := hb.size
  have old : ∀ b, b < W3.heap.size → sv.ownBlock ≠ some b → W4.heap[b]? = W3.heap[b]? := fun b hlt hne => o2.block b hlt (fun e => hne e.symm)
  have nb : ∀ b, b < W3.heap.size → sv.ownBlock ≠ some b → sv'.ownBlock ≠ some b := fun b hlt hne e => by
    rcases o3 with q | q
    · exact hne (q ▸ e)
    · rw [q] at e; cases e; omega
  have lK := hlc.lt
  have hKb : sv.ownBlock ≠ some K := fun e => by have := (own _ e).1; omega
  refine ⟨hlc.keep ((old K (by omega) hKb).trans ((hb3.block K (by omega)).trans (hb.block K lK))), vs ++ [v], o1, by rw [List.length_append, hvl]; rfl, fun i x j' hx hj' => ?_⟩
  rcases Nat.lt_or_ge i vs.length with q | q
  · rw [List.getElem?_append_left q] at hx
    exact (hvs i x j' hx hj').keep (fun b hbb hlt => ⟨⟨hbb.1, nb b (by omega) hbb.2⟩, (old b (by omega) hbb.2).trans ((hb3.block b (by omega)).trans (hb.block b hlt))⟩) (by have := o2.size; omega)
  · rw [List.getElem?_append_right q] at hx
    have e : i = vs.length := by
      have := (List.getElem?_eq_some_iff.1 hx).1
      simp at this; omega
    subst e
    rw [Nat.sub_self] at hx
    simp at hx; subst hx
    rw [hvl, hj] at hj'; cases hj'
    refine hv.keep (fun b hbb hlt => ?_) (by have := o2.size; omega)
    have hbb' : wr.heap.size ≤ b := hbb
    have hne : sv.ownBlock ≠ some b := fun e => by have := (own _ e).2; omega
    exact ⟨⟨by omega, nb b (by omega) hne⟩, (old b (by omega) hne).trans (hb3.block b hlt)⟩
set_option maxHeartbeats 16000000 in
theorem vtree_walk {A : Nat → Prop} {w : World} {x : Tv} {ks : List ByteArray} {xs : List Tv} {ps : List JT} (hkr : RV A w 1 x.ks.v (keyc ks)) (h : RV A w 5 x.ps.v (tcs xs)) (hl : xs.length = ps.length) (hl2 : ps.length ≤ 1048576) (hl3 : ks.length ≤ 1048576) (hv : ∀ (i : Nat) (y : Tv) (j : JT), xs[i]? = some y → ps[i]? = some j → VLC w y j)
    (HOBJ : x.k = 5 → VLC w x (.mk 5 x.b x.t ks ps)) : VLC w x (.mk x.k x.b x.t ks ps) := by
  intro W hb
  by_cases hv5 : x.k = 5
  · have := HOBJ hv5 W hb; rw [← hv5] at this; exact this
  obtain ⟨xk, xb, xt, ⟨ka, kn, kc⟩, ⟨pa, pn, pc⟩⟩ := x
  obtain ⟨ad, n, cap, hsl, hcl, hcc, hx⟩ := h
  cases hsl
  rw [tcs_length] at hcl
  have hcl : xs.length * 5 = pn * 5 := hcl
  have hn : pn = ps.length := by omega
  have HXX : Hid (pn = 0 ∨ ∃ b o, pa = some ⟨b, o, none⟩ ∧ A b ∧ b < w.heap.size ∧ w.rangeAt b o (tcs xs)) := hx
  have HLX : Hid (xs.length = pn) := by show _ = _; omega
  have HLP : Hid (ps.length = pn) := hn.symm
  have HV : Hid (∀ (i : Nat) (y : Tv) (j : JT), xs[i]? = some y → ps[i]? = some j → VLC w y j) := hv
  have HB : Hid (Below w.heap.size w W) := hb
  have hpn : (pn : Int) ≤ 1048576 := by omega
  have hv5 : ¬ xk = 5 := hv5
  show Calls Tryd.prog 15 #[Tv.val ⟨xk, xb, xt, ⟨ka, kn, kc⟩, ⟨pa, pn, pc⟩⟩] W fun e W' => ∃ v, e = .returned v ∧ VT (fun b => W.heap.size ≤ b) W' v (.mk xk xb xt ks ps) ∧ Below W.heap.size W W'
  rw [show Tv.val ⟨xk, xb, xt, ⟨ka, kn, kc⟩, ⟨pa, pn, pc⟩⟩ = .agg #[.int .i64 xk, .bool xb, .string xt, .slice ka kn kc, .slice pa pn pc] from rfl]
  obtain ⟨K, hK⟩ : ∃ K, W.heap.size = K := ⟨_, rfl⟩
  have HK : Hid (W.heap.size = K) := hK
  have HC : Hid (LC (W.alloc (.cells #[.int .i64 xk, .bool xb, .string xt, .slice ka kn kc, .slice pa pn pc] 38)) K ⟨xk, xb, xt, ⟨ka, kn, kc⟩, ⟨pa, pn, pc⟩⟩) := by show LC _ _ _; rw [← hK]; exact heap_alloc_new _ _
  have HBA : Hid (Below W.heap.size W (W.alloc (.cells #[.int .i64 xk, .bool xb, .string xt, .slice ka kn kc, .slice pa pn pc] 38))) := (Below.refl _ _).alloc (Nat.le_refl _) _
  clear hx hcl hv hl hb hcc hn HOBJ hkr
  by_cases hv0 : xk = 0
  · subst hv0
    go_enter Tryd.func15, Tryd.ntmps15
    go_wp2
    go_ret
    exact ⟨_, rfl, .null _ _ _ _, by first | exact HBA.out | (rw [← HK.out]; exact HBA.out)⟩
  by_cases hv1 : xk = 1
  · subst hv1
    go_enter Tryd.func15, Tryd.ntmps15
    go_wp2
    go_ret
    exact ⟨_, rfl, .bool _ _ _ _, by first | exact HBA.out | (rw [← HK.out]; exact HBA.out)⟩
  by_cases hv2 : xk = 2
  · subst hv2
    go_enter Tryd.func15, Tryd.ntmps15
    go_wp2
    go_ret
    exact ⟨_, rfl, .num _ _ _ _, by first | exact HBA.out | (rw [← HK.out]; exact HBA.out)⟩
  by_cases hv3 : xk = 3
  · subst hv3
    go_enter Tryd.func15, Tryd.ntmps15
    go_wp2
    go_ret
    exact ⟨_, rfl, .txt _ _ _ _, by first | exact HBA.out | (rw [← HK.out]; exact HBA.out)⟩
  by_cases hv4 : xk = 4
  · subst hv4
    go_enter Tryd.func15, Tryd.ntmps15
    go_wp2_with fail
    go_loopw [3, 34] (fun sv v W' => ∃ k : Nat, k ≤ pn ∧ v = .int .i64 (k : Int) ∧ VI K ps ⟨4, xb, xt, ⟨ka, kn, kc⟩, ⟨pa, pn, pc⟩⟩ W' sv k ∧ Below W.heap.size W W') (fun _ v _ => pn - (intOf v).toNat)
    case atStart => exact ⟨0, Nat.zero_le _, rfl, ⟨HC.out, [], ⟨rfl, .inl ⟨rfl, rfl⟩⟩, rfl, fun i x j h => by simp at h⟩, HBA.out⟩
    case round =>
      obtain ⟨k, hk, rfl, ⟨hlc, vs, hrow, hvl, hvs⟩, hbw⟩ := hrel
      have HLC : Hid (LC wr K ⟨4, xb, xt, ⟨ka, kn, kc⟩, ⟨pa, pn, pc⟩⟩) := hlc
      have HRW : Hid (wr.ownsRow (K + 1) 31 1 u3 k vs) := hrow
      have HVL : Hid (vs.length = k) := hvl
      have HVS : Hid (∀ (i : Nat) (x : Value) (j : JT), vs[i]? = some x → ps[i]? = some j → VT (fun b => K ≤ b ∧ u3.ownBlock ≠ some b) wr x j) := hvs
      have HBW : Hid (Below W.heap.size W wr) := hbw
      obtain ⟨z0, z1, z2, z3, z4⟩ := hlc.cells
      simp only at z0 z1 z2 z3 z4
      have hKl := hlc.lt
      clear hlc hbw HC HBA hrow hvl hvs
      by_cases hlt : k < pn
      · rcases HXX.out with h0 | ⟨b, o, rfl, -, hlb, hm⟩
        · omega
        obtain ⟨y, hy⟩ : ∃ y, xs[k]? = some y := ⟨xs[k]'(by have := HLX.out; omega), List.getElem?_eq_getElem _⟩
        obtain ⟨j, hj⟩ : ∃ j, ps[k]? = some j := ⟨ps[k]'(by have := HLP.out; omega), List.getElem?_eq_getElem _⟩
        have HBT : Hid (Below w.heap.size w wr) := HB.out.trans (HBW.out.mono HB.out.size)
        obtain ⟨c0, c1, c2, c3, c4⟩ := tcs_cells hm HBT.out hlb hy
        have HCL := HV.out k y j hy hj wr HBT.out
        have HJ : Hid (ps[k]? = some j) := hj
        obtain ⟨yk, yb, yt, ⟨ya, yn, yc⟩, ⟨qa, qn, qc⟩⟩ := y
        rw [show Tv.val ⟨yk, yb, yt, ⟨ya, yn, yc⟩, ⟨qa, qn, qc⟩⟩ = .agg #[.int .i64 yk, .bool yb, .string yt, .slice ya yn yc, .slice qa qn qc] from rfl] at HCL
        simp only at c0 c1 c2 c3 c4
        clear hm hlb hy hj
        have HCL2 : Hid _ := HCL
        clear HCL
        go_wp2_with fail
        refine Calls.mono HCL2.out ?_
        rintro e W2 ⟨v, rfl, hvt, hb2⟩
        have HI : Hid (IsI v) := hvt.isI
        have hI := hvt.isI
        have HVT : Hid (VT (fun b => wr.heap.size ≤ b) W2 v j) := hvt
        have HB2 : Hid (Below wr.heap.size wr W2) := hb2
        obtain ⟨W3, hW3⟩ : ∃ W3, W2.alloc (.cells #[v] 31) = W3 := ⟨_, rfl⟩
        have HW3 : Hid (W2.alloc (.cells #[v] 31) = W3) := hW3
        have HB3 : Hid (Below W2.heap.size W2 W3) := by show Below _ _ _; rw [← hW3]; exact (Below.refl _ _).alloc (Nat.le_refl _) _
        have HR3 : Hid (W3.ownsRow (K + 1) 31 1 u3 k vs) := own_keep HRW.out (fun b e => (HB3.out.block b (Nat.lt_of_lt_of_le (own_lt HRW.out b e).2 HB2.out.size)).trans (HB2.out.block b (own_lt HRW.out b e).2))
        have HC3 : Hid (W3.cell? ⟨W2.heap.size, 0, none⟩ = some v) := by show _ = _; rw [← hW3]; exact cell_alloc W2 #[v] _ _ 0
        have HBK : Hid (K + 1 ≤ W3.heap.size) := by show _ ≤ _; have := HB2.out.size; have := HB3.out.size; omega
        have hk9 : k ≤ 1000000000 := by omega
        have hv1 : v.oneCell' = true := hI.one
        clear hvt hb2 HCL2 c0 c1 c2 c3 c4 hW3
        rcases hI with ⟨it, ip, rfl⟩ | rfl
        all_goals (
          go_wp2_with (first
            | (refine bs_val rfl (.tmp 43) rfl _ hv1 rfl ?_; rw [HW3.out])
            | (at_builtin; refine app_val rfl (.tmp 37) (.tmp 44) rfl u3 k vs rfl HR3.out W2.heap.size _ rfl HC3.out hv1 hk9 HBK.out ?_
               intro sv' W4 o1 o2 o3
               have HVI : Hid (VI K ps ⟨4, xb, xt, ⟨ka, kn, kc⟩, ⟨some ⟨b, o, none⟩, pn, pc⟩⟩ W4 sv' (k + 1)) := VI.push HLC.out HRW.out HVL.out HVS.out HB2.out HVT.out HJ.out HB3.out o1 o2 o3
               have HB4 : Hid (Below W.heap.size W W4) := (bl_tr (bl_tr HBW.out HB2.out) HB3.out).grown o2 (Nat.le_trans (bl_tr (bl_tr HBW.out HB2.out) HB3.out).size (Nat.le_refl _)) (fun b e => by have := (own_lt HRW.out b e).1; have := HK.out; omega)
               clear o1 o2 o3))
          go_roundw
          case rel => exact ⟨k + 1, hlt, by go_num, HVI.out, HB4.out⟩
          case measure => simp [intOf]; omega)
      · have hkp : k = pn := by omega
        have HF : Hid (VT (fun b => W.heap.size ≤ b) wr (.iface 49 u3) (.mk 4 xb xt ks ps)) := by
          refine .lst xb xt ks ps u3 vs (own_rv HRW.out (fun b e => by have := (own_lt HRW.out b e).1; have := HK.out; show _ ≤ _; omega)) (by have := HVL.out; have := HLP.out; omega) (fun i x j hx hj => (HVS.out i x j hx hj).keep (fun b hbb hlt => ⟨by have := hbb.1; have := HK.out; show _ ≤ _; omega, rfl⟩) (Nat.le_refl _))
        clear hkp
        go_wp2
        go_ret
        exact ⟨_, rfl, by first | exact HF.out | (rw [← HK.out]; exact HF.out), by first | exact HBW.out | (rw [← HK.out]; exact HBW.out)⟩
  have k0 : (xk == 0) = false := beq_eq_false_iff_ne.2 hv0
  have k1 : (xk == 1) = false := beq_eq_false_iff_ne.2 hv1
  have k2 : (xk == 2) = false := beq_eq_false_iff_ne.2 hv2
  have k3 : (xk == 3) = false := beq_eq_false_iff_ne.2 hv3
  have k4 : (xk == 4) = false := beq_eq_false_iff_ne.2 hv4
  have k5 : (xk == 5) = false := beq_eq_false_iff_ne.2 hv5
  have HN : Hid (xk < 0 ∨ 5 < xk) := by show _ ∨ _; omega
  clear hv0 hv1 hv2 hv3 hv4 hv5
  go_enter Tryd.func15, Tryd.ntmps15
  go_wp2
  go_ret
  exact ⟨_, rfl, .nil _ _ _ _ _ HN.out, by first | exact HBA.out | (rw [← HK.out]; exact HBA.out)⟩
end Go.Proofs.YtefaohokmhdplaaDoor
