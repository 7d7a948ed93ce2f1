/- The law's trees in memory; how deep they are. -/
import Derived.Test.YtefaohokmhdplaaDoorJxJ
import Derived.Test.YtefaohokmhdplaaDoorJxL
namespace Go.Proofs.YtefaohokmhdplaaDoor
open Go Go.RowKit
set_option linter.unusedSimpArgs false
set_option linter.unusedVariables false
set_option maxRecDepth 100000

/-- A tree of the law's. -/
inductive JT
  | mk (k : Int) (b : Bool) (t : ByteArray) (ks : List ByteArray) (ps : List JT)
/-- It lies in memory. -/
inductive LT (A : Nat → Prop) (w : World) : Tv → JT → Prop
  | mk (x : Tv) (ks : List ByteArray) (xs : List Tv) (ps : List JT) (hk : RV A w 1 x.ks.v (keyc ks)) (h : RV A w 5 x.ps.v (tcs xs)) (hl : xs.length = ps.length) (hv : ∀ (i : Nat) (y : Tv) (j : JT), xs[i]? = some y → ps[i]? = some j → LT A w y j) : LT A w x (.mk x.k x.b x.t ks ps)
mutual
/-- More lists and objects in one another than m. -/
def dpM : JT → Int → Bool
  | .mk k _ _ _ ps, m => if m < 0 then true else (if k = 4 ∨ k = 5 then dpL ps (m - 1) || decide (m < 1) else false)
def dpL : List JT → Int → Bool
  | [], _ => false
  | p :: r, m => dpM p m || dpL r m
end
theorem dpL_drop {ps : List JT} {m : Int} {k : Nat} {j : JT} (h : ps[k]? = some j) : dpL (ps.drop k) m = (dpM j m || dpL (ps.drop (k + 1)) m) := by
  obtain ⟨hk, rfl⟩ := List.getElem?_eq_some_iff.1 h
  rw [List.drop_eq_getElem_cons hk]
  simp only [dpL]
theorem dpL_end {ps : List JT} {m : Int} {k : Nat} (h : ps.length ≤ k) : dpL (ps.drop k) m = false := by rw [List.drop_eq_nil_of_le h]; rfl
def LC (W : World) (b : Nat) (x : Tv) : Prop := W.heap[b]? = some (.cells (tcv x).toArray 38 (0, 0))
theorem LC.cells {W : World} {b : Nat} {x : Tv} (h : LC W b x) : W.cell? ⟨b, 0, none⟩ = some (.int .i64 x.k) ∧ W.cell? ⟨b, 1, none⟩ = some (.bool x.b) ∧ W.cell? ⟨b, 2, none⟩ = some (.string x.t) ∧ W.cell? ⟨b, 3, none⟩ = some (.slice x.ks.ad x.ks.n x.ks.c) ∧ W.cell? ⟨b, 4, none⟩ = some (.slice x.ps.ad x.ps.n x.ps.c) := by
  have e : W.heap[b]? = _ := h
  refine ⟨?_, ?_, ?_, ?_, ?_⟩
  · simp only [World.cell?, e]; simp [tcv]
  · simp only [World.cell?, e]; simp [tcv]
  · simp only [World.cell?, e]; simp [tcv]
  · simp only [World.cell?, e]; simp [tcv, Sv.v]
  · simp only [World.cell?, e]; simp [tcv, Sv.v]
theorem LC.keep {W W' : World} {b : Nat} {x : Tv} (h : LC W b x) (k : W'.heap[b]? = W.heap[b]?) : LC W' b x := k.trans h
theorem LC.lt {W : World} {b : Nat} {x : Tv} (h : LC W b x) : b < W.heap.size := (Array.getElem?_eq_some_iff.1 h).1
/-- The cells of one tree in a row. -/
theorem tcs_cells {w W : World} {b o k : Nat} {xs : List Tv} {y : Tv} (hm : w.rangeAt b o (tcs xs)) (hb : Below w.heap.size w W) (hlb : b < w.heap.size) (h : xs[k]? = some y) :
    W.cell? ⟨b, o + k * 5, none⟩ = some (.int .i64 y.k) ∧ W.cell? ⟨b, o + k * 5 + 1, none⟩ = some (.bool y.b) ∧ W.cell? ⟨b, o + k * 5 + 2, none⟩ = some (.string y.t) ∧ W.cell? ⟨b, o + k * 5 + 3, none⟩ = some (.slice y.ks.ad y.ks.n y.ks.c) ∧ W.cell? ⟨b, o + k * 5 + 4, none⟩ = some (.slice y.ps.ad y.ps.n y.ps.c) := by
  have c : ∀ j, j < 5 → ∀ v, (tcv y)[j]? = some v → W.cell? ⟨b, o + k * 5 + j, none⟩ = some v := fun j hj v hv => by
    have e := (hb.cell (p := ⟨b, o + k * 5 + j, none⟩) hlb)
    rw [e, Nat.add_assoc]
    exact hm _ _ (by rw [tcs_at xs k y h j hj]; exact hv)
  exact ⟨c 0 (by omega) _ rfl, c 1 (by omega) _ rfl, c 2 (by omega) _ rfl, c 3 (by omega) _ rfl, c 4 (by omega) _ rfl⟩
def DPC (w : World) (x : Tv) (j : JT) : Prop := ∀ (W : World) (m : Int), Below w.heap.size w W → -1 ≤ m → m ≤ 1000 → Calls Tryd.prog 13 #[x.val, .int .i64 m] W fun e W' => e = .returned (.bool (dpM j m)) ∧ Below W.heap.size W W'
set_option maxHeartbeats 16000000 in
theorem deep_walk {A : Nat → Prop} {w : World} {x : Tv} {ks : List ByteArray} {xs : List Tv} {ps : List JT} (h : RV A w 5 x.ps.v (tcs xs)) (hl : xs.length = ps.length) (hl2 : ps.length ≤ 140737488355328) (hv : ∀ (i : Nat) (y : Tv) (j : JT), xs[i]? = some y → ps[i]? = some j → DPC w y j) : DPC w x (.mk x.k x.b x.t ks ps) := by
  intro W m hb hm0 hm1
  obtain ⟨xk, xb, xt, ⟨ka, kn, kc⟩, ⟨pa, pn, pc⟩⟩ := x
  obtain ⟨ad, n, cap, hsl, hcl, hcc, hx⟩ := h
  cases hsl
  rw [tcs_length] at hcl
  have hcl : xs.length * 5 = pn * 5 := hcl
  have hn : pn = ps.length := by omega
  have HXX : Hid (pn = 0 ∨ ∃ b o, pa = some ⟨b, o, none⟩ ∧ A b ∧ b < w.heap.size ∧ w.rangeAt b o (tcs xs)) := hx
  have HLX : Hid (xs.length = pn) := by show _ = _; omega
  have HLP : Hid (ps.length = pn) := hn.symm
  have HV : Hid (∀ (i : Nat) (y : Tv) (j : JT), xs[i]? = some y → ps[i]? = some j → DPC w y j) := hv
  have HB : Hid (Below w.heap.size w W) := hb
  obtain ⟨D, hD⟩ : ∃ D, dpM (.mk xk xb xt ks ps) m = D := ⟨_, rfl⟩
  have HD : Hid (dpM (.mk xk xb xt ks ps) m = D) := hD
  show Calls Tryd.prog 13 #[Tv.val ⟨xk, xb, xt, ⟨ka, kn, kc⟩, ⟨pa, pn, pc⟩⟩, .int .i64 m] W fun e W' => e = .returned (.bool (dpM (.mk xk xb xt ks ps) m)) ∧ Below W.heap.size W W'
  rw [hD, show Tv.val ⟨xk, xb, xt, ⟨ka, kn, kc⟩, ⟨pa, pn, pc⟩⟩ = .agg #[.int .i64 xk, .bool xb, .string xt, .slice ka kn kc, .slice pa pn pc] from rfl]
  obtain ⟨K, hK⟩ : ∃ K, W.heap.size = K := ⟨_, rfl⟩
  have HK : Hid (W.heap.size = K) := hK
  have HC : Hid (LC (W.alloc (.cells #[.int .i64 xk, .bool xb, .string xt, .slice ka kn kc, .slice pa pn pc] 38)) K ⟨xk, xb, xt, ⟨ka, kn, kc⟩, ⟨pa, pn, pc⟩⟩) := by show LC _ _ _; rw [← hK]; exact heap_alloc_new _ _
  have HBA : Hid (Below W.heap.size W (W.alloc (.cells #[.int .i64 xk, .bool xb, .string xt, .slice ka kn kc, .slice pa pn pc] 38))) := (Below.refl _ _).alloc (Nat.le_refl _) _
  have hpn : (pn : Int) ≤ 140737488355328 := by omega
  clear hx hcl hv hl hb hD hcc hn
  by_cases hneg : m < 0
  · have HDD : Hid (D = true) := by show _ = _; rw [← HD.out]; simp only [dpM]; rw [if_pos hneg]
    go_enter Tryd.func13, Tryd.ntmps13
    go_wp2
    go_ret
    exact ⟨by rw [HDD.out]; rfl, by first | exact HBA.out | (rw [← HK.out]; exact HBA.out)⟩
  by_cases hv4 : xk = 4
  · skip
    subst hv4
    have HDD : Hid ((dpL ps (m - 1) || decide (m < 1)) = D) := by show _ = _; rw [← HD.out]; simp only [dpM]; rw [if_neg hneg, if_pos (by decide)]
    clear HD
    go_enter Tryd.func13, Tryd.ntmps13
    go_wp2_with fail
    go_loopw [11] (fun v W' => ∃ k : Nat, k ≤ pn ∧ v = .int .i64 (k : Int) ∧ dpL (ps.drop k) (m - 1) = dpL ps (m - 1) ∧ LC W' K ⟨4, xb, xt, ⟨ka, kn, kc⟩, ⟨pa, pn, pc⟩⟩ ∧ Below W.heap.size W W') (fun v _ => pn - (intOf v).toNat)
    case atStart => exact ⟨0, Nat.zero_le _, rfl, rfl, HC.out, HBA.out⟩
    case round =>
      obtain ⟨k, hk, rfl, hdp, hlc, hbw⟩ := hrel
      have HDP : Hid (dpL (ps.drop k) (m - 1) = dpL ps (m - 1)) := hdp
      have HLC : Hid (LC wr K ⟨4, xb, xt, ⟨ka, kn, kc⟩, ⟨pa, pn, pc⟩⟩) := hlc
      have HBW : Hid (Below W.heap.size W wr) := hbw
      obtain ⟨z0, z1, z2, z3, z4⟩ := hlc.cells
      simp only at z0 z1 z2 z3 z4
      clear hdp hlc hbw HC HBA
      by_cases hlt : k < pn
      · rcases HXX.out with h0 | ⟨b, o, rfl, -, hlb, hm⟩
        · omega
        obtain ⟨y, hy⟩ : ∃ y, xs[k]? = some y := ⟨xs[k]'(by have := HLX.out; omega), List.getElem?_eq_getElem _⟩
        obtain ⟨j, hj⟩ : ∃ j, ps[k]? = some j := ⟨ps[k]'(by have := HLP.out; omega), List.getElem?_eq_getElem _⟩
        have HBT : Hid (Below w.heap.size w wr) := HB.out.trans (HBW.out.mono HB.out.size)
        obtain ⟨c0, c1, c2, c3, c4⟩ := tcs_cells hm HBT.out hlb hy
        have HCL := HV.out k y j hy hj wr (m - 1) HBT.out (by omega) (by omega)
        have HST : Hid (dpL (ps.drop k) (m - 1) = (dpM j (m - 1) || dpL (ps.drop (k + 1)) (m - 1))) := dpL_drop hj
        obtain ⟨yk, yb, yt, ⟨ya, yn, yc⟩, ⟨qa, qn, qc⟩⟩ := y
        rw [show Tv.val ⟨yk, yb, yt, ⟨ya, yn, yc⟩, ⟨qa, qn, qc⟩⟩ = .agg #[.int .i64 yk, .bool yb, .string yt, .slice ya yn yc, .slice qa qn qc] from rfl] at HCL
        simp only at c0 c1 c2 c3 c4
        obtain ⟨r, hr⟩ : ∃ r, dpM j (m - 1) = r := ⟨_, rfl⟩
        rw [hr] at HCL HST
        clear hm hlb hy hj hr
        have HCL2 : Hid _ := HCL
        clear HCL
        go_wp2_with fail
        refine Calls.mono HCL2.out ?_
        rintro e W2 ⟨rfl, hb2⟩
        have HLC2 : Hid (LC W2 K ⟨4, xb, xt, ⟨ka, kn, kc⟩, ⟨some ⟨b, o, none⟩, pn, pc⟩⟩) := HLC.out.keep (hb2.block _ HLC.out.lt)
        have HBW2 : Hid (Below W.heap.size W W2) := bl_tr HBW.out hb2
        clear hb2 HCL2 c0 c1 c2 c3 c4 z0 z1 z2 z3 z4
        cases r with
        | true =>
          have HDT : Hid (D = true) := by show _ = _; rw [← HDD.out, ← HDP.out, HST.out]; rfl
          go_wp2
          go_ret
          exact ⟨by rw [HDT.out]; rfl, by first | exact HBW2.out | (rw [← HK.out]; exact HBW2.out)⟩
        | false =>
          have HN : Hid (dpL (ps.drop (k + 1)) (m - 1) = dpL ps (m - 1)) := by show _ = _; rw [← HDP.out, HST.out]; rfl
          go_wp2
          go_roundw
          case rel => exact ⟨k + 1, hlt, by go_num, HN.out, HLC2.out, HBW2.out⟩
          case measure => simp [intOf]; omega
      · have HDT : Hid (D = decide (m < 1)) := by show _ = _; rw [← HDD.out, ← HDP.out, dpL_end (by have := HLP.out; omega)]; rfl
        by_cases h1 : m < 1
        · have HDU : Hid (D = true) := by show _ = _; rw [HDT.out]; exact decide_eq_true h1
          go_wp2
          go_ret
          exact ⟨by rw [HDU.out]; rfl, by first | exact HBW.out | (rw [← HK.out]; exact HBW.out)⟩
        · have HDU : Hid (D = false) := by show _ = _; rw [HDT.out]; exact decide_eq_false h1
          go_wp2
          go_ret
          exact ⟨by rw [HDU.out]; rfl, by first | exact HBW.out | (rw [← HK.out]; exact HBW.out)⟩
  by_cases hv5 : xk = 5
  · skip
    subst hv5
    have HDD : Hid ((dpL ps (m - 1) || decide (m < 1)) = D) := by show _ = _; rw [← HD.out]; simp only [dpM]; rw [if_neg hneg, if_pos (by decide)]
    clear HD
    go_enter Tryd.func13, Tryd.ntmps13
    go_wp2_with fail
    go_loopw [11] (fun v W' => ∃ k : Nat, k ≤ pn ∧ v = .int .i64 (k : Int) ∧ dpL (ps.drop k) (m - 1) = dpL ps (m - 1) ∧ LC W' K ⟨5, xb, xt, ⟨ka, kn, kc⟩, ⟨pa, pn, pc⟩⟩ ∧ Below W.heap.size W W') (fun v _ => pn - (intOf v).toNat)
    case atStart => exact ⟨0, Nat.zero_le _, rfl, rfl, HC.out, HBA.out⟩
    case round =>
      obtain ⟨k, hk, rfl, hdp, hlc, hbw⟩ := hrel
      have HDP : Hid (dpL (ps.drop k) (m - 1) = dpL ps (m - 1)) := hdp
      have HLC : Hid (LC wr K ⟨5, xb, xt, ⟨ka, kn, kc⟩, ⟨pa, pn, pc⟩⟩) := hlc
      have HBW : Hid (Below W.heap.size W wr) := hbw
      obtain ⟨z0, z1, z2, z3, z4⟩ := hlc.cells
      simp only at z0 z1 z2 z3 z4
      clear hdp hlc hbw HC HBA
      by_cases hlt : k < pn
      · rcases HXX.out with h0 | ⟨b, o, rfl, -, hlb, hm⟩
        · omega
        obtain ⟨y, hy⟩ : ∃ y, xs[k]? = some y := ⟨xs[k]'(by have := HLX.out; omega), List.getElem?_eq_getElem _⟩
        obtain ⟨j, hj⟩ : ∃ j, ps[k]? = some j := ⟨ps[k]'(by have := HLP.out; omega), List.getElem?_eq_getElem _⟩
        have HBT : Hid (Below w.heap.size w wr) := HB.out.trans (HBW.out.mono HB.out.size)
        obtain ⟨c0, c1, c2, c3, c4⟩ := tcs_cells hm HBT.out hlb hy
        have HCL := HV.out k y j hy hj wr (m - 1) HBT.out (by omega) (by omega)
        have HST : Hid (dpL (ps.drop k) (m - 1) = (dpM j (m - 1) || dpL (ps.drop (k + 1)) (m - 1))) := dpL_drop hj
        obtain ⟨yk, yb, yt, ⟨ya, yn, yc⟩, ⟨qa, qn, qc⟩⟩ := y
        rw [show Tv.val ⟨yk, yb, yt, ⟨ya, yn, yc⟩, ⟨qa, qn, qc⟩⟩ = .agg #[.int .i64 yk, .bool yb, .string yt, .slice ya yn yc, .slice qa qn qc] from rfl] at HCL
        simp only at c0 c1 c2 c3 c4
        obtain ⟨r, hr⟩ : ∃ r, dpM j (m - 1) = r := ⟨_, rfl⟩
        rw [hr] at HCL HST
        clear hm hlb hy hj hr
        have HCL2 : Hid _ := HCL
        clear HCL
        go_wp2_with fail
        refine Calls.mono HCL2.out ?_
        rintro e W2 ⟨rfl, hb2⟩
        have HLC2 : Hid (LC W2 K ⟨5, xb, xt, ⟨ka, kn, kc⟩, ⟨some ⟨b, o, none⟩, pn, pc⟩⟩) := HLC.out.keep (hb2.block _ HLC.out.lt)
        have HBW2 : Hid (Below W.heap.size W W2) := bl_tr HBW.out hb2
        clear hb2 HCL2 c0 c1 c2 c3 c4 z0 z1 z2 z3 z4
        cases r with
        | true =>
          have HDT : Hid (D = true) := by show _ = _; rw [← HDD.out, ← HDP.out, HST.out]; rfl
          go_wp2
          go_ret
          exact ⟨by rw [HDT.out]; rfl, by first | exact HBW2.out | (rw [← HK.out]; exact HBW2.out)⟩
        | false =>
          have HN : Hid (dpL (ps.drop (k + 1)) (m - 1) = dpL ps (m - 1)) := by show _ = _; rw [← HDP.out, HST.out]; rfl
          go_wp2
          go_roundw
          case rel => exact ⟨k + 1, hlt, by go_num, HN.out, HLC2.out, HBW2.out⟩
          case measure => simp [intOf]; omega
      · have HDT : Hid (D = decide (m < 1)) := by show _ = _; rw [← HDD.out, ← HDP.out, dpL_end (by have := HLP.out; omega)]; rfl
        by_cases h1 : m < 1
        · have HDU : Hid (D = true) := by show _ = _; rw [HDT.out]; exact decide_eq_true h1
          go_wp2
          go_ret
          exact ⟨by rw [HDU.out]; rfl, by first | exact HBW.out | (rw [← HK.out]; exact HBW.out)⟩
        · have HDU : Hid (D = false) := by show _ = _; rw [HDT.out]; exact decide_eq_false h1
          go_wp2
          go_ret
          exact ⟨by rw [HDU.out]; rfl, by first | exact HBW.out | (rw [← HK.out]; exact HBW.out)⟩
  have hk4 : (xk == 4) = false := beq_eq_false_iff_ne.2 hv4
  have hk5 : (xk == 5) = false := beq_eq_false_iff_ne.2 hv5
  have HDF : Hid (D = false) := by show _ = _; rw [← HD.out]; simp only [dpM]; rw [if_neg hneg, if_neg (by omega)]
  clear HD
  go_enter Tryd.func13, Tryd.ntmps13
  go_wp2_with fail
  go_loopw [11] (fun v W' => ∃ k : Nat, k ≤ pn ∧ v = .int .i64 (k : Int) ∧ LC W' K ⟨xk, xb, xt, ⟨ka, kn, kc⟩, ⟨pa, pn, pc⟩⟩ ∧ Below W.heap.size W W') (fun v _ => pn - (intOf v).toNat)
  case atStart => exact ⟨0, Nat.zero_le _, rfl, HC.out, HBA.out⟩
  case round =>
    obtain ⟨k, hk, rfl, hlc, hbw⟩ := hrel
    have HLC : Hid (LC wr K ⟨xk, xb, xt, ⟨ka, kn, kc⟩, ⟨pa, pn, pc⟩⟩) := hlc
    have HBW : Hid (Below W.heap.size W wr) := hbw
    obtain ⟨z0, z1, z2, z3, z4⟩ := hlc.cells
    simp only at z0 z1 z2 z3 z4
    clear hlc hbw HC HBA
    by_cases hlt : k < pn
    · go_wp2
      go_roundw
      case rel => exact ⟨k + 1, hlt, by go_num, HLC.out, HBW.out⟩
      case measure => simp [intOf]; omega
    · go_wp2
      go_ret
      exact ⟨by rw [HDF.out]; rfl, by first | exact HBW.out | (rw [← HK.out]; exact HBW.out)⟩
/-- Trees of at most so many parts, keys and letters. -/
inductive SJ : JT → Prop
  | mk (k : Int) (b : Bool) (t : ByteArray) (ks : List ByteArray) (ps : List JT) (h1 : t.size ≤ 1048576) (h2 : ps.length ≤ 1048576) (h3 : ks.length ≤ 1048576) (h4 : ∀ g ∈ ks, g.size ≤ 1048576) (h5 : ∀ p ∈ ps, SJ p) : SJ (.mk k b t ks ps)
theorem deep_any {A : Nat → Prop} {w : World} {x : Tv} {j : JT} (h : LT A w x j) : SJ j → DPC w x j := by
  induction h with
  | mk x ks xs ps hk hr hl hv ih =>
    intro hs
    cases hs with
    | mk _ _ _ _ _ h1 h2 h3 h4 h5 => exact deep_walk hr hl (by omega) (fun i y j hy hj => ih i y j hy hj (h5 j (List.mem_of_getElem? hj)))
end Go.Proofs.YtefaohokmhdplaaDoor
