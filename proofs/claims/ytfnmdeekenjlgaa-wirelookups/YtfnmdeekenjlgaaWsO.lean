/- The reference: readNodes. -/
import Derived.Test.YtfnmdeekenjlgaaWsN
import Derived.Test.YtfnmdeekenjlgaaWirL
namespace Go.Proofs.Ytfnmdeekenjlgaa
open Go Go.RowKit
set_option linter.unusedSimpArgs false
set_option linter.unusedVariables false
set_option maxRecDepth 100000

theorem or2 (z0 z1 : Int) (a0 : 0 ≤ z0) (a0' : z0 ≤ 255) (a1 : 0 ≤ z1) (a1' : z1 ≤ 255) : bits .or .i64 (z0 * 256) z1 = z0 * 256 + z1 := by
  obtain ⟨n0, rfl⟩ := Int.eq_ofNat_of_zero_le a0
  obtain ⟨n1, rfl⟩ := Int.eq_ofNat_of_zero_le a1
  have e1 := or_i64 n0 n1 8 (by omega) (by omega)
  have f1 : ((n0 : Int) * 256) = ((n0 * 2 ^ 8 : Nat) : Int) := by omega
  rw [f1, e1]
  omega
theorem two_of (l : List Int) (h : 2 ≤ l.length) : l.take 2 = [gi l 0, gi l 1] := by
  match l, h with
  | a :: b :: l, _ => rfl
  | [], h => simp at h
  | [_], h => simp at h
theorem nd_two {xs : List Int} (hb : Byt xs) {k : Nat} (hk : k * 66 + 66 ≤ xs.length) : (ndAt xs k).n = gi xs (k * 66) * 256 + gi xs (k * 66 + 1) := by
  show nm (cut xs (k * 66) 2) = _
  unfold cut
  rw [nm_plain _ ((hb.drop _).take 2) (by rw [List.length_take]; omega), two_of _ (by rw [List.length_drop]; omega), gi_drop, gi_drop]
  simp only [pv, List.length_cons, List.length_nil, Nat.add_zero]
  omega
theorem built_n (z : Int) : Try.prog.built 94 [(0, .int .i64 z)] = some (nc ⟨z, z32, z32⟩).toArray := by kernel_rfl
theorem build_n (z : Int) (w : World) : (Instr.build 94 #[(0, .int .i64 z)]).run Try.prog w = .ok (.agg (nc ⟨z, z32, z32⟩).toArray) w := run_build w _ _ _ (built_n z)
theorem laid_whole (w : World) {Z : Array Value} {cs : List Value} (t : TypeId) (hz : cs.length = Z.size) : ((w.alloc (.cells Z t)).setCells w.heap.size 0 cs).heap[w.heap.size]? = some (.cells cs.toArray t (0, 0)) := by
  have hn : (w.alloc (.cells Z t)).heap[w.heap.size]? = some (.cells Z t (0, 0)) := World.alloc_heap_new w _
  obtain ⟨cs', h1, h2⟩ := heap_setCells_same cs 0 (w.alloc (.cells Z t)) Z hn
  have hr : ((w.alloc (.cells Z t)).setCells w.heap.size 0 cs).rangeAt w.heap.size 0 cs := World.rangeAt_setCells_same _ _ _ _ (there_new w hz)
  have := row_is hr h1 (by rw [h2, hz])
  rw [h1, ← this]
theorem sl2 (b o M cap lo hi : Nat) (h1 : lo ≤ hi) (h2 : hi ≤ cap) (h3 : lo < cap) (W : World) : (Instr.sliceAt 34 (.slice (some ⟨b, o, none⟩) M cap) (some (.int .i64 (lo : Int))) (some (.int .i64 (hi : Int))) none).run Try.prog W = .ok (.slice (some ⟨b, o + lo, none⟩) (hi - lo) (cap - lo)) W := by
  go_simp
  intro e; omega
theorem grown_setRow (W : World) (D : Nat) (X : Array Value) : W.grownBy (W.setRow D X) (some D) := ⟨rfl, rfl, rfl, by simp [World.setRow], fun j _ hj => setRow_other W D j _ (fun e => hj (by rw [e]))⟩
theorem grown_setRow' (W : World) (D : Nat) (X : Array Value) : W.grownBy (W.drew.setRow D X) (some D) := ⟨rfl, rfl, rfl, (grown_setRow W.drew D X).size, fun j _ hj => setRow_other W.drew D j _ (fun e => hj (by rw [e]))⟩
/-- A node laid in a new block. -/
def rnΩ (W0 : World) (X : Nd) : Nat → (Nat → Value) → World → Prop
  | 0, _, W => W = W0
  | 1, U, W => U 0 = .pointer (some ⟨W0.heap.size, 0, none⟩) ∧ W = W0.alloc (.cells (nc ndz).toArray 94)
  | _ + 2, U, W => U 0 = .pointer (some ⟨W0.heap.size, 0, none⟩) ∧ W = (W0.alloc (.cells (nc ndz).toArray 94)).setCells W0.heap.size 0 (nc X)
/-- A row written over. -/
def rqΩ (W0 W1 : World) : Nat → (Nat → Value) → World → Prop
  | 0, _, W => W = W0
  | _ + 1, U, W => W = W1
theorem nc_put1 (z : Int) {p : List Int} (hp : L32 p) : (nc ⟨z, z32, z32⟩).take 1 ++ bv p ++ (nc ⟨z, z32, z32⟩).drop (1 + (bv p).length) = nc ⟨z, p, z32⟩ := by
  rw [bv_length, hp.len]
  show [Value.int .i64 z] ++ bv p ++ _ = Value.int .i64 z :: (bv p ++ bv z32)
  have : (nc ⟨z, z32, z32⟩).drop (1 + 32) = bv z32 := by rfl
  rw [this]; simp
theorem nc_put2 (z : Int) {p q : List Int} (hp : L32 p) (hq : L32 q) : (nc ⟨z, p, z32⟩).take 33 ++ bv q ++ (nc ⟨z, p, z32⟩).drop (33 + (bv q).length) = nc ⟨z, p, q⟩ := by
  have e : nc ⟨z, p, z32⟩ = (Value.int .i64 z :: bv p) ++ bv z32 := by simp [nc]
  have l : (Value.int .i64 z :: bv p).length = 33 := by simp [bv_length, hp.len]
  rw [e, List.take_append_of_le_length (by omega), List.take_of_length_le (by omega), List.drop_of_length_le (by simp [bv_length, hq.len, hp.len, z32])]
  simp [nc]
theorem cell_old {w : World} {b o : Nat} {u : Value} {X : Obj} (h : w.cell? ⟨b, o, none⟩ = some u) (hb : b < w.heap.size) : (w.alloc X).cell? ⟨b, o, none⟩ = some u := (((Below.refl w.heap.size w).alloc (Nat.le_refl _) X).cell (p := ⟨b, o, none⟩) hb).trans h
theorem setRow_same {w : World} {D : Nat} {X Y : Array Value} {t : TypeId} (h : w.heap[D]? = some (.cells X t (0, 0))) : (w.setRow D Y).heap[D]? = some (.cells Y t (0, 0)) := setRow_heap w D _ _ t _ h
theorem below_setRow {B D : Nat} {w W : World} {X : Array Value} (h : Below B w W) (hD : B ≤ D) : Below B w (W.setRow D X) := h.trans ⟨rfl, rfl, rfl, by simp [World.setRow], fun k hk => setRow_other W D k _ (by omega)⟩
def rn7f (b o M cap K K1 : Nat) (g0 g1 z : Int) : Nat → Value
  | 0 => .slice (some ⟨b, o, none⟩) M cap
  | 1 => .int .i64 (K : Int)
  | 2 => .pointer (some ⟨b, o + K, none⟩)
  | 3 => .int .u8 g0
  | 4 => .int .i64 g0
  | 5 => .int .i64 (g0 * 256)
  | 6 => .slice (some ⟨b, o, none⟩) M cap
  | 7 => .int .i64 (K : Int)
  | 8 => .int .i64 (K1 : Int)
  | 9 => .pointer (some ⟨b, o + K1, none⟩)
  | 10 => .int .u8 g1
  | 11 => .int .i64 g1
  | 12 => .int .i64 z
  | 13 => .agg (nc ⟨z, z32, z32⟩).toArray
  | 14 => undef
  | 15 => undef
  | _ => undef
def rn8f (b o M cap K K2 K34 D : Nat) : Nat → Value
  | 0 => .pointer (some ⟨D, 1, none⟩)
  | 1 => .slice (some ⟨D, 1, none⟩) 32 32
  | 2 => .slice (some ⟨b, o, none⟩) M cap
  | 3 => .int .i64 (K : Int)
  | 4 => .int .i64 (K2 : Int)
  | 5 => .int .i64 (K : Int)
  | 6 => .int .i64 (K34 : Int)
  | 7 => .slice (some ⟨b, o + K2, none⟩) (K34 - K2) (cap - K2)
  | 8 => undef
  | _ => undef
def rn9f (b o M cap K K34 K66 D : Nat) : Nat → Value
  | 0 => .pointer (some ⟨D, 33, none⟩)
  | 1 => .slice (some ⟨D, 33, none⟩) 32 32
  | 2 => .slice (some ⟨b, o, none⟩) M cap
  | 3 => .int .i64 (K : Int)
  | 4 => .int .i64 (K34 : Int)
  | 5 => .int .i64 (K : Int)
  | 6 => .int .i64 (K66 : Int)
  | 7 => .slice (some ⟨b, o + K34, none⟩) (K66 - K34) (cap - K34)
  | 8 => undef
  | _ => undef
set_option maxHeartbeats 8000000 in
theorem rreadNodes_any (xs : List Int) (v : Value) (w : World) (hb : Byt xs) (hs : Sl w v xs) (hl : xs.length ≤ 1048576) :
    Calls Try.prog 37 #[v] w fun e w' => ∃ v', e = .returned (.tuple #[v', .bool (rnb xs)]) ∧ NO w.heap.size w' v' (rdn xs) ∧ Below w.heap.size w w' := by
  obtain ⟨ad, cap, rfl, hc, hx⟩ := hs
  have HB : Hid (Byt xs) := hb
  by_cases h0 : xs.length % 66 = 0
  · obtain ⟨m, hm⟩ : ∃ m, xs.length = m * 66 := ⟨xs.length / 66, by omega⟩
    have HLL : Hid (ndl xs = (List.range m).map (ndAt xs)) := by show _ = _; unfold ndl; rw [show xs.length / 66 = m by omega]
    have HLK : Hid (rnb xs = true ↔ lok (ndl xs)) := rnb_lok h0
    obtain ⟨b, o, hxx⟩ := sl_lies (n := 0) hx
    have HXX : Hid (0 < xs.length → ad = some ⟨b, o, none⟩ ∧ b < w.heap.size ∧ ∀ i, i < xs.length → w.cell? ⟨b, o + i, none⟩ = some (.int .u8 (gi xs i))) := hxx
    obtain ⟨M, hM⟩ : ∃ M, m * 66 = M := ⟨_, rfl⟩
    have HM : Hid (xs.length = m * 66) := hm
    have HMM : Hid (m * 66 = M) := hM
    rw [hm, hM] at hc hl ⊢
    have h1 : Int.tmod (M : Int) 66 = 0 := by rw [Int.tmod_eq_emod_of_nonneg (by omega)]; omega
    have HC : Hid (M ≤ cap ∧ M ≤ 1048576) := ⟨hc, hl⟩
    clear hx hb hxx hm hM h0 hc
    have hz := zero_nd
    go_enter Try.func37, Try.ntmps37
    go_wp2_with fail
    clear h1
    go_loopw [4, 5] (fun ov i wr => ∃ k : Nat, k ≤ m ∧ i = .int .i64 ((k * 66 : Nat) : Int) ∧ NO w.heap.size wr ov ((List.range k).map (ndAt xs)) ∧ (∀ j, j < k → (ndAt xs j).n ≤ 256) ∧ Below w.heap.size w wr) (fun _ i _ => M - (intOf i).toNat)
    case atStart => exact ⟨0, Nat.zero_le _, rfl, NO.nil' (Nat.le_refl _), (fun j hj => by omega), Below.refl _ _⟩
    case round =>
      obtain ⟨k, hkn, rfl, h1, hq, h2⟩ := hrel
      have HQ : Hid (∀ j, j < k → (ndAt xs j).n ≤ 256) := hq
      by_cases hlt : k < m
      · have hkc : k * 66 + 66 ≤ xs.length := by rw [HM.out]; omega
        obtain ⟨had, hlb, hcl⟩ := HXX.out (by omega)
        subst had
        have hn2 := nm2 HB.out hkc
        have hcw : ∀ i, i < xs.length → wr.cell? ⟨b, o + i, none⟩ = some (.int .u8 (gi xs i)) := fun i hi => (h2.cell (p := ⟨b, o + i, none⟩) hlb).trans (hcl i hi)
        obtain ⟨x, hxe⟩ : ∃ x, ndAt xs k = x := ⟨_, rfl⟩
        have HX : Hid x.Ok := by rw [← hxe]; exact ndAt_ok HB.out hkc
        obtain ⟨z, hz0⟩ : ∃ z, x.n = z := ⟨_, rfl⟩
        have HXZ : Hid (x = ⟨z, x.p, x.h⟩) := by show x = _; rw [← hz0]
        obtain ⟨g0, hg0⟩ : ∃ g, gi xs (k * 66) = g := ⟨_, rfl⟩
        obtain ⟨g1, hg1⟩ : ∃ g, gi xs (k * 66 + 1) = g := ⟨_, rfl⟩
        have bg0 := HB.out.get (i := k * 66) (by omega)
        have bg1 := HB.out.get (i := k * 66 + 1) (by omega)
        rw [hg0] at bg0
        rw [hg1] at bg1
        have HZ : Hid (bits .or .i64 (g0 * 256) g1 = z) := by
          show _ = _
          rw [or2 g0 g1 bg0.1 bg0.2 bg1.1 bg1.2, ← hz0, ← hxe, nd_two HB.out hkc, hg0, hg1]
        have hwg0 : IntKind.i64.wrap g0 = g0 := by rw [IntKind.wrap_i64]; omega
        have hwg1 : IntKind.i64.wrap g1 = g1 := by rw [IntKind.wrap_i64]; omega
        have hw8 : IntKind.i64.wrap (g0 * 256) = g0 * 256 := by rw [IntKind.wrap_i64]; omega
        obtain ⟨W2, hW2⟩ : ∃ W2, wr.drew = W2 := ⟨_, rfl⟩
        have HW2 : Hid (wr.drew = W2) := hW2
        obtain ⟨K, hK⟩ : ∃ K, k * 66 = K := ⟨_, rfl⟩
        obtain ⟨K1, hK1⟩ : ∃ q, K + 1 = q := ⟨_, rfl⟩
        obtain ⟨K2, hK2⟩ : ∃ q, K + 2 = q := ⟨_, rfl⟩
        obtain ⟨K34, hK34⟩ : ∃ q, K + 34 = q := ⟨_, rfl⟩
        obtain ⟨K66, hK66⟩ : ∃ q, K + 66 = q := ⟨_, rfl⟩
        have C0 : Hid (W2.cell? ⟨b, o + K, none⟩ = some (.int .u8 g0)) := by rw [← hW2, ← hK, ← hg0]; exact hcw _ (by omega)
        have C1 : Hid (W2.cell? ⟨b, o + K1, none⟩ = some (.int .u8 g1)) := by rw [← hW2, ← hK1, ← hK, ← hg1]; exact hcw _ (by omega)
        have HBL : Hid (b < W2.heap.size) := by rw [← hW2]; exact Nat.lt_of_lt_of_le hlb h2.size
        have hMM := HMM.out
        have hc := HC.out.1
        have hlt0 : (K : Int) < (M : Int) := by omega
        have hlt1 : (K1 : Int) < (M : Int) := by omega
        have hw1 : IntKind.i64.wrap ((K : Int) + 1) = (K1 : Int) := by rw [IntKind.wrap_i64]; omega
        have hwK2 : IntKind.i64.wrap ((K : Int) + 2) = (K2 : Int) := by rw [IntKind.wrap_i64]; omega
        have hwK34 : IntKind.i64.wrap ((K : Int) + 34) = (K34 : Int) := by rw [IntKind.wrap_i64]; omega
        have hwK66 : IntKind.i64.wrap ((K : Int) + 66) = (K66 : Int) := by rw [IntKind.wrap_i64]; omega
        have HR0 : Hid (∀ W, Below w.heap.size w W → W.rangeAt b (o + K2) (bv x.p)) := fun W q => by
          rw [← hxe, ← hK2, ← hK]
          exact cut_range (off := k * 66 + 2) (n := 32) (fun i hi => (q.cell (p := ⟨b, o + i, none⟩) hlb).trans (hcl i hi)) (by omega)
        have HR1 : Hid (∀ W, Below w.heap.size w W → W.rangeAt b (o + K34) (bv x.h)) := fun W q => by
          rw [← hxe, ← hK34, ← hK]
          exact cut_range (off := k * 66 + 34) (n := 32) (fun i hi => (q.cell (p := ⟨b, o + i, none⟩) hlb).trans (hcl i hi)) (by omega)
        have HRN : Hid ((List.range (k + 1)).map (ndAt xs) = (List.range k).map (ndAt xs) ++ [x]) := by show _ = _; rw [List.range_succ, List.map_append, ← hxe]; rfl
        have HZN : Hid ((ndAt xs k).n = z ∧ 0 ≤ z) := ⟨by rw [hxe]; exact hz0, by rw [← hz0, ← hxe]; exact hn2.1⟩
        obtain ⟨L, hL⟩ : ∃ L, (List.range k).map (ndAt xs) = L := ⟨_, rfl⟩
        have HL0 : Hid (L.length + [x].length ≤ 3000000000000) := by
          show _ ≤ _
          rw [← hL, List.length_map, List.length_range]
          simp only [List.length_cons, List.length_nil]; omega
        rw [hL] at h1 HRN
        have O2 : Hid (NO w.heap.size W2 u4 L) := by rw [← hW2]; exact h1
        have B2 : Hid (Below w.heap.size w W2) := by rw [← hW2]; exact h2.drew
        have HKK : Hid (k * 66 = K ∧ K + 66 ≤ M) := ⟨hK, by omega⟩
        have HK66 : Hid (K66 = (k + 1) * 66) := by show _ = _; omega
        have heK34 : K34 = K2 + 32 := by omega
        have heK66 : K66 = K34 + 32 := by omega
        have hleK2 : K2 ≤ M := by omega
        have hleK34 : K34 ≤ M := by omega
        have hleK66 : K66 ≤ M := by omega
        have hcap9 : M ≤ cap := hc
        rw [hK]
        clear hxe hcl hcw hn2 hg0 hg1 bg0 bg1 hK hK1 hK2 hK34 hK66 hL h1 h2 hq hlb hW2 hz0 hMM
        go_upto_region 7 with (fail)
        refine RU.wp_rgn' [14, 15] (rn7f b o M cap K K1 g0 g1 z) (fun _ => 1) (rnΩ W2 ⟨z, z32, z32⟩) (by kernel_rfl) (by kernel_rfl) HW2.out ?_ ?_
        · refine ⟨?_, ?_, ?_, ?_, ?_, ?_, ?_, ?_, ?_, ?_, ?_, ?_, ?_, ?_, ?_, ?_, trivial⟩
          · refine RU.ObT.pure rfl rfl rfl (fun a V hf hp ev he hc W => ?_)
            have q0 : ev (.tmp 0) = .slice (some ⟨b, o, none⟩) M cap := (he (.tmp 0)).trans (hf 0 rfl)
            simp only [List.getElem_toArray, List.getElem_cons_succ, List.getElem_cons_zero, execOp, Option.map_some, Option.map_none]; rw [q0]
            first | (go_simp; done) | (go_simp; rfl) | rfl
          · refine RU.ObT.pure rfl rfl rfl (fun a V hf hp ev he hc W => ?_)
            have q5 : ev (.tmp 5) = .int .i64 (K : Int) := (he (.tmp 5)).trans (hf 5 rfl)
            simp only [List.getElem_toArray, List.getElem_cons_succ, List.getElem_cons_zero, execOp, Option.map_some, Option.map_none]; rw [q5]
            first | (go_simp; done) | (go_simp; rfl) | rfl
          · refine RU.ObT.pure rfl rfl rfl (fun a V hf hp ev he hc W => ?_)
            have q17 : ev (.tmp 17) = .slice (some ⟨b, o, none⟩) M cap := (he (.tmp 17)).trans (hp 0 17 rfl)
            have q18 : ev (.tmp 18) = .int .i64 (K : Int) := (he (.tmp 18)).trans (hp 1 18 rfl)
            simp only [List.getElem_toArray, List.getElem_cons_succ, List.getElem_cons_zero, execOp, Option.map_some, Option.map_none]; rw [q17, q18]
            have hk9 := hlt0
            first | (go_simp; done) | (go_simp; rfl) | rfl
          · refine RU.ObT.silent rfl (fun a W k0 V hO hf hp hk => ?_)
            have hk9 : k0 ≤ 1 := hk
            have hcl9 : W.cell? ⟨b, o + K, none⟩ = some (.int .u8 g0) := by
              rcases Nat.lt_or_ge k0 1 with h9 | h9
              · obtain rfl : k0 = 0 := by omega
                have e9 : W = W2 := hO
                rw [e9]; exact C0.out
              · obtain rfl : k0 = 1 := by omega
                have e9 : W = W2.alloc (.cells (nc ndz).toArray 94) := hO.2
                rw [e9]; exact cell_old C0.out HBL.out
            clear hk9
            refine RU.ob_val rfl (RU.wanted_none rfl) (fun ev he hc => ?_) ⟨rfl, hO⟩
            have q19 : ev (.tmp 19) = .pointer (some ⟨b, o + K, none⟩) := (he (.tmp 19)).trans (hp 2 19 rfl)
            simp only [List.getElem_toArray, List.getElem_cons_succ, List.getElem_cons_zero, execOp, Option.map_some, Option.map_none]; rw [q19]
            first | (go_simp; done) | (go_simp; rfl) | rfl
          · refine RU.ObT.pure rfl rfl rfl (fun a V hf hp ev he hc W => ?_)
            have q20 : ev (.tmp 20) = .int .u8 g0 := (he (.tmp 20)).trans (hp 3 20 rfl)
            simp only [List.getElem_toArray, List.getElem_cons_succ, List.getElem_cons_zero, execOp, Option.map_some, Option.map_none]; rw [q20]
            have hw9 := hwg0
            first | (go_simp; done) | (go_simp; rfl) | rfl
          · refine RU.ObT.pure rfl rfl rfl (fun a V hf hp ev he hc W => ?_)
            have q21 : ev (.tmp 21) = .int .i64 g0 := (he (.tmp 21)).trans (hp 4 21 rfl)
            simp only [List.getElem_toArray, List.getElem_cons_succ, List.getElem_cons_zero, execOp, Option.map_some, Option.map_none]; rw [q21]
            try simp only [hc]
            have hw9 := hw8
            first | (go_simp; done) | (go_simp; rfl) | rfl
          · refine RU.ObT.pure rfl rfl rfl (fun a V hf hp ev he hc W => ?_)
            have q0 : ev (.tmp 0) = .slice (some ⟨b, o, none⟩) M cap := (he (.tmp 0)).trans (hf 0 rfl)
            simp only [List.getElem_toArray, List.getElem_cons_succ, List.getElem_cons_zero, execOp, Option.map_some, Option.map_none]; rw [q0]
            first | (go_simp; done) | (go_simp; rfl) | rfl
          · refine RU.ObT.pure rfl rfl rfl (fun a V hf hp ev he hc W => ?_)
            have q5 : ev (.tmp 5) = .int .i64 (K : Int) := (he (.tmp 5)).trans (hf 5 rfl)
            simp only [List.getElem_toArray, List.getElem_cons_succ, List.getElem_cons_zero, execOp, Option.map_some, Option.map_none]; rw [q5]
            first | (go_simp; done) | (go_simp; rfl) | rfl
          · refine RU.ObT.pure rfl rfl rfl (fun a V hf hp ev he hc W => ?_)
            have q24 : ev (.tmp 24) = .int .i64 (K : Int) := (he (.tmp 24)).trans (hp 7 24 rfl)
            simp only [List.getElem_toArray, List.getElem_cons_succ, List.getElem_cons_zero, execOp, Option.map_some, Option.map_none]; rw [q24]
            try simp only [hc]
            have hw9 := hw1
            first | (go_simp; done) | (go_simp; rfl) | rfl
          · refine RU.ObT.pure rfl rfl rfl (fun a V hf hp ev he hc W => ?_)
            have q23 : ev (.tmp 23) = .slice (some ⟨b, o, none⟩) M cap := (he (.tmp 23)).trans (hp 6 23 rfl)
            have q25 : ev (.tmp 25) = .int .i64 (K1 : Int) := (he (.tmp 25)).trans (hp 8 25 rfl)
            simp only [List.getElem_toArray, List.getElem_cons_succ, List.getElem_cons_zero, execOp, Option.map_some, Option.map_none]; rw [q23, q25]
            have hk9 := hlt1
            first | (go_simp; done) | (go_simp; rfl) | rfl
          · refine RU.ObT.silent rfl (fun a W k0 V hO hf hp hk => ?_)
            have hk9 : k0 ≤ 1 := hk
            have hcl9 : W.cell? ⟨b, o + K1, none⟩ = some (.int .u8 g1) := by
              rcases Nat.lt_or_ge k0 1 with h9 | h9
              · obtain rfl : k0 = 0 := by omega
                have e9 : W = W2 := hO
                rw [e9]; exact C1.out
              · obtain rfl : k0 = 1 := by omega
                have e9 : W = W2.alloc (.cells (nc ndz).toArray 94) := hO.2
                rw [e9]; exact cell_old C1.out HBL.out
            clear hk9
            refine RU.ob_val rfl (RU.wanted_none rfl) (fun ev he hc => ?_) ⟨rfl, hO⟩
            have q26 : ev (.tmp 26) = .pointer (some ⟨b, o + K1, none⟩) := (he (.tmp 26)).trans (hp 9 26 rfl)
            simp only [List.getElem_toArray, List.getElem_cons_succ, List.getElem_cons_zero, execOp, Option.map_some, Option.map_none]; rw [q26]
            first | (go_simp; done) | (go_simp; rfl) | rfl
          · refine RU.ObT.pure rfl rfl rfl (fun a V hf hp ev he hc W => ?_)
            have q27 : ev (.tmp 27) = .int .u8 g1 := (he (.tmp 27)).trans (hp 10 27 rfl)
            simp only [List.getElem_toArray, List.getElem_cons_succ, List.getElem_cons_zero, execOp, Option.map_some, Option.map_none]; rw [q27]
            have hw9 := hwg1
            first | (go_simp; done) | (go_simp; rfl) | rfl
          · refine RU.ObT.pure rfl rfl rfl (fun a V hf hp ev he hc W => ?_)
            have q22 : ev (.tmp 22) = .int .i64 (g0 * 256) := (he (.tmp 22)).trans (hp 5 22 rfl)
            have q28 : ev (.tmp 28) = .int .i64 g1 := (he (.tmp 28)).trans (hp 11 28 rfl)
            simp only [List.getElem_toArray, List.getElem_cons_succ, List.getElem_cons_zero, execOp, Option.map_some, Option.map_none]; rw [q22, q28]
            have hz9 := HZ.out
            first | (go_simp; done) | (go_simp; rfl) | rfl
          · refine RU.ObT.pure rfl rfl rfl (fun a V hf hp ev he hc W => ?_)
            have q29 : ev (.tmp 29) = .int .i64 z := (he (.tmp 29)).trans (hp 12 29 rfl)
            simp only [List.getElem_toArray, List.getElem_cons_succ, List.getElem_cons_zero, execOp, List.map_toArray, List.map_cons, List.map_nil, q29, Sem.run_bind, build_n z W, Result.andThen_ok, Sem.run_pure]
            rfl
          · refine RU.ObT.loud (j := 0) rfl (fun a W V hO hf hp => ?_)
            have hW : W = W2 := hO
            subst hW
            refine RU.ob_run (v := .pointer (some ⟨W.heap.size, 0, none⟩)) (w' := W.alloc (.cells (nc ndz).toArray 94)) rfl (RU.wanted_none rfl) (fun ev he hc => ?_) ⟨_, rfl, rfl, rfl⟩
            have hz9 := zero_nd W
            simp only [List.getElem_toArray, List.getElem_cons_succ, List.getElem_cons_zero, execOp]
            first | (go_simp; done) | (go_simp; rfl) | rfl
          · refine RU.ObT.loud (j := 1) rfl (fun a W V hO hf hp => ?_)
            have q1 : a.eval (.tmp 6) = .pointer (some ⟨W2.heap.size, 0, none⟩) := (hp 14 6 rfl).trans hO.1
            have q2 : a.eval (.tmp 30) = .agg (nc ⟨z, z32, z32⟩).toArray := hp 13 30 rfl
            have hW : W = W2.alloc (.cells (nc ndz).toArray 94) := hO.2
            rw [hW]
            exact RU.ob_op rfl (RU.wanted_none rfl) (wp_store_mid 94 (.tmp 6) (.tmp 30) rfl W2.heap.size 0 (nc ⟨z, z32, z32⟩).toArray q1 q2 (there_new W2 (by rw [List.size_toArray, List.size_toArray, nc_length ⟨z32_l32, z32_l32⟩, nc_length ndz_ok])) (by rw [List.size_toArray]; exact size_nc ⟨z32_l32, z32_l32⟩) (nc_one _) ⟨_, rfl, hO.1, rfl⟩)
        intro W3 VW3 hOW3
        have PW3 : Hid (VW3 0 = .pointer (some ⟨W2.heap.size, 0, none⟩) ∧ W3 = (W2.alloc (.cells (nc ndz).toArray 94)).setCells W2.heap.size 0 (nc ⟨z, z32, z32⟩)) := hOW3
        clear hOW3
        simp only [RU.lay, RU.val, show RU.at' [14, 15] 0 = none from rfl, show RU.at' [14, 15] 1 = none from rfl, show RU.at' [14, 15] 2 = none from rfl, show RU.at' [14, 15] 3 = none from rfl, show RU.at' [14, 15] 4 = none from rfl, show RU.at' [14, 15] 5 = none from rfl, show RU.at' [14, 15] 6 = none from rfl, show RU.at' [14, 15] 7 = none from rfl, show RU.at' [14, 15] 8 = none from rfl, show RU.at' [14, 15] 9 = none from rfl, show RU.at' [14, 15] 10 = none from rfl, show RU.at' [14, 15] 11 = none from rfl, show RU.at' [14, 15] 12 = none from rfl, show RU.at' [14, 15] 13 = none from rfl, show RU.at' [14, 15] 14 = some 0 from rfl, show RU.at' [14, 15] 15 = some 1 from rfl, rn7f, Act.put]
        simp only [List.setIfInBounds_toArray, List.set_cons_succ, List.set_cons_zero]
        obtain ⟨D, hD⟩ : ∃ D, W2.heap.size = D := ⟨_, rfl⟩
        have e3 := PW3.out.1
        rw [hD] at e3
        rw [e3]
        have D3 : W3.heap[D]? = some (.cells (nc ⟨z, z32, z32⟩).toArray 94 (0, 0)) := by
          rw [PW3.out.2, ← hD]; exact laid_whole W2 _ (by rw [List.size_toArray, nc_length ⟨z32_l32, z32_l32⟩, nc_length ndz_ok])
        have HDW : Hid (w.heap.size ≤ D) := by rw [← hD]; exact B2.out.size
        have B3' : Below W2.heap.size W2 W3 := by rw [PW3.out.2]; exact below_setCells (Nat.le_refl _) _ _ ((Below.refl _ W2).alloc (Nat.le_refl _) _)
        have B3 : Hid (Below w.heap.size w W3) := B2.out.trans (B3'.mono B2.out.size)
        have O3 : Hid (NO w.heap.size W3 u4 L) := O2.out.below B3'
        have N3 : Hid (u4.ownBlock ≠ some D) := by
          rw [← hD]; intro e
          rcases O2.out.1.2 with ⟨rfl, _⟩ | ⟨g, c9, cur, rfl, _, hg, _⟩
          · cases e
          · cases e; exact absurd (Array.getElem?_eq_some_iff.1 hg).1 (Nat.lt_irrefl _)
        obtain ⟨W4, hW4⟩ : ∃ W4, W3.drew = W4 := ⟨_, rfl⟩
        have HW4 : Hid (W3.drew = W4) := hW4
        have HD4 : Hid (W4.heap[D]? = some (.cells (nc ⟨z, z32, z32⟩).toArray 94 (0, 0))) := by rw [← hW4]; exact D3
        have R0 : Hid (W4.rangeAt b (o + K2) (bv x.p)) := HR0.out W4 (by rw [← hW4]; exact B3.out.drew)
        clear e3 D3 B3' hD hW4 PW3
        go_upto_region 8 with (fail)
        refine RU.wp_rgn' [8] (rn8f b o M cap K K2 K34 D) (fun _ => 0) (rqΩ W4 (W4.setRow D (nc ⟨z, x.p, z32⟩).toArray)) (by kernel_rfl) (by kernel_rfl) HW4.out ?_ ?_
        · refine ⟨?_, ?_, ?_, ?_, ?_, ?_, ?_, ?_, ?_, trivial⟩
          · refine RU.ObT.pure rfl rfl rfl (fun a V hf hp ev he hc W => ?_)
            have q6 : ev (.tmp 6) = .pointer (some ⟨D, 0, none⟩) := (he (.tmp 6)).trans (hf 6 rfl)
            simp only [List.getElem_toArray, List.getElem_cons_succ, List.getElem_cons_zero, execOp, Option.map_some, Option.map_none]; rw [q6]
            first | (go_simp; done) | (go_simp; rfl) | rfl
          · refine RU.ObT.pure rfl rfl rfl (fun a V hf hp ev he hc W => ?_)
            have q31 : ev (.tmp 31) = .pointer (some ⟨D, 1, none⟩) := (he (.tmp 31)).trans (hp 0 31 rfl)
            simp only [List.getElem_toArray, List.getElem_cons_succ, List.getElem_cons_zero, execOp, Option.map_some, Option.map_none]; rw [q31]
            first | (go_simp; done) | (go_simp; rfl) | rfl
          · refine RU.ObT.pure rfl rfl rfl (fun a V hf hp ev he hc W => ?_)
            have q0 : ev (.tmp 0) = .slice (some ⟨b, o, none⟩) M cap := (he (.tmp 0)).trans (hf 0 rfl)
            simp only [List.getElem_toArray, List.getElem_cons_succ, List.getElem_cons_zero, execOp, Option.map_some, Option.map_none]; rw [q0]
            first | (go_simp; done) | (go_simp; rfl) | rfl
          · refine RU.ObT.pure rfl rfl rfl (fun a V hf hp ev he hc W => ?_)
            have q5 : ev (.tmp 5) = .int .i64 (K : Int) := (he (.tmp 5)).trans (hf 5 rfl)
            simp only [List.getElem_toArray, List.getElem_cons_succ, List.getElem_cons_zero, execOp, Option.map_some, Option.map_none]; rw [q5]
            first | (go_simp; done) | (go_simp; rfl) | rfl
          · refine RU.ObT.pure rfl rfl rfl (fun a V hf hp ev he hc W => ?_)
            have q34 : ev (.tmp 34) = .int .i64 (K : Int) := (he (.tmp 34)).trans (hp 3 34 rfl)
            simp only [List.getElem_toArray, List.getElem_cons_succ, List.getElem_cons_zero, execOp, Option.map_some, Option.map_none]; rw [q34]
            try simp only [hc]
            have hw9 := hwK2
            first | (go_simp; done) | (go_simp; rfl) | rfl
          · refine RU.ObT.pure rfl rfl rfl (fun a V hf hp ev he hc W => ?_)
            have q5 : ev (.tmp 5) = .int .i64 (K : Int) := (he (.tmp 5)).trans (hf 5 rfl)
            simp only [List.getElem_toArray, List.getElem_cons_succ, List.getElem_cons_zero, execOp, Option.map_some, Option.map_none]; rw [q5]
            first | (go_simp; done) | (go_simp; rfl) | rfl
          · refine RU.ObT.pure rfl rfl rfl (fun a V hf hp ev he hc W => ?_)
            have q36 : ev (.tmp 36) = .int .i64 (K : Int) := (he (.tmp 36)).trans (hp 5 36 rfl)
            simp only [List.getElem_toArray, List.getElem_cons_succ, List.getElem_cons_zero, execOp, Option.map_some, Option.map_none]; rw [q36]
            try simp only [hc]
            have hw9 := hwK34
            first | (go_simp; done) | (go_simp; rfl) | rfl
          · refine RU.ObT.pure rfl rfl rfl (fun a V hf hp ev he hc W => ?_)
            have q33 : ev (.tmp 33) = .slice (some ⟨b, o, none⟩) M cap := (he (.tmp 33)).trans (hp 2 33 rfl)
            have q35 : ev (.tmp 35) = .int .i64 (K2 : Int) := (he (.tmp 35)).trans (hp 4 35 rfl)
            have q37 : ev (.tmp 37) = .int .i64 (K34 : Int) := (he (.tmp 37)).trans (hp 6 37 rfl)
            simp only [List.getElem_toArray, List.getElem_cons_succ, List.getElem_cons_zero, execOp, Option.map_some, Option.map_none]; rw [q33, q35, q37]
            have hk9 := hleK2
            have hk8 := hleK34
            have hk7 : K2 ≤ K34 := by omega
            have hk6 := hcap9
            have hk5 : K34 ≤ cap := by omega
            rw [Sem.run_bind, sl2 b o M cap K2 K34 (by omega) (by omega) (by omega) W]; rfl
          · refine RU.ObT.loud (j := 0) rfl (fun a W V hO hf hp => ?_)
            have q1 : a.eval (.tmp 32) = .slice (some ⟨D, 1, none⟩) 32 32 := hp 1 32 rfl
            have q2 : a.eval (.tmp 38) = .slice (some ⟨b, o + K2, none⟩) 32 (cap - K2) := by rw [hp 7 38 rfl]; show Value.slice _ (K34 - K2) _ = _; rw [show K34 - K2 = 32 by omega]
            have hW : W = W4 := hO
            subst hW
            have hrun := run_copy_row (P := Try.prog) W 34 34 3 5 D 1 32 32 ⟨b, o + K2, none⟩ 32 (cap - K2) (nc ⟨z, z32, z32⟩).toArray 94 (bv x.p) Try.underlying34 size_u8W1 HD4.out (by rw [bv_length, HX.out.p.len]; rfl) (fun j u hu => by rw [addr_add0]; exact R0.out j u hu) (by rw [List.size_toArray, nc_length ⟨z32_l32, z32_l32⟩, bv_length, HX.out.p.len]; omega) (bv_one _)
            rw [show (nc ⟨z, z32, z32⟩).toArray.toList = nc ⟨z, z32, z32⟩ from rfl, nc_put1 z HX.out.p] at hrun
            refine RU.ob_run (v := goInt (bv x.p).length) (w' := W.setRow D (nc ⟨z, x.p, z32⟩).toArray) rfl (RU.wanted_none rfl) (fun ev he hc => ?_) ⟨_, rfl, rfl⟩
            have e1 := (he (.tmp 32)).trans q1
            have e2 := (he (.tmp 38)).trans q2
            simp only [List.getElem_toArray, List.getElem_cons_succ, List.getElem_cons_zero, execOp, resolve, invoke, builtin, Sem.run_bind, Sem.run_pure, Result.andThen_ok, List.map_toArray, List.map_cons, List.map_nil, e1, e2, hrun]
        intro W5 VW5 hOW5
        have PW5 : Hid (W5 = W4.setRow D (nc ⟨z, x.p, z32⟩).toArray) := hOW5
        clear hOW5
        simp only [RU.lay, RU.val, show RU.at' [8] 0 = none from rfl, show RU.at' [8] 1 = none from rfl, show RU.at' [8] 2 = none from rfl, show RU.at' [8] 3 = none from rfl, show RU.at' [8] 4 = none from rfl, show RU.at' [8] 5 = none from rfl, show RU.at' [8] 6 = none from rfl, show RU.at' [8] 7 = none from rfl, show RU.at' [8] 8 = some 0 from rfl, rn8f, Act.put]
        simp only [List.setIfInBounds_toArray, List.set_cons_succ, List.set_cons_zero]
        have HD5 : W5.heap[D]? = some (.cells (nc ⟨z, x.p, z32⟩).toArray 94 (0, 0)) := by rw [PW5.out]; exact setRow_same HD4.out
        have B5 : Hid (Below w.heap.size w W5) := by rw [PW5.out, ← HW4.out]; exact below_setRow B3.out.drew HDW.out
        have O5 : Hid (NO w.heap.size W5 u4 L) := by
          exact ⟨(O3.out.1).kept (w' := W5) (row := some D) (by rw [PW5.out, ← HW4.out]; exact grown_setRow' W3 D _) (.inr N3.out), O3.out.2.1, B5.out.size⟩
        obtain ⟨W6, hW6⟩ : ∃ W6, W5.drew = W6 := ⟨_, rfl⟩
        have HW6 : Hid (W5.drew = W6) := hW6
        have HD6 : Hid (W6.heap[D]? = some (.cells (nc ⟨z, x.p, z32⟩).toArray 94 (0, 0))) := by rw [← hW6]; exact HD5
        have R1 : Hid (W6.rangeAt b (o + K34) (bv x.h)) := HR1.out W6 (by rw [← hW6]; exact B5.out.drew)
        clear HD5 hW6 PW5
        go_upto_region 9 with (fail)
        refine RU.wp_rgn' [8] (rn9f b o M cap K K34 K66 D) (fun _ => 0) (rqΩ W6 (W6.setRow D (nc ⟨z, x.p, x.h⟩).toArray)) (by kernel_rfl) (by kernel_rfl) HW6.out ?_ ?_
        · refine ⟨?_, ?_, ?_, ?_, ?_, ?_, ?_, ?_, ?_, trivial⟩
          · refine RU.ObT.pure rfl rfl rfl (fun a V hf hp ev he hc W => ?_)
            have q6 : ev (.tmp 6) = .pointer (some ⟨D, 0, none⟩) := (he (.tmp 6)).trans (hf 6 rfl)
            simp only [List.getElem_toArray, List.getElem_cons_succ, List.getElem_cons_zero, execOp, Option.map_some, Option.map_none]; rw [q6]
            first | (go_simp; done) | (go_simp; rfl) | rfl
          · refine RU.ObT.pure rfl rfl rfl (fun a V hf hp ev he hc W => ?_)
            have q40 : ev (.tmp 40) = .pointer (some ⟨D, 33, none⟩) := (he (.tmp 40)).trans (hp 0 40 rfl)
            simp only [List.getElem_toArray, List.getElem_cons_succ, List.getElem_cons_zero, execOp, Option.map_some, Option.map_none]; rw [q40]
            first | (go_simp; done) | (go_simp; rfl) | rfl
          · refine RU.ObT.pure rfl rfl rfl (fun a V hf hp ev he hc W => ?_)
            have q0 : ev (.tmp 0) = .slice (some ⟨b, o, none⟩) M cap := (he (.tmp 0)).trans (hf 0 rfl)
            simp only [List.getElem_toArray, List.getElem_cons_succ, List.getElem_cons_zero, execOp, Option.map_some, Option.map_none]; rw [q0]
            first | (go_simp; done) | (go_simp; rfl) | rfl
          · refine RU.ObT.pure rfl rfl rfl (fun a V hf hp ev he hc W => ?_)
            have q5 : ev (.tmp 5) = .int .i64 (K : Int) := (he (.tmp 5)).trans (hf 5 rfl)
            simp only [List.getElem_toArray, List.getElem_cons_succ, List.getElem_cons_zero, execOp, Option.map_some, Option.map_none]; rw [q5]
            first | (go_simp; done) | (go_simp; rfl) | rfl
          · refine RU.ObT.pure rfl rfl rfl (fun a V hf hp ev he hc W => ?_)
            have q43 : ev (.tmp 43) = .int .i64 (K : Int) := (he (.tmp 43)).trans (hp 3 43 rfl)
            simp only [List.getElem_toArray, List.getElem_cons_succ, List.getElem_cons_zero, execOp, Option.map_some, Option.map_none]; rw [q43]
            try simp only [hc]
            have hw9 := hwK34
            first | (go_simp; done) | (go_simp; rfl) | rfl
          · refine RU.ObT.pure rfl rfl rfl (fun a V hf hp ev he hc W => ?_)
            have q5 : ev (.tmp 5) = .int .i64 (K : Int) := (he (.tmp 5)).trans (hf 5 rfl)
            simp only [List.getElem_toArray, List.getElem_cons_succ, List.getElem_cons_zero, execOp, Option.map_some, Option.map_none]; rw [q5]
            first | (go_simp; done) | (go_simp; rfl) | rfl
          · refine RU.ObT.pure rfl rfl rfl (fun a V hf hp ev he hc W => ?_)
            have q45 : ev (.tmp 45) = .int .i64 (K : Int) := (he (.tmp 45)).trans (hp 5 45 rfl)
            simp only [List.getElem_toArray, List.getElem_cons_succ, List.getElem_cons_zero, execOp, Option.map_some, Option.map_none]; rw [q45]
            try simp only [hc]
            have hw9 := hwK66
            first | (go_simp; done) | (go_simp; rfl) | rfl
          · refine RU.ObT.pure rfl rfl rfl (fun a V hf hp ev he hc W => ?_)
            have q42 : ev (.tmp 42) = .slice (some ⟨b, o, none⟩) M cap := (he (.tmp 42)).trans (hp 2 42 rfl)
            have q44 : ev (.tmp 44) = .int .i64 (K34 : Int) := (he (.tmp 44)).trans (hp 4 44 rfl)
            have q46 : ev (.tmp 46) = .int .i64 (K66 : Int) := (he (.tmp 46)).trans (hp 6 46 rfl)
            simp only [List.getElem_toArray, List.getElem_cons_succ, List.getElem_cons_zero, execOp, Option.map_some, Option.map_none]; rw [q42, q44, q46]
            have hk9 := hleK34
            have hk8 := hleK66
            have hk7 : K34 ≤ K66 := by omega
            have hk6 := hcap9
            have hk5 : K66 ≤ cap := by omega
            rw [Sem.run_bind, sl2 b o M cap K34 K66 (by omega) (by omega) (by omega) W]; rfl
          · refine RU.ObT.loud (j := 0) rfl (fun a W V hO hf hp => ?_)
            have q1 : a.eval (.tmp 41) = .slice (some ⟨D, 33, none⟩) 32 32 := hp 1 41 rfl
            have q2 : a.eval (.tmp 47) = .slice (some ⟨b, o + K34, none⟩) 32 (cap - K34) := by rw [hp 7 47 rfl]; show Value.slice _ (K66 - K34) _ = _; rw [show K66 - K34 = 32 by omega]
            have hW : W = W6 := hO
            subst hW
            have hrun := run_copy_row (P := Try.prog) W 34 34 3 5 D 33 32 32 ⟨b, o + K34, none⟩ 32 (cap - K34) (nc ⟨z, x.p, z32⟩).toArray 94 (bv x.h) Try.underlying34 size_u8W1 HD6.out (by rw [bv_length, HX.out.h.len]; rfl) (fun j u hu => by rw [addr_add0]; exact R1.out j u hu) (by rw [List.size_toArray, nc_length (x := ⟨z, x.p, z32⟩) ⟨HX.out.p, z32_l32⟩, bv_length, HX.out.h.len]; omega) (bv_one _)
            rw [show (nc ⟨z, x.p, z32⟩).toArray.toList = nc ⟨z, x.p, z32⟩ from rfl, nc_put2 z HX.out.p HX.out.h] at hrun
            refine RU.ob_run (v := goInt (bv x.h).length) (w' := W.setRow D (nc ⟨z, x.p, x.h⟩).toArray) rfl (RU.wanted_none rfl) (fun ev he hc => ?_) ⟨_, rfl, rfl⟩
            have e1 := (he (.tmp 41)).trans q1
            have e2 := (he (.tmp 47)).trans q2
            simp only [List.getElem_toArray, List.getElem_cons_succ, List.getElem_cons_zero, execOp, resolve, invoke, builtin, Sem.run_bind, Sem.run_pure, Result.andThen_ok, List.map_toArray, List.map_cons, List.map_nil, e1, e2, hrun]
        intro W7 VW7 hOW7
        have PW7 : Hid (W7 = W6.setRow D (nc ⟨z, x.p, x.h⟩).toArray) := hOW7
        clear hOW7
        simp only [RU.lay, RU.val, show RU.at' [8] 0 = none from rfl, show RU.at' [8] 1 = none from rfl, show RU.at' [8] 2 = none from rfl, show RU.at' [8] 3 = none from rfl, show RU.at' [8] 4 = none from rfl, show RU.at' [8] 5 = none from rfl, show RU.at' [8] 6 = none from rfl, show RU.at' [8] 7 = none from rfl, show RU.at' [8] 8 = some 0 from rfl, rn9f, Act.put]
        simp only [List.setIfInBounds_toArray, List.set_cons_succ, List.set_cons_zero]
        have HD7 : W7.heap[D]? = some (.cells (nc x).toArray 94 (0, 0)) := by rw [PW7.out, HXZ.out]; exact setRow_same HD6.out
        have B7 : Hid (Below w.heap.size w W7) := by rw [PW7.out, ← HW6.out]; exact below_setRow B5.out.drew HDW.out
        have O7 : Hid (NO w.heap.size W7 u4 L) := by
          exact ⟨(O5.out.1).kept (w' := W7) (row := some D) (by rw [PW7.out, ← HW6.out]; exact grown_setRow' W5 D _) (.inr N3.out), O5.out.2.1, B7.out.size⟩
        have hcl7 : W7.cell? ⟨D, 0, none⟩ = some (.int .i64 z) := by rw [cell_of_row W7 D 0 _ _ _ HD7, HXZ.out]; rfl
        have R7 : Hid (W7.rangeAt D 0 (nc x)) := fun j u hj => by rw [cell_of_row W7 D (0 + j) _ _ _ HD7]; simpa using hj
        clear HD7 PW7
        clear heK34 heK66 hleK2 hleK34 hleK66
        by_cases hz2 : z ≤ 256
        · have h9 : ¬ z > 256 := by omega
          have HZ2 : Hid ((ndAt xs k).n ≤ 256) := by rw [HZN.out.1]; exact hz2
          go_wp2_with (first
            | (refine wpList_load_mid rfl 94 (.tmp 6) rfl D 0 rfl (nc x) _ R7.out Try.underlying94 rfl (size_nc HX.out) ?_)
            | (refine wpList_onen rfl (.tmp 53) rfl x HX.out rfl ?_)
            | (at_builtin; refine wp_appn rfl (.tmp 52) (.tmp 54) rfl rfl w.heap.size u4 (.slice (some ⟨W7.heap.size, 0, none⟩) 1 1) L [x] rfl rfl (O7.out.alloc _) (fun y hy => by simp at hy; subst hy; exact HX.out) (ns_one W7 x _) HL0.out ?_; intro v8 w8 q1 q2; have O8 : Hid (NO w.heap.size w8 v8 ((List.range (k + 1)).map (ndAt xs))) := (HRN.out.symm ▸ q1); have B8 : Hid (Below w.heap.size w w8) := (B7.out.alloc B7.out.size _).trans q2; clear q1 q2))
          exact ⟨⟨k + 1, hlt, by rw [← HK66.out], O8.out, (fun j hj => by
            by_cases e : j = k
            · subst e; exact HZ2.out
            · exact HQ.out j (by omega)), B8.out⟩, by have h8 := HKK.out; have h7 := HK66.out; simp [intOf]; omega⟩
        · have h9 : z > 256 := by omega
          have hrb : rnb xs = false := by
            cases hq : rnb xs with
            | false => rfl
            | true =>
              have := (HLK.out.1 hq) (ndAt xs k) (by rw [HLL.out]; exact List.mem_map.2 ⟨k, List.mem_range.2 hlt, rfl⟩)
              rw [HZN.out.1] at this; omega
          go_wp2_with fail
          go_ret2
          rw [rdn_no hrb]
          exact ⟨_, rfl, NO.nil' B7.out.size, B7.out⟩
      · obtain rfl : k = m := by omega
        have h3 : ¬ ((k * 66 : Nat) : Int) < (M : Int) := by rw [HMM.out]; omega
        have hrb : rnb xs = true := HLK.out.2 (fun y hy => by
          rw [HLL.out] at hy
          obtain ⟨j, hj, rfl⟩ := List.mem_map.1 hy
          have hj' := List.mem_range.1 hj
          exact ⟨(nm2 HB.out (by rw [HM.out]; omega)).1, HQ.out j hj'⟩)
        have O1 : Hid (NO w.heap.size wr u4 (ndl xs)) := by rw [HLL.out]; exact h1
        have B1 : Hid (Below w.heap.size w wr) := h2
        clear h1 h2 hq
        go_wp2_with fail
        go_ret2
        rw [rdn_yes hrb]
        exact ⟨_, rfl, O1.out, B1.out⟩
  · have e3 : rnb xs = false := by unfold rnb; rw [decide_eq_false h0, Bool.false_and]
    have e1 : rdn xs = [] := rdn_no e3
    rw [e1, e3]
    obtain ⟨M, hM⟩ : ∃ M, xs.length = M := ⟨_, rfl⟩
    rw [hM] at hc hl h0 ⊢
    have h1 : ¬ Int.tmod (M : Int) 66 = 0 := by rw [Int.tmod_eq_emod_of_nonneg (by omega)]; omega
    clear hx hb e1 e3 hM
    go_enter Try.func37, Try.ntmps37
    go_wp2_with fail
    go_ret2
    exact ⟨_, rfl, NO.nil' (Nat.le_refl _), Below.refl _ _⟩
end Go.Proofs.Ytfnmdeekenjlgaa
