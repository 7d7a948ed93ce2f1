/- EddsaKeeps, walked. -/
import Derived.Test.YtdegfgncdphepaaDoorEddF
import Derived.Test.YtdegfgncdphepaaDoorEddV
import Derived.Test.YtdegfgncdphepaaDoorRgnU
import Derived.Test.YtdegfgncdphepaaDoorRows
import Derived.ProofKit
import Derived.OpenShut
import Derived.ChangeOld
import Derived.SizedLaws
namespace Go.Proofs.YtdegfgncdphepaaDoor.Wi
open Go Go.RowKit
theorem Ow.lit (w : World) (xs : List Int) (cs : Array Value) (n : Nat) (hc : cs.toList = bv xs) (hn : n = xs.length) (hl : xs.length ≤ 1048576) : Ow w.heap.size (w.alloc (.cells cs 5)) (.slice (some ⟨w.heap.size, 0, none⟩) n n) xs := by
  subst hn
  refine ⟨by rw [bv_length]; omega, .inr ⟨w.heap.size, xs.length, cs, rfl, Nat.le_refl _, by show (w.heap.push _)[w.heap.size]? = _; simp, Nat.le_refl _, by unfold maxLen; omega, ?_, ?_⟩⟩
  · rw [← Array.length_toList, hc, bv_length]; omega
  · rw [hc, List.take_of_length_le (by rw [bv_length]; omega)]
theorem Ow.opened {B : Nat} {w : World} {v : Value} {xs : List Int} {n : Nat} (h : Ow B w v xs) (hn : xs.length = n + 1) : ∃ g cap, v = .slice (some ⟨g, 0, none⟩) (n + 1) cap ∧ n + 1 ≤ cap ∧ B ≤ g ∧ g < w.heap.size := by
  rcases h.2 with ⟨_, h0⟩ | ⟨g, cap, cur, hv, hb, hg, hc, _, hs, ht⟩
  · omega
  · rw [hn] at hv hc
    exact ⟨g, cap, hv, hc, hb, (Array.getElem?_eq_some_iff.1 hg).1⟩
theorem Sl.str {w : World} {v : Value} {xs : List Int} (h : Sl w v xs) : (convert 23 9 v).run Tryd.prog w = .ok (.string (strOfNums xs)) w := by
  obtain ⟨ad, cap, rfl, hc, h⟩ := h
  rcases h with ⟨rfl, _⟩ | ⟨b, o, rfl, hlt, hm⟩
  · cases ad with
    | none => exact run_convert_bytes_nil w 23 5 Tryd.underlying23 Tryd.underlying5 0 cap 9 Tryd.underlying9
    | some A =>
      rw [run_convert_bytes_string w 23 9 5 _ _ _ Tryd.underlying23 Tryd.underlying5 Tryd.underlying9]
      exact run_bytesToString w A 0 cap [] (by simpa using run_loadCells_list (P := Tryd.prog) w A [] (fun j v hj => by simp at hj))
  · exact run_convert_bytes_arg w 23 5 Tryd.underlying23 Tryd.underlying5 b o xs.length cap xs rfl hm 9 Tryd.underlying9
end Go.Proofs.YtdegfgncdphepaaDoor.Wi
namespace Go.Proofs.YtdegfgncdphepaaDoor.Edd
open Go Go.RowKit Shf
set_option linter.unusedSimpArgs false
set_option linter.unusedVariables false
set_option maxRecDepth 100000
theorem size32 : (Tryd.prog.info? 22).map (·.size) = some 32 := by kernel_rfl
theorem size64 : (Tryd.prog.info? 25).map (·.size) = some 64 := by kernel_rfl
theorem bv_size {s : Nat} {cs : Array Value} (h : bv s = .agg cs) : cs.size = 32 := by
  have : cs = br s := by injection h with h; exact h.symm
  rw [this]; rfl
theorem alloc_row (w : World) (cs : Array Value) (t : TypeId) : (w.alloc (.cells cs t)).heap[w.heap.size]? = some (.cells cs t (0, 0)) := by show (w.heap.push _)[w.heap.size]? = _; simp
theorem laid_row (w : World) (old cs : Array Value) (t : TypeId) : Below w.heap.size w ((w.alloc (.cells old t)).setRow w.heap.size cs) ∧ ((w.alloc (.cells old t)).setRow w.heap.size cs).heap[w.heap.size]? = some (.cells cs t (0, 0)) ∧ w.heap.size < ((w.alloc (.cells old t)).setRow w.heap.size cs).heap.size := by
  have h1 : Below w.heap.size w (w.alloc (.cells old t)) := (Below.refl _ w).alloc (Nat.le_refl _) _
  refine ⟨⟨h1.os, h1.tape, h1.output, by simp, fun b hb => ?_⟩, setRow_heap _ _ _ _ _ _ (alloc_row w old t), by simp⟩
  rw [setRow_other _ _ _ _ (by omega)]
  exact h1.block b hb
theorem store64 {ops : Array Oper} {rest : List Oper} {o : Oper} {a : Act} {Q : Exit → Act → World → Prop} (hgd : o.guard = none) (x y : Operand) (ho : o.op = .store 25 x y) (w6 : World) (old : Array Value) (c : List Value) (hx : a.eval x = .pointer (some ⟨w6.heap.size, 0, none⟩)) (hy : a.eval y = .agg c.toArray) (hc : c.length = 64) (hold : old.size = 64) (h1 : c.toArray.all (·.oneCell') = true)
    (h : ∀ w7, Below w6.heap.size w6 w7 → w7.heap[w6.heap.size]? = some (.cells c.toArray 25 (0, 0)) → w6.heap.size < w7.heap.size → wpList Tryd.prog ops Q rest (a.put o.dst undef) w7) : wpList Tryd.prog ops Q (o :: rest) a (w6.alloc (.cells old 25)) := by
  obtain ⟨a1, a2, a3⟩ := laid_row w6 old c.toArray 25
  exact wpList_store_row hgd 25 x y ho w6.heap.size c.toArray hx hy _ _ (alloc_row w6 _ _) (by rw [List.size_toArray, hc]; exact size64) (by rw [hold, List.size_toArray, hc]) h1 (h _ a1 a2 a3)
def kΩ (w7 : World) : Nat → (Nat → Value) → World → Prop := fun _ _ W => Below w7.heap.size w7 W
def kf (cs : Value) (k sl sg : Value) : Nat → Value
  | 0 => cs
  | 1 => k
  | 2 => sl
  | 3 => sg
  | _ => .int .i64 0
set_option maxHeartbeats 2000000 in
theorem keeps_any (s : Nat) (hs : s < RN) (p : List Int) (v : Value) (w : World) (hv : Wi.Sl w v p) (hb : Wi.Byt p) (hl : p.length ≤ 140737488351232) (hw : Glo MA w) :
    Calls Tryd.prog 3 #[bv s, v] w fun e w' => e = .returned (.bool true) ∧ Below w.heap.size w w' := by
  have HV : Hid (Wi.Sl w v p) := hv
  have HY : Hid (Wi.Byt p) := hb
  have HG : Hid (Glo MA w) := hw
  obtain ⟨ad, cap, rfl, hc, -⟩ := hv
  clear hw hb hc
  go_enter Tryd.func3, Tryd.ntmps3
  go_wp2_with fail
  rename_i cs heq
  have HCS : Hid (bv s = .agg cs) := heq
  have HCZ : Hid (cs.size = 32) := bv_size heq
  have Bx : Below w.heap.size w (w.alloc (.cells cs 22)) := (Below.refl _ w).alloc (Nat.le_refl _) _
  have HRx : (w.alloc (.cells cs 22)).heap[w.heap.size]? = some (.cells cs 22 (0, 0)) := by show (w.heap.push _)[w.heap.size]? = _; simp
  obtain ⟨wx, hwx⟩ : ∃ W, w.alloc (.cells cs 22) = W := ⟨_, rfl⟩
  rw [hwx] at Bx HRx ⊢
  have BX : Hid (Below w.heap.size w wx) := Bx
  have hzx : w.heap.size < wx.heap.size := by rw [← hwx]; simp
  have RX : Hid (wx.heap[w.heap.size]? = some (.cells cs 22 (0, 0))) := HRx
  clear hwx Bx HRx heq
  refine (awake_any wx (HG.out.below BX.out)).mono ?_
  rintro e w1 ⟨rfl, hb1⟩
  have B1 : Hid (Below w.heap.size w w1) := BX.out.trans (hb1.mono BX.out.size)
  have hz1 : w.heap.size < w1.heap.size := Nat.lt_of_lt_of_le hzx hb1.size
  have R1 : Hid (w1.heap[w.heap.size]? = some (.cells cs 22 (0, 0))) := (hb1.block _ hzx).trans RX.out
  clear hb1 hzx RX BX
  have HV1 : Hid (Wi.Sl w1 (.slice ad p.length cap) p) := HV.out.below B1.out (Nat.le_refl _)
  go_wp2_with (first
    | (at_builtin; refine Wi.app_u8 (B0 := w1.heap.size) rfl (.tmp 11) (.tmp 12) rfl (by simp) _ [] rfl (Wi.Ow.lit w1 [] #[] 0 rfl rfl (by simp)) _ rfl p (HV1.out.below ((Below.refl _ w1).alloc (Nat.le_refl _) _) (Nat.le_refl _)) (by simp; omega) ?_; intro v9 w4 h1 h2 h3 h4; rw [List.nil_append] at h1; have O4 : Hid (Wi.Ow w1.heap.size w4 v9 p) := h1; have B4 : Hid (Below w1.heap.size w1 w4) := ((Below.refl _ w1).alloc (Nat.le_refl _) _).trans h3; clear h1 h2 h3 h4)
    | (at_builtin; refine Wi.app_u8 (B0 := w1.heap.size) rfl (.tmp 13) (.tmp 14) rfl (by have := B4.out.size; simp; omega) _ p rfl (O4.out.alloc _) _ rfl [77] (Wi.Sl.one w4 77 _) (by simp; omega) ?_; intro v5 w5 h1 h2 h3 h4; have O5 : Hid (Wi.Ow w1.heap.size w5 v5 (p ++ [77])) := h1; have B5 : Hid (Below w1.heap.size w1 w5) := (B4.out.trans ((Below.refl _ w4).alloc (Nat.le_refl _) _ |>.mono B4.out.size)).trans h3; obtain ⟨g5, c5, hv5, hc5, hg5, hz5⟩ := h1.opened (n := p.length) (by simp); subst hv5; have R5 : Hid (w5.heap[w.heap.size]? = some (.cells cs 22 (0, 0))) := (B5.out.block _ hz1).trans R1.out; clear h1 h2 h3 h4)
    | (refine wpList_load_row rfl 22 _ rfl _ rfl _ _ _ _ R5.out Tryd.underlying22 rfl (by rw [HCZ.out]; exact size32) ?_))
  have C5 : Hid (∀ j, j < p.length + 1 → w5.cell? ⟨g5, j, none⟩ = some (.int .u8 (Wi.gi (p ++ [77]) j))) := fun j hj => (O5.out.cell (by simpa using hj)).1
  have WS : Hid (∀ W, Below w5.heap.size w5 W → WSrc (.slice (some ⟨g5, 0, none⟩) p.length c5) p.length (Wi.bv p) W) := by
    intro W hb
    refine ⟨Wi.bv_length p, .inr ⟨g5, 0, c5, rfl, Nat.lt_of_lt_of_le hz5 hb.size, fun j u hu => ?_⟩⟩
    have hj : j < p.length := by rw [← Wi.bv_length p]; exact (List.getElem?_eq_some_iff.1 hu).1
    rw [hb.cell (p := ⟨g5, 0 + j, none⟩) hz5, Nat.zero_add, C5.out j (by omega), ← hu, Wi.bv_get p hj]
    unfold Wi.gi
    rw [List.getD_eq_getElem?_getD, List.getD_eq_getElem?_getD, List.getElem?_append_left hj]
  have HMS : MsgOK ⟨some ⟨g5, 0, none⟩, p.length, c5⟩ (Wi.bv p) := byte_msg (fun u hu => by
    obtain ⟨z, hz, rfl⟩ := List.mem_map.1 hu
    have := HY.out z hz
    exact ⟨z, rfl, this.1, by omega⟩)
  obtain ⟨k, sg, hK⟩ := keeps_at HMS (by rw [Wi.bv_length]; omega) s hs
  obtain ⟨c, hc64, hsg, hc1⟩ := hK.shape
  have KK : Hid (Keeps ⟨some ⟨g5, 0, none⟩, p.length, c5⟩ (Wi.bv p) s k (.agg c.toArray)) := by rw [← hsg]; exact hK
  have HC1 : Hid (c.toArray.all (·.oneCell') = true) := hc1
  clear hK hsg HMS hc1
  have G5 : Hid (Glo MA w5) := (HG.out.below B1.out).below (B5.out.mono (Nat.le_refl _))
  rw [← HCS.out]
  refine (KK.out.sign w5 G5.out (WS.out w5 (Below.refl _ _))).mono ?_
  rintro e w6 ⟨rfl, hb6⟩
  have B6 : Hid (Below w5.heap.size w5 w6) := hb6
  clear hb6
  go_wp2_with (refine store64 rfl (.tmp 7) (.tmp 22) rfl w6 _ c rfl rfl hc64 rfl HC1.out ?_; intro w7 h71 h72 h73; have B7 : Hid (Below w5.heap.size w5 w7) := B6.out.trans (h71.mono B6.out.size); have R7 : Hid (w7.heap[w6.heap.size]? = some (.cells c.toArray 25 (0, 0)) ∧ w6.heap.size < w7.heap.size) := ⟨h72, h73⟩; clear h71 h72 h73)
  have R7s : Hid (w7.heap[w.heap.size]? = some (.cells cs 22 (0, 0)) ∧ w.heap.size < w7.heap.size) := ⟨(B7.out.block _ (Nat.lt_of_lt_of_le hz1 B5.out.size)).trans R5.out, Nat.lt_of_lt_of_le hz1 (Nat.le_trans B5.out.size B7.out.size)⟩
  have G7 : Hid (Glo MA w7) := G5.out.below B7.out
  refine RU.wp_rgn' [] (kf (.agg cs) k (.slice (some ⟨g5, 0, none⟩) p.length c5) (.agg c.toArray)) (fun _ => 0) (kΩ w7) (by kernel_rfl) (by kernel_rfl) (Below.refl _ _).drew ?_ ?_
  · refine ⟨?_, ?_, ?_, ?_, ?_, ?_, trivial⟩
    · refine RU.ObT.silent rfl (fun a W k0 V hO hf hp hk => ?_)
      have q2 : a.eval (.tmp 2) = .pointer (some ⟨w.heap.size, 0, none⟩) := hf 2 rfl
      refine RU.ob_op rfl (RU.wanted_none rfl) (wp_load_row 22 (.tmp 2) rfl w.heap.size q2 _ cs _ _ ((Below.block hO _ R7s.out.2).trans R7s.out.1) Tryd.underlying22 rfl (by rw [HCZ.out]; exact size32) ⟨rfl, hO⟩)
    · refine RU.ObT.silent rfl (fun a W k0 V hO hf hp hk => ?_)
      have e23 : a.eval (.tmp 23) = bv s := (hp 0 23 rfl).trans HCS.out.symm
      refine RU.ob_call (g := 7) (args := #[bv s]) rfl (RU.wanted_none rfl) (fun ev he hc => ?_) ((KK.out.pub W (G7.out.below hO)).mono ?_)
      · have h23 := (he (.tmp 23)).trans e23
        have hfn := he (.func 7)
        simp only [List.getElem_toArray, List.getElem_cons_succ, List.getElem_cons_zero, execOp]
        simp only [resolve, invoke, Sem.run_bind, Sem.run_pure, Result.andThen_ok, List.map_toArray, List.map_cons, List.map_nil, hfn, hc, Act.eval, h23]
        rfl
      · rintro e' W2 ⟨rfl, hb2⟩
        exact ⟨_, rfl, rfl, Below.trans hO (hb2.mono (Below.size hO))⟩
    · refine RU.ObT.pure rfl rfl rfl (fun a V hf hp ev he hc W => ?_)
      have q6 : ev (.tmp 6) = .slice (some ⟨g5, 0, none⟩) p.length c5 := (he (.tmp 6)).trans (hf 6 rfl)
      simp only [List.getElem_toArray, List.getElem_cons_succ, List.getElem_cons_zero, execOp, Option.map_some, Option.map_none]; rw [q6]
      first | (go_simp; done) | (go_simp; rfl) | rfl
    · refine RU.ObT.silent rfl (fun a W k0 V hO hf hp hk => ?_)
      have q7 : a.eval (.tmp 7) = .pointer (some ⟨w6.heap.size, 0, none⟩) := hf 7 rfl
      refine RU.ob_op rfl (RU.wanted_none rfl) (wp_load_row 25 (.tmp 7) rfl w6.heap.size q7 _ c.toArray _ _ ((Below.block hO _ R7.out.2).trans R7.out.1) Tryd.underlying25 rfl (by rw [List.size_toArray, hc64]; exact size64) ⟨rfl, hO⟩)
    · refine RU.ObT.silent rfl (fun a W k0 V hO hf hp hk => ?_)
      have e24 : a.eval (.tmp 24) = k := hp 1 24 rfl
      have e25 : a.eval (.tmp 25) = .slice (some ⟨g5, 0, none⟩) p.length c5 := hp 2 25 rfl
      have e26 : a.eval (.tmp 26) = .agg c.toArray := hp 3 26 rfl
      refine RU.ob_call (g := 6) (args := #[k, .slice (some ⟨g5, 0, none⟩) p.length c5, .agg c.toArray]) rfl (RU.wanted_none rfl) (fun ev he hc => ?_) ((KK.out.ver W (G7.out.below hO) (WS.out W (B7.out.trans (Below.mono hO B7.out.size)))).mono ?_)
      · have h24 := (he (.tmp 24)).trans e24
        have h25 := (he (.tmp 25)).trans e25
        have h26 := (he (.tmp 26)).trans e26
        have hfn := he (.func 6)
        simp only [List.getElem_toArray, List.getElem_cons_succ, List.getElem_cons_zero, execOp]
        simp only [resolve, invoke, Sem.run_bind, Sem.run_pure, Result.andThen_ok, List.map_toArray, List.map_cons, List.map_nil, hfn, hc, Act.eval, h24, h25, h26]
        rfl
      · rintro e' W2 ⟨rfl, hb2⟩
        exact ⟨_, rfl, rfl, Below.trans hO (hb2.mono (Below.size hO))⟩
    · refine RU.ObT.pure rfl rfl rfl (fun a V hf hp ev he hc W => ?_)
      have q27 : ev (.tmp 27) = .int .i64 0 := (he (.tmp 27)).trans (hp 4 27 rfl)
      simp only [List.getElem_toArray, List.getElem_cons_succ, List.getElem_cons_zero, execOp, Option.map_some, Option.map_none]; rw [q27]
      first | (go_simp; done) | (go_simp; rfl) | rfl
  · intro w8 V8 hO8
    have B8 : Hid (Below w5.heap.size w5 w8) := B7.out.trans (Below.mono hO8 B7.out.size)
    simp only [RU.lay, RU.val, RU.at', kf, Act.put]
    simp only [List.setIfInBounds_toArray, List.set_cons_succ, List.set_cons_zero]
    clear hO8
    have SV8 : Hid (Wi.Sl w8 (.slice ad p.length cap) p) := (HV1.out.below B5.out (Nat.le_refl _)).below B8.out (Nat.le_refl _)
    have SI8 : Hid (Wi.Sl w8 (.slice (some ⟨g5, 0, none⟩) p.length c5) p) := by
      refine ⟨_, c5, rfl, by omega, .inr ⟨g5, 0, rfl, Nat.lt_of_lt_of_le hz5 B8.out.size, fun i hi => ?_⟩⟩
      rw [B8.out.cell (p := ⟨g5, 0 + i, none⟩) hz5, Nat.zero_add, C5.out i (by omega)]
      unfold Wi.gi
      rw [List.getD_eq_getElem?_getD, List.getD_eq_getElem?_getD, List.getElem?_append_left hi]
    have T1 := SV8.out.str
    have T2 := SI8.out.str
    have C77 : w8.cell? ⟨g5, p.length, none⟩ = some (.int .u8 77) := by
      rw [B8.out.cell (p := ⟨g5, p.length, none⟩) hz5, C5.out p.length (by omega)]
      unfold Wi.gi
      rw [List.getD_eq_getElem?_getD, List.getElem?_append_right (Nat.le_refl _)]
      simp
    have HBW : Hid (Below w.heap.size w w8) := (B1.out.trans (B5.out.mono B1.out.size)).trans (B8.out.mono (Nat.le_trans B1.out.size B5.out.size))
    go_wp2_with fail
    go_ret
    exact ⟨rfl, HBW.out⟩
end Go.Proofs.YtdegfgncdphepaaDoor.Edd
/- What comes in as a slice of bytes. -/
namespace Go.Proofs.YtdegfgncdphepaaDoor.Wi
open Go Go.ChangeShapes Go.WideShapes Go.ChangeAt Go.RowKit
set_option linter.unusedVariables false
set_option maxRecDepth 100000

theorem okWide_addr {W : World} {base : Nat} {x : Addr} {l c : Nat} {t e : TypeId} (hu : Tryd.prog.underlying t = some (.slice e)) (hv : Value.okWide Tryd.prog W .any base t (.slice (some x) l c)) : x.spot = none ∧ x.block < W.heap.size := by
  simp only [Value.okWide, hu, Cell.okWide, Cell.ok] at hv
  obtain ⟨_, _, _, hs, row, cells, hsh, _⟩ := hv
  refine ⟨hs, ?_⟩
  unfold World.shape? at hsh
  cases hg : W.heap[x.block]? with
  | none => rw [hg] at hsh; simp at hsh
  | some o => exact (Array.getElem?_eq_some_iff.1 hg).1
theorem byte_wf {n : Int} (h : (Lit.int .u8 n).wf = true) : 0 ≤ n ∧ n ≤ 255 := by
  simp only [Lit.wf, Bool.and_eq_true, decide_eq_true_eq] at h
  exact h
theorem sl_of {W : World} {b o l c : Nat} {zs : List Int} (hb : b < W.heap.size) (hl : l ≤ c) (hz : zs.length = c) (hcell : ∀ i, i < zs.length → W.cell? ((⟨b, o, none⟩ : Addr).add i) = some (.int .u8 (zs.getD i 0))) (hwz : ∀ n ∈ zs, (Lit.int .u8 n).wf = true) :
    Byt (zs.take l) ∧ (zs.take l).length = l ∧ Sl W (.slice (some ⟨b, o, none⟩) l c) (zs.take l) := by
  have hlen : (zs.take l).length = l := by rw [List.length_take]; omega
  refine ⟨fun z hz' => byte_wf (hwz z (List.mem_of_mem_take hz')), hlen, ⟨some ⟨b, o, none⟩, c, by rw [hlen], by rw [hlen]; exact hl, .inr ⟨b, o, rfl, hb, fun i hi => ?_⟩⟩⟩
  rw [hlen] at hi
  have h1 := hcell i (by omega)
  rw [addr_add0] at h1
  rw [h1]
  unfold gi
  simp only [List.getD_eq_getElem?_getD, List.getElem?_take, if_pos hi]
/-- A slice of bytes that came in. -/
theorem open_bytes {H : Type} {enc : TypeId × Value → H} {W : World} {base : Nat} {a : Option Addr} {l c : Nat} {d : DataW H} {p : List MemPlace} (hv : Value.okWide Tryd.prog W .any base 23 (.slice a l c))
    (h : DataW.Trod enc Tryd.prog W 0 (fun _ => true) true 23 (.slice a l c) d p) :
    ∃ xs, Byt xs ∧ xs.length = l ∧ Sl W (.slice a l c) xs ∧ ((d = .nil ∧ l = 0) ∨ ∃ es sp, d = .slice es sp ∧ es.length + sp.length = c ∧ l ≤ c) := by
  obtain ⟨fuel, hf⟩ := h
  rcases open_ints Tryd.underlying23 Tryd.underlying5 (by kernel_rfl) hf with ⟨hcs, hx⟩ | ⟨x, l', c', zs, hcs, _, hl, hm, hz, hx, hcell, hwz⟩
  · simp [Value.cells] at hcs
    obtain ⟨rfl, rfl, rfl⟩ := hcs
    exact ⟨[], Byt.nil, rfl, ⟨none, 0, rfl, Nat.le_refl _, .inl ⟨rfl, fun _ => rfl⟩⟩, .inl ⟨congrArg Prod.fst hx, rfl⟩⟩
  · simp [Value.cells] at hcs
    obtain ⟨rfl, rfl, rfl⟩ := hcs
    obtain ⟨hs, hb⟩ := okWide_addr Tryd.underlying23 hv
    obtain ⟨b, o, sp⟩ := x
    obtain rfl : sp = none := hs
    have hz' : zs.length = c := by simpa using hz
    obtain ⟨h1, h2, h3⟩ := sl_of hb hl hz' hcell hwz
    refine ⟨_, h1, h2, h3, .inr ⟨_, _, congrArg Prod.fst hx, ?_, hl⟩⟩
    simp only [lits, List.length_map, List.length_take, List.length_drop]; omega
end Go.Proofs.YtdegfgncdphepaaDoor.Wi
