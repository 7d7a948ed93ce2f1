/- The log's cells set; calls of the disk beside a log; lay. -/
import Derived.Test.YtphjjjijdbljaaaDoorWalM
namespace Go.Proofs.YtphjjjijdbljaaaDoor
open Go Go.RowKit
set_option linter.unusedSimpArgs false
set_option linter.unusedVariables false
set_option maxRecDepth 100000

/-- A cell of the log is written; the records stay. -/
theorem WX.set {S F H : Nat → Prop} {W : World} {g : Nat} {s : Dk} {lg : Nat} {l l' : Lo} {rv : Value} {us : List Value} (h : WX S F H W g s lg l rv us) {k : Nat} {v : Value} (hl : LB (W.setCell ⟨lg, k, none⟩ v) lg l' rv) (e0 : l'.f0.length = 64) (e1 : l'.f1.length = 64) (e2 : l'.rs = l.rs) (e3 : l'.g = l.g) :
    WX S F H (W.setCell ⟨lg, k, none⟩ v) g s lg l' rv us ∧ Chg S W (W.setCell ⟨lg, k, none⟩ v) := by
  have hs : (W.setCell ⟨lg, k, none⟩ v).heap.size = W.heap.size := by simp [World.setCell]
  have kk : ∀ b, b ≠ lg → (W.setCell ⟨lg, k, none⟩ v).heap[b]? = W.heap[b]? := fun b hb => Below.heap_setCell _ _ _ _ hb
  have hS : ∀ b, ¬ S b → b ≠ lg := fun b hn e => hn (e ▸ h.sh lg h.lw.hg)
  refine ⟨⟨h.pd.keep (by omega) (fun b hb => kk b (fun e => h.ap lg h.lw.hg (e ▸ hb))), ⟨hl, e0, e1, ?_, h.lw.hg, h.lw.hrv, h.lw.hus, fun b hb => by rw [hs]; exact h.lw.hlt b hb⟩, e3.trans h.dk, h.ap, h.sf, h.sh, h.bt, h.tb.keep (kk _ (hS _ h.at'.1)) (kk _ (hS _ h.at'.2)), h.at', fun b x => by rw [hs]; exact h.sl b x⟩, (Chg.refl _ _).setCell (h.sh lg h.lw.hg)⟩
  rw [e2]
  exact h.lw.ol.keep (by omega) (fun b x => kk b (h.lw.hrv b x).2) (fun i u hu b x => kk b (h.lw.hus i u hu b x).2)
/-- A call of the disk. -/
theorem WX.disk {S F H : Nat → Prop} {w w1 : World} {g : Nat} {s s1 : Dk} {lg : Nat} {l : Lo} {rv : Value} {us : List Value} (h : WX S F H w g s lg l rv us) (a : Aft F w w1 g s1) (hb : Sbt s1) :
    ∃ S' F', WX S' F' H w1 g s1 lg l rv us ∧ Chg S w w1 ∧ ∀ b, S' b → S b ∨ w.heap.size ≤ b := by
  obtain ⟨F', hp, hc, hd⟩ := a
  have hapF : Ap F := ⟨fun x => h.at'.1 (h.sf _ x), fun x => h.at'.2 (h.sf _ x)⟩
  refine ⟨fun b => S b ∨ F' b, F', ⟨hp, h.lw.chg hc h.ap, h.dk, fun b hH hf => ?_, fun b hf => .inr hf, fun b hH => .inl (h.sh b hH), hb, h.tb.chg hc hapF, ?_, fun b hb => hb.elim (fun x => Nat.lt_of_lt_of_le (h.sl b x) hc.size) (fun x => hp.lt x)⟩, hc.mono h.sf, fun b hb => ?_⟩
  · rcases hd b hf with x | x
    · exact h.ap b hH x
    · have := h.lw.hlt b hH; omega
  · constructor
    · rintro (x | x)
      · exact h.at'.1 x
      · rcases hd _ x with y | y
        · exact hapF.1 y
        · have := h.tb.lt.1; omega
    · rintro (x | x)
      · exact h.at'.2 x
      · rcases hd _ x with y | y
        · exact hapF.2 y
        · have := h.tb.lt.2; omega
  · rcases hb with x | x
    · exact .inl x
    · exact (hd b x).imp (h.sf b) id
/-- New records in the place of the old ones. -/
theorem WX.fresh {S F H : Nat → Prop} {W : World} {g : Nat} {s : Dk} {lg : Nat} {l : Lo} {rv v : Value} {us us' : List Value} {rs : List (List Int)} {B : Nat} (h : WX S F H W g s lg l rv us) (ol : OL B W v us' rs) (hH : ∀ b, H b ∨ F b → b < B) (hT : 1 < B ∧ 2 < B) :
    ∃ S' H', WX S' F H' (W.setCell ⟨lg, 130, none⟩ v) g s lg { l with rs := rs } v us' ∧ Chg S W (W.setCell ⟨lg, 130, none⟩ v) ∧ ∀ b, S' b → S b ∨ B ≤ b := by
  have hs : (W.setCell ⟨lg, 130, none⟩ v).heap.size = W.heap.size := by simp [World.setCell]
  have kk : ∀ b, b ≠ lg → (W.setCell ⟨lg, 130, none⟩ v).heap[b]? = W.heap[b]? := fun b hb => Below.heap_setCell _ _ _ _ hb
  have hS : ∀ b, ¬ S b → b ≠ lg := fun b hn e => hn (e ▸ h.sh lg h.lw.hg)
  have hlg : lg < B := hH lg (.inl h.lw.hg)
  have hv : ∀ b, v.ownBlock = some b → B ≤ b ∧ b < W.heap.size := ol.blk
  have hu : ∀ (i : Nat) (u : Value), us'[i]? = some u → ∀ b, u.ownBlock = some b → B ≤ b ∧ b < W.heap.size := fun i u hu b e => ⟨(ol.mem i u hu).blk b e, (ol.apart i u hu b e).1⟩
  have o0 : OL 0 (W.setCell ⟨lg, 130, none⟩ v) v us' rs := by
    have o1 : OL 0 W v us' rs := ⟨ol.len, ⟨ol.row.1, ol.row.2.imp id (fun ⟨g, cap, cur, a, b, c⟩ => ⟨g, cap, cur, a, Nat.zero_le _, c⟩)⟩, fun i u hu => (ol.mem i u hu).mono (Nat.zero_le _), ol.apart, ol.dist⟩
    exact o1.keep (by omega) (fun b x => kk b (by have := (hv b x).1; omega)) (fun i u hx b x => kk b (by have := (hu i u hx b x).1; omega))
  refine ⟨fun b => S b ∨ B ≤ b ∧ b < W.heap.size, fun b => H b ∨ B ≤ b ∧ b < W.heap.size ∧ ¬ F b, ⟨h.pd.keep (by omega) (fun b hb => kk b (fun e => h.ap lg h.lw.hg (e ▸ hb))), ⟨h.lw.lb.setR h.lw.f0 h.lw.f1 rs v, h.lw.f0, h.lw.f1, o0, .inl h.lw.hg, fun b e => ⟨.inr ⟨(hv b e).1, (hv b e).2, fun x => by have h1 := hH b (.inr x); have h2 := (hv b e).1; omega⟩, by have := (hv b e).1; omega⟩, fun i u hx b e => ⟨.inr ⟨(hu i u hx b e).1, (hu i u hx b e).2, fun x => by have h1 := hH b (.inr x); have h2 := (hu i u hx b e).1; omega⟩, by have := (hu i u hx b e).1; omega⟩, fun b hb => ?_⟩, h.dk, fun b hb hf => ?_, fun b hb => .inl (h.sf b hb), fun b hb => ?_, h.bt, h.tb.keep (kk _ (hS _ h.at'.1)) (kk _ (hS _ h.at'.2)), ?_, fun b hb => by rw [hs]; exact hb.elim (h.sl b) (fun x => x.2)⟩, (Chg.refl _ _).setCell (h.sh lg h.lw.hg), fun b hb => hb.imp id (fun x => x.1)⟩
  · rw [hs]; exact hb.elim (h.lw.hlt b) (fun x => x.2.1)
  · exact hb.elim (fun x => h.ap b x hf) (fun x => x.2.2 hf)
  · exact hb.imp (h.sh b) (fun x => ⟨x.1, x.2.1⟩)
  · exact ⟨fun x => x.elim h.at'.1 (fun y => by omega), fun x => x.elim h.at'.2 (fun y => by omega)⟩
set_option maxHeartbeats 1000000 in
theorem wlay_any {S : Nat → Prop} {w : World} {g : Nat} {s : Dk} {lg : Nat} {l : Lo} (h : WL S w g s lg l) (a : Int) (p : List Int) (ad : Option Addr) (cap : Nat) (hv : Sq w (.slice ad p.length cap) p) (hb : Byt p) (hF : ∀ b, slB (.slice ad p.length cap) = some b → ¬ S b)
    (ha : 0 ≤ a ∧ a ≤ 1099511627775) (hp : p.length ≤ 1099511627776) (hN : s.wt.length ≤ 549755813888) :
    Calls Tryd.prog 54 #[.pointer (some ⟨lg, 0, none⟩), .int .i64 a, .slice ad p.length cap] w fun e w' => e = .returned (.int .i64 (lay s a p).1) ∧ AftL S w w' g (lay s a p).2 lg { l with lo := decide ((lay s a p).1 = 9) } := by
  obtain ⟨F, H, rv, us, hx⟩ := h
  have HX : Hid (WX S F H w g s lg l rv us) := hx
  have HV : Hid (Sq w (.slice ad p.length cap) p) := hv
  have HB : Hid (Byt p) := hb
  have HF : Hid (∀ b, slB (.slice ad p.length cap) = some b → ¬ S b) := hF
  obtain ⟨c0, -⟩ := hx.lw.lb.cells hx.lw.f0 hx.lw.f1
  rw [hx.dk] at c0
  have HBT : Hid (Sbt (lay s a p).2) := sbt_lay hx.bt a hb
  clear hx hv hb hF
  go_enter Tryd.func54, Tryd.ntmps54
  go_wp2_with fail
  refine (layFrame_any HX.out.pd a p ad cap HV.out HB.out HX.out.tb ⟨fun x => HX.out.at'.1 (HX.out.sf _ x), fun x => HX.out.at'.2 (HX.out.sf _ x)⟩ (fun b e x => HF.out b e (HX.out.sf b x)) ha hp hN).mono ?_
  rintro e w1 ⟨rfl, haft⟩
  obtain ⟨S1, F1, hx1, hc1, hs1⟩ := HX.out.disk haft HBT.out
  have X1 : Hid (WX S1 F1 H w1 g (lay s a p).2 lg l rv us) := hx1
  have C1 : Hid (Chg S w w1) := hc1
  have D1 : Hid (∀ b, S1 b → S b ∨ w.heap.size ≤ b) := hs1
  clear haft hx1 hc1 hs1 c0
  obtain ⟨-, -, -, -, c132⟩ := X1.out.lw.lb.cells X1.out.lw.f0 X1.out.lw.f1
  have f132 := X1.out.lw.lb.froz 132
  obtain ⟨z, hz⟩ : ∃ z, (lay s a p).1 = z := ⟨_, rfl⟩
  have HZ : Hid ((lay s a p).1 = z) := hz
  rw [hz]
  clear hz
  go_wp2_with fail
  go_ret
  rw [HZ.out]
  refine ⟨rfl, AftL.trans C1.out D1.out ?_⟩
  have hset := X1.out.set (X1.out.lw.lb.setL X1.out.lw.f0 X1.out.lw.f1 (decide (z = 9))) X1.out.lw.f0 X1.out.lw.f1 rfl rfl
  have e9 : (z == 9) = decide (z = 9) := by simp [BEq.beq]
  try rw [e9]
  exact ⟨S1, ⟨F1, H, rv, us, hset.1⟩, hset.2, fun b hb => .inl hb⟩
set_option maxHeartbeats 1000000 in
theorem follow_zero {S : Nat → Prop} {w : World} {g : Nat} {s : Dk} {lg : Nat} {l : Lo} (h : WL S w g s lg l) (h0 : l.t = 0) :
    Calls Tryd.prog 44 #[.pointer (some ⟨lg, 0, none⟩)] w fun e w' => e = .returned (.tuple #[]) ∧ w' = w := by
  obtain ⟨F, H, rv, us, hx⟩ := h
  obtain ⟨c0, c1, -⟩ := hx.lw.lb.cells hx.lw.f0 hx.lw.f1
  rw [h0] at c1
  clear hx
  go_enter Tryd.func44, Tryd.ntmps44
  go_wp2_with fail
  refine bodyPost_ret (v := .tuple #[]) (results_none Tryd.results44 _ _ _) rfl ?_
  exact ⟨rfl, rfl⟩
end Go.Proofs.YtphjjjijdbljaaaDoor
/- begin. -/
namespace Go.Proofs.YtphjjjijdbljaaaDoor
open Go Go.RowKit
set_option linter.unusedSimpArgs false
set_option linter.unusedVariables false
set_option maxRecDepth 100000

theorem splice_mid (A B B' C : List Value) (hB : B'.length = B.length) (i : Nat) : (A ++ (B' ++ C))[i]? = if A.length ≤ i ∧ i < A.length + B'.length then B'[i - A.length]? else (A ++ (B ++ C))[i]? := by
  by_cases h1 : i < A.length
  · rw [if_neg (by omega), List.getElem?_append_left h1, List.getElem?_append_left h1]
  · by_cases h2 : i < A.length + B'.length
    · rw [if_pos ⟨by omega, h2⟩, List.getElem?_append_right (by omega), List.getElem?_append_left (by omega)]
    · rw [if_neg (by omega), List.getElem?_append_right (by omega), List.getElem?_append_right (by omega), List.getElem?_append_right (by omega), List.getElem?_append_right (by omega), hB]
theorem LB.setF0 {w : World} {lg : Nat} {l : Lo} {rv : Value} (h : LB w lg l rv) (h0 : l.f0.length = 64) (h1 : l.f1.length = 64) {x : List Int} (hx : x.length = 64) : LB (w.setCells lg 2 (bv x)) lg { l with f0 := x } rv := by
  refine Sh.heap_setCells h 2 (bv x) (by rw [List.size_toArray, lc_length h0 h1, bv_length, hx]; omega) (fun i => ?_)
  rw [List.getElem?_toArray, List.getElem?_toArray]
  exact splice_mid [.pointer (some ⟨l.g, 0, none⟩), .int .u64 (l.t : Int)] (bv l.f0) (bv x) _ (by rw [bv_length, bv_length, hx, h0]) i
theorem LB.setF1 {w : World} {lg : Nat} {l : Lo} {rv : Value} (h : LB w lg l rv) (h0 : l.f0.length = 64) (h1 : l.f1.length = 64) {x : List Int} (hx : x.length = 64) : LB (w.setCells lg 66 (bv x)) lg { l with f1 := x } rv := by
  refine Sh.heap_setCells h 66 (bv x) (by rw [List.size_toArray, lc_length h0 h1, bv_length, hx]; omega) (fun i => ?_)
  rw [List.getElem?_toArray, List.getElem?_toArray]
  have hA : ([.pointer (some ⟨l.g, 0, none⟩), .int .u64 (l.t : Int)] ++ bv l.f0 : List Value).length = 66 := by simp [bv_length, h0]
  have := splice_mid ([.pointer (some ⟨l.g, 0, none⟩), .int .u64 (l.t : Int)] ++ bv l.f0) (bv l.f1) (bv x) [rv, .int .i64 (l.en : Int), .bool l.lo] (by rw [bv_length, bv_length, hx, h1]) i
  rw [hA, List.append_assoc, List.append_assoc] at this
  exact this
/-- The log's block is changed; the records stay. -/
theorem WX.upd {S F H : Nat → Prop} {W W' : World} {g : Nat} {s : Dk} {lg : Nat} {l l' : Lo} {rv : Value} {us : List Value} (h : WX S F H W g s lg l rv us) (hl : LB W' lg l' rv) (hs : W'.heap.size = W.heap.size) (kk : ∀ b, b ≠ lg → W'.heap[b]? = W.heap[b]?) (e0 : l'.f0.length = 64) (e1 : l'.f1.length = 64) (e2 : l'.rs = l.rs) (e3 : l'.g = l.g) :
    WX S F H W' g s lg l' rv us := by
  have hS : ∀ b, ¬ S b → b ≠ lg := fun b hn e => hn (e ▸ h.sh lg h.lw.hg)
  refine ⟨h.pd.keep (by omega) (fun b hb => kk b (fun e => h.ap lg h.lw.hg (e ▸ hb))), ⟨hl, e0, e1, ?_, h.lw.hg, h.lw.hrv, h.lw.hus, fun b hb => by rw [hs]; exact h.lw.hlt b hb⟩, e3.trans h.dk, h.ap, h.sf, h.sh, h.bt, h.tb.keep (kk _ (hS _ h.at'.1)) (kk _ (hS _ h.at'.2)), h.at', fun b x => by rw [hs]; exact h.sl b x⟩
  rw [e2]
  exact h.lw.ol.keep (by omega) (fun b x => kk b (h.lw.hrv b x).2) (fun i u hu b x => kk b (h.lw.hus i u hu b x).2)
/-- The first sector of a half, as the log keeps it. -/
def setF (l : Lo) (i : Nat) (x : List Int) : Lo := if i = 0 then { l with f0 := x } else { l with f1 := x }
theorem setF_same (l : Lo) (i : Nat) (x : List Int) : (setF l i x).rs = l.rs ∧ (setF l i x).g = l.g ∧ (setF l i x).t = l.t ∧ (setF l i x).en = l.en ∧ (setF l i x).lo = l.lo := by
  unfold setF; split <;> exact ⟨rfl, rfl, rfl, rfl, rfl⟩
theorem WX.setF {S F H : Nat → Prop} {W : World} {g : Nat} {s : Dk} {lg : Nat} {l : Lo} {rv : Value} {us : List Value} (h : WX S F H W g s lg l rv us) (i : Nat) (hi : i < 2) {x : List Int} (hx : x.length = 64) :
    WX S F H (W.setCells lg (2 + i * 64) (bv x)) g s lg (Go.Proofs.YtphjjjijdbljaaaDoor.setF l i x) rv us ∧ Chg S W (W.setCells lg (2 + i * 64) (bv x)) := by
  refine ⟨?_, (Chg.refl _ _).setCells (h.sh lg h.lw.hg)⟩
  have hs := size_setCells lg (bv x) (2 + i * 64) W
  have kk : ∀ b, b ≠ lg → (W.setCells lg (2 + i * 64) (bv x)).heap[b]? = W.heap[b]? := fun b hb => heap_past lg b hb _ _ _
  have : i = 0 ∨ i = 1 := by omega
  rcases this with rfl | rfl
  · exact h.upd (h.lw.lb.setF0 h.lw.f0 h.lw.f1 hx) hs kk hx h.lw.f1 rfl rfl
  · exact h.upd (h.lw.lb.setF1 h.lw.f0 h.lw.f1 hx) hs kk h.lw.f0 hx rfl rfl
set_option maxHeartbeats 2000000 in
theorem begin_full {S : Nat → Prop} {w : World} {g : Nat} {s : Dk} {lg : Nat} {l : Lo} (h : WL S w g s lg l) (ht : l.t + 1 < 18446744073709551616) (xss : List (List Int)) (v : Value) (hv : LL w v xss) (hn : xss.length ≤ 140737488355328) (hJ : JS xss ≤ 140737488355328)
    (hf : ¬ (hfF s.n (l.t + 1) + fl (JS xss) < hfT s.n (l.t + 1))) :
    Calls Tryd.prog 52 #[.pointer (some ⟨lg, 0, none⟩), v] w fun e w' => e = .returned (.int .i64 5) ∧ w' = w := by
  obtain ⟨F, H, rv, us, hx⟩ := h
  have HX : Hid (WX S F H w g s lg l rv us) := hx
  have HV : Hid (LL w v xss) := hv
  obtain ⟨c0, c1, -⟩ := hx.lw.lb.cells hx.lw.f0 hx.lw.f1
  rw [hx.dk] at c0
  have hn2 := hx.pd.n2
  obtain ⟨ad, cap, rfl, -⟩ := hv
  clear hx
  obtain ⟨t, htt⟩ : ∃ t, l.t = t := ⟨_, rfl⟩
  rw [htt] at c1 ht hf
  obtain ⟨A, hA⟩ : ∃ A, hfF s.n (t + 1) = A := ⟨_, rfl⟩
  obtain ⟨T, hT⟩ : ∃ T, hfT s.n (t + 1) = T := ⟨_, rfl⟩
  have HAT : Hid (hfF s.n (t + 1) = A ∧ hfT s.n (t + 1) = T) := ⟨hA, hT⟩
  have hAb : A ≤ 65536 := by
    rw [← hA]; unfold hfF
    have : (t + 1) % 2 = 0 ∨ (t + 1) % 2 = 1 := by omega
    rcases this with h | h <;> rw [h] <;> omega
  rw [hA, hT] at hf
  have hfd : decide (A + fl (JS xss) < T) = false := decide_eq_false hf
  clear hA hT htt hf
  go_enter Tryd.func52, Tryd.ntmps52
  go_wp2_with fail
  refine (half_any HX.out.pd c0 (by omega) (t + 1) ht).mono ?_
  rintro e w' ⟨rfl, rfl⟩
  rw [HAT.out.1, HAT.out.2]
  go_wp2_with (first
    | (go_at_call 67; refine (joinedSize_any xss _ w' HV.out hn (by omega)).mono ?_; rintro e w'' ⟨rfl, rfl⟩)
    | (go_at_call 53; refine (fits_any A (JS xss) T w'' hJ (by omega)).mono ?_; rintro e w3 ⟨rfl, rfl⟩; rw [hfd]))
  go_ret
  exact ⟨rfl, rfl⟩
end Go.Proofs.YtphjjjijdbljaaaDoor
