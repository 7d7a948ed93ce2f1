/- Package store: Apply of one change on a new table; awake. -/
import Derived.Test.YtphjjjijdbljaaaDoorStoM
namespace Go.Proofs.YtphjjjijdbljaaaDoor
open Go Go.RowKit
set_option linter.unusedSimpArgs false
set_option linter.unusedVariables false
set_option maxRecDepth 100000

def apf (st room G : Nat) (v : Value) : Nat → Value
  | 0 | 1 | 5 | 6 => .pointer (some ⟨st, 0, none⟩) | 2 => .pointer (some ⟨st, 3, none⟩) | 3 => v | 4 => .int .i64 (G : Int) | 7 => .pointer (some ⟨st, 1, none⟩) | 8 => .int .i64 (room : Int) | 9 => .int .i64 ((room / 8 * 7 : Nat) : Int) | 10 => .bool false | _ => undef
def apΩ (w1 : World) : Nat → (Nat → Value) → World → Prop := fun _ _ W => Below w1.heap.size w1 W
set_option maxHeartbeats 4000000 in
theorem apply_one {S : Nat → Prop} {w : World} {g n lg st : Nat} {room : Nat} (hl : WL S w g (dk0 n) lg (l0 g)) (h : SX w st lg (room : Int) 0 (.slice none 0 0) 0 false) (hst : ¬ S st) (c : Cg) (hf : fine c = true) (hg : c.gn = false) (v : Value) (hv : CS w v [c]) (hvb : ∀ b, v.ownBlock = some b → ¬ S b ∧ b ≠ st)
    (p : List Int) (hp : encB (rl [c] 1) = p) (hpb : Byt p) (hpl : p.length ≤ 65536) (hn : fl (16 + p.length) < n / 2) (hr : p.length + 64 ≤ room) (hr2 : room ≤ 1000000000) (hbr : brE [c] = 0) (hrt : wg c ≤ room / 8 * 7) :
    Calls Tryd.prog 9 #[.pointer (some ⟨st, 0, none⟩), v] w fun e w' => e = .returned (.int .i64 0) ∧ ∃ v', SX w' st lg (room : Int) ((p.length + 64 : Nat) : Int) v' (wg c : Int) false ∧ CS w' v' [c] ∧ Chg (fun b => S b ∨ b = st) w w' := by
  have HL : Hid (WL S w g (dk0 n) lg (l0 g)) := hl
  have HX : Hid (SX w st lg (room : Int) 0 (.slice none 0 0) 0 false) := h
  have HF : Hid (fine c = true) := hf
  have HG : Hid (c.gn = false) := hg
  have HV : Hid (CS w v [c]) := hv
  have HBR : Hid (brE [c] = 0) := hbr
  obtain ⟨hk0, hk1, hk2⟩ := fine_iff.1 hf
  have HLY : Hid (∀ W : World, Below w.heap.size w W → Calls Tryd.prog 20 #[.pointer (some ⟨st, 0, none⟩), v] W fun e w' => e = .returned (.int .i64 0) ∧ ApP S W w' st lg (room : Int) ((p.length + 64 : Nat) : Int) c) := fun W hb => slay_one (hl.below hb) (h.below hb) hst c hf hg v (hv.below hb) hvb p hp hpb hpl hn hr hr2
  obtain ⟨T, hT⟩ : ∃ T, ((p.length + 64 : Nat) : Int) = T := ⟨_, rfl⟩
  rw [hT] at HLY ⊢
  obtain ⟨u0, u1, u2, u3, u4, u5⟩ := h.cells
  obtain ⟨G, hG⟩ : ∃ G, wg c = G := ⟨_, rfl⟩
  have HGG : Hid (wg c = G) := hG
  rw [hG] at hrt
  clear hl h hst hf hg hvb hp hpb hn hr hpl hT hG hbr
  obtain ⟨adv, cpv, rfl, -, -⟩ := hv
  go_enter Tryd.func9, Tryd.ntmps9
  go_wp2_with (go_at_call 17; refine (srefuse_any [c] _ w HV.out (by simp) (fun j c' hj => by match j, hj with | 0, hj => simp at hj; subst hj; exact ⟨by omega, by omega⟩ | j + 1, hj => simp at hj)).mono ?_; rintro e w1 ⟨rfl, h1⟩; rw [HBR.out]; have B1 : Hid (Below w.heap.size w w1) := h1; have X1 : Hid (SX w1 st lg (room : Int) 0 (.slice none 0 0) 0 false) := HX.out.below h1; clear h1)
  refine RU.wp_rgn' [] (apf st room G (.slice adv [c].length cpv)) hK0 (apΩ w1) (by kernel_rfl) (by kernel_rfl) (show Below w1.heap.size w1 _ from (Below.refl _ _).drew) ?_ ?_
  · refine ⟨?_, ?_, ?_, ?_, ?_, ?_, ?_, ?_, ?_, ?_, ?_, trivial⟩
    · refine RU.ObT.pure rfl rfl rfl (fun a V hf hp ev he hc W => ?_)
      have q0 : ev (.tmp 0) = .pointer (some ⟨st, 0, none⟩) := (he (.tmp 0)).trans (hf 0 rfl)
      simp only [List.getElem_toArray, List.getElem_cons_succ, List.getElem_cons_zero, execOp, Option.map_some, Option.map_none]; rw [q0]
      first | (go_simp; done) | (go_simp; rfl) | rfl
    · refine RU.ObT.pure rfl rfl rfl (fun a V hf hp ev he hc W => ?_)
      have q30 : ev (.tmp 30) = .pointer (some ⟨st, 0, none⟩) := (he (.tmp 30)).trans (hp 0 30 rfl)
      simp only [List.getElem_toArray, List.getElem_cons_succ, List.getElem_cons_zero, execOp, Option.map_some, Option.map_none]; rw [q30]
      first | (go_simp; done) | (go_simp; rfl) | rfl
    · refine RU.ObT.pure rfl rfl rfl (fun a V hf hp ev he hc W => ?_)
      have q31 : ev (.tmp 31) = .pointer (some ⟨st, 0, none⟩) := (he (.tmp 31)).trans (hp 1 31 rfl)
      simp only [List.getElem_toArray, List.getElem_cons_succ, List.getElem_cons_zero, execOp, Option.map_some, Option.map_none]; rw [q31]
      first | (go_simp; done) | (go_simp; rfl) | rfl
    · refine RU.ObT.pure rfl rfl rfl (fun a V hf hp ev he hc W => ?_)
      have q1 : ev (.tmp 1) = .slice adv [c].length cpv := (he (.tmp 1)).trans (hf 1 rfl)
      simp only [List.getElem_toArray, List.getElem_cons_succ, List.getElem_cons_zero, execOp, Option.map_some, Option.map_none]; rw [q1]
      first | (go_simp; done) | (go_simp; rfl) | rfl
    · refine RU.ObT.silent rfl (fun a W k0 V hO hf hp hk => ?_)
      have hO' : Below w1.heap.size w1 W := hO
      have e32 : a.eval (.tmp 32) = .pointer (some ⟨st, 3, none⟩) := hp 2 32 rfl
      have e33 : a.eval (.tmp 33) = .slice adv [c].length cpv := hp 3 33 rfl
      refine RU.ob_call (g := 18) (args := #[.pointer (some ⟨st, 3, none⟩), .slice adv [c].length cpv]) rfl (RU.wanted_none rfl) (fun ev he hc => ?_) ((weightBehind_one c HF.out HG.out _ W ((HV.out.below B1.out).below hO') st 3 (X1.out.below hO').lt (X1.out.below hO').cells.2.2.2.1 (X1.out.below hO').cells.2.2.2.2.1).mono ?_)
      · have h32 := (he (.tmp 32)).trans e32
        have h33 := (he (.tmp 33)).trans e33
        have hfn := he (.func 18)
        simp only [List.getElem_toArray, List.getElem_cons_succ, List.getElem_cons_zero, execOp, Option.map_some, Option.map_none]
        simp only [resolve, invoke, Sem.run_bind, Sem.run_pure, Result.andThen_ok, List.map_toArray, List.map_cons, List.map_nil, h32, h33, hfn, Act.eval, hc]
        rfl
      · rintro e' W2 ⟨rfl, hb2⟩
        exact ⟨_, rfl, by rw [HGG.out]; rfl, (hO'.trans (hb2.mono hO'.size) : Below w1.heap.size w1 W2)⟩
    · refine RU.ObT.pure rfl rfl rfl (fun a V hf hp ev he hc W => ?_)
      have q0 : ev (.tmp 0) = .pointer (some ⟨st, 0, none⟩) := (he (.tmp 0)).trans (hf 0 rfl)
      simp only [List.getElem_toArray, List.getElem_cons_succ, List.getElem_cons_zero, execOp, Option.map_some, Option.map_none]; rw [q0]
      first | (go_simp; done) | (go_simp; rfl) | rfl
    · refine RU.ObT.pure rfl rfl rfl (fun a V hf hp ev he hc W => ?_)
      have q35 : ev (.tmp 35) = .pointer (some ⟨st, 0, none⟩) := (he (.tmp 35)).trans (hp 5 35 rfl)
      simp only [List.getElem_toArray, List.getElem_cons_succ, List.getElem_cons_zero, execOp, Option.map_some, Option.map_none]; rw [q35]
      first | (go_simp; done) | (go_simp; rfl) | rfl
    · refine RU.ObT.pure rfl rfl rfl (fun a V hf hp ev he hc W => ?_)
      have q36 : ev (.tmp 36) = .pointer (some ⟨st, 0, none⟩) := (he (.tmp 36)).trans (hp 6 36 rfl)
      simp only [List.getElem_toArray, List.getElem_cons_succ, List.getElem_cons_zero, execOp, Option.map_some, Option.map_none]; rw [q36]
      first | (go_simp; done) | (go_simp; rfl) | rfl
    · refine RU.ObT.silent rfl (fun a W k0 V hO hf hp hk => ?_)
      have hO' : Below w1.heap.size w1 W := hO
      have hs := (X1.out.below hO').cells.2.1
      refine RU.ob_val rfl (RU.wanted_none rfl) (fun ev he hc => ?_) ⟨rfl, hO⟩
      have q37 : ev (.tmp 37) = .pointer (some ⟨st, 1, none⟩) := (he (.tmp 37)).trans (hp 7 37 rfl)
      simp only [List.getElem_toArray, List.getElem_cons_succ, List.getElem_cons_zero, execOp, Option.map_some, Option.map_none]; rw [q37]
      first | (go_simp; done) | (go_simp; rfl) | rfl
    · refine RU.ObT.silent rfl (fun a W k0 V hO hf hp hk => ?_)
      have e38 : a.eval (.tmp 38) = .int .i64 (room : Int) := hp 8 38 rfl
      refine RU.ob_call (g := 19) (args := #[.int .i64 (room : Int)]) rfl (RU.wanted_none rfl) (fun ev he hc => ?_) ((roomOfTable_any room (by omega) W).mono ?_)
      · have h38 := (he (.tmp 38)).trans e38
        have hfn := he (.func 19)
        simp only [List.getElem_toArray, List.getElem_cons_succ, List.getElem_cons_zero, execOp, Option.map_some, Option.map_none]
        simp only [resolve, invoke, Sem.run_bind, Sem.run_pure, Result.andThen_ok, List.map_toArray, List.map_cons, List.map_nil, h38, hfn, Act.eval, hc]
        rfl
      · rintro e' W2 ⟨rfl, rfl⟩
        exact ⟨_, rfl, rfl, hO⟩
    · refine RU.ObT.pure rfl rfl rfl (fun a V hf hp ev he hc W => ?_)
      have q34 : ev (.tmp 34) = .int .i64 (G : Int) := (he (.tmp 34)).trans (hp 4 34 rfl)
      have q39 : ev (.tmp 39) = .int .i64 ((room / 8 * 7 : Nat) : Int) := (he (.tmp 39)).trans (hp 9 39 rfl)
      simp only [List.getElem_toArray, List.getElem_cons_succ, List.getElem_cons_zero, execOp, Option.map_some, Option.map_none]; rw [q34, q39]
      have hgr : ¬ (((room / 8 * 7 : Nat) : Int) < (G : Int)) := by omega
      generalize ((room / 8 * 7 : Nat) : Int) = rr at hgr ⊢
      first | (go_simp; done) | (go_simp; rfl) | rfl
  intro w2 V2 hO2
  have B2 : Hid (Below w1.heap.size w1 w2) := hO2
  clear hO2
  simp only [RU.lay, RU.val, RU.at', apf, Act.put]
  simp only [List.setIfInBounds_toArray, List.set_cons_succ, List.set_cons_zero]
  go_wp2_with (go_at_call 20; refine (HLY.out w2 (B1.out.trans (B2.out.mono B1.out.size))).mono ?_; rintro e w3 ⟨rfl, v3, h3, h4, h5, h6⟩; have X3 : Hid (SX w3 st lg (room : Int) T v3 (wg c : Int) false) := h3; have V3 : Hid (CS w3 v3 [c]) := h4; have C3 : Hid (Chg (fun b => S b ∨ b = st) w2 w3) := h5; have q0 := h3.cells.2.2.2.2.2; have q1 := h3.froz 5; have N3 : Hid (∀ b, v3.ownBlock = some b → b ≠ st) := h6; clear h3 h4 h5 h6)
  go_ret
  have hse := X3.out.setL false
  refine ⟨rfl, v3, hse.1, V3.out.far hse.2 ?_, (((chg_of_below B1.out).trans (chg_of_below B2.out)).trans C3.out).trans (chg_grown hse.2 (.inr rfl))⟩
  exact N3.out
theorem cs_one (w : World) (c : Cg) (T : TypeId) : CS (w.alloc (.cells #[.string c.k, .string c.v, .bool c.gn] T)) (.slice (some ⟨w.heap.size, 0, none⟩) 1 1) [c] := by
  refine ⟨_, 1, rfl, Nat.le_refl _, .inr ⟨w.heap.size, 0, rfl, by simp, fun i c' hi => ?_⟩⟩
  match i, hi with
  | 0, hi =>
    simp at hi; subst hi
    intro j u hj
    have hz : (w.alloc (.cells #[.string c.k, .string c.v, .bool c.gn] T)).heap[w.heap.size]? = some (.cells #[.string c.k, .string c.v, .bool c.gn] T (0, 0)) := by show (w.heap.push _)[w.heap.size]? = _; simp
    match j, hj with
    | 0, hj => simp [cc] at hj; subst hj; unfold World.cell?; rw [hz]; rfl
    | 1, hj => simp [cc] at hj; subst hj; unfold World.cell?; rw [hz]; rfl
    | 2, hj => simp [cc] at hj; subst hj; unfold World.cell?; rw [hz]; rfl
    | j + 3, hj => simp [cc] at hj
  | i + 1, hi => simp at hi
/-- The change that awake lays. -/
def ck : Cg := ⟨⟨#[107]⟩, ⟨#[118]⟩, false⟩
theorem ck_fine : fine ck = true := by kernel_rfl
theorem ck_br : brE [ck] = 0 := by kernel_rfl
end Go.Proofs.YtphjjjijdbljaaaDoor
/- awake. -/
namespace Go.Proofs.YtphjjjijdbljaaaDoor
open Go Go.RowKit
set_option linter.unusedSimpArgs false
set_option linter.unusedVariables false
set_option maxRecDepth 100000

def pk' : List Int := [0, 0, 0, 2, 0, 0, 0, 1, 107, 0, 0, 0, 2, 1, 118]
theorem ck_rec : encB (rl [ck] 1) = pk' := by kernel_rfl
theorem pk_byt : Byt pk' := by
  intro z hz
  simp only [pk', List.mem_cons, List.mem_nil_iff, or_false] at hz
  omega
theorem ck_sp : Sp [ck] ck.k 0 := by
  refine ⟨by simp, fun i c h hi => by omega, fun i c h hi => ?_⟩
  match i, h with
  | 0, h => simp at h; subst h; exact (by kernel_rfl : (decide (0 ≤ cp ck ck.k)) = true) |> of_decide_eq_true
  | i + 1, h => simp at h
theorem ck_tr : tr [ck] ck.k 0 = true := by kernel_rfl
theorem ck_gv : gv [ck] ck.k 0 = ck.v := by kernel_rfl
set_option maxHeartbeats 4000000 in
theorem awake_any (w : World) (hT : Tb w) : Calls Tryd.prog 4 #[] w fun e w' => e = .returned (.bool true) ∧ Below w.heap.size w w' := by
  have HT : Hid (Tb w) := hT
  clear hT
  go_enter Tryd.func4, Tryd.ntmps4
  go_wp2_with fail
  refine (new_any w 128 (by omega) (by omega)).mono ?_
  rintro e w1 ⟨g, rfl, F, h1, h2, h3⟩
  have HP : Hid (PD F w1 g (dk0 128)) := h1
  have HB1 : Hid (Below w.heap.size w w1) := h2
  have HF : Hid (∀ b, F b → w.heap.size ≤ b) := h3
  clear h1 h2 h3
  go_wp2_with fail
  refine (sopen_new HP.out (HT.out.below HB1.out) ⟨fun x => by have h1 := HF.out _ x; have h2 := HT.out.lt.1; omega, fun x => by have h1 := HF.out _ x; have h2 := HT.out.lt.2; omega⟩ (by omega) (by omega)).mono ?_
  rintro e w2 ⟨st, rfl, S2, h1, h2, h3, h4, h5, h6⟩
  obtain ⟨lg, hlg⟩ : ∃ lg, w1.heap.size = lg := ⟨_, rfl⟩
  rw [hlg] at h1 h2
  have W2 : Hid (WL S2 w2 g (dk0 128) lg (l0 g)) := h1
  have X2 : Hid (SX w2 st lg ((1792 : Nat) : Int) 0 (.slice none 0 0) 0 false) := h2
  have N2 : Hid (¬ S2 st) := h3
  have B2 : Hid (Below w.heap.size w w2) := HB1.out.trans (h5.below HB1.out.size HF.out)
  have S2B : Hid (∀ b, S2 b → w.heap.size ≤ b) := fun b hb => (h6 b hb).elim (HF.out b) (fun x => Nat.le_trans HB1.out.size x)
  have STB : Hid (w.heap.size ≤ st) := Nat.le_trans HB1.out.size h4
  have SL2 : Hid (∀ b, S2 b → b < w2.heap.size) := by obtain ⟨_, _, _, _, hx⟩ := h1; exact hx.sl
  clear h1 h2 h3 h4 h5 h6 hlg
  have HA : Hid (Below w2.heap.size w2 (w2.alloc (.cells #[.string ck.k, .string ck.v, .bool ck.gn] 38))) := (Below.refl _ w2).alloc (Nat.le_refl _) _
  have HAP : Hid (Calls Tryd.prog 9 #[.pointer (some ⟨st, 0, none⟩), .slice (some ⟨w2.heap.size, 0, none⟩) 1 1] (w2.alloc (.cells #[.string ck.k, .string ck.v, .bool ck.gn] 38)) fun e w' => e = .returned (.int .i64 0) ∧ ∃ v', SX w' st lg ((1792 : Nat) : Int) ((pk'.length + 64 : Nat) : Int) v' (wg ck : Int) false ∧ CS w' v' [ck] ∧ Chg (fun b => S2 b ∨ b = st) (w2.alloc (.cells #[.string ck.k, .string ck.v, .bool ck.gn] 38)) w') :=
    apply_one (W2.out.below HA.out) (X2.out.below HA.out) N2.out ck ck_fine rfl _ (cs_one w2 ck _) (fun b hb => by
      have e := own_at hb
      subst e
      exact ⟨fun x => Nat.lt_irrefl _ (SL2.out _ x), fun e => by have := X2.out.lt; omega⟩) pk' ck_rec pk_byt (by decide) (by decide) (by decide) (by decide) ck_br (by decide)
  go_wp2_with (go_at_call 9; refine HAP.out.mono ?_; rintro e w3 ⟨rfl, v3, h1, h2, h3⟩; have X3 : Hid (SX w3 st lg ((1792 : Nat) : Int) ((pk'.length + 64 : Nat) : Int) v3 (wg ck : Int) false) := h1; have V3 : Hid (CS w3 v3 [ck]) := h2; have B3 : Hid (Below w.heap.size w w3) := (B2.out.trans (HA.out.mono B2.out.size)).trans (h3.below (Nat.le_trans B2.out.size HA.out.size) (fun b hb => hb.elim (S2B.out b) (fun e => by rw [e]; exact STB.out))); clear h1 h2 h3)
  refine (get_any X3.out [ck] V3.out (by simp) ck.k 0 ck_sp).mono ?_
  rintro e w4 ⟨rfl, h1⟩
  rw [ck_tr, ck_gv]
  have B4 : Hid (Below w.heap.size w w4) := B3.out.trans (h1.mono B3.out.size)
  clear h1
  go_wp2_with fail
  go_ret
  exact ⟨by first | rfl | kernel_rfl, B4.out⟩
end Go.Proofs.YtphjjjijdbljaaaDoor
/- StoreNil: the walk. -/
namespace Go.Proofs.YtphjjjijdbljaaaDoor
open Go Go.RowKit
set_option linter.unusedSimpArgs false
set_option linter.unusedVariables false
set_option maxRecDepth 100000

set_option maxHeartbeats 4000000 in
theorem storeNil_walk (s : ByteArray) (w : World) (hT : Tb w) : Calls Tryd.prog 3 #[.string s] w fun e w' => e = .returned (.bool true) ∧ Below w.heap.size w w' := by
  have HT : Hid (Tb w) := hT
  clear hT
  go_enter Tryd.func3, Tryd.ntmps3
  go_wp2_with (first
    | (go_at_call 4; refine (awake_any w HT.out).mono ?_; rintro e w1 ⟨rfl, h1⟩; have B1 : Hid (Below w.heap.size w w1) := h1; clear h1)
    | (go_at_call 5; refine (get_nil _ _).mono ?_; rintro e w2 ⟨rfl, rfl⟩)
    | (go_at_call 6; refine (sopen_nil _).mono ?_; rintro e w2 ⟨rfl, rfl⟩)
    | (go_at_call 7; refine (size_nil _).mono ?_; rintro e w2 ⟨rfl, rfl⟩)
    | (go_at_call 8; refine (keys_nil _ _ _).mono ?_; rintro e w2 ⟨rfl, rfl⟩)
    | (go_at_call 9; refine (apply_nil _ _).mono ?_; rintro e w2 ⟨rfl, rfl⟩))
  go_ret
  exact ⟨rfl, B1.out⟩
end Go.Proofs.YtphjjjijdbljaaaDoor
