/- The first Append on a new disk, and Records behind it. -/
import Derived.Test.YthfpakjfdncphaaDoorWalW
namespace Go.Proofs.YthfpakjfdncphaaDoor
open Go Go.RowKit
set_option linter.unusedSimpArgs false
set_option linter.unusedVariables false
set_option maxRecDepth 100000

/-- The log behind the first record. -/
def l1 (g n : Nat) (p : List Int) : Lo := { g := g, t := 1, f0 := z64, f1 := hd (JN 1 [p]), rs := [p], en := hfF n 1 + fl (JS [p]), lo := false }
theorem open_new {F : Nat → Prop} {w : World} {g n : Nat} (h : PD F w g (dk0 n)) (hT : Tb w) (hA : Ap F) (h64 : 64 ≤ n) :
    Calls Tryd.prog 22 #[.pointer (some ⟨g, 0, none⟩)] w fun e w' => e = .returned (.tuple #[.pointer (some ⟨w.heap.size, 0, none⟩), .int .i64 0]) ∧ AftL F w w' g (dk0 n) w.heap.size (l0 g) := by
  refine (open_blank h (dk0_up n).2.2.2 hT hA h64 rfl rfl (fun i _ => dk0_blank n _ _)).mono fun e w' ⟨h1, h2⟩ => ⟨h1, ?_⟩
  rw [dk0_rd, dk0_rd] at h2; exact h2
theorem append_new {S : Nat → Prop} {w : World} {g n lg : Nat} (h : WL S w g (dk0 n) lg (l0 g)) (p : List Int) (v : Value) (hv : Sl w v p) (hb : Byt p) (hp : p.length ≤ 65536) (hn : fl (16 + p.length) < n / 2) :
    Calls Tryd.prog 12 #[.pointer (some ⟨lg, 0, none⟩), v] w fun e w' => e = .returned (.int .i64 0) ∧ AftL S w w' g (dk1 n p) lg (l1 g n p) := by
  refine (append_zero h rfl rfl (dk0_rd n _).symm (dk0_rd n _).symm rfl p v hv hp (fun z w' => z = 0 ∧ AftL S w w' g (dk1 n p) lg (l1 g n p)) (fun W u hbW hu => ?_)).mono ?_
  · have hR : Rok [p] := fun m hm => by simp at hm; subst hm; exact ⟨hb, hp⟩
    have hz : (lay (dk0 n) (hfF n 1 : Int) (JN 1 [p])).1 = 0 := by rw [first_lay hn]
    have hq := begin_ok (h.below hbW) (show (0 : Nat) + 1 < 18446744073709551616 by omega) [p] u hu hR (by simp) (show (0 : Nat) ≤ 549755813888 by omega) (first_fits hn) hz
    refine hq.mono fun e w' ⟨h1, h2⟩ => ⟨0, h1, rfl, AftL.trans (chg_of_below hbW) (fun b hb => .inl hb) ?_⟩
    have h3 : AftL S W w' g (lay (dk0 n) (hfF n 1 : Int) (JN 1 [p])).2 lg { g := g, t := 1, f0 := z64, f1 := rdV (lay (dk0 n) (hfF n 1 : Int) (JN 1 [p])).2 (hfF n 1 : Int), rs := [p], en := hfF n 1 + fl (JS [p]), lo := false } := h2
    rw [first_lay hn] at h3
    show AftL S W w' g (dk1 n p) lg { g := g, t := 1, f0 := z64, f1 := hd (JN 1 [p]), rs := [p], en := hfF n 1 + fl (JS [p]), lo := false }
    rw [← (first_heads hn).2]
    exact h3
  · rintro e w' ⟨z, h1, rfl, h2⟩
    exact ⟨h1, h2⟩
theorem records_new {S : Nat → Prop} {w : World} {g n lg : Nat} {p : List Int} (h : WL S w g (dk1 n p) lg (l1 g n p)) (hp : p.length ≤ 65536) (hn : fl (16 + p.length) < n / 2) (hn2 : n ≤ 65536) :
    Calls Tryd.prog 17 #[.pointer (some ⟨lg, 0, none⟩)] w fun e w' => ∃ v, e = .returned v ∧ RcP S w w' g (dk1 n p) lg (l1 g n p) v := by
  have hfe := first_end hn
  have hft := first_fits hn
  have hT : hfT n 1 ≤ 65536 := by rw [(half_one n).2.1]; omega
  refine records_core (l1 := l1 g n p) (by simp [l1]) (fun m hm => by simp [l1] at hm; subst hm; omega) ?_
  refine (refresh_any h rfl rfl (first_heads hn).1.symm (first_heads hn).2.symm (by simp [l1]) (by simp [l1]) (show hfF n 1 + fl (JS [p]) ≤ 65536 by omega) (by simp [l1])).mono ?_
  rintro e w' ⟨h1, ns, e', h2, h3, h4⟩
  obtain ⟨rfl, rfl⟩ := Frs.one h2 h3 (show Frs (dk1 n p) (hfT (dk1 n p).n (l1 g n p).t) (l1 g n p).en [] (l1 g n p).en from rfl) hfe
  refine ⟨h1, ?_⟩
  rw [List.append_nil] at h4
  exact h4
end Go.Proofs.YthfpakjfdncphaaDoor
/- awake. -/
namespace Go.Proofs.YthfpakjfdncphaaDoor
open Go Go.RowKit
set_option linter.unusedSimpArgs false
set_option linter.unusedVariables false
set_option maxRecDepth 100000

/-- A log in memory that is newer than B. -/
def LA (B : Nat) (w0 w : World) (g : Nat) (s : Dk) (lg : Nat) (l : Lo) : Prop := ∃ S, WL S w g s lg l ∧ (∀ b, S b → B ≤ b) ∧ Below B w0 w
theorem AftL.la {S : Nat → Prop} {B : Nat} {w0 w w' : World} {g : Nat} {s : Dk} {lg : Nat} {l : Lo} (h : AftL S w w' g s lg l) (hS : ∀ b, S b → B ≤ b) (hb : Below B w0 w) (hB : B ≤ w.heap.size) : LA B w0 w' g s lg l := by
  obtain ⟨S', h1, h2, h3⟩ := h
  exact ⟨S', h1, fun b x => (h3 b x).elim (hS b) (fun y => Nat.le_trans hB y), hb.trans (h2.below hB hS)⟩
theorem LA.below {B : Nat} {w0 w w' : World} {g : Nat} {s : Dk} {lg : Nat} {l : Lo} (h : LA B w0 w g s lg l) (hb : Below w.heap.size w w') (hB : B ≤ w.heap.size) : LA B w0 w' g s lg l := by
  obtain ⟨S, h1, h2, h3⟩ := h
  exact ⟨S, h1.below hb, h2, h3.trans (hb.mono hB)⟩
theorem RcP.la {S : Nat → Prop} {B : Nat} {w0 w w' : World} {g : Nat} {s : Dk} {lg : Nat} {l : Lo} {v : Value} (h : RcP S w w' g s lg l v) (hS : ∀ b, S b → B ≤ b) (hb : Below B w0 w) (hB : B ≤ w.heap.size) : LA B w0 w' g s lg l ∧ ∃ B' us, B ≤ B' ∧ OL B' w' v us l.rs := by
  obtain ⟨S', w1, us, h1, h2, h3, h4, h5⟩ := h
  have hl : LA B w0 w1 g s lg l := ⟨S', h1, fun b x => (h3 b x).elim (hS b) (fun y => Nat.le_trans hB y), hb.trans (h2.below hB hS)⟩
  have hB1 : B ≤ w1.heap.size := Nat.le_trans hB h2.size
  exact ⟨hl.below h5 hB1, _, us, hB1, h4⟩
set_option maxHeartbeats 2000000 in
theorem awake_any (w : World) (hT : Tb w) : Calls Tryd.prog 9 #[] w fun e w' => e = .returned (.bool true) ∧ Below w.heap.size w w' := by
  have HT : Hid (Tb w) := hT
  clear hT
  go_enter Tryd.func9, Tryd.ntmps9
  go_wp2_with fail
  refine (new_any w 64 (by omega) (by omega)).mono ?_
  rintro e w1 ⟨g, rfl, F, h1, h2, h3⟩
  have HP : Hid (PD F w1 g (dk0 64)) := h1
  have HB1 : Hid (Below w.heap.size w w1) := h2
  have HF : Hid (∀ b, F b → w.heap.size ≤ b) := h3
  clear h1 h2 h3
  go_wp2_with fail
  refine (open_new HP.out (HT.out.below HB1.out) ⟨fun x => by have h1 := HF.out _ x; have h2 := HT.out.lt.1; omega, fun x => by have h1 := HF.out _ x; have h2 := HT.out.lt.2; omega⟩ (by omega)).mono ?_
  rintro e w2 ⟨rfl, h1⟩
  obtain ⟨lg, hlg⟩ : ∃ lg, w1.heap.size = lg := ⟨_, rfl⟩
  rw [hlg] at h1 ⊢
  have HL2 : Hid (LA w.heap.size w w2 g (dk0 64) lg (l0 g)) := h1.la HF.out HB1.out HB1.out.size
  clear h1 hlg
  have hcv := conv_same 1 1 #[.int .u8 97] 5 w2
  have hB2 : w.heap.size ≤ w2.heap.size := by obtain ⟨S, _, _, h⟩ := HL2.out; exact h.size
  have HZ : Hid (w.heap.size ≤ w2.heap.size) := hB2
  clear hB2
  have HBa : Hid (Below w2.heap.size w2 (w2.alloc (.cells #[.int .u8 97] 5 (1, 2)))) := (Below.refl _ w2).alloc (Nat.le_refl _) _
  have HSa : Hid (Sl (w2.alloc (.cells #[.int .u8 97] 5 (1, 2))) (.slice (some ⟨w2.heap.size, 0, none⟩) 1 1) [97]) := by
    refine ⟨_, 1, rfl, by simp, .inr ⟨w2.heap.size, 0, rfl, by simp, fun i hi => ?_⟩⟩
    have : i = 0 := by simp at hi; omega
    subst this
    have e : (w2.alloc (.cells #[.int .u8 97] 5 (1, 2))).heap[w2.heap.size]? = some (.cells #[.int .u8 97] 5 (1, 2)) := by show (w2.heap.push _)[w2.heap.size]? = _; simp
    unfold World.cell?; rw [e]; rfl
  go_wp2_with fail
  obtain ⟨S2, hw2, hs2, hb2⟩ := HL2.out.below HBa.out HZ.out
  refine (append_new hw2 [97] _ HSa.out (by intro z hz; simp at hz; subst hz; decide) (by simp) (by decide)).mono ?_
  rintro e w3 ⟨rfl, h3⟩
  have HL3 : Hid (LA w.heap.size w w3 g (dk1 64 [97]) lg (l1 g 64 [97])) := h3.la hs2 hb2 (Nat.le_trans HZ.out HBa.out.size)
  clear h3 hw2 hs2 hb2 HSa HBa HL2
  go_wp2_with fail
  obtain ⟨S3, hw3, hs3, hb3⟩ := HL3.out
  refine (records_new hw3 (by simp) (by decide) (by omega)).mono ?_
  rintro e w4 ⟨v4, rfl, h4⟩
  obtain ⟨h5, B', us, hB', ho⟩ := h4.la hs3 hb3 hb3.size
  have HB4 : Hid (Below w.heap.size w w4) := by obtain ⟨_, _, _, h⟩ := h5; exact h
  obtain ⟨ad, cap, hv, hc, hx⟩ := ho.ll
  subst hv
  rcases hx with ⟨h0, _⟩ | ⟨b, o, rfl, hlt, hm⟩
  · cases h0
  obtain ⟨u, hc0, hu⟩ := hm 0 (by simp [l1])
  have hu' : Sl w4 u [97] := hu
  have hstr : (convert 32 9 u).run Tryd.prog w4 = .ok (.string (strOfNums [97])) w4 := hu'.str
  rw [Nat.add_zero] at hc0
  obtain ⟨uad, ucp, hue, -, -⟩ := hu'
  have hue' : u = .slice uad 1 ucp := hue
  subst hue'
  clear hu hue
  clear h4 h5 ho hm hw3 hs3 hb3
  go_wp2_with fail
  go_ret
  have hS : ((strOfNums [97]).toList == [97]) = true := by first | rfl | kernel_rfl | decide
  exact ⟨congrArg (fun b => Ending.returned (Value.bool b)) hS, HB4.out⟩
end Go.Proofs.YthfpakjfdncphaaDoor
/- WalKeeps: what the law's own memory leaves of a log. -/
namespace Go.Proofs.YthfpakjfdncphaaDoor
open Go Go.RowKit
set_option linter.unusedSimpArgs false
set_option linter.unusedVariables false
set_option maxRecDepth 100000

theorem WL.keep {S : Nat → Prop} {w w' : World} {g : Nat} {s : Dk} {lg : Nat} {l : Lo} (h : WL S w g s lg l) (hs : w.heap.size ≤ w'.heap.size) (k : ∀ b, S b → w'.heap[b]? = w.heap[b]?) (k1 : w'.heap[0]? = w.heap[0]?) (k2 : w'.heap[1]? = w.heap[1]?) : WL S w' g s lg l := by
  obtain ⟨F, H, rv, us, h⟩ := h
  exact ⟨F, H, rv, us, h.pd.keep hs (fun b hb => k b (h.sf b hb)), h.lw.keep hs (fun b hb => k b (h.sh b hb)), h.dk, h.ap, h.sf, h.sh, h.bt, h.tb.keep k1 k2, h.at', fun b x => Nat.lt_of_lt_of_le (h.sl b x) hs⟩
/-- A change of blocks that are not the log's. -/
theorem WL.chg {S G : Nat → Prop} {w w' : World} {g : Nat} {s : Dk} {lg : Nat} {l : Lo} (h : WL S w g s lg l) (c : Chg G w w') (d : ∀ b, G b → ¬ S b) (a : Ap G) : WL S w' g s lg l := by
  obtain ⟨F, H, rv, us, hx⟩ := h
  exact WL.keep ⟨F, H, rv, us, hx⟩ c.size (fun b hb => c.other b (hx.sl b hb) (fun x => d b x hb)) (c.other _ hx.tb.lt.1 a.1) (c.other _ hx.tb.lt.2 a.2)
theorem WL.lt {S : Nat → Prop} {w : World} {g : Nat} {s : Dk} {lg : Nat} {l : Lo} (h : WL S w g s lg l) {b : Nat} (hb : S b) : b < w.heap.size := by
  obtain ⟨F, H, rv, us, hx⟩ := h
  exact hx.sl b hb
/-- A new disk of 256 sectors, opened. -/
def KA (B : Nat) (w0 w : World) (g lg : Nat) : Prop := LA B w0 w g (dk0 256) lg (l0 g)
theorem opened_new {F : Nat → Prop} {B : Nat} {w0 w : World} {g n : Nat} (v : Value) (h : PD F w g (dk0 n)) (hT : Tb w) (h64 : 64 ≤ n) (hF : ∀ b, F b → B ≤ b) (hb : Below B w0 w) (hB : B ≤ w.heap.size) (hTB : 0 < B ∧ 1 < B) :
    Calls Tryd.prog 11 #[.pointer (some ⟨g, 0, none⟩), v] w fun e w' => ∃ lg, e = .returned (.tuple #[.pointer (some ⟨lg, 0, none⟩), .bool true]) ∧ LA B w0 w' g (dk0 n) lg (l0 g) := by
  refine opened_ok _ v w (fun lg w' => LA B w0 w' g (dk0 n) lg (l0 g)) ((open_new h hT ⟨fun x => by have := hF _ x; omega, fun x => by have := hF _ x; omega⟩ h64).mono fun e w' ⟨h1, h2⟩ => ⟨_, h1, h2.la hF hb hB⟩)
set_option maxHeartbeats 2000000 in
theorem keeps_long (p : List Int) (v : Value) (small : Int) (w : World) (hT : Tb w) (hv : Sl w v p) (hl : 1000 < p.length) :
    Calls Tryd.prog 8 #[v, .int .i64 small] w fun e w' => e = .returned (.bool true) ∧ Below w.heap.size w w' := by
  have HT : Hid (Tb w) := hT
  obtain ⟨ad, cap, rfl, hc, -⟩ := hv
  have g1 : (1000 : Int) < (p.length : Int) := by omega
  clear hT hc
  go_enter Tryd.func8, Tryd.ntmps8
  go_wp2_with fail
  refine (awake_any w HT.out).mono ?_
  rintro e w1 ⟨rfl, hb1⟩
  have HB1 : Hid (Below w.heap.size w w1) := hb1
  clear hb1
  go_wp2_with fail
  refine (new_any w1 256 (by omega) (by omega)).mono ?_
  rintro e w2 ⟨g, rfl, F, h1, h2, h3⟩
  have HP : Hid (PD F w2 g (dk0 256)) := h1
  have HB2 : Hid (Below w1.heap.size w1 w2) := h2
  have HF : Hid (∀ b, F b → w1.heap.size ≤ b) := h3
  clear h1 h2 h3
  go_wp2_with fail
  have ht1 := HT.out.below HB1.out
  refine (opened_new (B := w1.heap.size) (w0 := w1) _ HP.out (ht1.below HB2.out) (by omega) HF.out HB2.out HB2.out.size ht1.lt).mono ?_
  rintro e w3 ⟨lg, rfl, h3⟩
  have HBW : Hid (Below w.heap.size w w3) := by
    obtain ⟨_, _, _, h⟩ := h3
    exact HB1.out.trans (h.mono HB1.out.size)
  clear h3
  go_wp2_with fail
  go_ret
  exact ⟨rfl, HBW.out⟩
end Go.Proofs.YthfpakjfdncphaaDoor
