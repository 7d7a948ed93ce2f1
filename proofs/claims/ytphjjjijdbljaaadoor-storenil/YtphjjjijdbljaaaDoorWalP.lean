/- begin, on a disk with room. -/
import Derived.Test.YtphjjjijdbljaaaDoorWalN
namespace Go.Proofs.YtphjjjijdbljaaaDoor
open Go Go.RowKit
set_option linter.unusedSimpArgs false
set_option linter.unusedVariables false
set_option maxRecDepth 100000

def bΩ (S F H : Nat → Prop) (w8 : World) (g : Nat) (s : Dk) (lg : Nat) (l : Lo) (rv : Value) (us : List Value) (r : Nat) (x : List Int) : Nat → (Nat → Value) → World → Prop
  | 0, _, W => WX S F H W g s lg l rv us ∧ Chg S w8 W
  | _, _, W => WX S F H W g s lg (setF l r x) rv us ∧ Chg S w8 W
def bf (lg g A t r : Nat) (x : List Int) : Nat → Value
  | 1 => .int .u64 ((t : Int) + 1)
  | 2 => .int .u64 (r : Int)
  | 6 => .pointer (some ⟨g, 0, none⟩)
  | 7 => .int .i64 (A : Int)
  | 8 => .agg (bv x).toArray
  | 10 => .pointer (some ⟨lg, 2, none⟩)
  | 11 => .pointer (some ⟨lg, 2 + r * 64, none⟩)
  | 12 => undef
  | _ => .pointer (some ⟨lg, 0, none⟩)
set_option maxHeartbeats 2000000 in
theorem begin_fail {S : Nat → Prop} {w : World} {g : Nat} {s : Dk} {lg : Nat} {l : Lo} (h : WL S w g s lg l) (ht : l.t + 1 < 18446744073709551616) (xss : List (List Int)) (v : Value) (hv : LL w v xss) (hR : Rok xss) (hn : xss.length ≤ 1000000000) (hN : s.wt.length ≤ 549755813888)
    (hf : hfF s.n (l.t + 1) + fl (JS xss) < hfT s.n (l.t + 1)) (hz : (lay s (hfF s.n (l.t + 1) : Int) (JN ((l.t + 1 : Nat) : Int) xss)).1 ≠ 0) :
    Calls Tryd.prog 52 #[.pointer (some ⟨lg, 0, none⟩), v] w fun e w' => e = .returned (.int .i64 (lay s (hfF s.n (l.t + 1) : Int) (JN ((l.t + 1 : Nat) : Int) xss)).1) ∧ AftL S w w' g (lay s (hfF s.n (l.t + 1) : Int) (JN ((l.t + 1 : Nat) : Int) xss)).2 lg { l with lo := decide ((lay s (hfF s.n (l.t + 1) : Int) (JN ((l.t + 1 : Nat) : Int) xss)).1 = 9) } := by
  obtain ⟨F, H, rv, us, hx⟩ := h
  have HX : Hid (WX S F H w g s lg l rv us) := hx
  have HV : Hid (LL w v xss) := hv
  have HR : Hid (Rok xss) := hR
  obtain ⟨c0, c1, -⟩ := hx.lw.lb.cells hx.lw.f0 hx.lw.f1
  rw [hx.dk] at c0
  have hn2 := hx.pd.n2
  obtain ⟨ad, cap, rfl, -⟩ := hv
  clear hx hR
  obtain ⟨t, htt⟩ : ∃ t, l.t = t := ⟨_, rfl⟩
  have HTT : Hid (l.t = t) := htt
  rw [htt] at c1 ht hf hz
  obtain ⟨A, hA⟩ : ∃ A, hfF s.n (t + 1) = A := ⟨_, rfl⟩
  obtain ⟨T, hT⟩ : ∃ T, hfT s.n (t + 1) = T := ⟨_, rfl⟩
  have HAT : Hid (hfF s.n (t + 1) = A ∧ hfT s.n (t + 1) = T) := ⟨hA, hT⟩
  have hTb : T ≤ 65536 := by
    rw [← hT]; unfold hfT
    have : (t + 1) % 2 = 0 ∨ (t + 1) % 2 = 1 := by omega
    rcases this with h | h <;> rw [h] <;> omega
  rw [hA, hT] at hf
  rw [hA] at hz
  have hJ : JS xss ≤ 4194304 := by unfold fl at hf; omega
  have hAb : A ≤ 65536 := by omega
  have hfd : decide (A + fl (JS xss) < T) = true := decide_eq_true hf
  have HFT : Hid (A + fl (JS xss) < T) := hf
  obtain ⟨P, hP⟩ : ∃ P, JN ((t + 1 : Nat) : Int) xss = P := ⟨_, rfl⟩
  have HP : Hid (JN ((t + 1 : Nat) : Int) xss = P) := hP
  have hPl : P.length = JS xss := by rw [← hP]; exact jn_length _ xss _
  have hPL : P.length ≤ 4194304 := by omega
  have HPL : Hid (P.length = JS xss) := hPl
  have HPB : Hid (Byt P) := by
    show Byt P
    rw [← hP, JN_jx]
    intro z hz
    rcases List.mem_append.1 hz with x | x
    · exact be_byt _ _ z x
    · exact jx_byt HR.out z x
  rw [hP] at hz
  have HZ : Hid ((lay s (A : Int) P).1 ≠ 0) := hz
  clear hA hT htt hf hP hPl hz
  go_enter Tryd.func52, Tryd.ntmps52
  go_wp2_with fail
  refine (half_any HX.out.pd c0 (by omega) (t + 1) ht).mono ?_
  rintro e w' ⟨rfl, rfl⟩
  rw [HAT.out.1, HAT.out.2]
  go_wp2_with (first
    | (go_at_call 67; refine (joinedSize_any xss _ w' HV.out (by omega) (by omega)).mono ?_; rintro e w'' ⟨rfl, rfl⟩)
    | (go_at_call 53; refine (fits_any A (JS xss) T w'' (by omega) (by omega)).mono ?_; rintro e w3 ⟨rfl, rfl⟩; rw [hfd])
    | (go_at_call 68; refine (join_any ((t + 1 : Nat) : Int) xss _ w3 HV.out (by omega) (by omega) (by omega) (by omega)).mono ?_; rintro e w4 ⟨v4, rfl, h5, h6⟩; rw [HP.out] at h5; have O4 : Hid (Ow w3.heap.size w4 v4 P) := h5; have B4 : Hid (Below w3.heap.size w3 w4) := h6; obtain ⟨ad4, cp4, hv4, -, -⟩ := h5.sl; subst hv4; clear h5 h6))
  have hblk : ∀ b, Value.ownBlock (.slice ad4 P.length cp4) = some b → w3.heap.size ≤ b ∧ b < w4.heap.size := fun b e => ⟨O4.out.blk b e, O4.out.lt b e⟩
  have HBK : Hid (∀ b, Value.ownBlock (.slice ad4 P.length cp4) = some b → w3.heap.size ≤ b ∧ b < w4.heap.size) := hblk
  have X4 : Hid (WX S F H w4 g s lg l rv us) := HX.out.below B4.out
  clear hblk c0 c1
  refine (wlay_any ⟨F, H, rv, us, X4.out⟩ (A : Int) P ad4 cp4 O4.out.sq HPB.out (fun b e x => by have h1 := (HBK.out b (slB_own e)).1; have h2 := HX.out.sl b x; omega) ⟨by omega, by omega⟩ (by omega) hN).mono ?_
  rintro e w5 ⟨rfl, haft⟩
  have HA : Hid (AftL S w4 w5 g (lay s (A : Int) P).2 lg { l with lo := decide ((lay s (A : Int) P).1 = 9) }) := haft
  clear haft
  obtain ⟨z, hzz⟩ : ∃ z, (lay s (A : Int) P).1 = z := ⟨_, rfl⟩
  have HZZ : Hid ((lay s (A : Int) P).1 = z) := hzz
  have hz0 : ¬ (z = 0) := by rw [← hzz]; exact HZ.out
  rw [hzz]
  clear hzz
  go_wp2_with fail
  go_ret
  have htt := HTT.out
  subst htt
  rw [HAT.out.1, HP.out, HZZ.out]
  have h := HA.out
  rw [HZZ.out] at h
  exact ⟨rfl, AftL.trans (chg_of_below B4.out) (fun b hb => .inl hb) h⟩
set_option maxHeartbeats 2000000 in
theorem begin_ok {S : Nat → Prop} {w : World} {g : Nat} {s : Dk} {lg : Nat} {l : Lo} (h : WL S w g s lg l) (ht : l.t + 1 < 18446744073709551616) (xss : List (List Int)) (v : Value) (hv : LL w v xss) (hR : Rok xss) (hn : xss.length ≤ 1000000000) (hN : s.wt.length ≤ 549755813888)
    (hf : hfF s.n (l.t + 1) + fl (JS xss) < hfT s.n (l.t + 1)) (hz : (lay s (hfF s.n (l.t + 1) : Int) (JN ((l.t + 1 : Nat) : Int) xss)).1 = 0) :
    Calls Tryd.prog 52 #[.pointer (some ⟨lg, 0, none⟩), v] w fun e w' => e = .returned (.int .i64 0) ∧ AftL S w w' g (lay s (hfF s.n (l.t + 1) : Int) (JN ((l.t + 1 : Nat) : Int) xss)).2 lg (setF { l with t := l.t + 1, rs := xss, en := hfF s.n (l.t + 1) + fl (JS xss), lo := false } ((l.t + 1) % 2) (rdV (lay s (hfF s.n (l.t + 1) : Int) (JN ((l.t + 1 : Nat) : Int) xss)).2 (hfF s.n (l.t + 1) : Int))) := by
  obtain ⟨F, H, rv, us, hx⟩ := h
  have HX : Hid (WX S F H w g s lg l rv us) := hx
  have HV : Hid (LL w v xss) := hv
  have HR : Hid (Rok xss) := hR
  obtain ⟨c0, c1, -⟩ := hx.lw.lb.cells hx.lw.f0 hx.lw.f1
  rw [hx.dk] at c0
  have hn2 := hx.pd.n2
  obtain ⟨ad, cap, rfl, -⟩ := hv
  clear hx hR
  obtain ⟨t, htt⟩ : ∃ t, l.t = t := ⟨_, rfl⟩
  have HTT : Hid (l.t = t) := htt
  rw [htt] at c1 ht hf hz
  obtain ⟨A, hA⟩ : ∃ A, hfF s.n (t + 1) = A := ⟨_, rfl⟩
  obtain ⟨T, hT⟩ : ∃ T, hfT s.n (t + 1) = T := ⟨_, rfl⟩
  have HAT : Hid (hfF s.n (t + 1) = A ∧ hfT s.n (t + 1) = T) := ⟨hA, hT⟩
  have hTb : T ≤ 65536 := by
    rw [← hT]; unfold hfT
    have : (t + 1) % 2 = 0 ∨ (t + 1) % 2 = 1 := by omega
    rcases this with h | h <;> rw [h] <;> omega
  rw [hA, hT] at hf
  rw [hA] at hz
  have hJ : JS xss ≤ 4194304 := by unfold fl at hf; omega
  have hAb : A ≤ 65536 := by omega
  have hfd : decide (A + fl (JS xss) < T) = true := decide_eq_true hf
  have HFT : Hid (A + fl (JS xss) < T) := hf
  obtain ⟨P, hP⟩ : ∃ P, JN ((t + 1 : Nat) : Int) xss = P := ⟨_, rfl⟩
  have HP : Hid (JN ((t + 1 : Nat) : Int) xss = P) := hP
  have hPl : P.length = JS xss := by rw [← hP]; exact jn_length _ xss _
  have hPL : P.length ≤ 4194304 := by omega
  have HPL : Hid (P.length = JS xss) := hPl
  have HPB : Hid (Byt P) := by
    show Byt P
    rw [← hP, JN_jx]
    intro z hz
    rcases List.mem_append.1 hz with x | x
    · exact be_byt _ _ z x
    · exact jx_byt HR.out z x
  rw [hP] at hz
  have HZ : Hid ((lay s (A : Int) P).1 = 0) := hz
  clear hA hT htt hf hP hPl hz
  go_enter Tryd.func52, Tryd.ntmps52
  go_wp2_with fail
  refine (half_any HX.out.pd c0 (by omega) (t + 1) ht).mono ?_
  rintro e w' ⟨rfl, rfl⟩
  rw [HAT.out.1, HAT.out.2]
  go_wp2_with (first
    | (go_at_call 67; refine (joinedSize_any xss _ w' HV.out (by omega) (by omega)).mono ?_; rintro e w'' ⟨rfl, rfl⟩)
    | (go_at_call 53; refine (fits_any A (JS xss) T w'' (by omega) (by omega)).mono ?_; rintro e w3 ⟨rfl, rfl⟩; rw [hfd])
    | (go_at_call 68; refine (join_any ((t + 1 : Nat) : Int) xss _ w3 HV.out (by omega) (by omega) (by omega) (by omega)).mono ?_; rintro e w4 ⟨v4, rfl, h5, h6⟩; rw [HP.out] at h5; have O4 : Hid (Ow w3.heap.size w4 v4 P) := h5; have B4 : Hid (Below w3.heap.size w3 w4) := h6; obtain ⟨ad4, cp4, hv4, -, -⟩ := h5.sl; subst hv4; clear h5 h6))
  have hblk : ∀ b, Value.ownBlock (.slice ad4 P.length cp4) = some b → w3.heap.size ≤ b ∧ b < w4.heap.size := fun b e => ⟨O4.out.blk b e, O4.out.lt b e⟩
  have HBK : Hid (∀ b, Value.ownBlock (.slice ad4 P.length cp4) = some b → w3.heap.size ≤ b ∧ b < w4.heap.size) := hblk
  have X4 : Hid (WX S F H w4 g s lg l rv us) := HX.out.below B4.out
  clear hblk c0 c1
  refine (wlay_any ⟨F, H, rv, us, X4.out⟩ (A : Int) P ad4 cp4 O4.out.sq HPB.out (fun b e x => by have h1 := (HBK.out b (slB_own e)).1; have h2 := HX.out.sl b x; omega) ⟨by omega, by omega⟩ (by omega) hN).mono ?_
  rintro e w5 ⟨rfl, haft⟩
  rw [HZ.out] at haft ⊢
  obtain ⟨s1, hs1⟩ : ∃ s1, (lay s (A : Int) P).2 = s1 := ⟨_, rfl⟩
  have HS1 : Hid ((lay s (A : Int) P).2 = s1) := hs1
  rw [hs1] at haft
  obtain ⟨S5, ⟨F5, H5, rv5, us5, hx5⟩, hc5, hd5⟩ := haft
  have X5 : Hid (WX S5 F5 H5 w5 g s1 lg { l with lo := false } rv5 us5) := hx5
  have C5 : Hid (Chg S w4 w5) := hc5
  have D5 : Hid (∀ b, S5 b → S b ∨ w4.heap.size ≤ b) := hd5
  have SL5 : Hid (Sl w5 (.slice ad4 P.length cp4) P) := O4.out.sl.keep hc5.size (fun b e => hc5.other b (HBK.out b e).2 (fun x => by have h1 := (HBK.out b e).1; have h2 := HX.out.sl b x; omega))
  clear hx5 hc5 hd5 hs1
  obtain ⟨b4, o4, c4, hv4, hc4, hb4⟩ := SL5.out.lies (by have := HPL.out; have h2 : 8 ≤ JS xss := js_le xss (Nat.zero_le _); omega)
  simp only [Value.slice.injEq] at hv4
  obtain ⟨rfl, -, rfl⟩ := hv4
  have HSP : Hid (Sl w5 (.slice (some ⟨b4, o4, none⟩) P.length cp4) P ∧ P.length ≤ cp4 ∧ b4 < w5.heap.size) := ⟨SL5.out, hc4, hb4⟩
  clear hc4 hb4
  go_wp2_with fail
  have hsp := split_any ((t + 1 : Nat) : Int) (by omega) (by omega) xss b4 o4 cp4 w5
  rw [HP.out] at hsp
  refine (hsp HSP.out.1 HR.out HSP.out.2.1 HSP.out.2.2 (by omega) (by omega)).mono ?_
  clear hsp
  rintro e w6 ⟨v6, us6, rfl, h7, h8⟩
  have O6 : Hid (OL w5.heap.size w6 v6 us6 xss) := h7
  have B6 : Hid (Below w5.heap.size w5 w6) := h8
  have X6 : Hid (WX S5 F5 H5 w6 g s1 lg { l with lo := false } rv5 us5) := X5.out.below h8
  obtain ⟨ad6, n6, cp6, hv6⟩ := h7.shape
  subst hv6
  clear h7 h8
  obtain ⟨c0, c1, c130, c131, c132⟩ := X6.out.lw.lb.cells X6.out.lw.f0 X6.out.lw.f1
  have f1 := X6.out.lw.lb.froz 1
  have f130 := X6.out.lw.lb.froz 130
  go_wp2_with fail
  have hset := X6.out.set (X6.out.lw.lb.setT (t + 1)) X6.out.lw.f0 X6.out.lw.f1 rfl rfl
  have hlg5 : lg < w5.heap.size := X5.out.lw.lb.lt
  have ol7 : OL w5.heap.size (w6.setCell ⟨lg, 1, none⟩ (.int .u64 ((t + 1 : Nat) : Int))) (.slice ad6 n6 cp6) us6 xss := O6.out.keep (by simp [World.setCell]) (fun b e => Below.heap_setCell _ _ _ _ (fun x => by have x' : b = lg := x; have := (O6.out.blk b e).1; omega)) (fun i u hu b e => Below.heap_setCell _ _ _ _ (fun x => by have x' : b = lg := x; have := (O6.out.mem i u hu).blk b e; omega))
  obtain ⟨S7, H7, hx7, hc7, hd7⟩ := hset.1.fresh ol7 (fun b hb => hb.elim (fun x => X5.out.lw.hlt b x) (fun x => X5.out.pd.lt x)) X5.out.tb.lt
  obtain ⟨W7, hW7⟩ : ∃ W, (w6.setCell ⟨lg, 1, none⟩ (.int .u64 ((t : Int) + 1))).setCell ⟨lg, 130, none⟩ (.slice ad6 n6 cp6) = W := ⟨_, rfl⟩
  have X7 : Hid (WX S7 F5 H7 W7 g s1 lg { l with t := t + 1, rs := xss, lo := false } (.slice ad6 n6 cp6) us6) := by rw [← hW7]; exact hx7
  have C7 : Hid (Chg S5 w5 W7) := by rw [← hW7]; exact ((chg_of_below B6.out).trans hset.2).trans hc7
  have D7 : Hid (∀ b, S7 b → S5 b ∨ w5.heap.size ≤ b) := hd7
  rw [hW7]
  clear hset ol7 hx7 hc7 hd7 hW7 c0 c1 c130 c131 c132 f1 f130 hlg5
  obtain ⟨-, -, -, c131, -⟩ := X7.out.lw.lb.cells X7.out.lw.f0 X7.out.lw.f1
  have f131 := X7.out.lw.lb.froz 131
  refine (frameLength_any P.length W7 (by omega)).mono ?_
  rintro e w8 ⟨rfl, rfl⟩
  obtain ⟨f, hf⟩ : ∃ f, fl P.length = f := ⟨_, rfl⟩
  have HFL : Hid (fl P.length = f) := hf
  have hfb : A + f ≤ 65536 := by have h1 := HFT.out; rw [← HPL.out, hf] at h1; omega
  rw [hf]
  clear hf
  go_wp2_with fail
  have hsE := X7.out.setE (A + f)
  obtain ⟨W8, hW8⟩ : ∃ W, w8.setCell ⟨lg, 131, none⟩ (.int .i64 ((A : Int) + (f : Int))) = W := ⟨_, rfl⟩
  have X8 : Hid (WX S7 F5 H7 W8 g s1 lg { l with t := t + 1, rs := xss, en := A + f, lo := false } (.slice ad6 n6 cp6) us6) := by rw [← hW8]; exact hsE.1
  have C8 : Hid (Chg S7 w8 W8) := by rw [← hW8]; exact hsE.2
  rw [hW8]
  clear hsE hW8 c131 f131
  obtain ⟨r, hr⟩ : ∃ r, (t + 1) % 2 = r := ⟨_, rfl⟩
  have hr1 : ((t : Int) + 1) % 2 = (r : Int) := by omega
  have hr2 : r < 2 := by omega
  have HRR : Hid ((t + 1) % 2 = r) := hr
  clear hr
  obtain ⟨x, hx⟩ : ∃ x, x = rdV s1 (A : Int) := ⟨_, rfl⟩
  have HXX : Hid (x = rdV s1 (A : Int)) := hx
  have HXL : Hid (x.length = 64) := by rw [hx]; exact (X8.out.by' _).2
  clear hx
  have X8d : Hid (bΩ S7 F5 H7 W8 g s1 lg { l with t := t + 1, rs := xss, en := A + f, lo := false } (Value.slice ad6 n6 cp6) us6 r x 0 (fun _ => undef) { W8 with drawn := W8.drawn + 1 }) := ⟨X8.out.below (Below.refl _ _).drew, chg_of_below (Below.refl _ _).drew⟩
  refine RU.wp_rgn' [12] (bf lg g A t r x) hK0 (bΩ S7 F5 H7 W8 g s1 lg { l with t := t + 1, rs := xss, en := A + f, lo := false } (Value.slice ad6 n6 cp6) us6 r x) (by kernel_rfl) (by kernel_rfl) X8d.out ?_ ?_
  · refine ⟨?_, ?_, ?_, ?_, ?_, ?_, ?_, ?_, ?_, ?_, ?_, ?_, ?_, trivial⟩
    · refine RU.ObT.pure rfl rfl rfl (fun a V hf hp ev he hc W => ?_)
      have q0 : ev (.tmp 0) = .pointer (some ⟨lg, 0, none⟩) := (he (.tmp 0)).trans (hf 0 rfl)
      simp only [List.getElem_toArray, List.getElem_cons_succ, List.getElem_cons_zero, execOp, Option.map_some, Option.map_none]; rw [q0]
      first | (go_simp; done) | (go_simp; rfl)
    · refine RU.ObT.pure rfl rfl rfl (fun a V hf hp ev he hc W => ?_)
      have q5 : ev (.tmp 5) = .int .u64 ((t : Int) + 1) := (he (.tmp 5)).trans (hf 5 rfl)
      simp only [List.getElem_toArray, List.getElem_cons_succ, List.getElem_cons_zero, execOp, Option.map_some, Option.map_none]; rw [q5]
      first | (go_simp; done) | (go_simp; rfl)
    · refine RU.ObT.pure rfl rfl rfl (fun a V hf hp ev he hc W => ?_)
      have q58 : ev (.tmp 58) = .int .u64 ((t : Int) + 1) := (he (.tmp 58)).trans (hp 1 58 rfl)
      simp only [List.getElem_toArray, List.getElem_cons_succ, List.getElem_cons_zero, execOp, Option.map_some, Option.map_none]; rw [q58]
      try simp only [hc]
      have hr4 : Int.tmod ((t : Int) + 1) 2 = (r : Int) := by rw [Int.tmod_eq_emod_of_nonneg (by omega)]; exact hr1
      first | (go_simp; done) | (go_simp; rfl)
    · refine RU.ObT.pure rfl rfl rfl (fun a V hf hp ev he hc W => ?_)
      have q0 : ev (.tmp 0) = .pointer (some ⟨lg, 0, none⟩) := (he (.tmp 0)).trans (hf 0 rfl)
      simp only [List.getElem_toArray, List.getElem_cons_succ, List.getElem_cons_zero, execOp, Option.map_some, Option.map_none]; rw [q0]
      first | (go_simp; done) | (go_simp; rfl)
    · refine RU.ObT.pure rfl rfl rfl (fun a V hf hp ev he hc W => ?_)
      have q60 : ev (.tmp 60) = .pointer (some ⟨lg, 0, none⟩) := (he (.tmp 60)).trans (hp 3 60 rfl)
      simp only [List.getElem_toArray, List.getElem_cons_succ, List.getElem_cons_zero, execOp, Option.map_some, Option.map_none]; rw [q60]
      first | (go_simp; done) | (go_simp; rfl)
    · refine RU.ObT.pure rfl rfl rfl (fun a V hf hp ev he hc W => ?_)
      have q61 : ev (.tmp 61) = .pointer (some ⟨lg, 0, none⟩) := (he (.tmp 61)).trans (hp 4 61 rfl)
      simp only [List.getElem_toArray, List.getElem_cons_succ, List.getElem_cons_zero, execOp, Option.map_some, Option.map_none]; rw [q61]
      first | (go_simp; done) | (go_simp; rfl)
    · refine RU.ObT.silent rfl (fun a W k0 V hO hf hp hk => ?_)
      obtain rfl : k0 = 0 := Nat.le_zero.1 hk
      refine RU.ob_val rfl (RU.wanted_none rfl) (fun ev he hc => ?_) ⟨rfl, hO⟩
      have q62 : ev (.tmp 62) = .pointer (some ⟨lg, 0, none⟩) := (he (.tmp 62)).trans (hp 5 62 rfl)
      have hcell := (hO.1.lw.lb.cells hO.1.lw.f0 hO.1.lw.f1).1
      rw [hO.1.dk] at hcell
      simp only [List.getElem_toArray, List.getElem_cons_succ, List.getElem_cons_zero, execOp]; rw [q62]
      first | (go_simp; done) | (go_simp; rfl)
    · refine RU.ObT.pure rfl rfl rfl (fun a V hf hp ev he hc W => ?_)
      have q6 : ev (.tmp 6) = .int .i64 (A : Int) := (he (.tmp 6)).trans (hf 6 rfl)
      simp only [List.getElem_toArray, List.getElem_cons_succ, List.getElem_cons_zero, execOp, Option.map_some, Option.map_none]; rw [q6]
      first | (go_simp; done) | (go_simp; rfl)
    · refine RU.ObT.silent rfl (fun a W k0 V hO hf hp hk => ?_)
      obtain rfl : k0 = 0 := Nat.le_zero.1 hk
      have e1 : a.eval (.tmp 63) = .pointer (some ⟨g, 0, none⟩) := hp 6 63 rfl
      have e2 : a.eval (.tmp 64) = .int .i64 (A : Int) := hp 7 64 rfl
      refine RU.ob_call (g := 40) (args := #[.pointer (some ⟨g, 0, none⟩), .int .i64 (A : Int)]) rfl (RU.wanted_none rfl) (fun ev he hc => ?_) ((wread_any hO.1.pd (A : Int)).mono ?_)
      · have h1 := (he (.tmp 63)).trans e1
        have h2 := (he (.tmp 64)).trans e2
        have hfn := he (.func 40)
        simp only [List.getElem_toArray, List.getElem_cons_succ, List.getElem_cons_zero, execOp]
        simp only [resolve, invoke, Sem.run_bind, Sem.run_pure, Result.andThen_ok, List.map_toArray, List.map_cons, List.map_nil, h1, h2, hfn, Act.eval]
        rfl
      · rintro e' W2 ⟨rfl, hb2⟩
        exact ⟨_, rfl, by rw [← HXX.out]; rfl, hO.1.below hb2, hO.2.trans (chg_of_below hb2)⟩
    · refine RU.ObT.pure rfl rfl rfl (fun a V hf hp ev he hc W => ?_)
      have q57 : ev (.tmp 57) = .pointer (some ⟨lg, 0, none⟩) := (he (.tmp 57)).trans (hp 0 57 rfl)
      simp only [List.getElem_toArray, List.getElem_cons_succ, List.getElem_cons_zero, execOp, Option.map_some, Option.map_none]; rw [q57]
      first | (go_simp; done) | (go_simp; rfl)
    · refine RU.ObT.pure rfl rfl rfl (fun a V hf hp ev he hc W => ?_)
      have q66 : ev (.tmp 66) = .pointer (some ⟨lg, 0, none⟩) := (he (.tmp 66)).trans (hp 9 66 rfl)
      simp only [List.getElem_toArray, List.getElem_cons_succ, List.getElem_cons_zero, execOp, Option.map_some, Option.map_none]; rw [q66]
      first | (go_simp; done) | (go_simp; rfl)
    · refine RU.ObT.pure rfl rfl rfl (fun a V hf hp ev he hc W => ?_)
      have q67 : ev (.tmp 67) = .pointer (some ⟨lg, 2, none⟩) := (he (.tmp 67)).trans (hp 10 67 rfl)
      have q59 : ev (.tmp 59) = .int .u64 (r : Int) := (he (.tmp 59)).trans (hp 2 59 rfl)
      simp only [List.getElem_toArray, List.getElem_cons_succ, List.getElem_cons_zero, execOp, Option.map_some, Option.map_none]; rw [q67, q59]
      have hr3 : (r : Int) < 2 := by omega
      first | (go_simp; done) | (go_simp; rfl)
    · refine RU.ObT.loud (j := 0) rfl (fun a W V hO hf hp => ?_)
      have q68 : a.eval (.tmp 68) = .pointer (some ⟨lg, 2 + r * 64, none⟩) := hp 11 68 rfl
      have q65 : a.eval (.tmp 65) = .agg (bv x).toArray := hp 8 65 rfl
      have hse := hO.1.setF r hr2 HXL.out
      refine RU.ob_op rfl (RU.wanted_none rfl) (wp_store_mid 67 (.tmp 68) (.tmp 65) rfl lg (2 + r * 64) (bv x).toArray q68 q65 (there_sec HXL.out (there_of_row' hO.1.lw.lb (2 + r * 64) 64 (by rw [List.size_toArray, lc_length hO.1.lw.f0 hO.1.lw.f1]; omega))) (sct_size HXL.out) (bv_one' _) ⟨_, rfl, hse.1, hO.2.trans hse.2⟩)
  · intro w9 V9 hO9
    have X9 : Hid (WX S7 F5 H7 w9 g s1 lg (setF { l with t := t + 1, rs := xss, en := A + f, lo := false } r x) (.slice ad6 n6 cp6) us6) := hO9.1
    have C9 : Hid (Chg S7 W8 w9) := hO9.2
    simp only [RU.lay, RU.val, RU.at', bf, Act.put]
    simp only [List.setIfInBounds_toArray, List.set_cons_succ, List.set_cons_zero]
    clear hO9
    go_wp2_with fail
    go_ret
    have htt := HTT.out
    subst htt
    rw [HAT.out.1, HP.out, HS1.out, HRR.out, ← HXX.out, ← HPL.out, HFL.out]
    exact ⟨rfl, AftL.trans (chg_of_below B4.out) (fun b hb => .inl hb) (AftL.trans C5.out D5.out (AftL.trans C7.out D7.out ⟨S7, ⟨F5, H7, _, _, X9.out⟩, C8.out.trans C9.out, fun b hb => .inl hb⟩))⟩
end Go.Proofs.YtphjjjijdbljaaaDoor
