/- WalKeeps at a short record: up to the second Records. -/
import Derived.Test.YthfpakjfdncphaaDoorWalX
namespace Go.Proofs.YthfpakjfdncphaaDoor
open Go Go.RowKit
set_option linter.unusedSimpArgs false
set_option linter.unusedVariables false
set_option maxRecDepth 100000

theorem chg_grown {w w' : World} {b : Nat} (h : w.grownBy w' (some b)) : Chg (fun x => x = b) w w' := ⟨h.os, h.tape, h.output, h.size, fun c hc hn => h.block c hc (fun e => hn (Option.some.inj e))⟩
def kΩ (w : World) : Nat → (Nat → Value) → World → Prop := fun _ _ W => Below w.heap.size w W
def kf (b8 cpr8 : Nat) (adu8 : Option Addr) (cpu8 : Nat) (ad : Option Addr) (cap : Nat) (ad9 : Option Addr) (cp9 : Nat) (p : List Int) : Nat → Value
  | 0 => .int .i64 0
  | 3 => .slice (some ⟨b8, 0, none⟩) 1 cpr8
  | 4 => .int .i64 1
  | 8 => .slice (some ⟨b8, 0, none⟩) 1 cpr8
  | 9 => .pointer (some ⟨b8, 0, none⟩)
  | 10 => .slice adu8 p.length cpu8
  | 11 => .string (strOfNums p)
  | 12 => .slice ad p.length cap
  | 13 => .string (strOfNums p)
  | 17 => .pointer none
  | 21 => .int .i64 1
  | 25 => .pointer none
  | 29 => .int .i64 1
  | 33 => .pointer none
  | 34 => .slice ad9 p.length cp9
  | 35 => .int .i64 1
  | 39 => .pointer none
  | 40 => .int .i64 1
  | 44 => .pointer none
  | 45 => .slice none 0 0
  | 46 => .int .i64 0
  | _ => .bool true
set_option maxHeartbeats 4000000 in
theorem keeps_short (p : List Int) (v : Value) (small : Int) (w : World) (hT : Tb w) (hv : Sl w v p) (hb : Byt p) (hl : p.length ≤ 1000) :
    Calls Tryd.prog 8 #[v, .int .i64 small] w fun e w' => e = .returned (.bool true) ∧ Below w.heap.size w w' := by
  have HT : Hid (Tb w) := hT
  have HV : Hid (Sl w v p) := hv
  have HY : Hid (Byt p) := hb
  obtain ⟨ad, cap, rfl, hc, -⟩ := hv
  have g1 : ¬ (1000 : Int) < (p.length : Int) := by omega
  have HFL : Hid (fl (16 + p.length) < 256 / 2) := by show _ < _; unfold fl; omega
  clear hT hc hb
  go_enter Tryd.func8, Tryd.ntmps8
  go_wp2_with fail
  refine (awake_any w HT.out).mono ?_
  rintro e w1 ⟨rfl, hb1⟩
  have HB1 : Hid (Below w.heap.size w w1) := hb1
  clear hb1
  go_wp2_with fail
  refine (new_any w1 256 (by omega) (by omega)).mono ?_
  rintro e w2 ⟨g, rfl, F, h1, h2, h3⟩
  have HP : Hid (PD F w2 g (dk0 256)) := h1
  have HB2 : Hid (Below w1.heap.size w1 w2) := h2
  have HF : Hid (∀ b, F b → w1.heap.size ≤ b) := h3
  clear h1 h2 h3
  go_wp2_with fail
  have ht1 := HT.out.below HB1.out
  refine (opened_new (B := w1.heap.size) (w0 := w1) _ HP.out (ht1.below HB2.out) (by omega) HF.out HB2.out HB2.out.size ht1.lt).mono ?_
  rintro e w3 ⟨lg, rfl, h3⟩
  have HL3 : Hid (LA w1.heap.size w1 w3 g (dk0 256) lg (l0 g)) := h3
  clear h3 ht1 HP HB2 HF
  have HB3 : Hid (Below w1.heap.size w1 w3) := by obtain ⟨_, _, _, h⟩ := HL3.out; exact h
  have HV3 : Hid (Sl w3 (.slice ad p.length cap) p) := HV.out.below (HB1.out.trans (HB3.out.mono HB1.out.size)) (Nat.le_refl _)
  go_wp2_with (at_builtin; refine app_u8 (B0 := w3.heap.size) rfl _ _ rfl (by simp) _ [] rfl (Ow.lit w3 [] #[] 0 rfl rfl (by simp)) _ rfl p (HV3.out.below ((Below.refl _ w3).alloc (Nat.le_refl _) _) (Nat.le_refl _)) (by simp; omega) ?_; intro v9 w4 h1 h2 h3 h4; rw [List.nil_append] at h1; have O4 : Hid (Ow w3.heap.size w4 v9 p) := h1; have B4 : Hid (Below w3.heap.size w3 w4) := ((Below.refl _ w3).alloc (Nat.le_refl _) _).trans h3; clear h1 h2 h3 h4)
  obtain ⟨ad9, cp9, hv9, -, -⟩ := O4.out.sl
  subst hv9
  obtain ⟨S3, hw3, hs3, hb3⟩ := HL3.out
  have hw4 := hw3.below B4.out
  have HN9 : Hid (∀ b, Value.ownBlock (.slice ad9 p.length cp9) = some b → w3.heap.size ≤ b ∧ b < w4.heap.size ∧ ¬ S3 b) := fun b e => ⟨O4.out.blk b e, O4.out.lt b e, fun x => by have h1 := hw3.lt x; have h2 := O4.out.blk b e; omega⟩
  refine (append_new hw4 p _ O4.out.sl HY.out (by omega) HFL.out).mono ?_
  rintro e w5 ⟨rfl, S5, hw5, hc5, hd5⟩
  have W5 : Hid (WL S5 w5 g (dk1 256 p) lg (l1 g 256 p)) := hw5
  have O5 : Hid (Ow w3.heap.size w5 (.slice ad9 p.length cp9) p) := O4.out.keep (fun b e => hc5.other b (HN9.out b e).2.1 (HN9.out b e).2.2)
  have N5 : Hid (∀ b, Value.ownBlock (.slice ad9 p.length cp9) = some b → ¬ S5 b) := fun b e x => (hd5 b x).elim (HN9.out b e).2.2 (fun y => by have := (HN9.out b e).2.1; omega)
  have D5 : Hid (∀ b, S5 b → w1.heap.size ≤ b) := fun b x => (hd5 b x).elim (hs3 b) (fun y => by have h1 := B4.out.size; have h2 := HB3.out.size; omega)
  have B5 : Hid (Below w1.heap.size w1 w5) := (HB3.out.trans (B4.out.mono HB3.out.size)).trans (hc5.below (Nat.le_trans HB3.out.size B4.out.size) hs3)
  have Z5 : Hid (w1.heap.size ≤ w3.heap.size) := HB3.out.size
  have T5 : Hid (0 < w1.heap.size ∧ 1 < w1.heap.size) := by have h := (HT.out.below HB1.out).lt; exact h
  clear hw3 hs3 hb3 hw4 hw5 hc5 hd5 O4 B4 HL3 HV3 HN9 HB3
  go_wp2_with fail
  go_loopw [49] (fun i wr => ∃ (k : Nat) (ys : List Int), k ≤ p.length ∧ i = .int .i64 (k : Int) ∧ ys.length = p.length ∧ Ow w3.heap.size wr (.slice ad9 p.length cp9) ys ∧ WL S5 wr g (dk1 256 p) lg (l1 g 256 p) ∧ Below w1.heap.size w1 wr) (fun i _ => p.length - (intOf i).toNat)
  case atStart => exact ⟨0, p, Nat.zero_le _, rfl, rfl, O5.out, W5.out, B5.out⟩
  case round =>
    obtain ⟨k, ys, hk, rfl, hyl, ho, hw, hbl⟩ := hrel
    have HO : Hid (Ow w3.heap.size wr (.slice ad9 p.length cp9) ys) := ho
    have HW : Hid (WL S5 wr g (dk1 256 p) lg (l1 g 256 p)) := hw
    have HBL : Hid (Below w1.heap.size w1 wr) := hbl
    have HYL : Hid (ys.length = p.length) := hyl
    clear ho hw hbl O5 W5 B5 hyl
    by_cases hlt : k < p.length
    · obtain ⟨b, o, c, hv, hcc, -⟩ := HO.out.sl.lies (by rw [HYL.out]; omega)
      have h0 : o = 0 := by
        rcases HO.out.2 with ⟨h', _⟩ | ⟨g', cap', cur, h', _⟩
        · rw [hv] at h'; cases h'
        · rw [hv] at h'; cases h'; rfl
      subst h0
      simp only [Value.slice.injEq] at hv
      obtain ⟨rfl, -, rfl⟩ := hv
      obtain ⟨hce, hfr⟩ := HO.out.cell (j := k) (by rw [HYL.out]; exact hlt)
      have hset := HO.out.set k 9
      have HSET : Hid (Ow w3.heap.size (wr.setCell ⟨b, k, none⟩ (.int .u8 9)) (.slice (some ⟨b, 0, none⟩) p.length cp9) (ys.set k 9) ∧ wr.grownBy (wr.setCell ⟨b, k, none⟩ (.int .u8 9)) (some b)) := hset
      have hgk : (k : Int) < (p.length : Int) := by omega
      clear hset hcc
      go_wp2_with fail
      go_roundw
      case rel =>
        have hbb : w3.heap.size ≤ b := HO.out.blk b rfl
        have hz := Z5.out
        exact ⟨k + 1, ys.set k 9, hlt, by go_num, by rw [List.length_set, HYL.out], HSET.out.1, HW.out.chg (chg_grown HSET.out.2) (fun x e => by rw [e]; exact N5.out b rfl) ⟨fun e => by have := T5.out.1; have e' : _ = b := e; omega, fun e => by have := T5.out.2; have e' : _ = b := e; omega⟩, HBL.out.trans ((chg_grown HSET.out.2).below HBL.out.size (fun x e => by omega))⟩
      case measure => simp [intOf]; omega
    · obtain rfl : k = p.length := by omega
      clear hk
      go_wp2_with fail
      refine (records_new HW.out (by omega) HFL.out (by omega)).mono ?_
      rintro e w7 ⟨v7, rfl, S7, w6, us, h1, h2, h3, h4, h5⟩
      have W7 : Hid (WL S7 w7 g (dk1 256 p) lg (l1 g 256 p)) := h1.below h5
      have D7 : Hid (∀ b, S7 b → w1.heap.size ≤ b ∧ b < w6.heap.size) := fun b x => ⟨(h3 b x).elim (D5.out b) (fun y => Nat.le_trans HBL.out.size y), h1.lt x⟩
      have B7 : Hid (Below w1.heap.size w1 w7) := (HBL.out.trans (h2.below HBL.out.size D5.out)).trans (h5.mono (Nat.le_trans HBL.out.size h2.size))
      have Z6 : Hid (w1.heap.size ≤ w6.heap.size) := Nat.le_trans HBL.out.size h2.size
      obtain ⟨adr, cpr, hvr, -, hxr⟩ := h4.ll
      have hvr' : v7 = .slice adr 1 cpr := hvr
      subst hvr'
      have hlen : us.length = 1 := h4.len
      obtain ⟨u0, hu0⟩ : ∃ u, us[0]? = some u := ⟨us[0], List.getElem?_eq_getElem (by omega)⟩
      have O7 : Hid (Ow w6.heap.size w7 u0 p) := h4.mem 0 u0 hu0
      have A7 : Hid (∀ b, u0.ownBlock = some b → b < w7.heap.size ∧ Value.ownBlock (.slice adr 1 cpr) ≠ some b) := fun b e => h4.apart 0 u0 hu0 b e
      obtain ⟨br, hbr, hcr⟩ : ∃ br, adr = some ⟨br, 0, none⟩ ∧ w7.cell? ⟨br, 0, none⟩ = some u0 := by
        rcases h4.row.2 with ⟨h', h0⟩ | ⟨g', cap', cur, h', hb', hg', hc', _, hs', ht'⟩
        · rw [hlen] at h0; cases h0
        · simp only [Value.slice.injEq] at h'
          refine ⟨g', h'.1, ?_⟩
          have e : (cur.toList.take (us.length * 1))[0]? = some u0 := by rw [ht']; exact hu0
          rw [List.getElem?_take, if_pos (by omega), Array.getElem?_toList] at e
          simp only [World.cell?, hg', Option.isSome_none, Bool.false_eq_true, if_false, e]
      subst hbr
      obtain ⟨adu, cpu, hue, -, -⟩ := O7.out.sl
      subst hue
      clear h1 h2 h3 h4 h5 hxr hvr HO HW HBL HYL hu0 hlen
      go_wp2_with fail
      go_loopw [60] (fun i wr => ∃ (j : Nat) (zs : List Int), j ≤ 1 ∧ i = .int .i64 (j : Int) ∧ zs.length = p.length ∧ wr.cell? ⟨br, 0, none⟩ = some (.slice adu p.length cpu) ∧ Ow w6.heap.size wr (.slice adu p.length cpu) zs ∧ WL S7 wr g (dk1 256 p) lg (l1 g 256 p) ∧ Below w1.heap.size w1 wr) (fun i _ => 1 - (intOf i).toNat)
      case atStart => exact ⟨0, p, by omega, rfl, rfl, hcr, O7.out, W7.out, B7.out⟩
      case round =>
        obtain ⟨j, zs, hj, rfl, hzl, hce, ho, hw, hbl⟩ := hrel
        have HO : Hid (Ow w6.heap.size wr (.slice adu p.length cpu) zs) := ho
        have HW : Hid (WL S7 wr g (dk1 256 p) lg (l1 g 256 p)) := hw
        have HBL : Hid (Below w1.heap.size w1 wr) := hbl
        have HZL : Hid (zs.length = p.length) := hzl
        clear ho hw hbl O7 W7 B7 hzl hcr
        by_cases hj1 : j < 1
        · obtain rfl : j = 0 := by omega
          go_wp2_with fail
          have hce0 : wr.cell? ⟨br, 0, none⟩ = some (.slice adu p.length cpu) := hce
          go_loopw [68] (fun i wx => ∃ (k : Nat) (zs : List Int), k ≤ p.length ∧ i = .int .i64 (k : Int) ∧ zs.length = p.length ∧ wx.cell? ⟨br, 0, none⟩ = some (.slice adu p.length cpu) ∧ Ow w6.heap.size wx (.slice adu p.length cpu) zs ∧ WL S7 wx g (dk1 256 p) lg (l1 g 256 p) ∧ Below w1.heap.size w1 wx) (fun i _ => p.length - (intOf i).toNat)
          case atStart => exact ⟨0, zs, Nat.zero_le _, rfl, HZL.out, hce0, HO.out, HW.out, HBL.out⟩
          case round =>
            clear hce hce0 HO HW HBL HZL
            obtain ⟨k, ys, hk, rfl, hyl, hce, ho, hw, hbl⟩ := hrel
            have HO : Hid (Ow w6.heap.size wr (.slice adu p.length cpu) ys) := ho
            have HW : Hid (WL S7 wr g (dk1 256 p) lg (l1 g 256 p)) := hw
            have HBL : Hid (Below w1.heap.size w1 wr) := hbl
            have HYL : Hid (ys.length = p.length) := hyl
            clear ho hw hbl hyl
            by_cases hlt : k < p.length
            · obtain ⟨b, o, c, hv, hcc, -⟩ := HO.out.sl.lies (by rw [HYL.out]; omega)
              have h0 : o = 0 := by
                rcases HO.out.2 with ⟨h', _⟩ | ⟨g', cap', cur, h', _⟩
                · rw [hv] at h'; cases h'
                · rw [hv] at h'; cases h'; rfl
              subst h0
              simp only [Value.slice.injEq] at hv
              obtain ⟨rfl, -, rfl⟩ := hv
              obtain ⟨hce2, hfr⟩ := HO.out.cell (j := k) (by rw [HYL.out]; exact hlt)
              have HSET : Hid (Ow w6.heap.size (wr.setCell ⟨b, k, none⟩ (.int .u8 9)) (.slice (some ⟨b, 0, none⟩) p.length cpu) (ys.set k 9) ∧ wr.grownBy (wr.setCell ⟨b, k, none⟩ (.int .u8 9)) (some b)) := HO.out.set k 9
              have hne : br ≠ b := fun e => (A7.out b rfl).2 (by rw [← e]; rfl)
              have HNE : Hid (br ≠ b) := hne
              have HCE : Hid (wr.cell? ⟨br, 0, none⟩ = some (.slice (some ⟨b, 0, none⟩) p.length cpu)) := hce
              have hgk : (k : Int) < (p.length : Int) := by omega
              clear hcc hne
              go_wp2_with fail
              go_roundw
              case rel =>
                have hbb : w6.heap.size ≤ b := HO.out.blk b rfl
                have hz := Z6.out
                have hc2 : (wr.setCell ⟨b, k, none⟩ (.int .u8 9)).cell? ⟨br, 0, none⟩ = some (.slice (some ⟨b, 0, none⟩) p.length cpu) := (World.cell?_of_block (w := wr) (a := ⟨br, 0, none⟩) (Below.heap_setCell _ _ _ _ (fun e => HNE.out e))).trans HCE.out
                exact ⟨k + 1, ys.set k 9, hlt, by go_num, by rw [List.length_set, HYL.out], hc2, HSET.out.1, HW.out.chg (chg_grown HSET.out.2) (fun x e x' => by have := (D7.out x x').2; omega) ⟨fun e => by have := T5.out.1; have e' : _ = b := e; omega, fun e => by have := T5.out.2; have e' : _ = b := e; omega⟩, HBL.out.trans ((chg_grown HSET.out.2).below HBL.out.size (fun x e => by omega))⟩
              case measure => simp [intOf]; omega
            · have HCE : Hid (wr.cell? ⟨br, 0, none⟩ = some (.slice adu p.length cpu)) := hce
              have hgk : ¬ ((k : Int) < (p.length : Int)) := by omega
              go_wp2_with fail
              go_roundw
              case rel => exact ⟨1, ys, by omega, rfl, HYL.out, HCE.out, HO.out, HW.out, HBL.out⟩
              case measure => simp [intOf]
        · obtain rfl : j = 1 := by omega
          clear hce hj
          go_wp2_with fail
          refine (records_new HW.out (by omega) HFL.out (by omega)).mono ?_
          rintro e w8 ⟨v8, rfl, S8, w9, us8, h1, h2, h3, h4, h5⟩
          have B8 : Hid (Below w1.heap.size w1 w8) := (HBL.out.trans (h2.below HBL.out.size (fun b x => (D7.out b x).1))).trans (h5.mono (Nat.le_trans HBL.out.size h2.size))
          obtain ⟨adr8, cpr8, hvr, -, hxr⟩ := h4.ll
          have hvr' : v8 = .slice adr8 1 cpr8 := hvr
          subst hvr'
          have hlen : us8.length = 1 := h4.len
          obtain ⟨u8, hu8⟩ : ∃ u, us8[0]? = some u := ⟨us8[0], List.getElem?_eq_getElem (by omega)⟩
          have hO8 := h4.mem 0 u8 hu8
          have O8 : Hid (Ow w9.heap.size w8 u8 p) := hO8
          obtain ⟨b8, hbr, hcr⟩ : ∃ br, adr8 = some ⟨br, 0, none⟩ ∧ br < w8.heap.size ∧ w8.cell? ⟨br, 0, none⟩ = some u8 := by
            rcases h4.row.2 with ⟨h', h0⟩ | ⟨g', cap', cur, h', hb', hg', hc', _, hs', ht'⟩
            · rw [hlen] at h0; cases h0
            · simp only [Value.slice.injEq] at h'
              refine ⟨g', h'.1, (Array.getElem?_eq_some_iff.1 hg').1, ?_⟩
              have e : (cur.toList.take (us8.length * 1))[0]? = some u8 := by rw [ht']; exact hu8
              rw [List.getElem?_take, if_pos (by omega), Array.getElem?_toList] at e
              simp only [World.cell?, hg', Option.isSome_none, Bool.false_eq_true, if_false, e]
          subst hbr
          have C8 : Hid (b8 < w8.heap.size ∧ w8.cell? ⟨b8, 0, none⟩ = some u8) := hcr
          obtain ⟨adu8, cpu8, hue, -, -⟩ := hO8.sl
          subst hue
          have HV8 : Hid (Sl w8 (.slice ad p.length cap) p) := HV.out.below (HB1.out.trans (B8.out.mono HB1.out.size)) (Nat.le_refl _)
          clear h1 h2 h3 h4 h5 hxr hvr HO HW HBL HZL hu8 hlen hcr hO8
          obtain ⟨rn, hrn1, hrn2⟩ : ∃ rn : Nat, Int.tmod (IntKind.u64.wrap small) 63 = (rn : Int) ∧ rn ≤ 62 := by
            have h0 : 0 ≤ IntKind.u64.wrap small := by rw [IntKind.wrap_u64]; omega
            refine ⟨(Int.tmod (IntKind.u64.wrap small) 63).toNat, ?_, ?_⟩
            · have := Int.tmod_nonneg 63 h0; omega
            · rw [Int.tmod_eq_emod_of_nonneg h0]; omega
          go_wp2_with fail
          refine (new_any w8 (1 + rn) (by omega) (by omega)).mono ?_
          rintro e wA ⟨gA, rfl, FA, hA1, hA2, hA3⟩
          have HPA : Hid (PD FA wA gA (dk0 (1 + rn))) := hA1
          have BA : Hid (Below w8.heap.size w8 wA) := hA2
          clear hA1 hA2 hA3
          go_wp2_with fail
          refine (open_small HPA.out (show 1 + rn < 64 by omega)).mono ?_
          rintro e wB ⟨rfl, rfl⟩
          go_wp2_with fail
          refine (open_nil wB).mono ?_
          rintro e wC ⟨rfl, rfl⟩
          go_wp2_with fail
          have HC8 : Hid (∀ W, Below wC.heap.size wC W → W.cell? ⟨b8, 0, none⟩ = some (.slice adu8 p.length cpu8)) := fun W hb => (hb.cell (p := ⟨b8, 0, none⟩) (Nat.lt_of_lt_of_le C8.out.1 BA.out.size)).trans ((BA.out.cell (p := ⟨b8, 0, none⟩) C8.out.1).trans C8.out.2)
          have HS8 : Hid (∀ W, Below wC.heap.size wC W → (convert 32 9 (.slice adu8 p.length cpu8)).run Tryd.prog W = .ok (.string (strOfNums p)) W) := fun W hb => ((O8.out.sl.below BA.out (Nat.le_refl _)).below hb (Nat.le_refl _)).str
          have HS0 : Hid (∀ W, Below wC.heap.size wC W → (convert 32 9 (.slice ad p.length cap)).run Tryd.prog W = .ok (.string (strOfNums p)) W) := fun W hb => ((HV8.out.below BA.out (Nat.le_refl _)).below hb (Nat.le_refl _)).str
          refine RU.wp_rgn [] (kf b8 cpr8 adu8 cpu8 ad cap ad9 cp9 p) hK0 (kΩ wC) (by kernel_rfl) (by kernel_rfl) (show Below wC.heap.size wC _ from (Below.refl _ _).drew) ?_ ?_
          · refine ⟨?_, ?_, ?_, ?_, ?_, ?_, ?_, ?_, ?_, ?_, ?_, ?_, ?_, ?_, ?_, ?_, ?_, ?_, ?_, ?_, ?_, ?_, ?_, ?_, ?_, ?_, ?_, ?_, ?_, ?_, ?_, ?_, ?_, ?_, ?_, ?_, ?_, ?_, ?_, ?_, ?_, ?_, ?_, ?_, ?_, ?_, ?_, ?_, ?_, ?_, trivial⟩
            · refine RU.ObT.silent rfl (fun a W k0 V hO hf hp hk => ?_)
              refine RU.ob_val rfl (RU.wanted_none rfl) (fun ev he hc => ?_) ⟨rfl, hO⟩
              have q10 : ev (.tmp 10) = .int .i64 0 := (he (.tmp 10)).trans (hf 10 rfl)
              simp only [List.getElem_toArray, List.getElem_cons_succ, List.getElem_cons_zero, execOp, Option.map_some, Option.map_none]; rw [q10]
              first | (go_simp; done) | (go_simp; rfl) | rfl
            · refine RU.ObT.silent rfl (fun a W k0 V hO hf hp hk => ?_)
              refine RU.ob_val rfl (RU.wanted_none rfl) (fun ev he hc => ?_) ⟨rfl, hO⟩
              have q99 : ev (.tmp 99) = .int .i64 0 := (he (.tmp 99)).trans (hp 0 99 rfl)
              simp only [List.getElem_toArray, List.getElem_cons_succ, List.getElem_cons_zero, execOp, Option.map_some, Option.map_none]; rw [q99]
              try simp only [hc]
              first | (go_simp; done) | (go_simp; rfl) | rfl
            · refine RU.ObT.silent rfl (fun a W k0 V hO hf hp hk => ?_)
              refine RU.ob_val rfl (RU.wanted_none rfl) (fun ev he hc => ?_) ⟨rfl, hO⟩
              have q100 : ev (.tmp 100) = .bool true := (he (.tmp 100)).trans (hp 1 100 rfl)
              simp only [List.getElem_toArray, List.getElem_cons_succ, List.getElem_cons_zero, execOp, Option.map_some, Option.map_none]; rw [q100]
              first | (go_simp; done) | (go_simp; rfl) | rfl
            · refine RU.ObT.silent rfl (fun a W k0 V hO hf hp hk => ?_)
              have hg : a.eval (.tmp 101) = .bool true := hp 2 101 rfl
              refine RU.ob_val rfl (RU.wanted_some rfl rfl rfl hg) (fun ev he hc => ?_) ⟨rfl, hO⟩
              have q12 : ev (.tmp 12) = .slice (some ⟨b8, 0, none⟩) 1 cpr8 := (he (.tmp 12)).trans (hf 12 rfl)
              simp only [List.getElem_toArray, List.getElem_cons_succ, List.getElem_cons_zero, execOp, Option.map_some, Option.map_none]; rw [q12]
              first | (go_simp; done) | (go_simp; rfl) | rfl
            · refine RU.ObT.silent rfl (fun a W k0 V hO hf hp hk => ?_)
              have hg : a.eval (.tmp 101) = .bool true := hp 2 101 rfl
              refine RU.ob_val rfl (RU.wanted_some rfl rfl rfl hg) (fun ev he hc => ?_) ⟨rfl, hO⟩
              have q102 : ev (.tmp 102) = .slice (some ⟨b8, 0, none⟩) 1 cpr8 := (he (.tmp 102)).trans (hp 3 102 rfl)
              simp only [List.getElem_toArray, List.getElem_cons_succ, List.getElem_cons_zero, execOp, Option.map_some, Option.map_none]; simp only [resolve, invoke, builtin, Sem.run_bind, Sem.run_pure, Result.andThen_ok, List.map_toArray, List.map_cons, List.map_nil, q102]
              first | (go_simp; done) | (go_simp; rfl) | rfl
            · refine RU.ObT.silent rfl (fun a W k0 V hO hf hp hk => ?_)
              have hg : a.eval (.tmp 101) = .bool true := hp 2 101 rfl
              refine RU.ob_val rfl (RU.wanted_some rfl rfl rfl hg) (fun ev he hc => ?_) ⟨rfl, hO⟩
              have q103 : ev (.tmp 103) = .int .i64 1 := (he (.tmp 103)).trans (hp 4 103 rfl)
              simp only [List.getElem_toArray, List.getElem_cons_succ, List.getElem_cons_zero, execOp, Option.map_some, Option.map_none]; rw [q103]
              try simp only [hc]
              first | (go_simp; done) | (go_simp; rfl) | rfl
            · refine RU.ObT.silent rfl (fun a W k0 V hO hf hp hk => ?_)
              refine RU.ob_val rfl (RU.wanted_none rfl) (fun ev he hc => ?_) ⟨rfl, hO⟩
              have q101 : ev (.tmp 101) = .bool true := (he (.tmp 101)).trans (hp 2 101 rfl)
              have q104 : ev (.tmp 104) = .bool true := (he (.tmp 104)).trans (hp 5 104 rfl)
              simp only [List.getElem_toArray, List.getElem_cons_succ, List.getElem_cons_zero, execOp, Option.map_some, Option.map_none]; rw [q101, q104]
              try simp only [hc]
              first | (go_simp; done) | (go_simp; rfl) | rfl
            · refine RU.ObT.silent rfl (fun a W k0 V hO hf hp hk => ?_)
              refine RU.ob_val rfl (RU.wanted_none rfl) (fun ev he hc => ?_) ⟨rfl, hO⟩
              have q105 : ev (.tmp 105) = .bool true := (he (.tmp 105)).trans (hp 6 105 rfl)
              simp only [List.getElem_toArray, List.getElem_cons_succ, List.getElem_cons_zero, execOp, Option.map_some, Option.map_none]; rw [q105]
              first | (go_simp; done) | (go_simp; rfl) | rfl
            · refine RU.ObT.silent rfl (fun a W k0 V hO hf hp hk => ?_)
              have hg : a.eval (.tmp 106) = .bool true := hp 7 106 rfl
              refine RU.ob_val rfl (RU.wanted_some rfl rfl rfl hg) (fun ev he hc => ?_) ⟨rfl, hO⟩
              have q12 : ev (.tmp 12) = .slice (some ⟨b8, 0, none⟩) 1 cpr8 := (he (.tmp 12)).trans (hf 12 rfl)
              simp only [List.getElem_toArray, List.getElem_cons_succ, List.getElem_cons_zero, execOp, Option.map_some, Option.map_none]; rw [q12]
              first | (go_simp; done) | (go_simp; rfl) | rfl
            · refine RU.ObT.silent rfl (fun a W k0 V hO hf hp hk => ?_)
              have hg : a.eval (.tmp 106) = .bool true := hp 7 106 rfl
              refine RU.ob_val rfl (RU.wanted_some rfl rfl rfl hg) (fun ev he hc => ?_) ⟨rfl, hO⟩
              have q107 : ev (.tmp 107) = .slice (some ⟨b8, 0, none⟩) 1 cpr8 := (he (.tmp 107)).trans (hp 8 107 rfl)
              simp only [List.getElem_toArray, List.getElem_cons_succ, List.getElem_cons_zero, execOp, Option.map_some, Option.map_none]; rw [q107]
              try simp only [hc]
              first | (go_simp; done) | (go_simp; rfl) | rfl
            · refine RU.ObT.silent rfl (fun a W k0 V hO hf hp hk => ?_)
              have hg : a.eval (.tmp 106) = .bool true := hp 7 106 rfl
              refine RU.ob_val rfl (RU.wanted_some rfl rfl rfl hg) (fun ev he hc => ?_) ⟨rfl, hO⟩
              have q108 : ev (.tmp 108) = .pointer (some ⟨b8, 0, none⟩) := (he (.tmp 108)).trans (hp 9 108 rfl)
              simp only [List.getElem_toArray, List.getElem_cons_succ, List.getElem_cons_zero, execOp, Option.map_some, Option.map_none]; rw [q108]
              have hcell := HC8.out _ hO
              first | (go_simp; done) | (go_simp; rfl) | rfl
            · refine RU.ObT.silent rfl (fun a W k0 V hO hf hp hk => ?_)
              have hg : a.eval (.tmp 106) = .bool true := hp 7 106 rfl
              refine RU.ob_val rfl (RU.wanted_some rfl rfl rfl hg) (fun ev he hc => ?_) ⟨rfl, hO⟩
              have q109 : ev (.tmp 109) = .slice adu8 p.length cpu8 := (he (.tmp 109)).trans (hp 10 109 rfl)
              simp only [List.getElem_toArray, List.getElem_cons_succ, List.getElem_cons_zero, execOp, Option.map_some, Option.map_none]; rw [q109]
              have hst := HS8.out _ hO
              first | (go_simp; done) | (go_simp; rfl) | rfl
            · refine RU.ObT.silent rfl (fun a W k0 V hO hf hp hk => ?_)
              have hg : a.eval (.tmp 106) = .bool true := hp 7 106 rfl
              refine RU.ob_val rfl (RU.wanted_some rfl rfl rfl hg) (fun ev he hc => ?_) ⟨rfl, hO⟩
              have q0 : ev (.tmp 0) = .slice ad p.length cap := (he (.tmp 0)).trans (hf 0 rfl)
              simp only [List.getElem_toArray, List.getElem_cons_succ, List.getElem_cons_zero, execOp, Option.map_some, Option.map_none]; rw [q0]
              first | (go_simp; done) | (go_simp; rfl) | rfl
            · refine RU.ObT.silent rfl (fun a W k0 V hO hf hp hk => ?_)
              have hg : a.eval (.tmp 106) = .bool true := hp 7 106 rfl
              refine RU.ob_val rfl (RU.wanted_some rfl rfl rfl hg) (fun ev he hc => ?_) ⟨rfl, hO⟩
              have q111 : ev (.tmp 111) = .slice ad p.length cap := (he (.tmp 111)).trans (hp 12 111 rfl)
              simp only [List.getElem_toArray, List.getElem_cons_succ, List.getElem_cons_zero, execOp, Option.map_some, Option.map_none]; rw [q111]
              have hst := HS0.out _ hO
              first | (go_simp; done) | (go_simp; rfl) | rfl
            · refine RU.ObT.silent rfl (fun a W k0 V hO hf hp hk => ?_)
              have hg : a.eval (.tmp 106) = .bool true := hp 7 106 rfl
              refine RU.ob_val rfl (RU.wanted_some rfl rfl rfl hg) (fun ev he hc => ?_) ⟨rfl, hO⟩
              have q110 : ev (.tmp 110) = .string (strOfNums p) := (he (.tmp 110)).trans (hp 11 110 rfl)
              have q112 : ev (.tmp 112) = .string (strOfNums p) := (he (.tmp 112)).trans (hp 13 112 rfl)
              simp only [List.getElem_toArray, List.getElem_cons_succ, List.getElem_cons_zero, execOp, Option.map_some, Option.map_none]; rw [q110, q112]
              first | (go_simp; done) | (go_simp; rfl) | rfl
            · refine RU.ObT.silent rfl (fun a W k0 V hO hf hp hk => ?_)
              refine RU.ob_val rfl (RU.wanted_none rfl) (fun ev he hc => ?_) ⟨rfl, hO⟩
              have q106 : ev (.tmp 106) = .bool true := (he (.tmp 106)).trans (hp 7 106 rfl)
              have q113 : ev (.tmp 113) = .bool true := (he (.tmp 113)).trans (hp 14 113 rfl)
              simp only [List.getElem_toArray, List.getElem_cons_succ, List.getElem_cons_zero, execOp, Option.map_some, Option.map_none]; rw [q106, q113]
              try simp only [hc]
              first | (go_simp; done) | (go_simp; rfl) | rfl
            · refine RU.ObT.silent rfl (fun a W k0 V hO hf hp hk => ?_)
              refine RU.ob_val rfl (RU.wanted_none rfl) (fun ev he hc => ?_) ⟨rfl, hO⟩
              have q114 : ev (.tmp 114) = .bool true := (he (.tmp 114)).trans (hp 15 114 rfl)
              simp only [List.getElem_toArray, List.getElem_cons_succ, List.getElem_cons_zero, execOp, Option.map_some, Option.map_none]; rw [q114]
              first | (go_simp; done) | (go_simp; rfl) | rfl
            · refine RU.ObT.silent rfl (fun a W k0 V hO hf hp hk => ?_)
              have hg : a.eval (.tmp 115) = .bool true := hp 16 115 rfl
              refine RU.ob_val rfl (RU.wanted_some rfl rfl rfl hg) (fun ev he hc => ?_) ⟨rfl, hO⟩
              have q17 : ev (.tmp 17) = .pointer none := (he (.tmp 17)).trans (hf 17 rfl)
              simp only [List.getElem_toArray, List.getElem_cons_succ, List.getElem_cons_zero, execOp, Option.map_some, Option.map_none]; rw [q17]
              first | (go_simp; done) | (go_simp; rfl) | rfl
            · refine RU.ObT.silent rfl (fun a W k0 V hO hf hp hk => ?_)
              have hg : a.eval (.tmp 115) = .bool true := hp 16 115 rfl
              refine RU.ob_val rfl (RU.wanted_some rfl rfl rfl hg) (fun ev he hc => ?_) ⟨rfl, hO⟩
              have q116 : ev (.tmp 116) = .pointer none := (he (.tmp 116)).trans (hp 17 116 rfl)
              simp only [List.getElem_toArray, List.getElem_cons_succ, List.getElem_cons_zero, execOp, Option.map_some, Option.map_none]; rw [q116]
              try simp only [hc]
              first | (go_simp; done) | (go_simp; rfl) | rfl
            · refine RU.ObT.silent rfl (fun a W k0 V hO hf hp hk => ?_)
              refine RU.ob_val rfl (RU.wanted_none rfl) (fun ev he hc => ?_) ⟨rfl, hO⟩
              have q115 : ev (.tmp 115) = .bool true := (he (.tmp 115)).trans (hp 16 115 rfl)
              have q117 : ev (.tmp 117) = .bool true := (he (.tmp 117)).trans (hp 18 117 rfl)
              simp only [List.getElem_toArray, List.getElem_cons_succ, List.getElem_cons_zero, execOp, Option.map_some, Option.map_none]; rw [q115, q117]
              try simp only [hc]
              first | (go_simp; done) | (go_simp; rfl) | rfl
            · refine RU.ObT.silent rfl (fun a W k0 V hO hf hp hk => ?_)
              refine RU.ob_val rfl (RU.wanted_none rfl) (fun ev he hc => ?_) ⟨rfl, hO⟩
              have q118 : ev (.tmp 118) = .bool true := (he (.tmp 118)).trans (hp 19 118 rfl)
              simp only [List.getElem_toArray, List.getElem_cons_succ, List.getElem_cons_zero, execOp, Option.map_some, Option.map_none]; rw [q118]
              first | (go_simp; done) | (go_simp; rfl) | rfl
            · refine RU.ObT.silent rfl (fun a W k0 V hO hf hp hk => ?_)
              have hg : a.eval (.tmp 119) = .bool true := hp 20 119 rfl
              refine RU.ob_val rfl (RU.wanted_some rfl rfl rfl hg) (fun ev he hc => ?_) ⟨rfl, hO⟩
              have q18 : ev (.tmp 18) = .int .i64 1 := (he (.tmp 18)).trans (hf 18 rfl)
              simp only [List.getElem_toArray, List.getElem_cons_succ, List.getElem_cons_zero, execOp, Option.map_some, Option.map_none]; rw [q18]
              first | (go_simp; done) | (go_simp; rfl) | rfl
            · refine RU.ObT.silent rfl (fun a W k0 V hO hf hp hk => ?_)
              have hg : a.eval (.tmp 119) = .bool true := hp 20 119 rfl
              refine RU.ob_val rfl (RU.wanted_some rfl rfl rfl hg) (fun ev he hc => ?_) ⟨rfl, hO⟩
              have q120 : ev (.tmp 120) = .int .i64 1 := (he (.tmp 120)).trans (hp 21 120 rfl)
              simp only [List.getElem_toArray, List.getElem_cons_succ, List.getElem_cons_zero, execOp, Option.map_some, Option.map_none]; rw [q120]
              try simp only [hc]
              first | (go_simp; done) | (go_simp; rfl) | rfl
            · refine RU.ObT.silent rfl (fun a W k0 V hO hf hp hk => ?_)
              refine RU.ob_val rfl (RU.wanted_none rfl) (fun ev he hc => ?_) ⟨rfl, hO⟩
              have q119 : ev (.tmp 119) = .bool true := (he (.tmp 119)).trans (hp 20 119 rfl)
              have q121 : ev (.tmp 121) = .bool true := (he (.tmp 121)).trans (hp 22 121 rfl)
              simp only [List.getElem_toArray, List.getElem_cons_succ, List.getElem_cons_zero, execOp, Option.map_some, Option.map_none]; rw [q119, q121]
              try simp only [hc]
              first | (go_simp; done) | (go_simp; rfl) | rfl
            · refine RU.ObT.silent rfl (fun a W k0 V hO hf hp hk => ?_)
              refine RU.ob_val rfl (RU.wanted_none rfl) (fun ev he hc => ?_) ⟨rfl, hO⟩
              have q122 : ev (.tmp 122) = .bool true := (he (.tmp 122)).trans (hp 23 122 rfl)
              simp only [List.getElem_toArray, List.getElem_cons_succ, List.getElem_cons_zero, execOp, Option.map_some, Option.map_none]; rw [q122]
              first | (go_simp; done) | (go_simp; rfl) | rfl
            · refine RU.ObT.silent rfl (fun a W k0 V hO hf hp hk => ?_)
              have hg : a.eval (.tmp 123) = .bool true := hp 24 123 rfl
              refine RU.ob_val rfl (RU.wanted_some rfl rfl rfl hg) (fun ev he hc => ?_) ⟨rfl, hO⟩
              have q19 : ev (.tmp 19) = .pointer none := (he (.tmp 19)).trans (hf 19 rfl)
              simp only [List.getElem_toArray, List.getElem_cons_succ, List.getElem_cons_zero, execOp, Option.map_some, Option.map_none]; rw [q19]
              first | (go_simp; done) | (go_simp; rfl) | rfl
            · refine RU.ObT.silent rfl (fun a W k0 V hO hf hp hk => ?_)
              have hg : a.eval (.tmp 123) = .bool true := hp 24 123 rfl
              refine RU.ob_val rfl (RU.wanted_some rfl rfl rfl hg) (fun ev he hc => ?_) ⟨rfl, hO⟩
              have q124 : ev (.tmp 124) = .pointer none := (he (.tmp 124)).trans (hp 25 124 rfl)
              simp only [List.getElem_toArray, List.getElem_cons_succ, List.getElem_cons_zero, execOp, Option.map_some, Option.map_none]; rw [q124]
              try simp only [hc]
              first | (go_simp; done) | (go_simp; rfl) | rfl
            · refine RU.ObT.silent rfl (fun a W k0 V hO hf hp hk => ?_)
              refine RU.ob_val rfl (RU.wanted_none rfl) (fun ev he hc => ?_) ⟨rfl, hO⟩
              have q123 : ev (.tmp 123) = .bool true := (he (.tmp 123)).trans (hp 24 123 rfl)
              have q125 : ev (.tmp 125) = .bool true := (he (.tmp 125)).trans (hp 26 125 rfl)
              simp only [List.getElem_toArray, List.getElem_cons_succ, List.getElem_cons_zero, execOp, Option.map_some, Option.map_none]; rw [q123, q125]
              try simp only [hc]
              first | (go_simp; done) | (go_simp; rfl) | rfl
            · refine RU.ObT.silent rfl (fun a W k0 V hO hf hp hk => ?_)
              refine RU.ob_val rfl (RU.wanted_none rfl) (fun ev he hc => ?_) ⟨rfl, hO⟩
              have q126 : ev (.tmp 126) = .bool true := (he (.tmp 126)).trans (hp 27 126 rfl)
              simp only [List.getElem_toArray, List.getElem_cons_succ, List.getElem_cons_zero, execOp, Option.map_some, Option.map_none]; rw [q126]
              first | (go_simp; done) | (go_simp; rfl) | rfl
            · refine RU.ObT.silent rfl (fun a W k0 V hO hf hp hk => ?_)
              have hg : a.eval (.tmp 127) = .bool true := hp 28 127 rfl
              refine RU.ob_val rfl (RU.wanted_some rfl rfl rfl hg) (fun ev he hc => ?_) ⟨rfl, hO⟩
              have q20 : ev (.tmp 20) = .int .i64 1 := (he (.tmp 20)).trans (hf 20 rfl)
              simp only [List.getElem_toArray, List.getElem_cons_succ, List.getElem_cons_zero, execOp, Option.map_some, Option.map_none]; rw [q20]
              first | (go_simp; done) | (go_simp; rfl) | rfl
            · refine RU.ObT.silent rfl (fun a W k0 V hO hf hp hk => ?_)
              have hg : a.eval (.tmp 127) = .bool true := hp 28 127 rfl
              refine RU.ob_val rfl (RU.wanted_some rfl rfl rfl hg) (fun ev he hc => ?_) ⟨rfl, hO⟩
              have q128 : ev (.tmp 128) = .int .i64 1 := (he (.tmp 128)).trans (hp 29 128 rfl)
              simp only [List.getElem_toArray, List.getElem_cons_succ, List.getElem_cons_zero, execOp, Option.map_some, Option.map_none]; rw [q128]
              try simp only [hc]
              first | (go_simp; done) | (go_simp; rfl) | rfl
            · refine RU.ObT.silent rfl (fun a W k0 V hO hf hp hk => ?_)
              refine RU.ob_val rfl (RU.wanted_none rfl) (fun ev he hc => ?_) ⟨rfl, hO⟩
              have q127 : ev (.tmp 127) = .bool true := (he (.tmp 127)).trans (hp 28 127 rfl)
              have q129 : ev (.tmp 129) = .bool true := (he (.tmp 129)).trans (hp 30 129 rfl)
              simp only [List.getElem_toArray, List.getElem_cons_succ, List.getElem_cons_zero, execOp, Option.map_some, Option.map_none]; rw [q127, q129]
              try simp only [hc]
              first | (go_simp; done) | (go_simp; rfl) | rfl
            · refine RU.ObT.silent rfl (fun a W k0 V hO hf hp hk => ?_)
              refine RU.ob_val rfl (RU.wanted_none rfl) (fun ev he hc => ?_) ⟨rfl, hO⟩
              have q130 : ev (.tmp 130) = .bool true := (he (.tmp 130)).trans (hp 31 130 rfl)
              simp only [List.getElem_toArray, List.getElem_cons_succ, List.getElem_cons_zero, execOp, Option.map_some, Option.map_none]; rw [q130]
              first | (go_simp; done) | (go_simp; rfl) | rfl
            · refine RU.ObT.silent rfl (fun a W k0 V hO hf hp hk => ?_)
              have hg : a.eval (.tmp 131) = .bool true := hp 32 131 rfl
              refine RU.ob_val rfl (RU.wanted_some rfl rfl rfl hg) (fun ev he hc => ?_) ⟨rfl, hO⟩
              have q21 : ev (.tmp 21) = .pointer none := (he (.tmp 21)).trans (hf 21 rfl)
              simp only [List.getElem_toArray, List.getElem_cons_succ, List.getElem_cons_zero, execOp, Option.map_some, Option.map_none]; rw [q21]
              first | (go_simp; done) | (go_simp; rfl) | rfl
            · refine RU.ObT.silent rfl (fun a W k0 V hO hf hp hk => ?_)
              have hg : a.eval (.tmp 131) = .bool true := hp 32 131 rfl
              refine RU.ob_val rfl (RU.wanted_some rfl rfl rfl hg) (fun ev he hc => ?_) ⟨rfl, hO⟩
              have q9 : ev (.tmp 9) = .slice ad9 p.length cp9 := (he (.tmp 9)).trans (hf 9 rfl)
              simp only [List.getElem_toArray, List.getElem_cons_succ, List.getElem_cons_zero, execOp, Option.map_some, Option.map_none]; rw [q9]
              first | (go_simp; done) | (go_simp; rfl) | rfl
            · refine RU.ObT.silent rfl (fun a W k0 V hO hf hp hk => ?_)
              have hg : a.eval (.tmp 131) = .bool true := hp 32 131 rfl
              have e132 : a.eval (.tmp 132) = .pointer none := hp 33 132 rfl
              have e133 : a.eval (.tmp 133) = .slice ad9 p.length cp9 := hp 34 133 rfl
              refine RU.ob_call (g := 12) (args := #[.pointer none, .slice ad9 p.length cp9]) rfl (RU.wanted_some rfl rfl rfl hg) (fun ev he hc => ?_) ((append_nil W ad9 p.length cp9).mono ?_)
              · have hfn := he (.func 12)
                have h132 := (he (.tmp 132)).trans e132
                have h133 := (he (.tmp 133)).trans e133
                simp only [List.getElem_toArray, List.getElem_cons_succ, List.getElem_cons_zero, execOp]
                simp only [resolve, invoke, Sem.run_bind, Sem.run_pure, Result.andThen_ok, List.map_toArray, List.map_cons, List.map_nil, hfn, hc, Act.eval, h132, h133]
                rfl
              · rintro e' W2 ⟨rfl, hb2⟩
                exact ⟨_, rfl, rfl, Below.trans hO (hb2.mono (Below.size hO))⟩
            · refine RU.ObT.silent rfl (fun a W k0 V hO hf hp hk => ?_)
              have hg : a.eval (.tmp 131) = .bool true := hp 32 131 rfl
              refine RU.ob_val rfl (RU.wanted_some rfl rfl rfl hg) (fun ev he hc => ?_) ⟨rfl, hO⟩
              have q134 : ev (.tmp 134) = .int .i64 1 := (he (.tmp 134)).trans (hp 35 134 rfl)
              simp only [List.getElem_toArray, List.getElem_cons_succ, List.getElem_cons_zero, execOp, Option.map_some, Option.map_none]; rw [q134]
              try simp only [hc]
              first | (go_simp; done) | (go_simp; rfl) | rfl
            · refine RU.ObT.silent rfl (fun a W k0 V hO hf hp hk => ?_)
              refine RU.ob_val rfl (RU.wanted_none rfl) (fun ev he hc => ?_) ⟨rfl, hO⟩
              have q131 : ev (.tmp 131) = .bool true := (he (.tmp 131)).trans (hp 32 131 rfl)
              have q135 : ev (.tmp 135) = .bool true := (he (.tmp 135)).trans (hp 36 135 rfl)
              simp only [List.getElem_toArray, List.getElem_cons_succ, List.getElem_cons_zero, execOp, Option.map_some, Option.map_none]; rw [q131, q135]
              try simp only [hc]
              first | (go_simp; done) | (go_simp; rfl) | rfl
            · refine RU.ObT.silent rfl (fun a W k0 V hO hf hp hk => ?_)
              refine RU.ob_val rfl (RU.wanted_none rfl) (fun ev he hc => ?_) ⟨rfl, hO⟩
              have q136 : ev (.tmp 136) = .bool true := (he (.tmp 136)).trans (hp 37 136 rfl)
              simp only [List.getElem_toArray, List.getElem_cons_succ, List.getElem_cons_zero, execOp, Option.map_some, Option.map_none]; rw [q136]
              first | (go_simp; done) | (go_simp; rfl) | rfl
            · refine RU.ObT.silent rfl (fun a W k0 V hO hf hp hk => ?_)
              have hg : a.eval (.tmp 137) = .bool true := hp 38 137 rfl
              refine RU.ob_val rfl (RU.wanted_some rfl rfl rfl hg) (fun ev he hc => ?_) ⟨rfl, hO⟩
              have q21 : ev (.tmp 21) = .pointer none := (he (.tmp 21)).trans (hf 21 rfl)
              simp only [List.getElem_toArray, List.getElem_cons_succ, List.getElem_cons_zero, execOp, Option.map_some, Option.map_none]; rw [q21]
              first | (go_simp; done) | (go_simp; rfl) | rfl
            · refine RU.ObT.silent rfl (fun a W k0 V hO hf hp hk => ?_)
              have hg : a.eval (.tmp 137) = .bool true := hp 38 137 rfl
              have e138 : a.eval (.tmp 138) = .pointer none := hp 39 138 rfl
              refine RU.ob_call (g := 14) (args := #[.pointer none, .slice none 0 0]) rfl (RU.wanted_some rfl rfl rfl hg) (fun ev he hc => ?_) ((checkpoint_nil W _).mono ?_)
              · have hfn := he (.func 14)
                have h138 := (he (.tmp 138)).trans e138
                simp only [List.getElem_toArray, List.getElem_cons_succ, List.getElem_cons_zero, execOp]
                simp only [resolve, invoke, Sem.run_bind, Sem.run_pure, Result.andThen_ok, List.map_toArray, List.map_cons, List.map_nil, hfn, hc, Act.eval, h138]
                rfl
              · rintro e' W2 ⟨rfl, rfl⟩
                exact ⟨_, rfl, rfl, hO⟩
            · refine RU.ObT.silent rfl (fun a W k0 V hO hf hp hk => ?_)
              have hg : a.eval (.tmp 137) = .bool true := hp 38 137 rfl
              refine RU.ob_val rfl (RU.wanted_some rfl rfl rfl hg) (fun ev he hc => ?_) ⟨rfl, hO⟩
              have q139 : ev (.tmp 139) = .int .i64 1 := (he (.tmp 139)).trans (hp 40 139 rfl)
              simp only [List.getElem_toArray, List.getElem_cons_succ, List.getElem_cons_zero, execOp, Option.map_some, Option.map_none]; rw [q139]
              try simp only [hc]
              first | (go_simp; done) | (go_simp; rfl) | rfl
            · refine RU.ObT.silent rfl (fun a W k0 V hO hf hp hk => ?_)
              refine RU.ob_val rfl (RU.wanted_none rfl) (fun ev he hc => ?_) ⟨rfl, hO⟩
              have q137 : ev (.tmp 137) = .bool true := (he (.tmp 137)).trans (hp 38 137 rfl)
              have q140 : ev (.tmp 140) = .bool true := (he (.tmp 140)).trans (hp 41 140 rfl)
              simp only [List.getElem_toArray, List.getElem_cons_succ, List.getElem_cons_zero, execOp, Option.map_some, Option.map_none]; rw [q137, q140]
              try simp only [hc]
              first | (go_simp; done) | (go_simp; rfl) | rfl
            · refine RU.ObT.silent rfl (fun a W k0 V hO hf hp hk => ?_)
              refine RU.ob_val rfl (RU.wanted_none rfl) (fun ev he hc => ?_) ⟨rfl, hO⟩
              have q141 : ev (.tmp 141) = .bool true := (he (.tmp 141)).trans (hp 42 141 rfl)
              simp only [List.getElem_toArray, List.getElem_cons_succ, List.getElem_cons_zero, execOp, Option.map_some, Option.map_none]; rw [q141]
              first | (go_simp; done) | (go_simp; rfl) | rfl
            · refine RU.ObT.silent rfl (fun a W k0 V hO hf hp hk => ?_)
              have hg : a.eval (.tmp 142) = .bool true := hp 43 142 rfl
              refine RU.ob_val rfl (RU.wanted_some rfl rfl rfl hg) (fun ev he hc => ?_) ⟨rfl, hO⟩
              have q21 : ev (.tmp 21) = .pointer none := (he (.tmp 21)).trans (hf 21 rfl)
              simp only [List.getElem_toArray, List.getElem_cons_succ, List.getElem_cons_zero, execOp, Option.map_some, Option.map_none]; rw [q21]
              first | (go_simp; done) | (go_simp; rfl) | rfl
            · refine RU.ObT.silent rfl (fun a W k0 V hO hf hp hk => ?_)
              have hg : a.eval (.tmp 142) = .bool true := hp 43 142 rfl
              have e143 : a.eval (.tmp 143) = .pointer none := hp 44 143 rfl
              refine RU.ob_call (g := 17) (args := #[.pointer none]) rfl (RU.wanted_some rfl rfl rfl hg) (fun ev he hc => ?_) ((records_nil W).mono ?_)
              · have hfn := he (.func 17)
                have h143 := (he (.tmp 143)).trans e143
                simp only [List.getElem_toArray, List.getElem_cons_succ, List.getElem_cons_zero, execOp]
                simp only [resolve, invoke, Sem.run_bind, Sem.run_pure, Result.andThen_ok, List.map_toArray, List.map_cons, List.map_nil, hfn, hc, Act.eval, h143]
                rfl
              · rintro e' W2 ⟨rfl, rfl⟩
                exact ⟨_, rfl, rfl, hO⟩
            · refine RU.ObT.silent rfl (fun a W k0 V hO hf hp hk => ?_)
              have hg : a.eval (.tmp 142) = .bool true := hp 43 142 rfl
              refine RU.ob_val rfl (RU.wanted_some rfl rfl rfl hg) (fun ev he hc => ?_) ⟨rfl, hO⟩
              have q144 : ev (.tmp 144) = .slice none 0 0 := (he (.tmp 144)).trans (hp 45 144 rfl)
              simp only [List.getElem_toArray, List.getElem_cons_succ, List.getElem_cons_zero, execOp, Option.map_some, Option.map_none]; simp only [resolve, invoke, builtin, Sem.run_bind, Sem.run_pure, Result.andThen_ok, List.map_toArray, List.map_cons, List.map_nil, q144]
              first | (go_simp; done) | (go_simp; rfl) | rfl
            · refine RU.ObT.silent rfl (fun a W k0 V hO hf hp hk => ?_)
              have hg : a.eval (.tmp 142) = .bool true := hp 43 142 rfl
              refine RU.ob_val rfl (RU.wanted_some rfl rfl rfl hg) (fun ev he hc => ?_) ⟨rfl, hO⟩
              have q145 : ev (.tmp 145) = .int .i64 0 := (he (.tmp 145)).trans (hp 46 145 rfl)
              simp only [List.getElem_toArray, List.getElem_cons_succ, List.getElem_cons_zero, execOp, Option.map_some, Option.map_none]; rw [q145]
              try simp only [hc]
              first | (go_simp; done) | (go_simp; rfl) | rfl
            · refine RU.ObT.silent rfl (fun a W k0 V hO hf hp hk => ?_)
              refine RU.ob_val rfl (RU.wanted_none rfl) (fun ev he hc => ?_) ⟨rfl, hO⟩
              have q142 : ev (.tmp 142) = .bool true := (he (.tmp 142)).trans (hp 43 142 rfl)
              have q146 : ev (.tmp 146) = .bool true := (he (.tmp 146)).trans (hp 47 146 rfl)
              simp only [List.getElem_toArray, List.getElem_cons_succ, List.getElem_cons_zero, execOp, Option.map_some, Option.map_none]; rw [q142, q146]
              try simp only [hc]
              first | (go_simp; done) | (go_simp; rfl) | rfl
            · refine RU.ObT.silent rfl (fun a W k0 V hO hf hp hk => ?_)
              refine RU.ob_val rfl (RU.wanted_none rfl) (fun ev he hc => ?_) ⟨rfl, hO⟩
              have q147 : ev (.tmp 147) = .bool true := (he (.tmp 147)).trans (hp 48 147 rfl)
              simp only [List.getElem_toArray, List.getElem_cons_succ, List.getElem_cons_zero, execOp, Option.map_some, Option.map_none]; rw [q147]
              first | (go_simp; done) | (go_simp; rfl) | rfl
          · intro a w' U hs hd hfx hO hv
            have HVV : Hid (a.eval (.tmp 4) = .bool true) := hv 49 _ 4 rfl rfl
            have hO' : Below wC.heap.size wC w' := hO
            have HBW : Hid (Below w.heap.size w w') := HB1.out.trans (((B8.out.trans (BA.out.mono B8.out.size)).trans (hO'.mono (Nat.le_trans B8.out.size BA.out.size))).mono HB1.out.size)
            clear hO hO' hv hfx
            go_wp2_with fail
            refine bodyPost_ret (v := .bool true) ?_ hd ⟨rfl, HBW.out⟩
            have := HVV.out
            simp only [results, Tryd.results8]
            simp only [Act.eval, Array.getD_eq_getD_getElem?] at this
            simp [this]
end Go.Proofs.YthfpakjfdncphaaDoor
