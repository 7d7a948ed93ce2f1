/- The reference: Relink. -/
import Derived.Test.YtpojalbpekbfdaaDoorGrqA
namespace Go.Proofs.YtpojalbpekbfdaaDoor
open Go Go.RowKit
set_option linter.unusedSimpArgs false
set_option linter.unusedVariables false
set_option maxRecDepth 100000

def rlΩ (w0 : World) (y : Lf) (Post : Value → World → Prop) : Nat → (Nat → Value) → World → Prop
  | 0, _, W => Below w0.heap.size w0 W
  | 1, V, W => Below w0.heap.size w0 W ∧ LS W (V 0) [y]
  | 2, V, W => Post (V 1) W
  | _ + 3, V, W => Post (V 2) W
def rlK : Nat → Nat
  | 0 => 1
  | _ => 0
def rlP (U : World) (c : Value) (lc l : List Lf) (v : Value) (W : World) : Prop := Lp2 U.heap.size W c v lc l ∧ Below U.heap.size U W
def rr5a (u7 : Value) (b o len cap k : Nat) (xo xq : List Int) (y1 : Lf) : Nat → Value
  | 0 => u7
  | 1 => .slice (some ⟨b, o, none⟩) len cap
  | 2 => .int .i64 (k : Int)
  | 3 => .pointer (some ⟨b, o + k * 96, none⟩)
  | 4 => .pointer (some ⟨b, o + k * 96, none⟩)
  | 5 => .agg (bv xo).toArray
  | 6 => .slice (some ⟨b, o, none⟩) len cap
  | 7 => .int .i64 (k : Int)
  | 8 => .pointer (some ⟨b, o + k * 96, none⟩)
  | 9 => .pointer (some ⟨b, o + k * 96 + 64, none⟩)
  | 10 => .agg (bv xq).toArray
  | 11 => .agg (lfc y1).toArray
  | 12 => undef
  | 13 => undef
  | 14 => undef
  | _ => undef
def rr5b (u8 : Value) (b o len cap k : Nat) (xn xq : List Int) (y2 : Lf) : Nat → Value
  | 0 => u8
  | 1 => .slice (some ⟨b, o, none⟩) len cap
  | 2 => .int .i64 (k : Int)
  | 3 => .pointer (some ⟨b, o + k * 96, none⟩)
  | 4 => .pointer (some ⟨b, o + k * 96 + 32, none⟩)
  | 5 => .agg (bv xn).toArray
  | 6 => .slice (some ⟨b, o, none⟩) len cap
  | 7 => .int .i64 (k : Int)
  | 8 => .pointer (some ⟨b, o + k * 96, none⟩)
  | 9 => .pointer (some ⟨b, o + k * 96 + 64, none⟩)
  | 10 => .agg (bv xq).toArray
  | 11 => .agg (lfc y2).toArray
  | 12 => undef
  | 13 => undef
  | 14 => undef
  | _ => undef
set_option maxHeartbeats 16000000 in
theorem rRelink_any (bf af : List Int) (hbf : L32 bf) (haf : L32 af) (ls : List Lk) (hk : ∀ x ∈ ls, x.Ok) (hlen : ls.length ≤ 1500000000000) (R1 : List Int) (e1 : Int) (hR1 : RO (ls.map lko) R1 e1) (hL1 : L32 R1) (R2 : List Int) (e2 : Int) (hR2 : RO (ls.map lkn) R2 e2) (hL2 : L32 R2) (v : Value) (w : World) (hv : KS w v ls) :
    Calls Tryd.prog 23 #[.agg (bv bf).toArray, .agg (bv af).toArray, v] w fun e w' => e = .returned (.int .i64 (rkE e1 e2 bf R1 af R2)) ∧ Below w.heap.size w w' := by
  have hz := zero_32
  rw [show List.replicate 32 (0 : Int) = z32 from rfl] at hz
  obtain ⟨Z, hZ⟩ : ∃ Z, (bv z32).toArray = Z := ⟨_, rfl⟩
  have HZS : Hid (Z.size = 32) := by show Z.size = 32; rw [← hZ]; simp [bv, z32]
  rw [hZ] at hz
  have hzk := zero_lk
  obtain ⟨Zk, hZk⟩ : ∃ Z, (lkc lkz).toArray = Z := ⟨_, rfl⟩
  have HZK : Hid (Zk.size = 96) := by show Zk.size = 96; rw [← hZk, List.size_toArray]; exact lkc_length lkz_ok
  rw [hZk] at hzk
  have sa : (bv bf).toArray.size = 32 := by rw [List.size_toArray, bv_length, hbf.len]
  have sb : (bv af).toArray.size = 32 := by rw [List.size_toArray, bv_length, haf.len]
  obtain ⟨U, hU⟩ : ∃ U, (w.alloc (.cells (bv bf).toArray 31)).alloc (.cells (bv af).toArray 31) = U := ⟨_, rfl⟩
  obtain ⟨q1, q2, q5, q6⟩ := box_two hU
  have HBF : Hid (L32 bf) := hbf
  have HAF : Hid (L32 af) := haf
  have BU : Hid (Below w.heap.size w U) := q5
  obtain ⟨D, hD⟩ : ∃ D, w.heap.size = D := ⟨_, rfl⟩
  have HD : Hid (w.heap.size = D) := hD
  rw [hD] at q1 q2 q6
  have RBF : Hid (U.rangeAt D 0 (bv bf)) := q1
  have RAF : Hid (U.rangeAt (D + 1) 0 (bv af)) := q2
  have LBF : Hid (D < U.heap.size) := by show _ < _; omega
  have LAF : Hid (D + 1 < U.heap.size) := by show _ < _; omega
  obtain ⟨ad, cap, rfl, hc, hx⟩ := hv
  have HXX : Hid (ls = [] ∧ (ad = none → cap = 0) ∨ ∃ b o, ad = some ⟨b, o, none⟩ ∧ b < w.heap.size ∧ ∀ (i : Nat) (x : Lk), ls[i]? = some x → w.rangeAt b (o + i * 96) (lkc x)) := hx
  have HK : Hid (∀ x ∈ ls, x.Ok) := hk
  obtain ⟨len, hln⟩ : ∃ len, ls.length = len := ⟨_, rfl⟩
  have HLN : Hid (ls.length = len) := hln
  have HLE : Hid (len ≤ 1500000000000) := by rw [← hln]; exact hlen
  rw [hln]
  have HR1L : Hid (L32 R1) := hL1
  have HR2L : Hid (L32 R2) := hL2
  have HRO1 : Hid (∀ (v : Value) (W : World), LS W v (ls.map lko) → Calls Tryd.prog 38 #[v] W fun e w' => e = .returned (.tuple #[.agg (bv R1).toArray, .int .i64 e1]) ∧ Below W.heap.size W w') := fun v W q1 => rRootOf_any _ (fun y hy => by obtain ⟨x, hx, rfl⟩ := List.mem_map.1 hy; exact lko_ok (hk x hx)) (by rw [List.length_map]; omega) R1 e1 hR1 v W q1
  have HRO2 : Hid (∀ (v : Value) (W : World), LS W v (ls.map lkn) → Calls Tryd.prog 38 #[v] W fun e w' => e = .returned (.tuple #[.agg (bv R2).toArray, .int .i64 e2]) ∧ Below W.heap.size W w') := fun v W q1 => rRootOf_any _ (fun y hy => by obtain ⟨x, hx, rfl⟩ := List.mem_map.1 hy; exact lkn_ok (hk x hx)) (by rw [List.length_map]; omega) R2 e2 hR2 v W q1
  have hE1 := ro_er hR1
  have hE2 := ro_er hR2
  obtain ⟨Aa, hAa⟩ : ∃ A, (bv bf).toArray = A := ⟨_, rfl⟩
  obtain ⟨Ab, hAb⟩ : ∃ A, (bv af).toArray = A := ⟨_, rfl⟩
  rw [hAa] at sa hU ⊢
  rw [hAb] at sb hU ⊢
  clear q1 q2 q5 q6 hbf haf hk hlen hZ hZk hAa hAb hR1 hR2 hL1 hL2 hx hc hln hzk
  go_enter Tryd.func23, Tryd.ntmps23
  go_upto_region 1 with (fail)
  try rw [hU]
  try rw [hD]
  clear hU hD sa sb
  go_wp2_with fail
  go_loopw [7, 8, 16] (fun a c i wr => ∃ k : Nat, k ≤ len ∧ i = .int .i64 (k : Int) ∧ Lp2 U.heap.size wr a c ((ls.take k).map lko) ((ls.take k).map lkn) ∧ Below U.heap.size U wr) (fun _ _ i _ => len - (intOf i).toNat)
  case atStart => exact ⟨0, Nat.zero_le _, rfl, ⟨LO.nil U, LO.nil U, .inl rfl⟩, Below.refl _ _⟩
  case round =>
    obtain ⟨k, hkl, rfl, hlp, h4⟩ := hrel
    have H4 : Hid (Below U.heap.size U wr) := h4
    have HLP : Hid (Lp2 U.heap.size wr u7 u8 ((ls.take k).map lko) ((ls.take k).map lkn)) := hlp
    clear h4 hlp
    by_cases hlt : k < len
    · rcases HXX.out with ⟨h0, _⟩ | ⟨b, o, rfl, hlb, hm⟩
      · have := HLN.out; rw [h0] at this; simp at this; omega
      · obtain ⟨x, hx⟩ : ∃ x, ls[k]? = some x := ⟨ls[k]'(by have := HLN.out; omega), List.getElem?_eq_getElem _⟩
        have HX : Hid x.Ok := HK.out x (List.mem_of_getElem? hx)
        have HT1 : Hid ((ls.take (k + 1)).map lko = (ls.take k).map lko ++ [lko x]) := take_mapk lko hx
        have HT2 : Hid ((ls.take (k + 1)).map lkn = (ls.take k).map lkn ++ [lkn x]) := take_mapk lkn hx
        have C4 : Hid (Below w.heap.size w wr) := Below.tr' BU.out H4.out
        have HRX : Hid (wr.rangeAt b (o + k * 96) (lkc x)) := range_below (hm k x hx) C4.out hlb
        have HL1 : Hid (((ls.take k).map lko).length = k) := by show _ = _; rw [List.length_map, List.length_take]; have := HLN.out; omega
        have HL2 : Hid (((ls.take k).map lkn).length = k) := by show _ = _; rw [List.length_map, List.length_take]; have := HLN.out; omega
        obtain ⟨La, hLa⟩ : ∃ L, (ls.take k).map lko = L := ⟨_, rfl⟩
        obtain ⟨Lb, hLb⟩ : ∃ L, (ls.take k).map lkn = L := ⟨_, rfl⟩
        rw [hLa] at HT1 HLP HL1
        rw [hLb] at HT2 HLP HL2
        obtain ⟨y1, hy1⟩ : ∃ y, lko x = y := ⟨_, rfl⟩
        obtain ⟨y2, hy2⟩ : ∃ y, lkn x = y := ⟨_, rfl⟩
        rw [hy1] at HT1
        rw [hy2] at HT2
        have HY1 : Hid y1.Ok := by rw [← hy1]; exact lko_ok HX.out
        have HY2 : Hid y2.Ok := by rw [← hy2]; exact lkn_ok HX.out
        obtain ⟨xo, xn, xq, hxo, hxn, hxq⟩ : ∃ a b c, x.o = a ∧ x.n = b ∧ x.q = c := ⟨_, _, _, rfl, rfl, rfl⟩
        have HXO : Hid (L32 xo) := by rw [← hxo]; exact HX.out.o
        have HXN : Hid (L32 xn) := by rw [← hxn]; exact HX.out.n
        have HXQ : Hid (L32 xq) := by rw [← hxq]; exact HX.out.q
        have HB1 : Hid (∀ W : World, (Instr.build 46 #[(0, .agg (bv xo).toArray), (1, .agg (bv xq).toArray)]).run Tryd.prog W = .ok (.agg (lfc y1).toArray) W) := fun W => by rw [← hy1, ← hxo, ← hxq]; exact build_lf2 HX.out.o HX.out.q W
        have HB2 : Hid (∀ W : World, (Instr.build 46 #[(0, .agg (bv xn).toArray), (1, .agg (bv xq).toArray)]).run Tryd.prog W = .ok (.agg (lfc y2).toArray) W) := fun W => by rw [← hy2, ← hxn, ← hxq]; exact build_lf2 HX.out.n HX.out.q W
        have HRG : Hid (∀ (W : World) (B O : Nat), W.rangeAt B O (lkc x) → W.rangeAt B O (bv xo) ∧ W.rangeAt B (O + 32) (bv xn) ∧ W.rangeAt B (O + 64) (bv xq)) := fun W B O q => by rw [← hxo, ← hxn, ← hxq]; exact range_lk HX.out q
        have LBw : Hid (b < wr.heap.size) := Nat.lt_of_lt_of_le hlb C4.out.size
        obtain ⟨s1, s2, s3⟩ := HRG.out wr b (o + k * 96) HRX.out
        have S1 : Hid (wr.rangeAt b (o + k * 96) (bv xo)) := s1
        have S3 : Hid (wr.rangeAt b (o + k * 96 + 64) (bv xq)) := s3
        have HMX : Hid (w.rangeAt b (o + k * 96) (lkc x)) := hm k x hx
        have HLB : Hid (b < w.heap.size) := hlb
        have hl2 := HLE.out
        clear s1 s2 s3 hm hlb hx hy1 hy2 hLa hLb hxo hxn hxq
        go_upto_region 5 with (fail)
        refine RU.wp_rgn' [12, 13, 14] (rr5a u7 b o len cap k xo xq y1) rlK (rlΩ wr y1 (rlP U u8 Lb (La ++ [y1]))) (by kernel_rfl) (by kernel_rfl) (show Below wr.heap.size wr _ from (Below.refl _ _).drew) ?_ ?_
        · refine ⟨?_, ?_, ?_, ?_, ?_, ?_, ?_, ?_, ?_, ?_, ?_, ?_, ?_, ?_, ?_, trivial⟩
          · refine RU.ObT.pure rfl rfl rfl (fun a V hf hp ev he hc W => ?_)
            have q7 : ev (.tmp 7) = u7 := (he (.tmp 7)).trans (hf 7 rfl)
            simp only [List.getElem_toArray, List.getElem_cons_succ, List.getElem_cons_zero, execOp, Option.map_some, Option.map_none]; rw [q7]
            first | (go_simp; done) | (go_simp; rfl) | rfl
          · refine RU.ObT.pure rfl rfl rfl (fun a V hf hp ev he hc W => ?_)
            have q2 : ev (.tmp 2) = .slice (some ⟨b, o, none⟩) len cap := (he (.tmp 2)).trans (hf 2 rfl)
            simp only [List.getElem_toArray, List.getElem_cons_succ, List.getElem_cons_zero, execOp, Option.map_some, Option.map_none]; rw [q2]
            first | (go_simp; done) | (go_simp; rfl) | rfl
          · refine RU.ObT.pure rfl rfl rfl (fun a V hf hp ev he hc W => ?_)
            have q9 : ev (.tmp 9) = .int .i64 (k : Int) := (he (.tmp 9)).trans (hf 9 rfl)
            simp only [List.getElem_toArray, List.getElem_cons_succ, List.getElem_cons_zero, execOp, Option.map_some, Option.map_none]; rw [q9]
            first | (go_simp; done) | (go_simp; rfl) | rfl
          · refine RU.ObT.pure rfl rfl rfl (fun a V hf hp ev he hc W => ?_)
            have q20 : ev (.tmp 20) = .slice (some ⟨b, o, none⟩) len cap := (he (.tmp 20)).trans (hp 1 20 rfl)
            have q21 : ev (.tmp 21) = .int .i64 (k : Int) := (he (.tmp 21)).trans (hp 2 21 rfl)
            simp only [List.getElem_toArray, List.getElem_cons_succ, List.getElem_cons_zero, execOp, Option.map_some, Option.map_none]; rw [q20, q21]
            have hk9 : (k : Int) < (len : Int) := by omega
            first | (go_simp; done) | (go_simp; rfl) | rfl
          · refine RU.ObT.pure rfl rfl rfl (fun a V hf hp ev he hc W => ?_)
            have q22 : ev (.tmp 22) = .pointer (some ⟨b, o + k * 96, none⟩) := (he (.tmp 22)).trans (hp 3 22 rfl)
            simp only [List.getElem_toArray, List.getElem_cons_succ, List.getElem_cons_zero, execOp, Option.map_some, Option.map_none]; rw [q22]
            first | (go_simp; done) | (go_simp; rfl) | rfl
          · refine RU.ObT.silent rfl (fun a W k0 V hO hf hp hk => ?_)
            obtain rfl : k0 = 0 := Nat.le_zero.1 hk; have hO' : Below wr.heap.size wr W := hO
            have q23 : a.eval (.tmp 23) = .pointer (some ⟨b, o + k * 96, none⟩) := hp 4 23 rfl
            exact RU.ob_op rfl (RU.wanted_none rfl) (wp_load_mid 31 (.tmp 23) rfl (b) (o + k * 96) q23 (bv xo) _ (range_below S1.out hO' LBw.out) Tryd.underlying31 rfl (size_l32 HXO.out) ⟨rfl, hO⟩)
          · refine RU.ObT.pure rfl rfl rfl (fun a V hf hp ev he hc W => ?_)
            have q2 : ev (.tmp 2) = .slice (some ⟨b, o, none⟩) len cap := (he (.tmp 2)).trans (hf 2 rfl)
            simp only [List.getElem_toArray, List.getElem_cons_succ, List.getElem_cons_zero, execOp, Option.map_some, Option.map_none]; rw [q2]
            first | (go_simp; done) | (go_simp; rfl) | rfl
          · refine RU.ObT.pure rfl rfl rfl (fun a V hf hp ev he hc W => ?_)
            have q9 : ev (.tmp 9) = .int .i64 (k : Int) := (he (.tmp 9)).trans (hf 9 rfl)
            simp only [List.getElem_toArray, List.getElem_cons_succ, List.getElem_cons_zero, execOp, Option.map_some, Option.map_none]; rw [q9]
            first | (go_simp; done) | (go_simp; rfl) | rfl
          · refine RU.ObT.pure rfl rfl rfl (fun a V hf hp ev he hc W => ?_)
            have q25 : ev (.tmp 25) = .slice (some ⟨b, o, none⟩) len cap := (he (.tmp 25)).trans (hp 6 25 rfl)
            have q26 : ev (.tmp 26) = .int .i64 (k : Int) := (he (.tmp 26)).trans (hp 7 26 rfl)
            simp only [List.getElem_toArray, List.getElem_cons_succ, List.getElem_cons_zero, execOp, Option.map_some, Option.map_none]; rw [q25, q26]
            have hk9 : (k : Int) < (len : Int) := by omega
            first | (go_simp; done) | (go_simp; rfl) | rfl
          · refine RU.ObT.pure rfl rfl rfl (fun a V hf hp ev he hc W => ?_)
            have q27 : ev (.tmp 27) = .pointer (some ⟨b, o + k * 96, none⟩) := (he (.tmp 27)).trans (hp 8 27 rfl)
            simp only [List.getElem_toArray, List.getElem_cons_succ, List.getElem_cons_zero, execOp, Option.map_some, Option.map_none]; rw [q27]
            first | (go_simp; done) | (go_simp; rfl) | rfl
          · refine RU.ObT.silent rfl (fun a W k0 V hO hf hp hk => ?_)
            obtain rfl : k0 = 0 := Nat.le_zero.1 hk; have hO' : Below wr.heap.size wr W := hO
            have q28 : a.eval (.tmp 28) = .pointer (some ⟨b, o + k * 96 + 64, none⟩) := hp 9 28 rfl
            exact RU.ob_op rfl (RU.wanted_none rfl) (wp_load_mid 31 (.tmp 28) rfl (b) (o + k * 96 + 64) q28 (bv xq) _ (range_below S3.out hO' LBw.out) Tryd.underlying31 rfl (size_l32 HXQ.out) ⟨rfl, hO⟩)
          · refine RU.ObT.pure rfl rfl rfl (fun a V hf hp ev he hc W => ?_)
            have qa : ev (.tmp 24) = .agg (bv xo).toArray := (he (.tmp 24)).trans (hp 5 24 rfl)
            have qb : ev (.tmp 29) = .agg (bv xq).toArray := (he (.tmp 29)).trans (hp 10 29 rfl)
            simp only [List.getElem_toArray, List.getElem_cons_succ, List.getElem_cons_zero, execOp, Option.map_some, Option.map_none]
            simp only [List.map_toArray, List.map_cons, List.map_nil, qa, qb, Sem.run_bind, HB1.out W, Result.andThen_ok, Sem.run_pure]
            try rfl
          · refine RU.ObT.loud (j := 0) rfl (fun a W V hO hf hp => ?_)
            have hO' : Below wr.heap.size wr W := hO
            have qa : a.eval (.tmp 30) = .agg (lfc y1).toArray := hp 11 30 rfl
            refine RU.ob_run (v := .slice (some ⟨W.heap.size, 0, none⟩) 1 1) (w' := W.alloc (.cells (lfc y1).toArray 46)) rfl (RU.wanted_none rfl) (fun ev he hc => ?_) ⟨_, rfl, hO'.alloc hO'.size _, ls_one W y1 _⟩
            have e1 := (he (.tmp 30)).trans qa
            simp only [List.getElem_toArray, List.getElem_cons_succ, List.getElem_cons_zero, execOp]
            simp only [List.map_toArray, List.map_cons, List.map_nil, e1, Sem.run_bind, run_onel W HY1.out, Result.andThen_ok, Sem.run_pure]
          · refine RU.ObT.loud (j := 1) rfl (fun a W V hO hf hp => ?_)
            obtain ⟨hO', hls⟩ := hO
            have q1 : a.eval (.tmp 19) = u7 := hp 0 19 rfl
            have q2 : a.eval (.tmp 31) = V 0 := hp 12 31 rfl
            obtain ⟨d', w', hr, p1, p2, p3⟩ := (HLP.out.swap.below hO').push HY1.out hls (by have h1 := HL1.out; have h2 := HLE.out; omega)
            refine RU.ob_run (v := d') (w' := w') rfl (RU.wanted_none rfl) (fun ev he hc => ?_) ⟨_, rfl, p1, (Below.tr' H4.out hO').trans p2⟩
            have e1 := (he (.tmp 19)).trans q1
            have e2 := (he (.tmp 31)).trans q2
            simp only [List.getElem_toArray, List.getElem_cons_succ, List.getElem_cons_zero, execOp, resolve, invoke, builtin, Sem.run_bind, Sem.run_pure, Result.andThen_ok, List.map_toArray, List.map_cons, List.map_nil, e1, e2, hr]
          · refine RU.ObT.loud (j := 2) rfl (fun a W V hO hf hp => ?_)
            have q1 : a.eval (.tmp 32) = V 1 := hp 13 32 rfl
            refine RU.ob_val (v := V 1) rfl (RU.wanted_none rfl) (fun ev he hc => ?_) ⟨_, rfl, hO⟩
            have e1 := (he (.tmp 32)).trans q1
            simp only [List.getElem_toArray, List.getElem_cons_succ, List.getElem_cons_zero, execOp]
            rw [e1]
            first | rfl | go_simp
        intro W1 VW1 hOW1
        have PW1 : Hid (rlP U u8 Lb (La ++ [y1]) (VW1 2) W1) := hOW1
        clear hOW1
        simp only [RU.lay, RU.val, show RU.at' [12, 13, 14] 0 = none from rfl, show RU.at' [12, 13, 14] 1 = none from rfl, show RU.at' [12, 13, 14] 2 = none from rfl, show RU.at' [12, 13, 14] 3 = none from rfl, show RU.at' [12, 13, 14] 4 = none from rfl, show RU.at' [12, 13, 14] 5 = none from rfl, show RU.at' [12, 13, 14] 6 = none from rfl, show RU.at' [12, 13, 14] 7 = none from rfl, show RU.at' [12, 13, 14] 8 = none from rfl, show RU.at' [12, 13, 14] 9 = none from rfl, show RU.at' [12, 13, 14] 10 = none from rfl, show RU.at' [12, 13, 14] 11 = none from rfl, show RU.at' [12, 13, 14] 12 = some 0 from rfl, show RU.at' [12, 13, 14] 13 = some 1 from rfl, show RU.at' [12, 13, 14] 14 = some 2 from rfl, rr5a, Act.put]
        simp only [List.setIfInBounds_toArray, List.set_cons_succ, List.set_cons_zero]
        obtain ⟨v7, hv7⟩ : ∃ q, VW1 2 = q := ⟨_, rfl⟩
        rw [hv7] at PW1 ⊢
        clear hv7
        have P1 : Hid (Lp2 U.heap.size W1 v7 u8 (La ++ [y1]) Lb) := PW1.out.1.swap
        have C1 : Hid (Below U.heap.size U W1) := PW1.out.2
        have D1 : Hid (Below w.heap.size w W1) := Below.tr' BU.out C1.out
        have LB1 : Hid (b < W1.heap.size) := Nat.lt_of_lt_of_le HLB.out D1.out.size
        obtain ⟨s1, s2, s3⟩ := HRG.out W1 b (o + k * 96) (range_below HMX.out D1.out HLB.out)
        have S2 : Hid (W1.rangeAt b (o + k * 96 + 32) (bv xn)) := s2
        have S4 : Hid (W1.rangeAt b (o + k * 96 + 64) (bv xq)) := s3
        clear s1 s2 s3 PW1
        go_upto_region 6 with (fail)
        refine RU.wp_rgn' [12, 13, 14] (rr5b u8 b o len cap k xn xq y2) rlK (rlΩ W1 y2 (rlP U v7 (La ++ [y1]) (Lb ++ [y2]))) (by kernel_rfl) (by kernel_rfl) (show Below W1.heap.size W1 _ from (Below.refl _ _).drew) ?_ ?_
        · refine ⟨?_, ?_, ?_, ?_, ?_, ?_, ?_, ?_, ?_, ?_, ?_, ?_, ?_, ?_, ?_, trivial⟩
          · refine RU.ObT.pure rfl rfl rfl (fun a V hf hp ev he hc W => ?_)
            have q8 : ev (.tmp 8) = u8 := (he (.tmp 8)).trans (hf 8 rfl)
            simp only [List.getElem_toArray, List.getElem_cons_succ, List.getElem_cons_zero, execOp, Option.map_some, Option.map_none]; rw [q8]
            first | (go_simp; done) | (go_simp; rfl) | rfl
          · refine RU.ObT.pure rfl rfl rfl (fun a V hf hp ev he hc W => ?_)
            have q2 : ev (.tmp 2) = .slice (some ⟨b, o, none⟩) len cap := (he (.tmp 2)).trans (hf 2 rfl)
            simp only [List.getElem_toArray, List.getElem_cons_succ, List.getElem_cons_zero, execOp, Option.map_some, Option.map_none]; rw [q2]
            first | (go_simp; done) | (go_simp; rfl) | rfl
          · refine RU.ObT.pure rfl rfl rfl (fun a V hf hp ev he hc W => ?_)
            have q9 : ev (.tmp 9) = .int .i64 (k : Int) := (he (.tmp 9)).trans (hf 9 rfl)
            simp only [List.getElem_toArray, List.getElem_cons_succ, List.getElem_cons_zero, execOp, Option.map_some, Option.map_none]; rw [q9]
            first | (go_simp; done) | (go_simp; rfl) | rfl
          · refine RU.ObT.pure rfl rfl rfl (fun a V hf hp ev he hc W => ?_)
            have q34 : ev (.tmp 34) = .slice (some ⟨b, o, none⟩) len cap := (he (.tmp 34)).trans (hp 1 34 rfl)
            have q35 : ev (.tmp 35) = .int .i64 (k : Int) := (he (.tmp 35)).trans (hp 2 35 rfl)
            simp only [List.getElem_toArray, List.getElem_cons_succ, List.getElem_cons_zero, execOp, Option.map_some, Option.map_none]; rw [q34, q35]
            have hk9 : (k : Int) < (len : Int) := by omega
            first | (go_simp; done) | (go_simp; rfl) | rfl
          · refine RU.ObT.pure rfl rfl rfl (fun a V hf hp ev he hc W => ?_)
            have q36 : ev (.tmp 36) = .pointer (some ⟨b, o + k * 96, none⟩) := (he (.tmp 36)).trans (hp 3 36 rfl)
            simp only [List.getElem_toArray, List.getElem_cons_succ, List.getElem_cons_zero, execOp, Option.map_some, Option.map_none]; rw [q36]
            first | (go_simp; done) | (go_simp; rfl) | rfl
          · refine RU.ObT.silent rfl (fun a W k0 V hO hf hp hk => ?_)
            obtain rfl : k0 = 0 := Nat.le_zero.1 hk; have hO' : Below W1.heap.size W1 W := hO
            have q37 : a.eval (.tmp 37) = .pointer (some ⟨b, o + k * 96 + 32, none⟩) := hp 4 37 rfl
            exact RU.ob_op rfl (RU.wanted_none rfl) (wp_load_mid 31 (.tmp 37) rfl (b) (o + k * 96 + 32) q37 (bv xn) _ (range_below S2.out hO' LB1.out) Tryd.underlying31 rfl (size_l32 HXN.out) ⟨rfl, hO⟩)
          · refine RU.ObT.pure rfl rfl rfl (fun a V hf hp ev he hc W => ?_)
            have q2 : ev (.tmp 2) = .slice (some ⟨b, o, none⟩) len cap := (he (.tmp 2)).trans (hf 2 rfl)
            simp only [List.getElem_toArray, List.getElem_cons_succ, List.getElem_cons_zero, execOp, Option.map_some, Option.map_none]; rw [q2]
            first | (go_simp; done) | (go_simp; rfl) | rfl
          · refine RU.ObT.pure rfl rfl rfl (fun a V hf hp ev he hc W => ?_)
            have q9 : ev (.tmp 9) = .int .i64 (k : Int) := (he (.tmp 9)).trans (hf 9 rfl)
            simp only [List.getElem_toArray, List.getElem_cons_succ, List.getElem_cons_zero, execOp, Option.map_some, Option.map_none]; rw [q9]
            first | (go_simp; done) | (go_simp; rfl) | rfl
          · refine RU.ObT.pure rfl rfl rfl (fun a V hf hp ev he hc W => ?_)
            have q39 : ev (.tmp 39) = .slice (some ⟨b, o, none⟩) len cap := (he (.tmp 39)).trans (hp 6 39 rfl)
            have q40 : ev (.tmp 40) = .int .i64 (k : Int) := (he (.tmp 40)).trans (hp 7 40 rfl)
            simp only [List.getElem_toArray, List.getElem_cons_succ, List.getElem_cons_zero, execOp, Option.map_some, Option.map_none]; rw [q39, q40]
            have hk9 : (k : Int) < (len : Int) := by omega
            first | (go_simp; done) | (go_simp; rfl) | rfl
          · refine RU.ObT.pure rfl rfl rfl (fun a V hf hp ev he hc W => ?_)
            have q41 : ev (.tmp 41) = .pointer (some ⟨b, o + k * 96, none⟩) := (he (.tmp 41)).trans (hp 8 41 rfl)
            simp only [List.getElem_toArray, List.getElem_cons_succ, List.getElem_cons_zero, execOp, Option.map_some, Option.map_none]; rw [q41]
            first | (go_simp; done) | (go_simp; rfl) | rfl
          · refine RU.ObT.silent rfl (fun a W k0 V hO hf hp hk => ?_)
            obtain rfl : k0 = 0 := Nat.le_zero.1 hk; have hO' : Below W1.heap.size W1 W := hO
            have q42 : a.eval (.tmp 42) = .pointer (some ⟨b, o + k * 96 + 64, none⟩) := hp 9 42 rfl
            exact RU.ob_op rfl (RU.wanted_none rfl) (wp_load_mid 31 (.tmp 42) rfl (b) (o + k * 96 + 64) q42 (bv xq) _ (range_below S4.out hO' LB1.out) Tryd.underlying31 rfl (size_l32 HXQ.out) ⟨rfl, hO⟩)
          · refine RU.ObT.pure rfl rfl rfl (fun a V hf hp ev he hc W => ?_)
            have qa : ev (.tmp 38) = .agg (bv xn).toArray := (he (.tmp 38)).trans (hp 5 38 rfl)
            have qb : ev (.tmp 43) = .agg (bv xq).toArray := (he (.tmp 43)).trans (hp 10 43 rfl)
            simp only [List.getElem_toArray, List.getElem_cons_succ, List.getElem_cons_zero, execOp, Option.map_some, Option.map_none]
            simp only [List.map_toArray, List.map_cons, List.map_nil, qa, qb, Sem.run_bind, HB2.out W, Result.andThen_ok, Sem.run_pure]
            try rfl
          · refine RU.ObT.loud (j := 0) rfl (fun a W V hO hf hp => ?_)
            have hO' : Below W1.heap.size W1 W := hO
            have qa : a.eval (.tmp 44) = .agg (lfc y2).toArray := hp 11 44 rfl
            refine RU.ob_run (v := .slice (some ⟨W.heap.size, 0, none⟩) 1 1) (w' := W.alloc (.cells (lfc y2).toArray 46)) rfl (RU.wanted_none rfl) (fun ev he hc => ?_) ⟨_, rfl, hO'.alloc hO'.size _, ls_one W y2 _⟩
            have e1 := (he (.tmp 44)).trans qa
            simp only [List.getElem_toArray, List.getElem_cons_succ, List.getElem_cons_zero, execOp]
            simp only [List.map_toArray, List.map_cons, List.map_nil, e1, Sem.run_bind, run_onel W HY2.out, Result.andThen_ok, Sem.run_pure]
          · refine RU.ObT.loud (j := 1) rfl (fun a W V hO hf hp => ?_)
            obtain ⟨hO', hls⟩ := hO
            have q1 : a.eval (.tmp 33) = u8 := hp 0 33 rfl
            have q2 : a.eval (.tmp 45) = V 0 := hp 12 45 rfl
            obtain ⟨d', w', hr, p1, p2, p3⟩ := (P1.out.below hO').push HY2.out hls (by have h1 := HL2.out; have h2 := HLE.out; omega)
            refine RU.ob_run (v := d') (w' := w') rfl (RU.wanted_none rfl) (fun ev he hc => ?_) ⟨_, rfl, p1, (Below.tr' C1.out hO').trans p2⟩
            have e1 := (he (.tmp 33)).trans q1
            have e2 := (he (.tmp 45)).trans q2
            simp only [List.getElem_toArray, List.getElem_cons_succ, List.getElem_cons_zero, execOp, resolve, invoke, builtin, Sem.run_bind, Sem.run_pure, Result.andThen_ok, List.map_toArray, List.map_cons, List.map_nil, e1, e2, hr]
          · refine RU.ObT.loud (j := 2) rfl (fun a W V hO hf hp => ?_)
            have q1 : a.eval (.tmp 46) = V 1 := hp 13 46 rfl
            refine RU.ob_val (v := V 1) rfl (RU.wanted_none rfl) (fun ev he hc => ?_) ⟨_, rfl, hO⟩
            have e1 := (he (.tmp 46)).trans q1
            simp only [List.getElem_toArray, List.getElem_cons_succ, List.getElem_cons_zero, execOp]
            rw [e1]
            first | rfl | go_simp
        intro W2 VW2 hOW2
        have PW2 : Hid (rlP U v7 (La ++ [y1]) (Lb ++ [y2]) (VW2 2) W2) := hOW2
        clear hOW2
        simp only [RU.lay, RU.val, show RU.at' [12, 13, 14] 0 = none from rfl, show RU.at' [12, 13, 14] 1 = none from rfl, show RU.at' [12, 13, 14] 2 = none from rfl, show RU.at' [12, 13, 14] 3 = none from rfl, show RU.at' [12, 13, 14] 4 = none from rfl, show RU.at' [12, 13, 14] 5 = none from rfl, show RU.at' [12, 13, 14] 6 = none from rfl, show RU.at' [12, 13, 14] 7 = none from rfl, show RU.at' [12, 13, 14] 8 = none from rfl, show RU.at' [12, 13, 14] 9 = none from rfl, show RU.at' [12, 13, 14] 10 = none from rfl, show RU.at' [12, 13, 14] 11 = none from rfl, show RU.at' [12, 13, 14] 12 = some 0 from rfl, show RU.at' [12, 13, 14] 13 = some 1 from rfl, show RU.at' [12, 13, 14] 14 = some 2 from rfl, rr5b, Act.put]
        simp only [List.setIfInBounds_toArray, List.set_cons_succ, List.set_cons_zero]
        obtain ⟨v8, hv8⟩ : ∃ q, VW2 2 = q := ⟨_, rfl⟩
        rw [hv8] at PW2 ⊢
        clear hv8
        have P2 : Hid (Lp2 U.heap.size W2 v7 v8 (La ++ [y1]) (Lb ++ [y2])) := PW2.out.1
        have C2 : Hid (Below U.heap.size U W2) := PW2.out.2
        clear PW2
        go_wp2_with fail
        exact ⟨⟨k + 1, by omega, by go_num, by rw [HT1.out, HT2.out]; exact P2.out, C2.out⟩, by simp [intOf]; omega⟩
    · obtain rfl : k = len := by omega
      have HTA : Hid (ls.take k = ls) := by show _ = _; rw [← HLN.out, List.take_length]
      have P9 : Hid (Lp2 U.heap.size wr u7 u8 (ls.map lko) (ls.map lkn)) := by have := HLP.out; rw [HTA.out] at this; exact this
      have N1 : Hid (LS wr u7 (ls.map lko)) := P9.out.ra.ls
      have N2 : Hid (LS wr u8 (ls.map lkn)) := P9.out.rc.ls
      go_upto_region 9 with (first
        | (go_at_call 38; refine (HRO1.out u7 wr N1.out).mono ?_; rintro e w3 ⟨rfl, g1⟩; have C3 : Hid (Below U.heap.size U w3) := Below.tr' H4.out g1; have G3 : Hid (Below wr.heap.size wr w3) := g1; clear g1)
        | (refine wpList_store_mid rfl 31 (.tmp 10) (.tmp 51) rfl w3.heap.size 0 (bv R1).toArray rfl rfl (there_new w3 (by rw [List.size_toArray, bv_length, HR1L.out.len, HZS.out])) (by rw [List.size_toArray]; exact size_l32 HR1L.out) (bv_one' _) ?_; simp only [List.toList_toArray]))
      obtain ⟨a1, ha1⟩ : ∃ a9, (w3.alloc (.cells Z 31)).setCells w3.heap.size 0 (bv R1) = a9 := ⟨_, rfl⟩
      rw [ha1]
      obtain ⟨r1, r2, r3⟩ := laid_row (by rw [bv_length, HR1L.out.len, HZS.out]) (by rw [bv_length, HR1L.out.len]; omega) ha1
      obtain ⟨b10, hb10⟩ : ∃ q, w3.heap.size = q := ⟨_, rfl⟩
      rw [hb10] at r1 r3 ⊢
      have R10 : Hid (a1.rangeAt b10 0 (bv R1)) := r1
      have G1 : Hid (Below wr.heap.size wr a1) := Below.tr' G3.out r2
      have Ca : Hid (Below U.heap.size U a1) := Below.tr' C3.out r2
      have L10 : Hid (b10 < a1.heap.size) := r3
      have N2a : Hid (LS a1 u8 (ls.map lkn)) := N2.out.below G1.out
      clear r1 r2 r3 ha1 hb10
      go_upto_region 10 with (first
        | (go_at_call 38; refine (HRO2.out u8 a1 N2a.out).mono ?_; rintro e w4 ⟨rfl, g1⟩; have G4 : Hid (Below a1.heap.size a1 w4) := g1; clear g1)
        | (refine wpList_store_mid rfl 31 (.tmp 12) (.tmp 56) rfl w4.heap.size 0 (bv R2).toArray rfl rfl (there_new w4 (by rw [List.size_toArray, bv_length, HR2L.out.len, HZS.out])) (by rw [List.size_toArray]; exact size_l32 HR2L.out) (bv_one' _) ?_; simp only [List.toList_toArray]))
      obtain ⟨a4, ha4⟩ : ∃ a9, (w4.alloc (.cells Z 31)).setCells w4.heap.size 0 (bv R2) = a9 := ⟨_, rfl⟩
      rw [ha4]
      obtain ⟨r1, r2, r3⟩ := laid_row (by rw [bv_length, HR2L.out.len, HZS.out]) (by rw [bv_length, HR2L.out.len]; omega) ha4
      obtain ⟨b12, hb12⟩ : ∃ q, w4.heap.size = q := ⟨_, rfl⟩
      rw [hb12] at r1 r3 ⊢
      have R12 : Hid (a4.rangeAt b12 0 (bv R2)) := r1
      have G5 : Hid (Below a1.heap.size a1 a4) := Below.tr' G4.out r2
      have Cb : Hid (Below U.heap.size U a4) := Below.tr' Ca.out G5.out
      clear r1 r2 r3 ha4 hb12 hz
      have CE : Hid (Below w.heap.size w a4) := Below.tr' BU.out Cb.out
      rcases hE1 with rfl | rfl
      · rcases hE2 with rfl | rfl
        · have X1 : Hid (a4.rangeAt D 0 (bv bf)) := range_below RBF.out Cb.out LBF.out
          have X2 : Hid (a4.rangeAt (D + 1) 0 (bv af)) := range_below RAF.out Cb.out LAF.out
          have X3 : Hid (a4.rangeAt b10 0 (bv R1)) := range_below R10.out G5.out L10.out
          by_cases h1 : R1 = bf
          · have NE1 : Hid ((binOp .neq 31 (.agg (bv R1).toArray) (.agg (bv bf).toArray)).run Tryd.prog a4 = .ok (.bool false) a4) := by have := neq_32 HR1L.out HBF.out a4; rw [decide_eq_true h1] at this; exact this
            by_cases h2 : R2 = af
            · have NE2 : Hid ((binOp .neq 31 (.agg (bv R2).toArray) (.agg (bv af).toArray)).run Tryd.prog a4 = .ok (.bool false) a4) := by have := neq_32 HR2L.out HAF.out a4; rw [decide_eq_true h2] at this; exact this
              have HR : Hid (rkE 0 0 bf R1 af R2 = 0) := by show _ = _; unfold rkE smE; rw [if_pos ⟨rfl, rfl⟩, if_pos ⟨h1.symm, h2.symm⟩]
              clear h1 h2
              go_wp2_with (first
                | (refine ld 31 (.tmp 10) rfl rfl b10 0 rfl (bv R1) _ X3.out Tryd.underlying31 rfl (size_l32 HR1L.out) ?_)
                | (refine ld 31 (.tmp 3) rfl rfl D 0 rfl (bv bf) _ X1.out Tryd.underlying31 rfl (size_l32 HBF.out) ?_)
                | (refine ld 31 (.tmp 12) rfl rfl b12 0 rfl (bv R2) _ R12.out Tryd.underlying31 rfl (size_l32 HR2L.out) ?_)
                | (refine ld 31 (.tmp 4) rfl rfl (D + 1) 0 rfl (bv af) _ X2.out Tryd.underlying31 rfl (size_l32 HAF.out) ?_)
                | (refine wp_neq_run 31 31 (.tmp 64) (.tmp 65) rfl rfl (.agg (bv R1).toArray) (.agg (bv bf).toArray) (.bool false) rfl rfl (eqg_32 _ _ _ _ _ a4) NE1.out ?_)
                | (refine wp_neq_run 31 31 (.tmp 68) (.tmp 69) rfl rfl (.agg (bv R2).toArray) (.agg (bv af).toArray) (.bool false) rfl rfl (eqg_32 _ _ _ _ _ a4) NE2.out ?_))
              go_ret
              exact ⟨by rw [HR.out]; rfl, CE.out⟩
            · have NE2 : Hid ((binOp .neq 31 (.agg (bv R2).toArray) (.agg (bv af).toArray)).run Tryd.prog a4 = .ok (.bool true) a4) := by have := neq_32 HR2L.out HAF.out a4; rw [decide_eq_false h2] at this; exact this
              have HR : Hid (rkE 0 0 bf R1 af R2 = 3) := by show _ = _; unfold rkE smE; rw [if_pos ⟨rfl, rfl⟩, if_neg (fun q => h2 q.2.symm)]
              clear h1 h2
              go_wp2_with (first
                | (refine ld 31 (.tmp 10) rfl rfl b10 0 rfl (bv R1) _ X3.out Tryd.underlying31 rfl (size_l32 HR1L.out) ?_)
                | (refine ld 31 (.tmp 3) rfl rfl D 0 rfl (bv bf) _ X1.out Tryd.underlying31 rfl (size_l32 HBF.out) ?_)
                | (refine ld 31 (.tmp 12) rfl rfl b12 0 rfl (bv R2) _ R12.out Tryd.underlying31 rfl (size_l32 HR2L.out) ?_)
                | (refine ld 31 (.tmp 4) rfl rfl (D + 1) 0 rfl (bv af) _ X2.out Tryd.underlying31 rfl (size_l32 HAF.out) ?_)
                | (refine wp_neq_run 31 31 (.tmp 64) (.tmp 65) rfl rfl (.agg (bv R1).toArray) (.agg (bv bf).toArray) (.bool false) rfl rfl (eqg_32 _ _ _ _ _ a4) NE1.out ?_)
                | (refine wp_neq_run 31 31 (.tmp 68) (.tmp 69) rfl rfl (.agg (bv R2).toArray) (.agg (bv af).toArray) (.bool true) rfl rfl (eqg_32 _ _ _ _ _ a4) NE2.out ?_))
              go_ret
              exact ⟨by rw [HR.out]; rfl, CE.out⟩
          · have NE1 : Hid ((binOp .neq 31 (.agg (bv R1).toArray) (.agg (bv bf).toArray)).run Tryd.prog a4 = .ok (.bool true) a4) := by have := neq_32 HR1L.out HBF.out a4; rw [decide_eq_false h1] at this; exact this
            have HR : Hid (rkE 0 0 bf R1 af R2 = 3) := by show _ = _; unfold rkE smE; rw [if_pos ⟨rfl, rfl⟩, if_neg (fun q => h1 q.1.symm)]
            clear h1
            go_wp2_with (first
              | (refine ld 31 (.tmp 10) rfl rfl b10 0 rfl (bv R1) _ X3.out Tryd.underlying31 rfl (size_l32 HR1L.out) ?_)
              | (refine ld 31 (.tmp 3) rfl rfl D 0 rfl (bv bf) _ X1.out Tryd.underlying31 rfl (size_l32 HBF.out) ?_)
              | (refine ld 31 (.tmp 12) rfl rfl b12 0 rfl (bv R2) _ R12.out Tryd.underlying31 rfl (size_l32 HR2L.out) ?_)
              | (refine ld 31 (.tmp 4) rfl rfl (D + 1) 0 rfl (bv af) _ X2.out Tryd.underlying31 rfl (size_l32 HAF.out) ?_)
              | (refine wp_neq_run 31 31 (.tmp 64) (.tmp 65) rfl rfl (.agg (bv R1).toArray) (.agg (bv bf).toArray) (.bool true) rfl rfl (eqg_32 _ _ _ _ _ a4) NE1.out ?_))
            go_ret
            exact ⟨by rw [HR.out]; rfl, CE.out⟩
        · go_wp2_with fail
          go_ret
          exact ⟨by unfold rkE; rw [if_neg (by decide)]; rfl, CE.out⟩
      · go_wp2_with fail
        go_ret
        exact ⟨by unfold rkE; rw [if_neg (by rintro ⟨h, _⟩; exact absurd h (by decide))]; rfl, CE.out⟩
end Go.Proofs.YtpojalbpekbfdaaDoor
