/- The walk of GrowRelinks. -/
import Derived.Test.YtpojalbpekbfdaaDoorGrqB
import Derived.Test.YtpojalbpekbfdaaDoorGrnL
import Derived.Test.YtpojalbpekbfdaaDoorTrgA
import Derived.Deep.Upon
namespace Go.Proofs.YtpojalbpekbfdaaDoor
open Go Go.RowKit
set_option linter.unusedSimpArgs false
set_option linter.unusedVariables false
set_option maxRecDepth 100000

theorem two_laid {w a : World} {Z : Array Value} {t : TypeId} {p q : List Value} (hp : p.length = Z.size) (hq : q.length = Z.size) (h : (((w.alloc (.cells Z t)).alloc (.cells Z t)).setCells w.heap.size 0 p).setCells (w.heap.size + 1) 0 q = a) :
    a.rangeAt w.heap.size 0 p ∧ a.rangeAt (w.heap.size + 1) 0 q ∧ Below w.heap.size w a ∧ w.heap.size + 1 < a.heap.size := by
  have h1 : ((w.alloc (.cells Z t)).alloc (.cells Z t)).heap[w.heap.size]? = some (.cells Z t (0, 0)) := by
    show ((w.heap.push _).push _)[w.heap.size]? = _
    rw [Array.getElem?_push, if_neg (by simp), Array.getElem?_push, if_pos rfl]
  have h2 : ((w.alloc (.cells Z t)).alloc (.cells Z t)).heap[w.heap.size + 1]? = some (.cells Z t (0, 0)) := by
    show ((w.heap.push _).push _)[w.heap.size + 1]? = _
    rw [Array.getElem?_push, if_pos (by simp)]
  obtain ⟨W, hW⟩ : ∃ W, (w.alloc (.cells Z t)).alloc (.cells Z t) = W := ⟨_, rfl⟩
  have hb : Below w.heap.size w W := by rw [← hW]; exact ((Below.refl _ w).alloc (Nat.le_refl _) _).alloc (by simp) _
  rw [hW] at h1 h2 h
  have t1 : W.there w.heap.size 0 p.length := there_of_row' h1 0 _ (by omega)
  have g2 : (W.setCells w.heap.size 0 p).heap[w.heap.size + 1]? = some (.cells Z t (0, 0)) := by
    rw [World.heap_setCells_other _ _ _ _ (Array.getElem?_eq_some_iff.1 h2).1 (by omega)]; exact h2
  have t2 : (W.setCells w.heap.size 0 p).there (w.heap.size + 1) 0 q.length := there_of_row' g2 0 _ (by omega)
  have g3 := heap_setC (w.heap.size + 1) q 0 _ Z t (0, 0) g2
  rw [h] at g3
  refine ⟨?_, ?_, ?_, (Array.getElem?_eq_some_iff.1 g3).1⟩
  · rw [← h]; exact World.rangeAt_setCells_apart (World.rangeAt_setCells_same _ _ _ _ t1) _ _ _ (.inl (by omega))
  · rw [← h]; exact World.rangeAt_setCells_same _ _ _ _ t2
  · rw [← h]; exact below_setCells (by omega) _ _ (below_setCells (Nat.le_refl _) _ _ hb)
theorem two_there0 (w : World) (Z : Array Value) (t : TypeId) (n : Nat) (hn : n = Z.size) : ((w.alloc (.cells Z t)).alloc (.cells Z t)).there w.heap.size 0 n := by
  have h1 : ((w.alloc (.cells Z t)).alloc (.cells Z t)).heap[w.heap.size]? = some (.cells Z t (0, 0)) := by
    show ((w.heap.push _).push _)[w.heap.size]? = _
    rw [Array.getElem?_push, if_neg (by simp), Array.getElem?_push, if_pos rfl]
  exact there_of_row' h1 0 _ (by omega)
theorem two_there (w : World) (Z : Array Value) (t : TypeId) (p : List Value) (n : Nat) (hn : n = Z.size) : (((w.alloc (.cells Z t)).alloc (.cells Z t)).setCells w.heap.size 0 p).there (w.heap.size + 1) 0 n := by
  have h2 : ((w.alloc (.cells Z t)).alloc (.cells Z t)).heap[w.heap.size + 1]? = some (.cells Z t (0, 0)) := by
    show ((w.heap.push _).push _)[w.heap.size + 1]? = _
    rw [Array.getElem?_push, if_pos (by simp)]
  exact there_of_row' ((World.heap_setCells_other _ _ _ _ (Array.getElem?_eq_some_iff.1 h2).1 (by omega)).trans h2) 0 _ (by omega)
theorem rk_both (bf af : List Int) (hbf : L32 bf) (haf : L32 af) (ls : List Lk) (hk : ∀ x ∈ ls, x.Ok) (hlen : ls.length ≤ 1500000000000) (R1 : List Int) (e1 : Int) (hR1 : RO (ls.map lko) R1 e1) (hL1 : L32 R1) (R2 : List Int) (e2 : Int) (hR2 : RO (ls.map lkn) R2 e2) (hL2 : L32 R2) : ∃ E : Int,
    (∀ (v : Value) (w : World), KS w v ls → Tb w → Calls Tryd.prog 22 #[.agg (bv bf).toArray, .agg (bv af).toArray, v] w fun e w' => e = .returned (.int .i64 E) ∧ Below w.heap.size w w') ∧
    (∀ (v : Value) (w : World), KS w v ls → Calls Tryd.prog 23 #[.agg (bv bf).toArray, .agg (bv af).toArray, v] w fun e w' => e = .returned (.int .i64 E) ∧ Below w.heap.size w w') :=
  ⟨rkE e1 e2 bf R1 af R2, fun v w hv hT => Relink_any bf af hbf haf ls hk hlen R1 e1 hR1 hL1 R2 e2 hR2 hL2 v w hv hT, fun v w hv => rRelink_any bf af hbf haf ls hk hlen R1 e1 hR1 hL1 R2 e2 hR2 hL2 v w hv⟩
def gr7a (u7 : Value) (b o len cap k : Nat) (xo xq : List Int) (y1 : Lf) : Nat → Value
  | 0 => u7
  | 1 => .slice (some ⟨b, o, none⟩) len cap
  | 2 => .int .i64 (k : Int)
  | 3 => .pointer (some ⟨b, o + k * 96, none⟩)
  | 4 => .pointer (some ⟨b, o + k * 96, none⟩)
  | 5 => .agg (bv xo).toArray
  | 6 => .slice (some ⟨b, o, none⟩) len cap
  | 7 => .int .i64 (k : Int)
  | 8 => .pointer (some ⟨b, o + k * 96, none⟩)
  | 9 => .pointer (some ⟨b, o + k * 96 + 64, none⟩)
  | 10 => .agg (bv xq).toArray
  | 11 => .agg (lfc y1).toArray
  | 12 => undef
  | 13 => undef
  | 14 => undef
  | _ => undef
def gr7b (u8 : Value) (b o len cap k : Nat) (xn xq : List Int) (y2 : Lf) : Nat → Value
  | 0 => u8
  | 1 => .slice (some ⟨b, o, none⟩) len cap
  | 2 => .int .i64 (k : Int)
  | 3 => .pointer (some ⟨b, o + k * 96, none⟩)
  | 4 => .pointer (some ⟨b, o + k * 96 + 32, none⟩)
  | 5 => .agg (bv xn).toArray
  | 6 => .slice (some ⟨b, o, none⟩) len cap
  | 7 => .int .i64 (k : Int)
  | 8 => .pointer (some ⟨b, o + k * 96, none⟩)
  | 9 => .pointer (some ⟨b, o + k * 96 + 64, none⟩)
  | 10 => .agg (bv xq).toArray
  | 11 => .agg (lfc y2).toArray
  | 12 => undef
  | 13 => undef
  | 14 => undef
  | _ => undef
def gr12f (v12 : Value) (ad : Option Addr) (len cap : Nat) (bf af R1 R2 : List Int) (E1 E2 E3 : Int) : Nat → Option Value
  | 0 => some (.agg (bv bf).toArray)
  | 1 => some (.agg (bv af).toArray)
  | 2 => some (v12)
  | 3 => some (.int .i64 E1)
  | 4 => some (.agg (bv bf).toArray)
  | 5 => some (.agg (bv af).toArray)
  | 6 => some (.slice ad len cap)
  | 7 => some (.int .i64 E1)
  | 8 => some (.bool true)
  | 9 => some (.bool true)
  | 10 => some (.agg (bv R1).toArray)
  | 11 => some (.agg (bv R2).toArray)
  | 12 => some (v12)
  | 13 => some (.int .i64 E2)
  | 14 => some (.agg (bv R1).toArray)
  | 15 => some (.agg (bv R2).toArray)
  | 16 => some (.slice ad len cap)
  | 17 => some (.int .i64 E2)
  | 18 => some (.bool true)
  | 19 => some (.bool true)
  | 20 => some (.bool true)
  | 21 => some (.agg (bv R1).toArray)
  | 22 => some (.agg (bv af).toArray)
  | 23 => some (v12)
  | 24 => some (.int .i64 E3)
  | 25 => some (.agg (bv R1).toArray)
  | 26 => some (.agg (bv af).toArray)
  | 27 => some (.slice ad len cap)
  | 28 => some (.int .i64 E3)
  | 29 => some (.bool true)
  | 30 => some (.bool true)
  | 31 => some (.bool true)
  | _ => none
set_option maxHeartbeats 16000000 in
theorem growRelinks_any (bf af : List Int) (hbf : L32 bf) (haf : L32 af) (ls : List Lk) (hk : ∀ x ∈ ls, x.Ok) (hlen : ls.length ≤ 1500000000000) (v : Value) (w : World) (hv : KS w v ls) (hT : Tb w) :
    Calls Tryd.prog 7 #[.agg (bv bf).toArray, .agg (bv af).toArray, v] w fun e w' => e = .returned (.bool true) ∧ Below w.heap.size w w' := by
  obtain ⟨R1, e1, hR1, hL1⟩ := ro_some (ls.map lko)
  obtain ⟨R2, e2, hR2, hL2⟩ := ro_some (ls.map lkn)
  obtain ⟨E1, c1, r1⟩ := rk_both bf af hbf haf ls hk hlen R1 e1 hR1 hL1 R2 e2 hR2 hL2
  obtain ⟨E2, c2, r2⟩ := rk_both R1 R2 hL1 hL2 ls hk hlen R1 e1 hR1 hL1 R2 e2 hR2 hL2
  obtain ⟨E3, c3, r3⟩ := rk_both R1 af hL1 haf ls hk hlen R1 e1 hR1 hL1 R2 e2 hR2 hL2
  have hko : ∀ y ∈ ls.map lko, y.Ok := fun y hy => by obtain ⟨x, hx, rfl⟩ := List.mem_map.1 hy; exact lko_ok (hk x hx)
  have hkn : ∀ y ∈ ls.map lkn, y.Ok := fun y hy => by obtain ⟨x, hx, rfl⟩ := List.mem_map.1 hy; exact lkn_ok (hk x hx)
  have hz := zero_32
  rw [show List.replicate 32 (0 : Int) = z32 from rfl] at hz
  obtain ⟨Z, hZ⟩ : ∃ Z, (bv z32).toArray = Z := ⟨_, rfl⟩
  have HZS : Hid (Z.size = 32) := by show Z.size = 32; rw [← hZ]; simp [bv, z32]
  rw [hZ] at hz
  have hzk := zero_lk
  obtain ⟨Zk, hZk⟩ : ∃ Z, (lkc lkz).toArray = Z := ⟨_, rfl⟩
  have HZK : Hid (Zk.size = 96) := by show Zk.size = 96; rw [← hZk, List.size_toArray]; exact lkc_length lkz_ok
  rw [hZk] at hzk
  have sa : (bv bf).toArray.size = 32 := by rw [List.size_toArray, bv_length, hbf.len]
  have sb : (bv af).toArray.size = 32 := by rw [List.size_toArray, bv_length, haf.len]
  obtain ⟨U, hU⟩ : ∃ U, (w.alloc (.cells (bv bf).toArray 31)).alloc (.cells (bv af).toArray 31) = U := ⟨_, rfl⟩
  obtain ⟨q1, q2, q5, q6⟩ := box_two hU
  have HBF : Hid (L32 bf) := hbf
  have HAF : Hid (L32 af) := haf
  have BU : Hid (Below w.heap.size w U) := q5
  obtain ⟨D, hD⟩ : ∃ D, w.heap.size = D := ⟨_, rfl⟩
  have HD : Hid (w.heap.size = D) := hD
  rw [hD] at q1 q2 q6
  have RBF : Hid (U.rangeAt D 0 (bv bf)) := q1
  have RAF : Hid (U.rangeAt (D + 1) 0 (bv af)) := q2
  have LBF : Hid (D < U.heap.size) := by show _ < _; omega
  have LAF : Hid (D + 1 < U.heap.size) := by show _ < _; omega
  have TU : Hid (Tb U) := hT.below q5
  have VU0 : KS U v ls := hv.below q5
  have HAW : Hid (Calls Tryd.prog 8 #[] U fun e w' => e = .returned (.bool true) ∧ Below U.heap.size U w') := awake_any U TU.out
  have HCP : Hid (∀ W : World, Below U.heap.size U W → ∃ v' w', (Builtin.append_ #[47, 47] 47 #[.slice (some ⟨W.heap.size, 0, none⟩) 0 0, v]).run Tryd.prog (W.alloc (.cells #[] 49)) = .ok v' w' ∧ KS w' v' ls ∧ Below W.heap.size W w') := fun W q => app_links W ls hk (by omega) v (VU0.below q)
  have hlk := lit_nok
  obtain ⟨ad, cap, rfl, hc, hx⟩ := hv
  have HXX : Hid (ls = [] ∧ (ad = none → cap = 0) ∨ ∃ b o, ad = some ⟨b, o, none⟩ ∧ b < w.heap.size ∧ ∀ (i : Nat) (x : Lk), ls[i]? = some x → w.rangeAt b (o + i * 96) (lkc x)) := hx
  have HK : Hid (∀ x ∈ ls, x.Ok) := hk
  obtain ⟨len, hln⟩ : ∃ len, ls.length = len := ⟨_, rfl⟩
  have HLN : Hid (ls.length = len) := hln
  have HLE : Hid (len ≤ 1500000000000) := by rw [← hln]; exact hlen
  rw [hln] at VU0 HCP ⊢
  have VU : Hid (KS U (.slice ad len cap) ls) := VU0
  have HR1L : Hid (L32 R1) := hL1
  have HR2L : Hid (L32 R2) := hL2
  have HRO1 : Hid (∀ (v : Value) (W : World), LS W v (ls.map lko) → Calls Tryd.prog 19 #[v] W fun e w' => e = .returned (.agg (bv R1).toArray) ∧ Below W.heap.size W w') := fun v W q1 => rootL_any _ hko (by rw [List.length_map]; omega) R1 e1 hR1 hL1 v W q1
  have HRO2 : Hid (∀ (v : Value) (W : World), LS W v (ls.map lkn) → Calls Tryd.prog 19 #[v] W fun e w' => e = .returned (.agg (bv R2).toArray) ∧ Below W.heap.size W w') := fun v W q1 => rootL_any _ hkn (by rw [List.length_map]; omega) R2 e2 hR2 hL2 v W q1
  have HP1 : Hid (∀ (v' : Value) (W : World), KS W v' ls → Below U.heap.size U W → Calls Tryd.prog 22 #[.agg (bv bf).toArray, .agg (bv af).toArray, v'] W fun e w' => e = .returned (.int .i64 E1) ∧ Below W.heap.size W w') := fun v' W n1 n3 => c1 v' W n1 (TU.out.below n3)
  have HQ1 : Hid (∀ W : World, Below U.heap.size U W → Calls Tryd.prog 23 #[.agg (bv bf).toArray, .agg (bv af).toArray, .slice ad len cap] W fun e w' => e = .returned (.int .i64 E1) ∧ Below W.heap.size W w') := fun W n3 => r1 _ W (VU.out.below n3)
  have HP2 : Hid (∀ (v' : Value) (W : World), KS W v' ls → Below U.heap.size U W → Calls Tryd.prog 22 #[.agg (bv R1).toArray, .agg (bv R2).toArray, v'] W fun e w' => e = .returned (.int .i64 E2) ∧ Below W.heap.size W w') := fun v' W n1 n3 => c2 v' W n1 (TU.out.below n3)
  have HQ2 : Hid (∀ W : World, Below U.heap.size U W → Calls Tryd.prog 23 #[.agg (bv R1).toArray, .agg (bv R2).toArray, .slice ad len cap] W fun e w' => e = .returned (.int .i64 E2) ∧ Below W.heap.size W w') := fun W n3 => r2 _ W (VU.out.below n3)
  have HP3 : Hid (∀ (v' : Value) (W : World), KS W v' ls → Below U.heap.size U W → Calls Tryd.prog 22 #[.agg (bv R1).toArray, .agg (bv af).toArray, v'] W fun e w' => e = .returned (.int .i64 E3) ∧ Below W.heap.size W w') := fun v' W n1 n3 => c3 v' W n1 (TU.out.below n3)
  have HQ3 : Hid (∀ W : World, Below U.heap.size U W → Calls Tryd.prog 23 #[.agg (bv R1).toArray, .agg (bv af).toArray, .slice ad len cap] W fun e w' => e = .returned (.int .i64 E3) ∧ Below W.heap.size W w') := fun W n3 => r3 _ W (VU.out.below n3)
  obtain ⟨Aa, hAa⟩ : ∃ A, (bv bf).toArray = A := ⟨_, rfl⟩
  obtain ⟨Ab, hAb⟩ : ∃ A, (bv af).toArray = A := ⟨_, rfl⟩
  rw [hAa] at sa hU ⊢
  rw [hAb] at sb hU ⊢
  clear q1 q2 q5 q6 hbf haf hk hlen hZ hZk hAa hAb hR1 hR2 hL1 hL2 hx hc hln hzk c1 c2 c3 r1 r2 r3 hko hkn hT VU0
  go_enter Tryd.func7, Tryd.ntmps7
  go_upto_region 1 with (fail)
  try rw [hU]
  try rw [hD]
  clear hU hD sa sb
  go_wp2_with (go_at_call 8; refine HAW.out.mono ?_; rintro e w0 ⟨rfl, g1⟩; have C0 : Hid (Below U.heap.size U w0) := g1; clear g1)
  go_loopw [7, 8, 17] (fun a c i wr => ∃ k : Nat, k ≤ len ∧ i = .int .i64 (k : Int) ∧ Lp2 U.heap.size wr a c ((ls.take k).map lko) ((ls.take k).map lkn) ∧ Below U.heap.size U wr) (fun _ _ i _ => len - (intOf i).toNat)
  case atStart => exact ⟨0, Nat.zero_le _, rfl, ⟨LO.nil' C0.out.size, LO.nil' C0.out.size, .inl rfl⟩, C0.out⟩
  case round =>
    obtain ⟨k, hkl, rfl, hlp, h4⟩ := hrel
    have H4 : Hid (Below U.heap.size U wr) := h4
    have HLP : Hid (Lp2 U.heap.size wr u7 u8 ((ls.take k).map lko) ((ls.take k).map lkn)) := hlp
    clear h4 hlp
    by_cases hlt : k < len
    · rcases HXX.out with ⟨h0, _⟩ | ⟨b, o, rfl, hlb, hm⟩
      · have := HLN.out; rw [h0] at this; simp at this; omega
      · obtain ⟨x, hx⟩ : ∃ x, ls[k]? = some x := ⟨ls[k]'(by have := HLN.out; omega), List.getElem?_eq_getElem _⟩
        have HX : Hid x.Ok := HK.out x (List.mem_of_getElem? hx)
        have HT1 : Hid ((ls.take (k + 1)).map lko = (ls.take k).map lko ++ [lko x]) := take_mapk lko hx
        have HT2 : Hid ((ls.take (k + 1)).map lkn = (ls.take k).map lkn ++ [lkn x]) := take_mapk lkn hx
        have C4 : Hid (Below w.heap.size w wr) := Below.tr' BU.out H4.out
        have HRX : Hid (wr.rangeAt b (o + k * 96) (lkc x)) := range_below (hm k x hx) C4.out hlb
        have HL1 : Hid (((ls.take k).map lko).length = k) := by show _ = _; rw [List.length_map, List.length_take]; have := HLN.out; omega
        have HL2 : Hid (((ls.take k).map lkn).length = k) := by show _ = _; rw [List.length_map, List.length_take]; have := HLN.out; omega
        obtain ⟨La, hLa⟩ : ∃ L, (ls.take k).map lko = L := ⟨_, rfl⟩
        obtain ⟨Lb, hLb⟩ : ∃ L, (ls.take k).map lkn = L := ⟨_, rfl⟩
        rw [hLa] at HT1 HLP HL1
        rw [hLb] at HT2 HLP HL2
        obtain ⟨y1, hy1⟩ : ∃ y, lko x = y := ⟨_, rfl⟩
        obtain ⟨y2, hy2⟩ : ∃ y, lkn x = y := ⟨_, rfl⟩
        rw [hy1] at HT1
        rw [hy2] at HT2
        have HY1 : Hid y1.Ok := by rw [← hy1]; exact lko_ok HX.out
        have HY2 : Hid y2.Ok := by rw [← hy2]; exact lkn_ok HX.out
        obtain ⟨xo, xn, xq, hxo, hxn, hxq⟩ : ∃ a b c, x.o = a ∧ x.n = b ∧ x.q = c := ⟨_, _, _, rfl, rfl, rfl⟩
        have HXO : Hid (L32 xo) := by rw [← hxo]; exact HX.out.o
        have HXN : Hid (L32 xn) := by rw [← hxn]; exact HX.out.n
        have HXQ : Hid (L32 xq) := by rw [← hxq]; exact HX.out.q
        have HB1 : Hid (∀ W : World, (Instr.build 46 #[(0, .agg (bv xo).toArray), (1, .agg (bv xq).toArray)]).run Tryd.prog W = .ok (.agg (lfc y1).toArray) W) := fun W => by rw [← hy1, ← hxo, ← hxq]; exact build_lf2 HX.out.o HX.out.q W
        have HB2 : Hid (∀ W : World, (Instr.build 46 #[(0, .agg (bv xn).toArray), (1, .agg (bv xq).toArray)]).run Tryd.prog W = .ok (.agg (lfc y2).toArray) W) := fun W => by rw [← hy2, ← hxn, ← hxq]; exact build_lf2 HX.out.n HX.out.q W
        have HRG : Hid (∀ (W : World) (B O : Nat), W.rangeAt B O (lkc x) → W.rangeAt B O (bv xo) ∧ W.rangeAt B (O + 32) (bv xn) ∧ W.rangeAt B (O + 64) (bv xq)) := fun W B O q => by rw [← hxo, ← hxn, ← hxq]; exact range_lk HX.out q
        have LBw : Hid (b < wr.heap.size) := Nat.lt_of_lt_of_le hlb C4.out.size
        obtain ⟨s1, s2, s3⟩ := HRG.out wr b (o + k * 96) HRX.out
        have S1 : Hid (wr.rangeAt b (o + k * 96) (bv xo)) := s1
        have S3 : Hid (wr.rangeAt b (o + k * 96 + 64) (bv xq)) := s3
        have HMX : Hid (w.rangeAt b (o + k * 96) (lkc x)) := hm k x hx
        have HLB : Hid (b < w.heap.size) := hlb
        have hl2 := HLE.out
        clear s1 s2 s3 hm hlb hx hy1 hy2 hLa hLb hxo hxn hxq
        go_upto_region 7 with (fail)
        refine RU.wp_rgn' [12, 13, 14] (gr7a u7 b o len cap k xo xq y1) rlK (rlΩ wr y1 (rlP U u8 Lb (La ++ [y1]))) (by kernel_rfl) (by kernel_rfl) (show Below wr.heap.size wr _ from (Below.refl _ _).drew) ?_ ?_
        · refine ⟨?_, ?_, ?_, ?_, ?_, ?_, ?_, ?_, ?_, ?_, ?_, ?_, ?_, ?_, ?_, trivial⟩
          · refine RU.ObT.pure rfl rfl rfl (fun a V hf hp ev he hc W => ?_)
            have q7 : ev (.tmp 7) = u7 := (he (.tmp 7)).trans (hf 7 rfl)
            simp only [List.getElem_toArray, List.getElem_cons_succ, List.getElem_cons_zero, execOp, Option.map_some, Option.map_none]; rw [q7]
            first | (go_simp; done) | (go_simp; rfl) | rfl
          · refine RU.ObT.pure rfl rfl rfl (fun a V hf hp ev he hc W => ?_)
            have q2 : ev (.tmp 2) = .slice (some ⟨b, o, none⟩) len cap := (he (.tmp 2)).trans (hf 2 rfl)
            simp only [List.getElem_toArray, List.getElem_cons_succ, List.getElem_cons_zero, execOp, Option.map_some, Option.map_none]; rw [q2]
            first | (go_simp; done) | (go_simp; rfl) | rfl
          · refine RU.ObT.pure rfl rfl rfl (fun a V hf hp ev he hc W => ?_)
            have q9 : ev (.tmp 9) = .int .i64 (k : Int) := (he (.tmp 9)).trans (hf 9 rfl)
            simp only [List.getElem_toArray, List.getElem_cons_succ, List.getElem_cons_zero, execOp, Option.map_some, Option.map_none]; rw [q9]
            first | (go_simp; done) | (go_simp; rfl) | rfl
          · refine RU.ObT.pure rfl rfl rfl (fun a V hf hp ev he hc W => ?_)
            have q21 : ev (.tmp 21) = .slice (some ⟨b, o, none⟩) len cap := (he (.tmp 21)).trans (hp 1 21 rfl)
            have q22 : ev (.tmp 22) = .int .i64 (k : Int) := (he (.tmp 22)).trans (hp 2 22 rfl)
            simp only [List.getElem_toArray, List.getElem_cons_succ, List.getElem_cons_zero, execOp, Option.map_some, Option.map_none]; rw [q21, q22]
            have hk9 : (k : Int) < (len : Int) := by omega
            first | (go_simp; done) | (go_simp; rfl) | rfl
          · refine RU.ObT.pure rfl rfl rfl (fun a V hf hp ev he hc W => ?_)
            have q23 : ev (.tmp 23) = .pointer (some ⟨b, o + k * 96, none⟩) := (he (.tmp 23)).trans (hp 3 23 rfl)
            simp only [List.getElem_toArray, List.getElem_cons_succ, List.getElem_cons_zero, execOp, Option.map_some, Option.map_none]; rw [q23]
            first | (go_simp; done) | (go_simp; rfl) | rfl
          · refine RU.ObT.silent rfl (fun a W k0 V hO hf hp hk => ?_)
            obtain rfl : k0 = 0 := Nat.le_zero.1 hk; have hO' : Below wr.heap.size wr W := hO
            have q24 : a.eval (.tmp 24) = .pointer (some ⟨b, o + k * 96, none⟩) := hp 4 24 rfl
            exact RU.ob_op rfl (RU.wanted_none rfl) (wp_load_mid 31 (.tmp 24) rfl (b) (o + k * 96) q24 (bv xo) _ (range_below S1.out hO' LBw.out) Tryd.underlying31 rfl (size_l32 HXO.out) ⟨rfl, hO⟩)
          · refine RU.ObT.pure rfl rfl rfl (fun a V hf hp ev he hc W => ?_)
            have q2 : ev (.tmp 2) = .slice (some ⟨b, o, none⟩) len cap := (he (.tmp 2)).trans (hf 2 rfl)
            simp only [List.getElem_toArray, List.getElem_cons_succ, List.getElem_cons_zero, execOp, Option.map_some, Option.map_none]; rw [q2]
            first | (go_simp; done) | (go_simp; rfl) | rfl
          · refine RU.ObT.pure rfl rfl rfl (fun a V hf hp ev he hc W => ?_)
            have q9 : ev (.tmp 9) = .int .i64 (k : Int) := (he (.tmp 9)).trans (hf 9 rfl)
            simp only [List.getElem_toArray, List.getElem_cons_succ, List.getElem_cons_zero, execOp, Option.map_some, Option.map_none]; rw [q9]
            first | (go_simp; done) | (go_simp; rfl) | rfl
          · refine RU.ObT.pure rfl rfl rfl (fun a V hf hp ev he hc W => ?_)
            have q26 : ev (.tmp 26) = .slice (some ⟨b, o, none⟩) len cap := (he (.tmp 26)).trans (hp 6 26 rfl)
            have q27 : ev (.tmp 27) = .int .i64 (k : Int) := (he (.tmp 27)).trans (hp 7 27 rfl)
            simp only [List.getElem_toArray, List.getElem_cons_succ, List.getElem_cons_zero, execOp, Option.map_some, Option.map_none]; rw [q26, q27]
            have hk9 : (k : Int) < (len : Int) := by omega
            first | (go_simp; done) | (go_simp; rfl) | rfl
          · refine RU.ObT.pure rfl rfl rfl (fun a V hf hp ev he hc W => ?_)
            have q28 : ev (.tmp 28) = .pointer (some ⟨b, o + k * 96, none⟩) := (he (.tmp 28)).trans (hp 8 28 rfl)
            simp only [List.getElem_toArray, List.getElem_cons_succ, List.getElem_cons_zero, execOp, Option.map_some, Option.map_none]; rw [q28]
            first | (go_simp; done) | (go_simp; rfl) | rfl
          · refine RU.ObT.silent rfl (fun a W k0 V hO hf hp hk => ?_)
            obtain rfl : k0 = 0 := Nat.le_zero.1 hk; have hO' : Below wr.heap.size wr W := hO
            have q29 : a.eval (.tmp 29) = .pointer (some ⟨b, o + k * 96 + 64, none⟩) := hp 9 29 rfl
            exact RU.ob_op rfl (RU.wanted_none rfl) (wp_load_mid 31 (.tmp 29) rfl (b) (o + k * 96 + 64) q29 (bv xq) _ (range_below S3.out hO' LBw.out) Tryd.underlying31 rfl (size_l32 HXQ.out) ⟨rfl, hO⟩)
          · refine RU.ObT.pure rfl rfl rfl (fun a V hf hp ev he hc W => ?_)
            have qa : ev (.tmp 25) = .agg (bv xo).toArray := (he (.tmp 25)).trans (hp 5 25 rfl)
            have qb : ev (.tmp 30) = .agg (bv xq).toArray := (he (.tmp 30)).trans (hp 10 30 rfl)
            simp only [List.getElem_toArray, List.getElem_cons_succ, List.getElem_cons_zero, execOp, Option.map_some, Option.map_none]
            simp only [List.map_toArray, List.map_cons, List.map_nil, qa, qb, Sem.run_bind, HB1.out W, Result.andThen_ok, Sem.run_pure]
            try rfl
          · refine RU.ObT.loud (j := 0) rfl (fun a W V hO hf hp => ?_)
            have hO' : Below wr.heap.size wr W := hO
            have qa : a.eval (.tmp 31) = .agg (lfc y1).toArray := hp 11 31 rfl
            refine RU.ob_run (v := .slice (some ⟨W.heap.size, 0, none⟩) 1 1) (w' := W.alloc (.cells (lfc y1).toArray 46)) rfl (RU.wanted_none rfl) (fun ev he hc => ?_) ⟨_, rfl, hO'.alloc hO'.size _, ls_one W y1 _⟩
            have e1 := (he (.tmp 31)).trans qa
            simp only [List.getElem_toArray, List.getElem_cons_succ, List.getElem_cons_zero, execOp]
            simp only [List.map_toArray, List.map_cons, List.map_nil, e1, Sem.run_bind, run_onel W HY1.out, Result.andThen_ok, Sem.run_pure]
          · refine RU.ObT.loud (j := 1) rfl (fun a W V hO hf hp => ?_)
            obtain ⟨hO', hls⟩ := hO
            have q1 : a.eval (.tmp 20) = u7 := hp 0 20 rfl
            have q2 : a.eval (.tmp 32) = V 0 := hp 12 32 rfl
            obtain ⟨d', w', hr, p1, p2, p3⟩ := (HLP.out.swap.below hO').push HY1.out hls (by have h1 := HL1.out; have h2 := HLE.out; omega)
            refine RU.ob_run (v := d') (w' := w') rfl (RU.wanted_none rfl) (fun ev he hc => ?_) ⟨_, rfl, p1, (Below.tr' H4.out hO').trans p2⟩
            have e1 := (he (.tmp 20)).trans q1
            have e2 := (he (.tmp 32)).trans q2
            simp only [List.getElem_toArray, List.getElem_cons_succ, List.getElem_cons_zero, execOp, resolve, invoke, builtin, Sem.run_bind, Sem.run_pure, Result.andThen_ok, List.map_toArray, List.map_cons, List.map_nil, e1, e2, hr]
          · refine RU.ObT.loud (j := 2) rfl (fun a W V hO hf hp => ?_)
            have q1 : a.eval (.tmp 33) = V 1 := hp 13 33 rfl
            refine RU.ob_val (v := V 1) rfl (RU.wanted_none rfl) (fun ev he hc => ?_) ⟨_, rfl, hO⟩
            have e1 := (he (.tmp 33)).trans q1
            simp only [List.getElem_toArray, List.getElem_cons_succ, List.getElem_cons_zero, execOp]
            rw [e1]
            first | rfl | go_simp
        intro W1 VW1 hOW1
        have PW1 : Hid (rlP U u8 Lb (La ++ [y1]) (VW1 2) W1) := hOW1
        clear hOW1
        simp only [RU.lay, RU.val, show RU.at' [12, 13, 14] 0 = none from rfl, show RU.at' [12, 13, 14] 1 = none from rfl, show RU.at' [12, 13, 14] 2 = none from rfl, show RU.at' [12, 13, 14] 3 = none from rfl, show RU.at' [12, 13, 14] 4 = none from rfl, show RU.at' [12, 13, 14] 5 = none from rfl, show RU.at' [12, 13, 14] 6 = none from rfl, show RU.at' [12, 13, 14] 7 = none from rfl, show RU.at' [12, 13, 14] 8 = none from rfl, show RU.at' [12, 13, 14] 9 = none from rfl, show RU.at' [12, 13, 14] 10 = none from rfl, show RU.at' [12, 13, 14] 11 = none from rfl, show RU.at' [12, 13, 14] 12 = some 0 from rfl, show RU.at' [12, 13, 14] 13 = some 1 from rfl, show RU.at' [12, 13, 14] 14 = some 2 from rfl, gr7a, Act.put]
        simp only [List.setIfInBounds_toArray, List.set_cons_succ, List.set_cons_zero]
        obtain ⟨v7, hv7⟩ : ∃ q, VW1 2 = q := ⟨_, rfl⟩
        rw [hv7] at PW1 ⊢
        clear hv7
        have P1 : Hid (Lp2 U.heap.size W1 v7 u8 (La ++ [y1]) Lb) := PW1.out.1.swap
        have C1 : Hid (Below U.heap.size U W1) := PW1.out.2
        have D1 : Hid (Below w.heap.size w W1) := Below.tr' BU.out C1.out
        have LB1 : Hid (b < W1.heap.size) := Nat.lt_of_lt_of_le HLB.out D1.out.size
        obtain ⟨s1, s2, s3⟩ := HRG.out W1 b (o + k * 96) (range_below HMX.out D1.out HLB.out)
        have S2 : Hid (W1.rangeAt b (o + k * 96 + 32) (bv xn)) := s2
        have S4 : Hid (W1.rangeAt b (o + k * 96 + 64) (bv xq)) := s3
        clear s1 s2 s3 PW1
        go_upto_region 8 with (fail)
        refine RU.wp_rgn' [12, 13, 14] (gr7b u8 b o len cap k xn xq y2) rlK (rlΩ W1 y2 (rlP U v7 (La ++ [y1]) (Lb ++ [y2]))) (by kernel_rfl) (by kernel_rfl) (show Below W1.heap.size W1 _ from (Below.refl _ _).drew) ?_ ?_
        · refine ⟨?_, ?_, ?_, ?_, ?_, ?_, ?_, ?_, ?_, ?_, ?_, ?_, ?_, ?_, ?_, trivial⟩
          · refine RU.ObT.pure rfl rfl rfl (fun a V hf hp ev he hc W => ?_)
            have q8 : ev (.tmp 8) = u8 := (he (.tmp 8)).trans (hf 8 rfl)
            simp only [List.getElem_toArray, List.getElem_cons_succ, List.getElem_cons_zero, execOp, Option.map_some, Option.map_none]; rw [q8]
            first | (go_simp; done) | (go_simp; rfl) | rfl
          · refine RU.ObT.pure rfl rfl rfl (fun a V hf hp ev he hc W => ?_)
            have q2 : ev (.tmp 2) = .slice (some ⟨b, o, none⟩) len cap := (he (.tmp 2)).trans (hf 2 rfl)
            simp only [List.getElem_toArray, List.getElem_cons_succ, List.getElem_cons_zero, execOp, Option.map_some, Option.map_none]; rw [q2]
            first | (go_simp; done) | (go_simp; rfl) | rfl
          · refine RU.ObT.pure rfl rfl rfl (fun a V hf hp ev he hc W => ?_)
            have q9 : ev (.tmp 9) = .int .i64 (k : Int) := (he (.tmp 9)).trans (hf 9 rfl)
            simp only [List.getElem_toArray, List.getElem_cons_succ, List.getElem_cons_zero, execOp, Option.map_some, Option.map_none]; rw [q9]
            first | (go_simp; done) | (go_simp; rfl) | rfl
          · refine RU.ObT.pure rfl rfl rfl (fun a V hf hp ev he hc W => ?_)
            have q35 : ev (.tmp 35) = .slice (some ⟨b, o, none⟩) len cap := (he (.tmp 35)).trans (hp 1 35 rfl)
            have q36 : ev (.tmp 36) = .int .i64 (k : Int) := (he (.tmp 36)).trans (hp 2 36 rfl)
            simp only [List.getElem_toArray, List.getElem_cons_succ, List.getElem_cons_zero, execOp, Option.map_some, Option.map_none]; rw [q35, q36]
            have hk9 : (k : Int) < (len : Int) := by omega
            first | (go_simp; done) | (go_simp; rfl) | rfl
          · refine RU.ObT.pure rfl rfl rfl (fun a V hf hp ev he hc W => ?_)
            have q37 : ev (.tmp 37) = .pointer (some ⟨b, o + k * 96, none⟩) := (he (.tmp 37)).trans (hp 3 37 rfl)
            simp only [List.getElem_toArray, List.getElem_cons_succ, List.getElem_cons_zero, execOp, Option.map_some, Option.map_none]; rw [q37]
            first | (go_simp; done) | (go_simp; rfl) | rfl
          · refine RU.ObT.silent rfl (fun a W k0 V hO hf hp hk => ?_)
            obtain rfl : k0 = 0 := Nat.le_zero.1 hk; have hO' : Below W1.heap.size W1 W := hO
            have q38 : a.eval (.tmp 38) = .pointer (some ⟨b, o + k * 96 + 32, none⟩) := hp 4 38 rfl
            exact RU.ob_op rfl (RU.wanted_none rfl) (wp_load_mid 31 (.tmp 38) rfl (b) (o + k * 96 + 32) q38 (bv xn) _ (range_below S2.out hO' LB1.out) Tryd.underlying31 rfl (size_l32 HXN.out) ⟨rfl, hO⟩)
          · refine RU.ObT.pure rfl rfl rfl (fun a V hf hp ev he hc W => ?_)
            have q2 : ev (.tmp 2) = .slice (some ⟨b, o, none⟩) len cap := (he (.tmp 2)).trans (hf 2 rfl)
            simp only [List.getElem_toArray, List.getElem_cons_succ, List.getElem_cons_zero, execOp, Option.map_some, Option.map_none]; rw [q2]
            first | (go_simp; done) | (go_simp; rfl) | rfl
          · refine RU.ObT.pure rfl rfl rfl (fun a V hf hp ev he hc W => ?_)
            have q9 : ev (.tmp 9) = .int .i64 (k : Int) := (he (.tmp 9)).trans (hf 9 rfl)
            simp only [List.getElem_toArray, List.getElem_cons_succ, List.getElem_cons_zero, execOp, Option.map_some, Option.map_none]; rw [q9]
            first | (go_simp; done) | (go_simp; rfl) | rfl
          · refine RU.ObT.pure rfl rfl rfl (fun a V hf hp ev he hc W => ?_)
            have q40 : ev (.tmp 40) = .slice (some ⟨b, o, none⟩) len cap := (he (.tmp 40)).trans (hp 6 40 rfl)
            have q41 : ev (.tmp 41) = .int .i64 (k : Int) := (he (.tmp 41)).trans (hp 7 41 rfl)
            simp only [List.getElem_toArray, List.getElem_cons_succ, List.getElem_cons_zero, execOp, Option.map_some, Option.map_none]; rw [q40, q41]
            have hk9 : (k : Int) < (len : Int) := by omega
            first | (go_simp; done) | (go_simp; rfl) | rfl
          · refine RU.ObT.pure rfl rfl rfl (fun a V hf hp ev he hc W => ?_)
            have q42 : ev (.tmp 42) = .pointer (some ⟨b, o + k * 96, none⟩) := (he (.tmp 42)).trans (hp 8 42 rfl)
            simp only [List.getElem_toArray, List.getElem_cons_succ, List.getElem_cons_zero, execOp, Option.map_some, Option.map_none]; rw [q42]
            first | (go_simp; done) | (go_simp; rfl) | rfl
          · refine RU.ObT.silent rfl (fun a W k0 V hO hf hp hk => ?_)
            obtain rfl : k0 = 0 := Nat.le_zero.1 hk; have hO' : Below W1.heap.size W1 W := hO
            have q43 : a.eval (.tmp 43) = .pointer (some ⟨b, o + k * 96 + 64, none⟩) := hp 9 43 rfl
            exact RU.ob_op rfl (RU.wanted_none rfl) (wp_load_mid 31 (.tmp 43) rfl (b) (o + k * 96 + 64) q43 (bv xq) _ (range_below S4.out hO' LB1.out) Tryd.underlying31 rfl (size_l32 HXQ.out) ⟨rfl, hO⟩)
          · refine RU.ObT.pure rfl rfl rfl (fun a V hf hp ev he hc W => ?_)
            have qa : ev (.tmp 39) = .agg (bv xn).toArray := (he (.tmp 39)).trans (hp 5 39 rfl)
            have qb : ev (.tmp 44) = .agg (bv xq).toArray := (he (.tmp 44)).trans (hp 10 44 rfl)
            simp only [List.getElem_toArray, List.getElem_cons_succ, List.getElem_cons_zero, execOp, Option.map_some, Option.map_none]
            simp only [List.map_toArray, List.map_cons, List.map_nil, qa, qb, Sem.run_bind, HB2.out W, Result.andThen_ok, Sem.run_pure]
            try rfl
          · refine RU.ObT.loud (j := 0) rfl (fun a W V hO hf hp => ?_)
            have hO' : Below W1.heap.size W1 W := hO
            have qa : a.eval (.tmp 45) = .agg (lfc y2).toArray := hp 11 45 rfl
            refine RU.ob_run (v := .slice (some ⟨W.heap.size, 0, none⟩) 1 1) (w' := W.alloc (.cells (lfc y2).toArray 46)) rfl (RU.wanted_none rfl) (fun ev he hc => ?_) ⟨_, rfl, hO'.alloc hO'.size _, ls_one W y2 _⟩
            have e1 := (he (.tmp 45)).trans qa
            simp only [List.getElem_toArray, List.getElem_cons_succ, List.getElem_cons_zero, execOp]
            simp only [List.map_toArray, List.map_cons, List.map_nil, e1, Sem.run_bind, run_onel W HY2.out, Result.andThen_ok, Sem.run_pure]
          · refine RU.ObT.loud (j := 1) rfl (fun a W V hO hf hp => ?_)
            obtain ⟨hO', hls⟩ := hO
            have q1 : a.eval (.tmp 34) = u8 := hp 0 34 rfl
            have q2 : a.eval (.tmp 46) = V 0 := hp 12 46 rfl
            obtain ⟨d', w', hr, p1, p2, p3⟩ := (P1.out.below hO').push HY2.out hls (by have h1 := HL2.out; have h2 := HLE.out; omega)
            refine RU.ob_run (v := d') (w' := w') rfl (RU.wanted_none rfl) (fun ev he hc => ?_) ⟨_, rfl, p1, (Below.tr' C1.out hO').trans p2⟩
            have e1 := (he (.tmp 34)).trans q1
            have e2 := (he (.tmp 46)).trans q2
            simp only [List.getElem_toArray, List.getElem_cons_succ, List.getElem_cons_zero, execOp, resolve, invoke, builtin, Sem.run_bind, Sem.run_pure, Result.andThen_ok, List.map_toArray, List.map_cons, List.map_nil, e1, e2, hr]
          · refine RU.ObT.loud (j := 2) rfl (fun a W V hO hf hp => ?_)
            have q1 : a.eval (.tmp 47) = V 1 := hp 13 47 rfl
            refine RU.ob_val (v := V 1) rfl (RU.wanted_none rfl) (fun ev he hc => ?_) ⟨_, rfl, hO⟩
            have e1 := (he (.tmp 47)).trans q1
            simp only [List.getElem_toArray, List.getElem_cons_succ, List.getElem_cons_zero, execOp]
            rw [e1]
            first | rfl | go_simp
        intro W2 VW2 hOW2
        have PW2 : Hid (rlP U v7 (La ++ [y1]) (Lb ++ [y2]) (VW2 2) W2) := hOW2
        clear hOW2
        simp only [RU.lay, RU.val, show RU.at' [12, 13, 14] 0 = none from rfl, show RU.at' [12, 13, 14] 1 = none from rfl, show RU.at' [12, 13, 14] 2 = none from rfl, show RU.at' [12, 13, 14] 3 = none from rfl, show RU.at' [12, 13, 14] 4 = none from rfl, show RU.at' [12, 13, 14] 5 = none from rfl, show RU.at' [12, 13, 14] 6 = none from rfl, show RU.at' [12, 13, 14] 7 = none from rfl, show RU.at' [12, 13, 14] 8 = none from rfl, show RU.at' [12, 13, 14] 9 = none from rfl, show RU.at' [12, 13, 14] 10 = none from rfl, show RU.at' [12, 13, 14] 11 = none from rfl, show RU.at' [12, 13, 14] 12 = some 0 from rfl, show RU.at' [12, 13, 14] 13 = some 1 from rfl, show RU.at' [12, 13, 14] 14 = some 2 from rfl, gr7b, Act.put]
        simp only [List.setIfInBounds_toArray, List.set_cons_succ, List.set_cons_zero]
        obtain ⟨v8, hv8⟩ : ∃ q, VW2 2 = q := ⟨_, rfl⟩
        rw [hv8] at PW2 ⊢
        clear hv8
        have P2 : Hid (Lp2 U.heap.size W2 v7 v8 (La ++ [y1]) (Lb ++ [y2])) := PW2.out.1
        have C2 : Hid (Below U.heap.size U W2) := PW2.out.2
        clear PW2
        go_wp2_with fail
        exact ⟨⟨k + 1, by omega, by go_num, by rw [HT1.out, HT2.out]; exact P2.out, C2.out⟩, by simp [intOf]; omega⟩
    · obtain rfl : k = len := by omega
      have HTA : Hid (ls.take k = ls) := by show _ = _; rw [← HLN.out, List.take_length]
      have P9 : Hid (Lp2 U.heap.size wr u7 u8 (ls.map lko) (ls.map lkn)) := by have := HLP.out; rw [HTA.out] at this; exact this
      have N1 : Hid (LS wr u7 (ls.map lko)) := P9.out.ra.ls
      have N2 : Hid (LS wr u8 (ls.map lkn)) := P9.out.rc.ls
      clear hlk
      go_wp2_with fail
      refine (HRO1.out u7 wr N1.out).mono ?_
      rintro e w3 ⟨rfl, g1⟩
      have G3 : Hid (Below wr.heap.size wr w3) := g1
      have N23 : Hid (LS w3 u8 (ls.map lkn)) := N2.out.below g1
      clear g1
      go_wp2_with fail
      refine (HRO2.out u8 w3 N23.out).mono ?_
      rintro e w4 ⟨rfl, g1⟩
      have G4 : Hid (Below wr.heap.size wr w4) := Below.tr' G3.out g1
      clear g1
      go_upto_region 11 with (first
        | (refine wpList_store_mid rfl 31 (.tmp 10) (.tmp 50) rfl w4.heap.size 0 (bv R1).toArray rfl rfl (two_there0 w4 Z 31 _ (by rw [List.size_toArray, bv_length, HR1L.out.len, HZS.out])) (by rw [List.size_toArray]; exact size_l32 HR1L.out) (bv_one' _) ?_; simp only [List.toList_toArray])
        | (refine wpList_store_mid rfl 31 (.tmp 11) (.tmp 52) rfl (w4.heap.size + 1) 0 (bv R2).toArray rfl rfl (two_there w4 Z 31 (bv R1) _ (by rw [List.size_toArray, bv_length, HR2L.out.len, HZS.out])) (by rw [List.size_toArray]; exact size_l32 HR2L.out) (bv_one' _) ?_; simp only [List.toList_toArray]))
      obtain ⟨a4, ha4⟩ : ∃ a9, (((w4.alloc (.cells Z 31)).alloc (.cells Z 31)).setCells w4.heap.size 0 (bv R1)).setCells (w4.heap.size + 1) 0 (bv R2) = a9 := ⟨_, rfl⟩
      rw [ha4]
      obtain ⟨r1, r2, r3, r4⟩ := two_laid (by rw [bv_length, HR1L.out.len, HZS.out]) (by rw [bv_length, HR2L.out.len, HZS.out]) ha4
      obtain ⟨b10, hb10⟩ : ∃ q, w4.heap.size = q := ⟨_, rfl⟩
      have GA : Hid (Below wr.heap.size wr a4) := Below.tr' G4.out r3
      rw [hb10] at r1 r2 r4 ⊢
      have R10 : Hid (a4.rangeAt b10 0 (bv R1)) := r1
      have R11 : Hid (a4.rangeAt (b10 + 1) 0 (bv R2)) := r2
      have M11 : Hid (b10 + 1 < a4.heap.size) := r4
      have CA : Hid (Below U.heap.size U a4) := Below.tr' H4.out GA.out
      clear r1 r2 r3 r4 ha4 hb10 hz
      obtain ⟨v12, a5, hr5, k5, g5⟩ := HCP.out a4 CA.out
      have hlk := lit_nok a4
      have HR5 : Hid ((Builtin.append_ #[47, 47] 47 #[.slice (some ⟨a4.heap.size, 0, none⟩) 0 0, .slice ad k cap]).run Tryd.prog (a4.alloc (.cells #[] 49)) = .ok v12 a5) := hr5
      have K12 : Hid (KS a5 v12 ls) := k5
      have G5 : Hid (Below a4.heap.size a4 a5) := g5
      have C5 : Hid (Below U.heap.size U a5) := Below.tr' CA.out g5
      clear hr5 k5 g5
      go_upto_region 12 with (at_builtin; refine wp_app_run rfl (.tmp 53) (.tmp 54) 47 rfl 47 rfl (.slice (some ⟨a4.heap.size, 0, none⟩) 0 0) (.slice ad k cap) v12 a5 rfl rfl HR5.out ?_)
      clear hlk
      have XBF : Hid (a5.rangeAt D 0 (bv bf)) := range_below RBF.out C5.out LBF.out
      have XAF : Hid (a5.rangeAt (D + 1) 0 (bv af)) := range_below RAF.out C5.out LAF.out
      have X10 : Hid (a5.rangeAt b10 0 (bv R1)) := range_below R10.out G5.out (by have := M11.out; omega)
      have X11 : Hid (a5.rangeAt (b10 + 1) 0 (bv R2)) := range_below R11.out G5.out M11.out
      have LX1 : Hid (D < a5.heap.size) := Nat.lt_of_lt_of_le LBF.out C5.out.size
      have LX2 : Hid (D + 1 < a5.heap.size) := Nat.lt_of_lt_of_le LAF.out C5.out.size
      have L11 : Hid (b10 + 1 < a5.heap.size) := Nat.lt_of_lt_of_le M11.out G5.out.size
      have L10 : Hid (b10 < a5.heap.size) := by have := L11.out; show _ < _; omega
      refine RG.wp_rgn' (GI a5 (gr12f v12 ad k cap bf af R1 R2 E1 E2 E3) (fun _ _ _ => True) []) (by kernel_rfl) (by kernel_rfl) GI.start ?_ ?_
      · refine ⟨?_, ?_, ?_, ?_, ?_, ?_, ?_, ?_, ?_, ?_, ?_, ?_, ?_, ?_, ?_, ?_, ?_, ?_, ?_, ?_, ?_, ?_, ?_, ?_, ?_, ?_, ?_, ?_, ?_, ?_, ?_, ?_, trivial⟩
        · intro a W d V hI hd hpx hbk hf hp
          have hO' : Below a5.heap.size a5 W := hI.be
          have q3 : a.eval (.tmp 3) = .pointer (some ⟨D, 0, none⟩) := hf 3 rfl
          exact RU.ob_op rfl (RU.wanted_none rfl) (wp_load_mid 31 (.tmp 3) rfl (D) (0) q3 (bv bf) _ (range_below XBF.out hO' LX1.out) Tryd.underlying31 rfl (size_l32 HBF.out) ⟨_, rfl, hI.step (fun _ _ _ _ _ _ => trivial) (Below.refl _ _) 0 _ (by simp) (fun u hu => by first | (cases hu; rfl) | cases hu) (trivial)⟩)
        · intro a W d V hI hd hpx hbk hf hp
          have hO' : Below a5.heap.size a5 W := hI.be
          have q4 : a.eval (.tmp 4) = .pointer (some ⟨D + 1, 0, none⟩) := hf 4 rfl
          exact RU.ob_op rfl (RU.wanted_none rfl) (wp_load_mid 31 (.tmp 4) rfl (D + 1) (0) q4 (bv af) _ (range_below XAF.out hO' LX2.out) Tryd.underlying31 rfl (size_l32 HAF.out) ⟨_, rfl, hI.step (fun _ _ _ _ _ _ => trivial) (Below.refl _ _) 1 _ (by simp) (fun u hu => by first | (cases hu; rfl) | cases hu) (trivial)⟩)
        · intro a W d V hI hd hpx hbk hf hp
          have hO' : Below a5.heap.size a5 W := hI.be
          refine RU.ob_val (v := v12) rfl (RU.wanted_none rfl) (fun ev he hc => ?_) ⟨_, rfl, hI.step (fun _ _ _ _ _ _ => trivial) (Below.refl _ _) 2 _ (by simp) (fun u hu => by first | (cases hu; rfl) | cases hu) (trivial)⟩
          have q12 : ev (.tmp 12) = v12 := (he (.tmp 12)).trans (hf 12 rfl)
          simp only [List.getElem_toArray, List.getElem_cons_succ, List.getElem_cons_zero, execOp, Option.map_some, Option.map_none]; rw [q12]
          first | (go_simp; done) | (go_simp; rfl) | rfl
        · intro a W d V hI hd hpx hbk hf hp
          have hO' : Below a5.heap.size a5 W := hI.be
          have e56 : a.eval (.tmp 56) = .agg (bv bf).toArray := (hp 0 56 rfl).trans (hI.kn 0 _ rfl (hpx 0 rfl))
          have e57 : a.eval (.tmp 57) = .agg (bv af).toArray := (hp 1 57 rfl).trans (hI.kn 1 _ rfl (hpx 1 rfl))
          have e58 : a.eval (.tmp 58) = v12 := (hp 2 58 rfl).trans (hI.kn 2 _ rfl (hpx 2 rfl))
          have hno : ∀ x ∈ ([] : List Al), d x.2.1 = false := by simp
          refine RU.ob_call (g := 22) (args := #[.agg (bv bf).toArray, .agg (bv af).toArray, v12]) rfl (RU.wanted_none rfl) (fun ev he hc => ?_) ((HP1.out v12 W (K12.out.below hO') (Below.tr' C5.out hO')).mono ?_)
          · have h56 := (he (.tmp 56)).trans e56
            have h57 := (he (.tmp 57)).trans e57
            have h58 := (he (.tmp 58)).trans e58
            have hfn := he (.func 22)
            simp only [List.getElem_toArray, List.getElem_cons_succ, List.getElem_cons_zero, execOp, Option.map_some, Option.map_none]
            simp only [resolve, invoke, Sem.run_bind, Sem.run_pure, Result.andThen_ok, List.map_toArray, List.map_cons, List.map_nil, h56, h57, h58, hfn, Act.eval, hc]
            rfl
          · rintro e' W2 ⟨rfl, hb2⟩
            exact ⟨_, rfl, ⟨_, rfl, hI.step (fun _ _ _ _ _ _ => trivial) hb2 3 _ (by simp) (fun u hu => by first | (cases hu; rfl) | cases hu) (trivial)⟩⟩
        · intro a W d V hI hd hpx hbk hf hp
          have hO' : Below a5.heap.size a5 W := hI.be
          have q3 : a.eval (.tmp 3) = .pointer (some ⟨D, 0, none⟩) := hf 3 rfl
          exact RU.ob_op rfl (RU.wanted_none rfl) (wp_load_mid 31 (.tmp 3) rfl (D) (0) q3 (bv bf) _ (range_below XBF.out hO' LX1.out) Tryd.underlying31 rfl (size_l32 HBF.out) ⟨_, rfl, hI.step (fun _ _ _ _ _ _ => trivial) (Below.refl _ _) 4 _ (by simp) (fun u hu => by first | (cases hu; rfl) | cases hu) (trivial)⟩)
        · intro a W d V hI hd hpx hbk hf hp
          have hO' : Below a5.heap.size a5 W := hI.be
          have q4 : a.eval (.tmp 4) = .pointer (some ⟨D + 1, 0, none⟩) := hf 4 rfl
          exact RU.ob_op rfl (RU.wanted_none rfl) (wp_load_mid 31 (.tmp 4) rfl (D + 1) (0) q4 (bv af) _ (range_below XAF.out hO' LX2.out) Tryd.underlying31 rfl (size_l32 HAF.out) ⟨_, rfl, hI.step (fun _ _ _ _ _ _ => trivial) (Below.refl _ _) 5 _ (by simp) (fun u hu => by first | (cases hu; rfl) | cases hu) (trivial)⟩)
        · intro a W d V hI hd hpx hbk hf hp
          have hO' : Below a5.heap.size a5 W := hI.be
          refine RU.ob_val (v := .slice ad k cap) rfl (RU.wanted_none rfl) (fun ev he hc => ?_) ⟨_, rfl, hI.step (fun _ _ _ _ _ _ => trivial) (Below.refl _ _) 6 _ (by simp) (fun u hu => by first | (cases hu; rfl) | cases hu) (trivial)⟩
          have q2 : ev (.tmp 2) = .slice ad k cap := (he (.tmp 2)).trans (hf 2 rfl)
          simp only [List.getElem_toArray, List.getElem_cons_succ, List.getElem_cons_zero, execOp, Option.map_some, Option.map_none]; rw [q2]
          first | (go_simp; done) | (go_simp; rfl) | rfl
        · intro a W d V hI hd hpx hbk hf hp
          have hO' : Below a5.heap.size a5 W := hI.be
          have e60 : a.eval (.tmp 60) = .agg (bv bf).toArray := (hp 4 60 rfl).trans (hI.kn 4 _ rfl (hpx 4 rfl))
          have e61 : a.eval (.tmp 61) = .agg (bv af).toArray := (hp 5 61 rfl).trans (hI.kn 5 _ rfl (hpx 5 rfl))
          have e62 : a.eval (.tmp 62) = .slice ad k cap := (hp 6 62 rfl).trans (hI.kn 6 _ rfl (hpx 6 rfl))
          have hno : ∀ x ∈ ([] : List Al), d x.2.1 = false := by simp
          refine RU.ob_call (g := 23) (args := #[.agg (bv bf).toArray, .agg (bv af).toArray, .slice ad k cap]) rfl (RU.wanted_none rfl) (fun ev he hc => ?_) ((HQ1.out W (Below.tr' C5.out hO')).mono ?_)
          · have h60 := (he (.tmp 60)).trans e60
            have h61 := (he (.tmp 61)).trans e61
            have h62 := (he (.tmp 62)).trans e62
            have hfn := he (.func 23)
            simp only [List.getElem_toArray, List.getElem_cons_succ, List.getElem_cons_zero, execOp, Option.map_some, Option.map_none]
            simp only [resolve, invoke, Sem.run_bind, Sem.run_pure, Result.andThen_ok, List.map_toArray, List.map_cons, List.map_nil, h60, h61, h62, hfn, Act.eval, hc]
            rfl
          · rintro e' W2 ⟨rfl, hb2⟩
            exact ⟨_, rfl, ⟨_, rfl, hI.step (fun _ _ _ _ _ _ => trivial) hb2 7 _ (by simp) (fun u hu => by first | (cases hu; rfl) | cases hu) (trivial)⟩⟩
        · intro a W d V hI hd hpx hbk hf hp
          have hO' : Below a5.heap.size a5 W := hI.be
          refine RU.ob_val (v := .bool true) rfl (RU.wanted_none rfl) (fun ev he hc => ?_) ⟨_, rfl, hI.step (fun _ _ _ _ _ _ => trivial) (Below.refl _ _) 8 _ (by simp) (fun u hu => by first | (cases hu; rfl) | cases hu) (trivial)⟩
          have q59 : ev (.tmp 59) = .int .i64 E1 := (he (.tmp 59)).trans ((hp 3 59 rfl).trans (hI.kn 3 _ rfl (hpx 3 rfl)))
          have q63 : ev (.tmp 63) = .int .i64 E1 := (he (.tmp 63)).trans ((hp 7 63 rfl).trans (hI.kn 7 _ rfl (hpx 7 rfl)))
          simp only [List.getElem_toArray, List.getElem_cons_succ, List.getElem_cons_zero, execOp, Option.map_some, Option.map_none]; rw [q59, q63]
          first | (go_simp; done) | (go_simp; rfl) | (go_simp; simp; done) | rfl
        · intro a W d V hI hd hpx hbk hf hp
          have hO' : Below a5.heap.size a5 W := hI.be
          refine RU.ob_val (v := .bool true) rfl (RU.wanted_none rfl) (fun ev he hc => ?_) ⟨_, rfl, hI.step (fun _ _ _ _ _ _ => trivial) (Below.refl _ _) 9 _ (by simp) (fun u hu => by first | (cases hu; rfl) | cases hu) (trivial)⟩
          have q64 : ev (.tmp 64) = .bool true := (he (.tmp 64)).trans ((hp 8 64 rfl).trans (hI.kn 8 _ rfl (hpx 8 rfl)))
          simp only [List.getElem_toArray, List.getElem_cons_succ, List.getElem_cons_zero, execOp, Option.map_some, Option.map_none]; rw [q64]
          first | (go_simp; done) | (go_simp; rfl) | rfl
        · intro a W d V hI hd hpx hbk hf hp
          have hO' : Below a5.heap.size a5 W := hI.be
          have hg : a.eval (.tmp 65) = .bool true := (hp 9 65 rfl).trans (hI.kn 9 _ rfl (hpx 9 rfl))
          have q10 : a.eval (.tmp 10) = .pointer (some ⟨b10, 0, none⟩) := hf 10 rfl
          exact RU.ob_op rfl (RU.wanted_some rfl rfl rfl hg) (wp_load_mid 31 (.tmp 10) rfl (b10) (0) q10 (bv R1) _ (range_below X10.out hO' L10.out) Tryd.underlying31 rfl (size_l32 HR1L.out) ⟨_, rfl, hI.step (fun _ _ _ _ _ _ => trivial) (Below.refl _ _) 10 _ (by simp) (fun u hu => by first | (cases hu; rfl) | cases hu) (trivial)⟩)
        · intro a W d V hI hd hpx hbk hf hp
          have hO' : Below a5.heap.size a5 W := hI.be
          have hg : a.eval (.tmp 65) = .bool true := (hp 9 65 rfl).trans (hI.kn 9 _ rfl (hpx 9 rfl))
          have q11 : a.eval (.tmp 11) = .pointer (some ⟨b10 + 1, 0, none⟩) := hf 11 rfl
          exact RU.ob_op rfl (RU.wanted_some rfl rfl rfl hg) (wp_load_mid 31 (.tmp 11) rfl (b10 + 1) (0) q11 (bv R2) _ (range_below X11.out hO' L11.out) Tryd.underlying31 rfl (size_l32 HR2L.out) ⟨_, rfl, hI.step (fun _ _ _ _ _ _ => trivial) (Below.refl _ _) 11 _ (by simp) (fun u hu => by first | (cases hu; rfl) | cases hu) (trivial)⟩)
        · intro a W d V hI hd hpx hbk hf hp
          have hO' : Below a5.heap.size a5 W := hI.be
          have hg : a.eval (.tmp 65) = .bool true := (hp 9 65 rfl).trans (hI.kn 9 _ rfl (hpx 9 rfl))
          refine RU.ob_val (v := v12) rfl (RU.wanted_some rfl rfl rfl hg) (fun ev he hc => ?_) ⟨_, rfl, hI.step (fun _ _ _ _ _ _ => trivial) (Below.refl _ _) 12 _ (by simp) (fun u hu => by first | (cases hu; rfl) | cases hu) (trivial)⟩
          have q12 : ev (.tmp 12) = v12 := (he (.tmp 12)).trans (hf 12 rfl)
          simp only [List.getElem_toArray, List.getElem_cons_succ, List.getElem_cons_zero, execOp, Option.map_some, Option.map_none]; rw [q12]
          first | (go_simp; done) | (go_simp; rfl) | rfl
        · intro a W d V hI hd hpx hbk hf hp
          have hO' : Below a5.heap.size a5 W := hI.be
          have hg : a.eval (.tmp 65) = .bool true := (hp 9 65 rfl).trans (hI.kn 9 _ rfl (hpx 9 rfl))
          have e66 : a.eval (.tmp 66) = .agg (bv R1).toArray := (hp 10 66 rfl).trans (hI.kn 10 _ rfl (hpx 10 rfl))
          have e67 : a.eval (.tmp 67) = .agg (bv R2).toArray := (hp 11 67 rfl).trans (hI.kn 11 _ rfl (hpx 11 rfl))
          have e68 : a.eval (.tmp 68) = v12 := (hp 12 68 rfl).trans (hI.kn 12 _ rfl (hpx 12 rfl))
          have hno : ∀ x ∈ ([] : List Al), d x.2.1 = false := by simp
          refine RU.ob_call (g := 22) (args := #[.agg (bv R1).toArray, .agg (bv R2).toArray, v12]) rfl (RU.wanted_some rfl rfl rfl hg) (fun ev he hc => ?_) ((HP2.out v12 W (K12.out.below hO') (Below.tr' C5.out hO')).mono ?_)
          · have h66 := (he (.tmp 66)).trans e66
            have h67 := (he (.tmp 67)).trans e67
            have h68 := (he (.tmp 68)).trans e68
            have hfn := he (.func 22)
            simp only [List.getElem_toArray, List.getElem_cons_succ, List.getElem_cons_zero, execOp, Option.map_some, Option.map_none]
            simp only [resolve, invoke, Sem.run_bind, Sem.run_pure, Result.andThen_ok, List.map_toArray, List.map_cons, List.map_nil, h66, h67, h68, hfn, Act.eval, hc]
            rfl
          · rintro e' W2 ⟨rfl, hb2⟩
            exact ⟨_, rfl, ⟨_, rfl, hI.step (fun _ _ _ _ _ _ => trivial) hb2 13 _ (by simp) (fun u hu => by first | (cases hu; rfl) | cases hu) (trivial)⟩⟩
        · intro a W d V hI hd hpx hbk hf hp
          have hO' : Below a5.heap.size a5 W := hI.be
          have hg : a.eval (.tmp 65) = .bool true := (hp 9 65 rfl).trans (hI.kn 9 _ rfl (hpx 9 rfl))
          have q10 : a.eval (.tmp 10) = .pointer (some ⟨b10, 0, none⟩) := hf 10 rfl
          exact RU.ob_op rfl (RU.wanted_some rfl rfl rfl hg) (wp_load_mid 31 (.tmp 10) rfl (b10) (0) q10 (bv R1) _ (range_below X10.out hO' L10.out) Tryd.underlying31 rfl (size_l32 HR1L.out) ⟨_, rfl, hI.step (fun _ _ _ _ _ _ => trivial) (Below.refl _ _) 14 _ (by simp) (fun u hu => by first | (cases hu; rfl) | cases hu) (trivial)⟩)
        · intro a W d V hI hd hpx hbk hf hp
          have hO' : Below a5.heap.size a5 W := hI.be
          have hg : a.eval (.tmp 65) = .bool true := (hp 9 65 rfl).trans (hI.kn 9 _ rfl (hpx 9 rfl))
          have q11 : a.eval (.tmp 11) = .pointer (some ⟨b10 + 1, 0, none⟩) := hf 11 rfl
          exact RU.ob_op rfl (RU.wanted_some rfl rfl rfl hg) (wp_load_mid 31 (.tmp 11) rfl (b10 + 1) (0) q11 (bv R2) _ (range_below X11.out hO' L11.out) Tryd.underlying31 rfl (size_l32 HR2L.out) ⟨_, rfl, hI.step (fun _ _ _ _ _ _ => trivial) (Below.refl _ _) 15 _ (by simp) (fun u hu => by first | (cases hu; rfl) | cases hu) (trivial)⟩)
        · intro a W d V hI hd hpx hbk hf hp
          have hO' : Below a5.heap.size a5 W := hI.be
          have hg : a.eval (.tmp 65) = .bool true := (hp 9 65 rfl).trans (hI.kn 9 _ rfl (hpx 9 rfl))
          refine RU.ob_val (v := .slice ad k cap) rfl (RU.wanted_some rfl rfl rfl hg) (fun ev he hc => ?_) ⟨_, rfl, hI.step (fun _ _ _ _ _ _ => trivial) (Below.refl _ _) 16 _ (by simp) (fun u hu => by first | (cases hu; rfl) | cases hu) (trivial)⟩
          have q2 : ev (.tmp 2) = .slice ad k cap := (he (.tmp 2)).trans (hf 2 rfl)
          simp only [List.getElem_toArray, List.getElem_cons_succ, List.getElem_cons_zero, execOp, Option.map_some, Option.map_none]; rw [q2]
          first | (go_simp; done) | (go_simp; rfl) | rfl
        · intro a W d V hI hd hpx hbk hf hp
          have hO' : Below a5.heap.size a5 W := hI.be
          have hg : a.eval (.tmp 65) = .bool true := (hp 9 65 rfl).trans (hI.kn 9 _ rfl (hpx 9 rfl))
          have e70 : a.eval (.tmp 70) = .agg (bv R1).toArray := (hp 14 70 rfl).trans (hI.kn 14 _ rfl (hpx 14 rfl))
          have e71 : a.eval (.tmp 71) = .agg (bv R2).toArray := (hp 15 71 rfl).trans (hI.kn 15 _ rfl (hpx 15 rfl))
          have e72 : a.eval (.tmp 72) = .slice ad k cap := (hp 16 72 rfl).trans (hI.kn 16 _ rfl (hpx 16 rfl))
          have hno : ∀ x ∈ ([] : List Al), d x.2.1 = false := by simp
          refine RU.ob_call (g := 23) (args := #[.agg (bv R1).toArray, .agg (bv R2).toArray, .slice ad k cap]) rfl (RU.wanted_some rfl rfl rfl hg) (fun ev he hc => ?_) ((HQ2.out W (Below.tr' C5.out hO')).mono ?_)
          · have h70 := (he (.tmp 70)).trans e70
            have h71 := (he (.tmp 71)).trans e71
            have h72 := (he (.tmp 72)).trans e72
            have hfn := he (.func 23)
            simp only [List.getElem_toArray, List.getElem_cons_succ, List.getElem_cons_zero, execOp, Option.map_some, Option.map_none]
            simp only [resolve, invoke, Sem.run_bind, Sem.run_pure, Result.andThen_ok, List.map_toArray, List.map_cons, List.map_nil, h70, h71, h72, hfn, Act.eval, hc]
            rfl
          · rintro e' W2 ⟨rfl, hb2⟩
            exact ⟨_, rfl, ⟨_, rfl, hI.step (fun _ _ _ _ _ _ => trivial) hb2 17 _ (by simp) (fun u hu => by first | (cases hu; rfl) | cases hu) (trivial)⟩⟩
        · intro a W d V hI hd hpx hbk hf hp
          have hO' : Below a5.heap.size a5 W := hI.be
          have hg : a.eval (.tmp 65) = .bool true := (hp 9 65 rfl).trans (hI.kn 9 _ rfl (hpx 9 rfl))
          refine RU.ob_val (v := .bool true) rfl (RU.wanted_some rfl rfl rfl hg) (fun ev he hc => ?_) ⟨_, rfl, hI.step (fun _ _ _ _ _ _ => trivial) (Below.refl _ _) 18 _ (by simp) (fun u hu => by first | (cases hu; rfl) | cases hu) (trivial)⟩
          have q69 : ev (.tmp 69) = .int .i64 E2 := (he (.tmp 69)).trans ((hp 13 69 rfl).trans (hI.kn 13 _ rfl (hpx 13 rfl)))
          have q73 : ev (.tmp 73) = .int .i64 E2 := (he (.tmp 73)).trans ((hp 17 73 rfl).trans (hI.kn 17 _ rfl (hpx 17 rfl)))
          simp only [List.getElem_toArray, List.getElem_cons_succ, List.getElem_cons_zero, execOp, Option.map_some, Option.map_none]; rw [q69, q73]
          first | (go_simp; done) | (go_simp; rfl) | (go_simp; simp; done) | rfl
        · intro a W d V hI hd hpx hbk hf hp
          have hO' : Below a5.heap.size a5 W := hI.be
          refine RU.ob_val (v := .bool true) rfl (RU.wanted_none rfl) (fun ev he hc => ?_) ⟨_, rfl, hI.step (fun _ _ _ _ _ _ => trivial) (Below.refl _ _) 19 _ (by simp) (fun u hu => by first | (cases hu; rfl) | cases hu) (trivial)⟩
          have q65 : ev (.tmp 65) = .bool true := (he (.tmp 65)).trans ((hp 9 65 rfl).trans (hI.kn 9 _ rfl (hpx 9 rfl)))
          have q74 : ev (.tmp 74) = .bool true := (he (.tmp 74)).trans ((hp 18 74 rfl).trans (hI.kn 18 _ rfl (hpx 18 rfl)))
          simp only [List.getElem_toArray, List.getElem_cons_succ, List.getElem_cons_zero, execOp, Option.map_some, Option.map_none]; rw [q65, q74]
          try simp only [hc]
          first | (go_simp; done) | (go_simp; rfl) | rfl
        · intro a W d V hI hd hpx hbk hf hp
          have hO' : Below a5.heap.size a5 W := hI.be
          refine RU.ob_val (v := .bool true) rfl (RU.wanted_none rfl) (fun ev he hc => ?_) ⟨_, rfl, hI.step (fun _ _ _ _ _ _ => trivial) (Below.refl _ _) 20 _ (by simp) (fun u hu => by first | (cases hu; rfl) | cases hu) (trivial)⟩
          have q75 : ev (.tmp 75) = .bool true := (he (.tmp 75)).trans ((hp 19 75 rfl).trans (hI.kn 19 _ rfl (hpx 19 rfl)))
          simp only [List.getElem_toArray, List.getElem_cons_succ, List.getElem_cons_zero, execOp, Option.map_some, Option.map_none]; rw [q75]
          first | (go_simp; done) | (go_simp; rfl) | rfl
        · intro a W d V hI hd hpx hbk hf hp
          have hO' : Below a5.heap.size a5 W := hI.be
          have hg : a.eval (.tmp 76) = .bool true := (hp 20 76 rfl).trans (hI.kn 20 _ rfl (hpx 20 rfl))
          have q10 : a.eval (.tmp 10) = .pointer (some ⟨b10, 0, none⟩) := hf 10 rfl
          exact RU.ob_op rfl (RU.wanted_some rfl rfl rfl hg) (wp_load_mid 31 (.tmp 10) rfl (b10) (0) q10 (bv R1) _ (range_below X10.out hO' L10.out) Tryd.underlying31 rfl (size_l32 HR1L.out) ⟨_, rfl, hI.step (fun _ _ _ _ _ _ => trivial) (Below.refl _ _) 21 _ (by simp) (fun u hu => by first | (cases hu; rfl) | cases hu) (trivial)⟩)
        · intro a W d V hI hd hpx hbk hf hp
          have hO' : Below a5.heap.size a5 W := hI.be
          have hg : a.eval (.tmp 76) = .bool true := (hp 20 76 rfl).trans (hI.kn 20 _ rfl (hpx 20 rfl))
          have q4 : a.eval (.tmp 4) = .pointer (some ⟨D + 1, 0, none⟩) := hf 4 rfl
          exact RU.ob_op rfl (RU.wanted_some rfl rfl rfl hg) (wp_load_mid 31 (.tmp 4) rfl (D + 1) (0) q4 (bv af) _ (range_below XAF.out hO' LX2.out) Tryd.underlying31 rfl (size_l32 HAF.out) ⟨_, rfl, hI.step (fun _ _ _ _ _ _ => trivial) (Below.refl _ _) 22 _ (by simp) (fun u hu => by first | (cases hu; rfl) | cases hu) (trivial)⟩)
        · intro a W d V hI hd hpx hbk hf hp
          have hO' : Below a5.heap.size a5 W := hI.be
          have hg : a.eval (.tmp 76) = .bool true := (hp 20 76 rfl).trans (hI.kn 20 _ rfl (hpx 20 rfl))
          refine RU.ob_val (v := v12) rfl (RU.wanted_some rfl rfl rfl hg) (fun ev he hc => ?_) ⟨_, rfl, hI.step (fun _ _ _ _ _ _ => trivial) (Below.refl _ _) 23 _ (by simp) (fun u hu => by first | (cases hu; rfl) | cases hu) (trivial)⟩
          have q12 : ev (.tmp 12) = v12 := (he (.tmp 12)).trans (hf 12 rfl)
          simp only [List.getElem_toArray, List.getElem_cons_succ, List.getElem_cons_zero, execOp, Option.map_some, Option.map_none]; rw [q12]
          first | (go_simp; done) | (go_simp; rfl) | rfl
        · intro a W d V hI hd hpx hbk hf hp
          have hO' : Below a5.heap.size a5 W := hI.be
          have hg : a.eval (.tmp 76) = .bool true := (hp 20 76 rfl).trans (hI.kn 20 _ rfl (hpx 20 rfl))
          have e77 : a.eval (.tmp 77) = .agg (bv R1).toArray := (hp 21 77 rfl).trans (hI.kn 21 _ rfl (hpx 21 rfl))
          have e78 : a.eval (.tmp 78) = .agg (bv af).toArray := (hp 22 78 rfl).trans (hI.kn 22 _ rfl (hpx 22 rfl))
          have e79 : a.eval (.tmp 79) = v12 := (hp 23 79 rfl).trans (hI.kn 23 _ rfl (hpx 23 rfl))
          have hno : ∀ x ∈ ([] : List Al), d x.2.1 = false := by simp
          refine RU.ob_call (g := 22) (args := #[.agg (bv R1).toArray, .agg (bv af).toArray, v12]) rfl (RU.wanted_some rfl rfl rfl hg) (fun ev he hc => ?_) ((HP3.out v12 W (K12.out.below hO') (Below.tr' C5.out hO')).mono ?_)
          · have h77 := (he (.tmp 77)).trans e77
            have h78 := (he (.tmp 78)).trans e78
            have h79 := (he (.tmp 79)).trans e79
            have hfn := he (.func 22)
            simp only [List.getElem_toArray, List.getElem_cons_succ, List.getElem_cons_zero, execOp, Option.map_some, Option.map_none]
            simp only [resolve, invoke, Sem.run_bind, Sem.run_pure, Result.andThen_ok, List.map_toArray, List.map_cons, List.map_nil, h77, h78, h79, hfn, Act.eval, hc]
            rfl
          · rintro e' W2 ⟨rfl, hb2⟩
            exact ⟨_, rfl, ⟨_, rfl, hI.step (fun _ _ _ _ _ _ => trivial) hb2 24 _ (by simp) (fun u hu => by first | (cases hu; rfl) | cases hu) (trivial)⟩⟩
        · intro a W d V hI hd hpx hbk hf hp
          have hO' : Below a5.heap.size a5 W := hI.be
          have hg : a.eval (.tmp 76) = .bool true := (hp 20 76 rfl).trans (hI.kn 20 _ rfl (hpx 20 rfl))
          have q10 : a.eval (.tmp 10) = .pointer (some ⟨b10, 0, none⟩) := hf 10 rfl
          exact RU.ob_op rfl (RU.wanted_some rfl rfl rfl hg) (wp_load_mid 31 (.tmp 10) rfl (b10) (0) q10 (bv R1) _ (range_below X10.out hO' L10.out) Tryd.underlying31 rfl (size_l32 HR1L.out) ⟨_, rfl, hI.step (fun _ _ _ _ _ _ => trivial) (Below.refl _ _) 25 _ (by simp) (fun u hu => by first | (cases hu; rfl) | cases hu) (trivial)⟩)
        · intro a W d V hI hd hpx hbk hf hp
          have hO' : Below a5.heap.size a5 W := hI.be
          have hg : a.eval (.tmp 76) = .bool true := (hp 20 76 rfl).trans (hI.kn 20 _ rfl (hpx 20 rfl))
          have q4 : a.eval (.tmp 4) = .pointer (some ⟨D + 1, 0, none⟩) := hf 4 rfl
          exact RU.ob_op rfl (RU.wanted_some rfl rfl rfl hg) (wp_load_mid 31 (.tmp 4) rfl (D + 1) (0) q4 (bv af) _ (range_below XAF.out hO' LX2.out) Tryd.underlying31 rfl (size_l32 HAF.out) ⟨_, rfl, hI.step (fun _ _ _ _ _ _ => trivial) (Below.refl _ _) 26 _ (by simp) (fun u hu => by first | (cases hu; rfl) | cases hu) (trivial)⟩)
        · intro a W d V hI hd hpx hbk hf hp
          have hO' : Below a5.heap.size a5 W := hI.be
          have hg : a.eval (.tmp 76) = .bool true := (hp 20 76 rfl).trans (hI.kn 20 _ rfl (hpx 20 rfl))
          refine RU.ob_val (v := .slice ad k cap) rfl (RU.wanted_some rfl rfl rfl hg) (fun ev he hc => ?_) ⟨_, rfl, hI.step (fun _ _ _ _ _ _ => trivial) (Below.refl _ _) 27 _ (by simp) (fun u hu => by first | (cases hu; rfl) | cases hu) (trivial)⟩
          have q2 : ev (.tmp 2) = .slice ad k cap := (he (.tmp 2)).trans (hf 2 rfl)
          simp only [List.getElem_toArray, List.getElem_cons_succ, List.getElem_cons_zero, execOp, Option.map_some, Option.map_none]; rw [q2]
          first | (go_simp; done) | (go_simp; rfl) | rfl
        · intro a W d V hI hd hpx hbk hf hp
          have hO' : Below a5.heap.size a5 W := hI.be
          have hg : a.eval (.tmp 76) = .bool true := (hp 20 76 rfl).trans (hI.kn 20 _ rfl (hpx 20 rfl))
          have e81 : a.eval (.tmp 81) = .agg (bv R1).toArray := (hp 25 81 rfl).trans (hI.kn 25 _ rfl (hpx 25 rfl))
          have e82 : a.eval (.tmp 82) = .agg (bv af).toArray := (hp 26 82 rfl).trans (hI.kn 26 _ rfl (hpx 26 rfl))
          have e83 : a.eval (.tmp 83) = .slice ad k cap := (hp 27 83 rfl).trans (hI.kn 27 _ rfl (hpx 27 rfl))
          have hno : ∀ x ∈ ([] : List Al), d x.2.1 = false := by simp
          refine RU.ob_call (g := 23) (args := #[.agg (bv R1).toArray, .agg (bv af).toArray, .slice ad k cap]) rfl (RU.wanted_some rfl rfl rfl hg) (fun ev he hc => ?_) ((HQ3.out W (Below.tr' C5.out hO')).mono ?_)
          · have h81 := (he (.tmp 81)).trans e81
            have h82 := (he (.tmp 82)).trans e82
            have h83 := (he (.tmp 83)).trans e83
            have hfn := he (.func 23)
            simp only [List.getElem_toArray, List.getElem_cons_succ, List.getElem_cons_zero, execOp, Option.map_some, Option.map_none]
            simp only [resolve, invoke, Sem.run_bind, Sem.run_pure, Result.andThen_ok, List.map_toArray, List.map_cons, List.map_nil, h81, h82, h83, hfn, Act.eval, hc]
            rfl
          · rintro e' W2 ⟨rfl, hb2⟩
            exact ⟨_, rfl, ⟨_, rfl, hI.step (fun _ _ _ _ _ _ => trivial) hb2 28 _ (by simp) (fun u hu => by first | (cases hu; rfl) | cases hu) (trivial)⟩⟩
        · intro a W d V hI hd hpx hbk hf hp
          have hO' : Below a5.heap.size a5 W := hI.be
          have hg : a.eval (.tmp 76) = .bool true := (hp 20 76 rfl).trans (hI.kn 20 _ rfl (hpx 20 rfl))
          refine RU.ob_val (v := .bool true) rfl (RU.wanted_some rfl rfl rfl hg) (fun ev he hc => ?_) ⟨_, rfl, hI.step (fun _ _ _ _ _ _ => trivial) (Below.refl _ _) 29 _ (by simp) (fun u hu => by first | (cases hu; rfl) | cases hu) (trivial)⟩
          have q80 : ev (.tmp 80) = .int .i64 E3 := (he (.tmp 80)).trans ((hp 24 80 rfl).trans (hI.kn 24 _ rfl (hpx 24 rfl)))
          have q84 : ev (.tmp 84) = .int .i64 E3 := (he (.tmp 84)).trans ((hp 28 84 rfl).trans (hI.kn 28 _ rfl (hpx 28 rfl)))
          simp only [List.getElem_toArray, List.getElem_cons_succ, List.getElem_cons_zero, execOp, Option.map_some, Option.map_none]; rw [q80, q84]
          first | (go_simp; done) | (go_simp; rfl) | (go_simp; simp; done) | rfl
        · intro a W d V hI hd hpx hbk hf hp
          have hO' : Below a5.heap.size a5 W := hI.be
          refine RU.ob_val (v := .bool true) rfl (RU.wanted_none rfl) (fun ev he hc => ?_) ⟨_, rfl, hI.step (fun _ _ _ _ _ _ => trivial) (Below.refl _ _) 30 _ (by simp) (fun u hu => by first | (cases hu; rfl) | cases hu) (trivial)⟩
          have q76 : ev (.tmp 76) = .bool true := (he (.tmp 76)).trans ((hp 20 76 rfl).trans (hI.kn 20 _ rfl (hpx 20 rfl)))
          have q85 : ev (.tmp 85) = .bool true := (he (.tmp 85)).trans ((hp 29 85 rfl).trans (hI.kn 29 _ rfl (hpx 29 rfl)))
          simp only [List.getElem_toArray, List.getElem_cons_succ, List.getElem_cons_zero, execOp, Option.map_some, Option.map_none]; rw [q76, q85]
          try simp only [hc]
          first | (go_simp; done) | (go_simp; rfl) | rfl
        · intro a W d V hI hd hpx hbk hf hp
          have hO' : Below a5.heap.size a5 W := hI.be
          refine RU.ob_val (v := .bool true) rfl (RU.wanted_none rfl) (fun ev he hc => ?_) ⟨_, rfl, hI.step (fun _ _ _ _ _ _ => trivial) (Below.refl _ _) 31 _ (by simp) (fun u hu => by first | (cases hu; rfl) | cases hu) (trivial)⟩
          have q86 : ev (.tmp 86) = .bool true := (he (.tmp 86)).trans ((hp 30 86 rfl).trans (hI.kn 30 _ rfl (hpx 30 rfl)))
          simp only [List.getElem_toArray, List.getElem_cons_succ, List.getElem_cons_zero, execOp, Option.map_some, Option.map_none]; rw [q86]
          first | (go_simp; done) | (go_simp; rfl) | rfl
      intro w9 dw9 Vw9 hal hI
      have Bw9 : Hid (Below a5.heap.size a5 w9) := hI.be
      have hs0 : Vw9 0 = .agg (bv bf).toArray := hI.kn 0 _ rfl (hal 0 (by decide))
      have hs1 : Vw9 1 = .agg (bv af).toArray := hI.kn 1 _ rfl (hal 1 (by decide))
      have hs2 : Vw9 2 = v12 := hI.kn 2 _ rfl (hal 2 (by decide))
      have hs3 : Vw9 3 = .int .i64 E1 := hI.kn 3 _ rfl (hal 3 (by decide))
      have hs4 : Vw9 4 = .agg (bv bf).toArray := hI.kn 4 _ rfl (hal 4 (by decide))
      have hs5 : Vw9 5 = .agg (bv af).toArray := hI.kn 5 _ rfl (hal 5 (by decide))
      have hs6 : Vw9 6 = .slice ad k cap := hI.kn 6 _ rfl (hal 6 (by decide))
      have hs7 : Vw9 7 = .int .i64 E1 := hI.kn 7 _ rfl (hal 7 (by decide))
      have hs8 : Vw9 8 = .bool true := hI.kn 8 _ rfl (hal 8 (by decide))
      have hs9 : Vw9 9 = .bool true := hI.kn 9 _ rfl (hal 9 (by decide))
      have hs10 : Vw9 10 = .agg (bv R1).toArray := hI.kn 10 _ rfl (hal 10 (by decide))
      have hs11 : Vw9 11 = .agg (bv R2).toArray := hI.kn 11 _ rfl (hal 11 (by decide))
      have hs12 : Vw9 12 = v12 := hI.kn 12 _ rfl (hal 12 (by decide))
      have hs13 : Vw9 13 = .int .i64 E2 := hI.kn 13 _ rfl (hal 13 (by decide))
      have hs14 : Vw9 14 = .agg (bv R1).toArray := hI.kn 14 _ rfl (hal 14 (by decide))
      have hs15 : Vw9 15 = .agg (bv R2).toArray := hI.kn 15 _ rfl (hal 15 (by decide))
      have hs16 : Vw9 16 = .slice ad k cap := hI.kn 16 _ rfl (hal 16 (by decide))
      have hs17 : Vw9 17 = .int .i64 E2 := hI.kn 17 _ rfl (hal 17 (by decide))
      have hs18 : Vw9 18 = .bool true := hI.kn 18 _ rfl (hal 18 (by decide))
      have hs19 : Vw9 19 = .bool true := hI.kn 19 _ rfl (hal 19 (by decide))
      have hs20 : Vw9 20 = .bool true := hI.kn 20 _ rfl (hal 20 (by decide))
      have hs21 : Vw9 21 = .agg (bv R1).toArray := hI.kn 21 _ rfl (hal 21 (by decide))
      have hs22 : Vw9 22 = .agg (bv af).toArray := hI.kn 22 _ rfl (hal 22 (by decide))
      have hs23 : Vw9 23 = v12 := hI.kn 23 _ rfl (hal 23 (by decide))
      have hs24 : Vw9 24 = .int .i64 E3 := hI.kn 24 _ rfl (hal 24 (by decide))
      have hs25 : Vw9 25 = .agg (bv R1).toArray := hI.kn 25 _ rfl (hal 25 (by decide))
      have hs26 : Vw9 26 = .agg (bv af).toArray := hI.kn 26 _ rfl (hal 26 (by decide))
      have hs27 : Vw9 27 = .slice ad k cap := hI.kn 27 _ rfl (hal 27 (by decide))
      have hs28 : Vw9 28 = .int .i64 E3 := hI.kn 28 _ rfl (hal 28 (by decide))
      have hs29 : Vw9 29 = .bool true := hI.kn 29 _ rfl (hal 29 (by decide))
      have hs30 : Vw9 30 = .bool true := hI.kn 30 _ rfl (hal 30 (by decide))
      have hs31 : Vw9 31 = .bool true := hI.kn 31 _ rfl (hal 31 (by decide))
      simp only [RU.lay, Act.put, hs0, hs1, hs2, hs3, hs4, hs5, hs6, hs7, hs8, hs9, hs10, hs11, hs12, hs13, hs14, hs15, hs16, hs17, hs18, hs19, hs20, hs21, hs22, hs23, hs24, hs25, hs26, hs27, hs28, hs29, hs30, hs31]
      simp only [List.setIfInBounds_toArray, List.set_cons_succ, List.set_cons_zero]
      clear hI hal hs0 hs1 hs2 hs3 hs4 hs5 hs6 hs7 hs8 hs9 hs10 hs11 hs12 hs13 hs14 hs15 hs16 hs17 hs18 hs19 hs20 hs21 hs22 hs23 hs24 hs25 hs26 hs27 hs28 hs29 hs30 hs31
      have C9 : Hid (Below w.heap.size w w9) := Below.tr' BU.out (Below.tr' C5.out Bw9.out)
      go_wp2_with fail
      go_ret
      exact ⟨rfl, C9.out⟩
end Go.Proofs.YtpojalbpekbfdaaDoor
