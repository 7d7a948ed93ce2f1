/- The walk of TreeKeeps. -/
import Derived.Test.YtkeobajlikhghabDoorTrtA
namespace Go.Proofs.YtkeobajlikhghabDoor
open Go Go.RowKit
set_option linter.unusedSimpArgs false
set_option linter.unusedVariables false
set_option maxRecDepth 100000

theorem range_low {B : Nat} {w w' : World} {b o : Nat} {cs : List Value} (h : w.rangeAt b o cs) (hb : Below B w w') (hlt : b < B) : w'.rangeAt b o cs := fun j v hj => (hb.cell (p := ⟨b, o + j, none⟩) hlt).trans (h j v hj)
theorem ls_first {w : World} {g n cp : Nat} {ls : List Lf} {x : Lf} (hn : ls.length = n) (hc : n ≤ cp) (hlt : g < w.heap.size) (hr : ∀ (i : Nat) (z : Lf), (ls ++ [x])[i]? = some z → w.rangeAt g (0 + i * 64) (lfc z)) : LS w (.slice (some ⟨g, 0, none⟩) n cp) ls :=
  ⟨_, cp, by rw [hn], by rw [hn]; exact hc, .inr ⟨g, 0, rfl, hlt, fun i z hi => hr i z (by rw [List.getElem?_append_left (List.getElem?_eq_some_iff.1 hi).1]; exact hi)⟩⟩
theorem ns_first {w : World} {g n cp : Nat} {ls : List Nd} {x : Nd} (hn : ls.length = n) (hc : n ≤ cp) (hlt : g < w.heap.size) (hr : ∀ (i : Nat) (z : Nd), (ls ++ [x])[i]? = some z → w.rangeAt g (0 + i * 65) (nc z)) : NS w (.slice (some ⟨g, 0, none⟩) n cp) ls :=
  ⟨_, cp, by rw [hn], by rw [hn]; exact hc, .inr ⟨g, 0, rfl, hlt, fun i z hi => hr i z (by rw [List.getElem?_append_left (List.getElem?_eq_some_iff.1 hi).1]; exact hi)⟩⟩
theorem LO.whole {B : Nat} {w : World} {v : Value} {l : List Lf} (h : LO B w v l) (hne : l ≠ []) : ∃ g cap, v = .slice (some ⟨g, 0, none⟩) l.length cap ∧ l.length ≤ cap ∧ g < w.heap.size ∧ ∀ (i : Nat) (x : Lf), l[i]? = some x → w.rangeAt g (0 + i * 64) (lfc x) := by
  obtain ⟨ad, cap, rfl, hc, hx⟩ := h.ls
  obtain ⟨-, ⟨e, h0⟩ | ⟨g, cap', cur, e, -, hg, -⟩⟩ := h.1
  · exact absurd (List.length_eq_zero_iff.1 h0) hne
  · rcases hx with ⟨h0, _⟩ | ⟨b, o, rfl, hlt, hm⟩
    · exact absurd h0 hne
    · cases e
      exact ⟨_, cap, rfl, hc, hlt, hm⟩
theorem NO.whole {B : Nat} {w : World} {v : Value} {l : List Nd} (h : NO B w v l) (hne : l ≠ []) : ∃ g cap, v = .slice (some ⟨g, 0, none⟩) l.length cap ∧ l.length ≤ cap ∧ g < w.heap.size ∧ ∀ (i : Nat) (x : Nd), l[i]? = some x → w.rangeAt g (0 + i * 65) (nc x) := by
  obtain ⟨ad, cap, rfl, hc, hx⟩ := h.ns
  obtain ⟨-, ⟨e, h0⟩ | ⟨g, cap', cur, e, -, hg, -⟩⟩ := h.1
  · exact absurd (List.length_eq_zero_iff.1 h0) hne
  · rcases hx with ⟨h0, _⟩ | ⟨b, o, rfl, hlt, hm⟩
    · exact absurd h0 hne
    · cases e
      exact ⟨_, cap, rfl, hc, hlt, hm⟩
def tk21f (a9 : Option Addr) (g14 m14 cp14 k c9 : Nat) (y f1 : List Int) (f2 : Bool) (f3 : Int) : Nat → Value
  | 0 => .agg (bv z32).toArray
  | 1 => .slice (some ⟨g14, 0, none⟩) m14 cp14
  | 2 => .slice a9 k c9
  | 3 => .int .i64 (k : Int)
  | 4 => .slice (some ⟨g14, 0, none⟩) k cp14
  | 5 => .agg (bv y).toArray
  | 6 => .tuple #[.agg (bv f1).toArray, .bool f2, .int .i64 f3]
  | _ => undef
def tk26f (g5 b o n cp5 cap t : Nat) (x : Lf) : Nat → Value
  | 0 => .bool true
  | 1 => .bool true
  | 2 => .slice (some ⟨g5, 0, none⟩) n cp5
  | 3 => .int .i64 (t : Int)
  | 4 => .pointer (some ⟨g5, t * 64, none⟩)
  | 5 => .agg (lfc x).toArray
  | 6 => .slice (some ⟨b, o, none⟩) n cap
  | 7 => .int .i64 (t : Int)
  | 8 => .pointer (some ⟨b, o + t * 64, none⟩)
  | 9 => .agg (lfc x).toArray
  | 10 => .bool true
  | 11 => .bool true
  | 12 => .bool true
  | _ => undef
set_option maxHeartbeats 32000000 in
theorem keeps_any (ls : List Lf) (hk : ∀ x ∈ ls, x.Ok) (hlen : ls.length ≤ 2500000000000) (y : List Int) (hy : L32 y) (v : Value) (w : World) (hv : LS w v ls) (hT : Tb w) :
    Calls Tryd.prog 3 #[v, .agg (bv y).toArray] w fun e w' => e = .returned (.bool true) ∧ Below w.heap.size w w' := by
  have sy : (bv y).toArray.size = 32 := by rw [List.size_toArray, bv_length, hy.len]
  have ra := range_alloc w (bv y) 23 (0, 0)
  have TW : Hid (Tb w) := hT
  have VW : Hid (LS w v ls) := hv
  have HY : Hid (L32 y) := hy
  have HK : Hid (∀ x ∈ ls, x.Ok) := hk
  obtain ⟨L, HLK0, HLL0, HL70, HOP0, HRO0⟩ := opens_both ls hk hlen y hy
  have HLK : Hid (∀ x ∈ L, x.Ok) := HLK0
  have HLL : Hid (L.length ≤ 2500000000000) := HLL0
  have HL7 : Hid (∀ x ∈ L, x.n ≠ -7) := HL70
  obtain ⟨Y, hY⟩ : ∃ Y, (bv y).toArray = Y := ⟨_, rfl⟩
  have HOP : Hid (∀ (v : Value) (W : World), LS W v ls → Below w.heap.size w W → Calls Tryd.prog 7 #[v, .agg (bv y).toArray] W fun e w' => ∃ v' er, e = .returned (.tuple #[v', .int .i64 er]) ∧ NO W.heap.size w' v' L ∧ Below W.heap.size W w') := fun v W q1 q2 => HOP0 v W q1 (TW.out.below q2)
  have HROP : Hid (∀ (v : Value) (W : World), LS W v ls → Calls Tryd.prog 8 #[v, .agg (bv y).toArray] W fun e w' => ∃ v' er, e = .returned (.tuple #[v', .int .i64 er]) ∧ NO W.heap.size w' v' L ∧ Below W.heap.size W w') := HRO0
  obtain ⟨R0, er0, hro0, -⟩ := ro_some ls
  have HROOT : Hid (∀ (v : Value) (W : World), LS W v ls → Below w.heap.size w W → Calls Tryd.prog 6 #[v] W fun e w' => e = .returned (.tuple #[.agg (bv R0).toArray, .int .i64 er0]) ∧ Below W.heap.size W w') := fun v W q1 q2 => RootOf_any ls hk hlen R0 er0 hro0 v W q1 (TW.out.below q2)
  have HCL : Hid (∀ (W : World), LS W v ls → Calls Tryd.prog 5 #[v] W fun e w' => ∃ v', e = .returned v' ∧ LO W.heap.size w' v' ls ∧ Below W.heap.size W w') := fun W q => copyLeaves_own ls hk (by omega) v W q
  have HCN : Hid (∀ (v : Value) (W : World), NS W v L → Calls Tryd.prog 9 #[v] W fun e w' => ∃ v', e = .returned v' ∧ NO W.heap.size w' v' L ∧ Below W.heap.size W w') := fun v W q => copyNodes_own L HLK0 (by omega) v W q
  obtain ⟨R1, e1, hR1⟩ : ∃ (r : List Int) (e : Int), ∀ (v : Value) (W : World), NS W v L → Below w.heap.size w W → Calls Tryd.prog 10 #[v] W fun e' w' => e' = .returned (.tuple #[.agg (bv r).toArray, .int .i64 e]) ∧ Below W.heap.size W w' := ⟨_, _, fun v W q1 q2 => Root_any L HLK0 (by omega) v W q1 (TW.out.below q2)⟩
  have HRT : Hid (∀ (v : Value) (W : World), NS W v L → Below w.heap.size w W → Calls Tryd.prog 10 #[v] W fun e' w' => e' = .returned (.tuple #[.agg (bv R1).toArray, .int .i64 e1]) ∧ Below W.heap.size W w') := hR1
  obtain ⟨N1, e2, hN1⟩ : ∃ (r : Nd) (e : Int), ∀ (v : Value) (W : World), NS W v L → Below w.heap.size w W → Calls Tryd.prog 11 #[v] W fun e' w' => e' = .returned (.tuple #[.agg (nc r).toArray, .int .i64 e]) ∧ Below W.heap.size W w' := ⟨_, _, fun v W q1 q2 => Over_any L HLK0 (by omega) v W q1 (TW.out.below q2)⟩
  have HOV : Hid (∀ (v : Value) (W : World), NS W v L → Below w.heap.size w W → Calls Tryd.prog 11 #[v] W fun e' w' => e' = .returned (.tuple #[.agg (nc N1).toArray, .int .i64 e2]) ∧ Below W.heap.size W w') := hN1
  obtain ⟨f1, f2, f3, hF⟩ : ∃ (r : List Int) (b : Bool) (e : Int), ∀ (v : Value) (W : World), NS W v L → Below w.heap.size w W → Calls Tryd.prog 12 #[.agg (bv z32).toArray, v, .agg (bv y).toArray] W fun e' w' => e' = .returned (.tuple #[.agg (bv r).toArray, .bool b, .int .i64 e]) ∧ Below W.heap.size W w' := ⟨_, _, _, fun v W q1 q2 => Found_any z32 z32_l32 L HLK0 (by omega) y hy v W q1 (TW.out.below q2)⟩
  have HFO : Hid (∀ (v : Value) (W : World), NS W v L → Below w.heap.size w W → Calls Tryd.prog 12 #[.agg (bv z32).toArray, v, .agg (bv y).toArray] W fun e' w' => e' = .returned (.tuple #[.agg (bv f1).toArray, .bool f2, .int .i64 f3]) ∧ Below W.heap.size W w') := hF
  have HSM : Hid (∀ (v u : Value) (W : World), NS W v L → NS W u L → Calls Tryd.prog 13 #[v, u] W fun e w' => e = .returned (.bool true) ∧ Below W.heap.size W w') := fun v u W q1 q2 => sameNodes_any L HLK0 (by omega) v u W q1 q2
  have HB0 : Hid (∀ W : World, (Instr.build 23 #[]).run Tryd.prog W = .ok (.agg (bv z32).toArray) W) := build_32
  obtain ⟨S7, hS7⟩ : ∃ S, s77 = S := ⟨_, rfl⟩
  obtain ⟨l7, hl7⟩ : ∃ l : Lf, (⟨z32, s77⟩ : Lf) = l := ⟨_, rfl⟩
  have HL7O : Hid l7.Ok := by rw [← hl7]; exact ⟨z32_l32, s77_l32⟩
  have HL70' : Hid ((lfc l7)[32]? = some (.int .u8 77)) := by rw [← hl7]; rfl
  have HS7B : Hid (∀ W : World, (Instr.build 23 #[(0, .int .u8 77)]).run Tryd.prog W = .ok (.agg (bv S7).toArray) W) := fun W => by rw [← hS7]; exact build_77 W
  have HL7B : Hid (∀ W : World, (Instr.build 27 #[(1, .agg (bv S7).toArray)]).run Tryd.prog W = .ok (.agg (lfc l7).toArray) W) := fun W => by rw [← hS7, ← hl7]; exact build_l77 W
  obtain ⟨n7, hn7⟩ : ∃ l : Nd, (⟨-7, z32, z32⟩ : Nd) = l := ⟨_, rfl⟩
  have HN7O : Hid n7.Ok := by rw [← hn7]; exact ⟨z32_l32, z32_l32⟩
  have HN7N : Hid (n7.n = -7) := by rw [← hn7]; rfl
  have HN7B : Hid (∀ W : World, (Instr.build 35 #[(0, .int .i64 (-7))]).run Tryd.prog W = .ok (.agg (nc n7).toArray) W) := fun W => by rw [← hn7]; exact build_n _ W
  obtain ⟨m7, hm7⟩ : ∃ l : Nd, (⟨77, z32, z32⟩ : Nd) = l := ⟨_, rfl⟩
  have HM7O : Hid m7.Ok := by rw [← hm7]; exact ⟨z32_l32, z32_l32⟩
  have HM7N : Hid (m7.n = 77) := by rw [← hm7]; rfl
  have HM7B : Hid (∀ W : World, (Instr.build 35 #[(0, .int .i64 77)]).run Tryd.prog W = .ok (.agg (nc m7).toArray) W) := fun W => by rw [← hm7]; exact build_n _ W
  obtain ⟨n, hn⟩ : ∃ n, ls.length = n := ⟨_, rfl⟩
  have HN : Hid (ls.length = n) := hn
  have hn9 : n ≤ 2500000000000 := by rw [← hn]; exact hlen
  obtain ⟨nL, hnL⟩ : ∃ n, L.length = n := ⟨_, rfl⟩
  have HNL : Hid (L.length = nL) := hnL
  have hnL9 : nL ≤ 2500000000000 := by rw [← hnL]; exact HLL0
  obtain ⟨U, hU⟩ : ∃ U, w.alloc (.cells Y 23) = U := ⟨_, rfl⟩
  rw [hY] at ra sy ⊢
  have bU : Below w.heap.size w U := by rw [← hU]; exact (Below.refl _ w).alloc (Nat.le_refl _) _
  rw [hU] at ra
  have CU : Hid (Below w.heap.size w U) := bU
  have sU : U.heap.size = w.heap.size + 1 := by rw [← hU]; simp
  obtain ⟨D, hD⟩ : ∃ D, w.heap.size = D := ⟨_, rfl⟩
  have HD : Hid (w.heap.size = D) := hD
  rw [hD] at ra sU
  have RY : Hid (U.rangeAt D 0 (bv y)) := ra
  have LY : Hid (D < U.heap.size) := by show D < _; omega
  have HLS1 : Hid (ls.length + [l7].length ≤ 3000000000000) := by show _ ≤ _; simp only [List.length_cons, List.length_nil]; omega
  obtain ⟨ad, cap, hv0, hcap, hxx⟩ := id VW.out
  rw [hn] at hv0
  have HXX : Hid ((ls = [] ∧ (ad = none → cap = 0)) ∨ ∃ b o, ad = some ⟨b, o, none⟩ ∧ b < w.heap.size ∧ ∀ (i : Nat) (x : Lf), ls[i]? = some x → w.rangeAt b (o + i * 64) (lfc x)) := hxx
  subst hv0
  clear hY hk hlen hy hv hT HLK0 HLL0 HL70 HOP0 HRO0 hro0 hR1 hN1 hF hS7 hl7 hn7 hm7 hn hnL ra bU sU hxx hcap
  go_enter Tryd.func3, Tryd.ntmps3
  go_upto_region 1 with (fail)
  try rw [hU]
  try rw [hD]
  clear hU hD sy
  go_upto_region 4 with (first
    | (go_at_call 4; refine (awake_any U (TW.out.below CU.out)).mono ?_; rintro e w1 ⟨rfl, g1⟩; have G1 : Hid (Below U.heap.size U w1) := g1; have C1 : Hid (Below w.heap.size w w1) := Below.tr' CU.out g1; clear g1)
    | (go_at_call 5; refine (HCL.out w1 (VW.out.below C1.out)).mono ?_; rintro e w2 ⟨v2, rfl, g1, g2⟩; have O2 : Hid (LO w1.heap.size w2 v2 ls) := g1; have G2 : Hid (Below w1.heap.size w1 w2) := g2; clear g1 g2)
    | (refine wp_build1 23 (.const (.int .u8 77)) rfl rfl (.int .u8 77) rfl _ (HS7B.out w2) ?_)
    | (refine wp_buildk 27 1 (.tmp 21) rfl rfl (.agg (bv S7).toArray) rfl _ (HL7B.out w2) ?_)
    | (refine wpList_onel rfl (.tmp 22) rfl l7 HL7O.out rfl ?_)
    | (at_builtin; refine wp_appl rfl (.tmp 20) (.tmp 23) rfl rfl w1.heap.size v2 (.slice (some ⟨w2.heap.size, 0, none⟩) 1 1) ls [l7] rfl rfl (O2.out.alloc _) (fun z hz => by simp at hz; subst hz; exact HL7O.out) (ls_one w2 l7 _) HLS1.out ?_; intro v3 w3 g1 g2; have O3 : Hid (LO w1.heap.size w3 v3 (ls ++ [l7])) := g1; have G3 : Hid (Below w1.heap.size w1 w3) := (G2.out.alloc G2.out.size _).trans g2; have C3 : Hid (Below w.heap.size w w3) := Below.tr' C1.out ((G2.out.alloc G2.out.size _).trans g2); clear g1 g2))
  obtain ⟨g5, cp5, e5, hc5, lt5, rr5⟩ := O3.out.whole (by simp)
  obtain ⟨m5, hm5⟩ : ∃ m, (ls ++ [l7]).length = m := ⟨_, rfl⟩
  have hmn5 : m5 = n + 1 := by rw [← hm5, ← HN.out]; simp
  rw [hm5] at e5 hc5
  subst e5
  have hcn5 : n ≤ cp5 := by omega
  have hnm5 : n < m5 := by omega
  have RR5 : Hid (∀ (i : Nat) (x : Lf), (ls ++ [l7])[i]? = some x → w3.rangeAt g5 (0 + i * 64) (lfc x)) := rr5
  have LT5 : Hid (g5 < w3.heap.size) := lt5
  have VI : Hid (LS w3 (.slice (some ⟨g5, 0, none⟩) n cp5) ls) := ls_first HN.out hcn5 lt5 rr5
  clear rr5 lt5 hm5 hmn5
  go_upto_region 6 with (first
    | (go_at_call 6; refine (HROOT.out _ w3 VI.out C3.out).mono ?_; rintro e w4 ⟨rfl, g1⟩; have G4 : Hid (Below w3.heap.size w3 w4) := g1; have C4 : Hid (Below w.heap.size w w4) := Below.tr' C3.out g1; clear g1))
  have GU4 : Hid (Below U.heap.size U w4) := Below.tr' G1.out (Below.tr' G3.out G4.out)
  have RY4 : Hid (w4.rangeAt D 0 (bv y)) := range_below RY.out GU4.out LY.out
  go_upto_region 7 with (first
    | (refine ld 23 (.tmp 3) rfl rfl D 0 rfl (bv y) _ RY4.out Tryd.underlying23 rfl (size_l32 HY.out) ?_)
    | (go_at_call 7; refine (HOP.out _ w4 (VI.out.below G4.out) C4.out).mono ?_; rintro e w5 ⟨v7, er7, rfl, g1, g2⟩; have O7 : Hid (NO w4.heap.size w5 v7 L) := g1; have G5 : Hid (Below w4.heap.size w4 w5) := g2; have C5 : Hid (Below w.heap.size w w5) := Below.tr' C4.out g2; clear g1 g2))
  have RY5 : Hid (w5.rangeAt D 0 (bv y)) := range_below RY4.out G5.out (Nat.lt_of_lt_of_le LY.out GU4.out.size)
  have VI5 : Hid (LS w5 (.slice (some ⟨g5, 0, none⟩) n cp5) ls) := VI.out.below (Below.tr' G4.out G5.out)
  go_upto_region 8 with (first
    | (refine ld 23 (.tmp 3) rfl rfl D 0 rfl (bv y) _ RY5.out Tryd.underlying23 rfl (size_l32 HY.out) ?_)
    | (go_at_call 7; refine (HOP.out _ w5 VI5.out C5.out).mono ?_; rintro e w6 ⟨v9, er9, rfl, g1, g2⟩; have O9 : Hid (NO w5.heap.size w6 v9 L) := g1; have G6 : Hid (Below w5.heap.size w5 w6) := g2; have C6 : Hid (Below w.heap.size w w6) := Below.tr' C5.out g2; clear g1 g2))
  have LY5 : Hid (D < w5.heap.size) := Nat.lt_of_lt_of_le LY.out (Nat.le_trans GU4.out.size G5.out.size)
  have RY6 : Hid (w6.rangeAt D 0 (bv y)) := range_below RY5.out G6.out LY5.out
  go_upto_region 9 with (first
    | (refine ld 23 (.tmp 3) rfl rfl D 0 rfl (bv y) _ RY6.out Tryd.underlying23 rfl (size_l32 HY.out) ?_)
    | (go_at_call 8; refine (HROP.out _ w6 (VW.out.below C6.out)).mono ?_; rintro e w8 ⟨v11, er11, rfl, g1, g2⟩; have O11 : Hid (NO w6.heap.size w8 v11 L) := g1; have G8 : Hid (Below w6.heap.size w6 w8) := g2; have C8 : Hid (Below w.heap.size w w8) := Below.tr' C6.out g2; clear g1 g2))
  have A9 : Hid (At0 w8 v9 L) := O9.out.at0.below G8.out
  have A11 : Hid (At0 w8 v11 L) := O11.out.at0
  have K9 : Hid (∀ b, v9.ownBlock = some b → w5.heap.size ≤ b) := fun b e => (O9.out.1.lt b e).1
  have K11 : Hid (∀ b, v11.ownBlock = some b → w6.heap.size ≤ b) := fun b e => (O11.out.1.lt b e).1
  have O78 : Hid (NO w4.heap.size w8 v7 L) := O7.out.below (Below.tr' G6.out G8.out)
  have K7 : Hid (∀ b, v7.ownBlock = some b → w4.heap.size ≤ b ∧ b < w5.heap.size) := fun b e => O7.out.1.lt b e
  have G48 : Hid (Below w4.heap.size w4 w8) := Below.tr' G5.out (Below.tr' G6.out G8.out)
  have G38 : Hid (Below w3.heap.size w3 w8) := Below.tr' G4.out G48.out
  have GU8 : Hid (Below U.heap.size U w8) := Below.tr' GU4.out G48.out
  obtain ⟨a7, c7, e7, hc7, -⟩ := id O7.out.ns
  obtain ⟨a9, c9, e9, hc9, -⟩ := id O9.out.ns
  obtain ⟨a11, c11, e11, -, -⟩ := id O11.out.ns
  rw [HNL.out] at e7 e9 e11
  subst e7
  subst e9
  subst e11
  clear hc7 hc9
  go_wp2_with fail
  go_loopw [51] (fun i wr => ∃ (k : Nat) (La : List Nd), k ≤ nL ∧ i = .int .i64 (k : Int) ∧ La.length = nL ∧ NO w4.heap.size wr (.slice a7 nL c7) La ∧ (∀ (j : Nat) (x : Nd), j < k → La[j]? = some x → x.n = -7) ∧ At0 wr (.slice a9 nL c9) L ∧ At0 wr (.slice a11 nL c11) L ∧ Below w4.heap.size w8 wr) (fun i _ => nL - (intOf i).toNat)
  case atStart => exact ⟨0, L, Nat.zero_le _, rfl, HNL.out, O78.out, fun j x h => by omega, A9.out, A11.out, Below.refl _ _⟩
  case round =>
    obtain ⟨k, La, hkl, rfl, hla, q1, q2, q3, q4, q5⟩ := hrel
    have OA : Hid (NO w4.heap.size wr (.slice a7 nL c7) La) := q1
    have A7 : Hid (∀ (j : Nat) (x : Nd), j < k → La[j]? = some x → x.n = -7) := q2
    have A9r : Hid (At0 wr (.slice a9 nL c9) L) := q3
    have A11r : Hid (At0 wr (.slice a11 nL c11) L) := q4
    have BR : Hid (Below w4.heap.size w8 wr) := q5
    have HLA : Hid (La.length = nL) := hla
    clear q1 q2 q3 q4 q5 hla
    by_cases hlt : k < nL
    · have HLT : Hid (k < nL) := hlt
      obtain ⟨x, hx⟩ : ∃ x, La[k]? = some x := ⟨La[k]'(by rw [HLA.out]; exact hlt), List.getElem?_eq_getElem (by rw [HLA.out]; exact hlt)⟩
      obtain ⟨g7, c7', e7, -⟩ := OA.out.sl (by intro e; rw [e] at hx; simp at hx)
      rw [HLA.out] at e7
      cases e7
      obtain ⟨c1, c2⟩ := OA.out.cell0 hx
      obtain ⟨s1, s2⟩ := OA.out.len1 hx (-7)
      have S1 : Hid (NO w4.heap.size (wr.setCell ⟨g7, k * 65, none⟩ (.int .i64 (-7))) (.slice (some ⟨g7, 0, none⟩) nL c7) (La.set k (sn (-7) x))) := s1
      have k7 := K7.out g7 rfl
      have S9 : Hid (At0 (wr.setCell ⟨g7, k * 65, none⟩ (.int .i64 (-7))) (.slice a9 nL c9) L) := A9r.out.far s2 (fun _ b hb e => by cases e; have := K9.out _ hb; omega)
      have S11 : Hid (At0 (wr.setCell ⟨g7, k * 65, none⟩ (.int .i64 (-7))) (.slice a11 nL c11) L) := A11r.out.far s2 (fun _ b hb e => by cases e; have := K11.out _ hb; have := G6.out.size; omega)
      have SB : Hid (Below w4.heap.size w8 (wr.setCell ⟨g7, k * 65, none⟩ (.int .i64 (-7)))) := BR.out.grown s2 (Nat.le_trans G48.out.size BR.out.size) (fun b e => by cases e; exact k7.1)
      have HXK : Hid (La[k]? = some x) := hx
      clear s1 s2 hx
      go_wp2_with fail
      refine ⟨⟨k + 1, La.set k (sn (-7) x), HLT.out, by go_num, by rw [List.length_set]; exact HLA.out, S1.out, fun j z hj hz => ?_, S9.out, S11.out, SB.out⟩, by have := HLT.out; simp [intOf]; omega⟩
      rw [List.getElem?_set] at hz
      by_cases e : k = j
      · subst e
        rw [if_pos rfl, if_pos (by rw [HLA.out]; exact HLT.out)] at hz
        cases hz; rfl
      · rw [if_neg e] at hz
        exact A7.out j z (by omega) hz
    · obtain rfl : k = nL := by omega
      have A77 : Hid (∀ x ∈ La, x.n = -7) := fun x hx => by
        obtain ⟨j, hj, rfl⟩ := List.getElem_of_mem hx
        exact A7.out j _ (by rw [HLA.out] at hj; exact hj) (List.getElem?_eq_getElem hj)
      go_wp2_with fail
      go_loopw [7, 59] (fun av i wr2 => ∃ (j : Nat) (Lb : List Nd), j ≤ 20 ∧ i = .int .i64 (j : Int) ∧ Lb.length = k + j ∧ NO w4.heap.size wr2 av Lb ∧ (∀ x ∈ Lb, x.n = -7) ∧ At0 wr2 (.slice a9 k c9) L ∧ At0 wr2 (.slice a11 k c11) L ∧ Below w4.heap.size w8 wr2) (fun _ i _ => 20 - (intOf i).toNat)
      case atStart => exact ⟨0, La, Nat.zero_le _, rfl, HLA.out, OA.out, A77.out, A9r.out, A11r.out, BR.out⟩
      case round =>
        obtain ⟨j, Lb, hjl, rfl, hlb, q1, q2, q3, q4, q5⟩ := hrel
        have OB : Hid (NO w4.heap.size wr u7 Lb) := q1
        have B7 : Hid (∀ x ∈ Lb, x.n = -7) := q2
        have A9b : Hid (At0 wr (.slice a9 k c9) L) := q3
        have A11b : Hid (At0 wr (.slice a11 k c11) L) := q4
        have BB : Hid (Below w4.heap.size w8 wr) := q5
        have HLB : Hid (Lb.length = k + j) := hlb
        clear q1 q2 q3 q4 q5 hlb
        by_cases hlt2 : j < 20
        · have HLT2 : Hid (j < 20) := hlt2
          have A9x : At0 (wr.alloc (.cells (nc n7).toArray 35)) (.slice a9 k c9) L := A9b.out.below ((Below.refl _ wr).alloc (Nat.le_refl _) _)
          have A11x : At0 (wr.alloc (.cells (nc n7).toArray 35)) (.slice a11 k c11) L := A11b.out.below ((Below.refl _ wr).alloc (Nat.le_refl _) _)
          have OBx : NO w4.heap.size (wr.alloc (.cells (nc n7).toArray 35)) u7 Lb := OB.out.alloc _
          have hLb : L ≠ [] → Lb ≠ [] := fun h e => by
            have h1 := HLB.out
            rw [e] at h1
            have h2 := List.length_pos_iff.2 h
            have h3 := HNL.out
            simp at h1
            omega
          obtain ⟨v3, w9, hr, h1, h2, h3⟩ := app_own OBx (m := [n7]) (fun z hz => by simp at hz; subst hz; exact HN7O.out) (ns_one wr n7 _) (by have := HLB.out; simp only [List.length_cons, List.length_nil]; omega)
          have HR9 : Hid ((Builtin.append_ #[31, 31] 31 #[u7, .slice (some ⟨wr.heap.size, 0, none⟩) 1 1]).run Tryd.prog (wr.alloc (.cells (nc n7).toArray 35)) = .ok v3 w9) := hr
          have O9' : Hid (NO w4.heap.size w9 v3 (Lb ++ [n7])) := h1
          have B9 : Hid (Below w4.heap.size w8 w9) := (BB.out.alloc (Nat.le_trans G48.out.size BB.out.size) _).trans h2
          have X9 : Hid (At0 w9 (.slice a9 k c9) L) := A9x.far h3 (fun hne b hb => A9x.ne OBx B7.out HL7.out hne (hLb hne) b hb)
          have X11 : Hid (At0 w9 (.slice a11 k c11) L) := A11x.far h3 (fun hne b hb => A11x.ne OBx B7.out HL7.out hne (hLb hne) b hb)
          clear hr h1 h2 h3 A9x A11x OBx hLb
          go_wp2_with (first
            | (refine wp_build1 35 (.const (.int .i64 (-7))) rfl rfl (.int .i64 (-7)) rfl _ (HN7B.out wr) ?_)
            | (refine wpList_onen rfl (.tmp 62) rfl n7 HN7O.out rfl ?_)
            | (at_builtin; refine wp_app_run rfl (.tmp 61) (.tmp 63) 31 rfl 31 rfl u7 (.slice (some ⟨wr.heap.size, 0, none⟩) 1 1) v3 w9 rfl rfl HR9.out ?_))
          refine ⟨⟨j + 1, Lb ++ [n7], HLT2.out, by go_num, by have := HLB.out; simp only [List.length_append, List.length_cons, List.length_nil]; omega, O9'.out, fun x hx => ?_, X9.out, X11.out, B9.out⟩, by have := HLT2.out; simp [intOf]; omega⟩
          rcases List.mem_append.1 hx with q | q
          · exact B7.out x q
          · simp at q; subst q; exact HN7N.out
        · have Cw : Hid (Below w.heap.size w wr) := C8.out.trans (BB.out.mono C4.out.size)
          have L5 : Hid (g5 < w4.heap.size) := Nat.lt_of_lt_of_le LT5.out G4.out.size
          have LD : Hid (D < w4.heap.size) := Nat.lt_of_lt_of_le LY.out GU4.out.size
          have RRw : Hid (∀ (i : Nat) (x : Lf), (ls ++ [l7])[i]? = some x → wr.rangeAt g5 (0 + i * 64) (lfc x)) := fun i x hi => range_low (range_below (RR5.out i x hi) G38.out LT5.out) BB.out L5.out
          have L5w : Hid (g5 < wr.heap.size) := Nat.lt_of_lt_of_le L5.out (Nat.le_trans G48.out.size BB.out.size)
          have RYw : Hid (wr.rangeAt D 0 (bv y)) := range_low (range_below RY.out GU8.out LY.out) BB.out LD.out
          have LDw : Hid (D < wr.heap.size) := Nat.lt_of_lt_of_le LD.out (Nat.le_trans G48.out.size BB.out.size)
          have HLM1 : Hid (L.length + [m7].length ≤ 3000000000000) := by show _ ≤ _; have := HLL.out; simp only [List.length_cons, List.length_nil]; omega
          go_upto_region 19 with (first
            | (go_at_call 9; refine (HCN.out _ wr A9b.out.ns).mono ?_; rintro e wa ⟨va, rfl, g1, g2⟩; have Oa : Hid (NO wr.heap.size wa va L) := g1; have Ga : Hid (Below wr.heap.size wr wa) := g2; clear g1 g2)
            | (refine wp_build1 35 (.const (.int .i64 77)) rfl rfl (.int .i64 77) rfl _ (HM7B.out wa) ?_)
            | (refine wpList_onen rfl (.tmp 68) rfl m7 HM7O.out rfl ?_)
            | (at_builtin; refine wp_appn rfl (.tmp 67) (.tmp 69) rfl rfl wr.heap.size va (.slice (some ⟨wa.heap.size, 0, none⟩) 1 1) L [m7] rfl rfl (Oa.out.alloc _) (fun z hz => by simp at hz; subst hz; exact HM7O.out) (ns_one wa m7 _) HLM1.out ?_; intro v14 w14 g1 g2; have O14 : Hid (NO wr.heap.size w14 v14 (L ++ [m7])) := g1; have G14 : Hid (Below wr.heap.size wr w14) := (Ga.out.alloc Ga.out.size _).trans g2; clear g1 g2))
          obtain ⟨g14, cp14, e14, hc14, lt14, rr14⟩ := O14.out.whole (by simp)
          obtain ⟨m14, hm14⟩ : ∃ m, (L ++ [m7]).length = m := ⟨_, rfl⟩
          have hmn14 : m14 = k + 1 := by rw [← hm14, ← HNL.out]; simp
          rw [hm14] at e14 hc14
          subst e14
          have hcn14 : k ≤ cp14 := by omega
          have hnm14 : k < m14 := by omega
          have RR14 : Hid (∀ (i : Nat) (x : Nd), (L ++ [m7])[i]? = some x → w14.rangeAt g14 (0 + i * 65) (nc x)) := rr14
          have LT14 : Hid (g14 < w14.heap.size) := lt14
          have VN : Hid (NS w14 (.slice (some ⟨g14, 0, none⟩) k cp14) L) := ns_first HNL.out hcn14 lt14 rr14
          have Cw14 : Hid (Below w.heap.size w w14) := Below.tr' Cw.out G14.out
          clear rr14 lt14 hm14 hmn14
          go_upto_region 21 with (first
            | (go_at_call 10; refine (HRT.out _ w14 VN.out Cw14.out).mono ?_; rintro e w15 ⟨rfl, g1⟩; have G15 : Hid (Below w14.heap.size w14 w15) := g1; have Cw15 : Hid (Below w.heap.size w w15) := Below.tr' Cw14.out g1; clear g1)
            | (go_at_call 11; refine (HOV.out _ w15 (VN.out.below G15.out) Cw15.out).mono ?_; rintro e wg ⟨rfl, g1⟩; have G16 : Hid (Below w14.heap.size w14 wg) := Below.tr' G15.out g1; have Cwg : Hid (Below w.heap.size w wg) := Below.tr' Cw15.out g1; clear g1))
          have Grg : Hid (Below wr.heap.size wr wg) := Below.tr' G14.out G16.out
          have RYg : Hid (wg.rangeAt D 0 (bv y)) := range_below RYw.out Grg.out LDw.out
          have LYg : Hid (D < wg.heap.size) := Nat.lt_of_lt_of_le LDw.out Grg.out.size
          have HFD : Hid (∀ W : World, Below wg.heap.size wg W → Calls Tryd.prog 12 #[.agg (bv z32).toArray, .slice (some ⟨g14, 0, none⟩) k cp14, .agg (bv y).toArray] W fun e' w' => e' = .returned (.tuple #[.agg (bv f1).toArray, .bool f2, .int .i64 f3]) ∧ Below W.heap.size W w') := fun W q => HFO.out _ W (VN.out.below (Below.tr' G16.out q)) (Below.tr' Cwg.out q)
          refine RU.wp_rgn' [] (tk21f a9 g14 m14 cp14 k c9 y f1 f2 f3) (fun _ => 0) (gΩ wg) (by kernel_rfl) (by kernel_rfl) (show Below wg.heap.size wg _ from (Below.refl _ _).drew) ?_ ?_
          · refine ⟨?_, ?_, ?_, ?_, ?_, ?_, ?_, trivial⟩
            · refine RU.ObT.pure rfl rfl rfl (fun a V hf hp ev he hc W => ?_)
              simp only [List.getElem_toArray, List.getElem_cons_succ, List.getElem_cons_zero, execOp, Option.map_some, Option.map_none]
              simp only [Sem.run_bind, List.map_toArray, List.map_nil, HB0.out W, Result.andThen_ok, Sem.run_pure]; rfl
            · refine RU.ObT.pure rfl rfl rfl (fun a V hf hp ev he hc W => ?_)
              have q14 : ev (.tmp 14) = .slice (some ⟨g14, 0, none⟩) m14 cp14 := (he (.tmp 14)).trans (hf 14 rfl)
              simp only [List.getElem_toArray, List.getElem_cons_succ, List.getElem_cons_zero, execOp, Option.map_some, Option.map_none]; rw [q14]
              first | (go_simp; done) | (go_simp; rfl) | rfl
            · refine RU.ObT.pure rfl rfl rfl (fun a V hf hp ev he hc W => ?_)
              have q9 : ev (.tmp 9) = .slice a9 k c9 := (he (.tmp 9)).trans (hf 9 rfl)
              simp only [List.getElem_toArray, List.getElem_cons_succ, List.getElem_cons_zero, execOp, Option.map_some, Option.map_none]; rw [q9]
              first | (go_simp; done) | (go_simp; rfl) | rfl
            · refine RU.ObT.pure rfl rfl rfl (fun a V hf hp ev he hc W => ?_)
              have q83 : ev (.tmp 83) = .slice a9 k c9 := (he (.tmp 83)).trans (hp 2 83 rfl)
              simp only [List.getElem_toArray, List.getElem_cons_succ, List.getElem_cons_zero, execOp, Option.map_some, Option.map_none]; simp only [resolve, invoke, builtin, Sem.run_bind, Sem.run_pure, Result.andThen_ok, List.map_toArray, List.map_cons, List.map_nil, q83]
              first | (go_simp; done) | (go_simp; rfl) | rfl
            · refine RU.ObT.pure rfl rfl rfl (fun a V hf hp ev he hc W => ?_)
              have q82 : ev (.tmp 82) = .slice (some ⟨g14, 0, none⟩) m14 cp14 := (he (.tmp 82)).trans (hp 1 82 rfl)
              have q84 : ev (.tmp 84) = .int .i64 (k : Int) := (he (.tmp 84)).trans (hp 3 84 rfl)
              simp only [List.getElem_toArray, List.getElem_cons_succ, List.getElem_cons_zero, execOp, Option.map_some, Option.map_none]; rw [q82, q84]
              have hk8 : (k : Int) ≤ (cp14 : Int) := by omega
              first | (go_simp; done) | (go_simp; rfl) | rfl
            · refine RU.ObT.silent rfl (fun a W k0 V hO hf hp hk => ?_)
              have hO' : Below wg.heap.size wg W := hO
              have q3 : a.eval (.tmp 3) = .pointer (some ⟨D, 0, none⟩) := hf 3 rfl
              exact RU.ob_op rfl (RU.wanted_none rfl) (wp_load_mid 23 (.tmp 3) rfl (D) (0) q3 (bv y) _ (range_below RYg.out hO' LYg.out) Tryd.underlying23 rfl (size_l32 HY.out) ⟨rfl, hO⟩)
            · refine RU.ObT.silent rfl (fun a W k0 V hO hf hp hk => ?_)
              have hO' : Below wg.heap.size wg W := hO
              have e81 : a.eval (.tmp 81) = .agg (bv z32).toArray := hp 0 81 rfl
              have e85 : a.eval (.tmp 85) = .slice (some ⟨g14, 0, none⟩) k cp14 := hp 4 85 rfl
              have e86 : a.eval (.tmp 86) = .agg (bv y).toArray := hp 5 86 rfl
              refine RU.ob_call (g := 12) (args := #[.agg (bv z32).toArray, .slice (some ⟨g14, 0, none⟩) k cp14, .agg (bv y).toArray]) rfl (RU.wanted_none rfl) (fun ev he hc => ?_) ((HFD.out W hO').mono ?_)
              · have h81 := (he (.tmp 81)).trans e81
                have h85 := (he (.tmp 85)).trans e85
                have h86 := (he (.tmp 86)).trans e86
                have hfn := he (.func 12)
                simp only [List.getElem_toArray, List.getElem_cons_succ, List.getElem_cons_zero, execOp, Option.map_some, Option.map_none]
                simp only [resolve, invoke, Sem.run_bind, Sem.run_pure, Result.andThen_ok, List.map_toArray, List.map_cons, List.map_nil, h81, h85, h86, hfn, Act.eval, hc]
                rfl
              · rintro e' W9 ⟨rfl, hb2⟩
                exact ⟨_, rfl, rfl, (hO'.trans (hb2.mono hO'.size) : Below wg.heap.size wg W9)⟩
          intro W1 VW1 hOW1
          have BW1 : Hid (Below wg.heap.size wg W1) := hOW1
          clear hOW1
          simp only [RU.lay, RU.val, RU.at', tk21f, Act.put]
          simp only [List.setIfInBounds_toArray, List.set_cons_succ, List.set_cons_zero]
          have Gr1 : Hid (Below wr.heap.size wr W1) := Below.tr' Grg.out BW1.out
          have G141 : Hid (Below w14.heap.size w14 W1) := Below.tr' G16.out BW1.out
          have R77 : W1.rangeAt g5 (n * 64) (lfc l7) := by have := range_below (RRw.out n l7 (by rw [← HN.out]; simp)) Gr1.out L5w.out; rwa [Nat.zero_add] at this
          have c77 : W1.cell? ⟨g5, n * 64 + 32, none⟩ = some (.int .u8 77) := R77 32 _ HL70'.out
          have R14' : W1.rangeAt g14 (k * 65) (nc m7) := by have := range_below (RR14.out k m7 (by rw [← HNL.out]; simp)) G141.out LT14.out; rwa [Nat.zero_add] at this
          have c14 : W1.cell? ⟨g14, k * 65, none⟩ = some (.int .i64 77) := by have := R14' 0 _ rfl; rw [HM7N.out] at this; exact this
          have hz5 : (n : Int) < (m5 : Int) := by omega
          have hz14 : (k : Int) < (m14 : Int) := by omega
          have N1x : Hid (NS W1 (.slice (some ⟨g14, 0, none⟩) k cp14) L) := VN.out.below G141.out
          have N11x : Hid (NS W1 (.slice a11 k c11) L) := A11b.out.ns.below Gr1.out
          clear R77 R14'
          go_wp2_with (go_at_call 13; refine (HSM.out _ _ W1 N1x.out N11x.out).mono ?_; rintro e w18 ⟨rfl, g1⟩; have G18 : Hid (Below wr.heap.size wr w18) := Below.tr' Gr1.out g1; clear g1)
          have RR18 : Hid (∀ (i : Nat) (x : Lf), (ls ++ [l7])[i]? = some x → w18.rangeAt g5 (0 + i * 64) (lfc x)) := fun i x hi => range_below (RRw.out i x hi) G18.out L5w.out
          have L518 : Hid (g5 < w18.heap.size) := Nat.lt_of_lt_of_le L5w.out G18.out.size
          have C18 : Hid (Below w.heap.size w w18) := Below.tr' Cw.out G18.out
          have N9e : Hid (NS w18 (.slice a9 k c9) L) := A9b.out.ns.below G18.out
          have N11e : Hid (NS w18 (.slice a11 k c11) L) := A11b.out.ns.below G18.out
          clear c77 c14
          go_loopw [15, 115] (fun kv i wx => ∃ t : Nat, t ≤ n ∧ kv = .bool true ∧ i = .int .i64 (t : Int) ∧ Below w18.heap.size w18 wx) (fun _ i _ => n - (intOf i).toNat)
          case atStart => exact ⟨0, Nat.zero_le _, rfl, rfl, Below.refl _ _⟩
          case round =>
            obtain ⟨t, htl, rfl, rfl, h4⟩ := hrel
            have H4 : Hid (Below w18.heap.size w18 wr) := h4
            clear h4
            by_cases hlt3 : t < n
            · have HLT : Hid (t < n) := hlt3
              obtain ⟨x, hx⟩ : ∃ x, ls[t]? = some x := ⟨ls[t]'(by rw [HN.out]; exact hlt3), List.getElem?_eq_getElem (by rw [HN.out]; exact hlt3)⟩
              have HX : Hid x.Ok := HK.out x (List.mem_of_getElem? hx)
              rcases HXX.out with ⟨h0, _⟩ | ⟨b, o, rfl, hlb, hm⟩
              · rw [h0] at hx; simp at hx
              · have Ce : Hid (Below w.heap.size w wr) := Below.tr' C18.out H4.out
                have RB : Hid (wr.rangeAt b (o + t * 64) (lfc x)) := range_below (hm t x hx) Ce.out hlb
                have LB : Hid (b < wr.heap.size) := Nat.lt_of_lt_of_le hlb Ce.out.size
                have RA : Hid (wr.rangeAt g5 (t * 64) (lfc x)) := by rw [← Nat.zero_add (t * 64)]; exact range_below (RR18.out t x (by rw [List.getElem?_append_left (List.getElem?_eq_some_iff.1 hx).1]; exact hx)) H4.out L518.out
                have LA : Hid (g5 < wr.heap.size) := Nat.lt_of_lt_of_le L518.out H4.out.size
                clear hm hlb hx
                go_upto_region 26 with (fail)
                refine RU.wp_rgn' [] (tk26f g5 b o n cp5 cap t x) (fun _ => 0) (gΩ wr) (by kernel_rfl) (by kernel_rfl) (show Below wr.heap.size wr _ from (Below.refl _ _).drew) ?_ ?_
                · refine ⟨?_, ?_, ?_, ?_, ?_, ?_, ?_, ?_, ?_, ?_, ?_, ?_, ?_, trivial⟩
                  · refine RU.ObT.pure rfl rfl rfl (fun a V hf hp ev he hc W => ?_)
                    have q15 : ev (.tmp 15) = .bool true := (he (.tmp 15)).trans (hf 15 rfl)
                    simp only [List.getElem_toArray, List.getElem_cons_succ, List.getElem_cons_zero, execOp, Option.map_some, Option.map_none]; rw [q15]
                    first | (go_simp; done) | (go_simp; rfl) | rfl
                  · refine RU.ObT.pure rfl rfl rfl (fun a V hf hp ev he hc W => ?_)
                    have q118 : ev (.tmp 118) = .bool true := (he (.tmp 118)).trans (hp 0 118 rfl)
                    simp only [List.getElem_toArray, List.getElem_cons_succ, List.getElem_cons_zero, execOp, Option.map_some, Option.map_none]; rw [q118]
                    first | (go_simp; done) | (go_simp; rfl) | rfl
                  · refine RU.ObT.silent rfl (fun a W k0 V hO hf hp hk => ?_)
                    have hg : a.eval (.tmp 119) = .bool true := hp 1 119 rfl
                    refine RU.ob_val rfl (RU.wanted_some rfl rfl rfl hg) (fun ev he hc => ?_) ⟨rfl, hO⟩
                    have q6 : ev (.tmp 6) = .slice (some ⟨g5, 0, none⟩) n cp5 := (he (.tmp 6)).trans (hf 6 rfl)
                    simp only [List.getElem_toArray, List.getElem_cons_succ, List.getElem_cons_zero, execOp, Option.map_some, Option.map_none]; rw [q6]
                    first | (go_simp; done) | (go_simp; rfl) | rfl
                  · refine RU.ObT.silent rfl (fun a W k0 V hO hf hp hk => ?_)
                    have hg : a.eval (.tmp 119) = .bool true := hp 1 119 rfl
                    refine RU.ob_val rfl (RU.wanted_some rfl rfl rfl hg) (fun ev he hc => ?_) ⟨rfl, hO⟩
                    have q16 : ev (.tmp 16) = .int .i64 (t : Int) := (he (.tmp 16)).trans (hf 16 rfl)
                    simp only [List.getElem_toArray, List.getElem_cons_succ, List.getElem_cons_zero, execOp, Option.map_some, Option.map_none]; rw [q16]
                    first | (go_simp; done) | (go_simp; rfl) | rfl
                  · refine RU.ObT.silent rfl (fun a W k0 V hO hf hp hk => ?_)
                    have hg : a.eval (.tmp 119) = .bool true := hp 1 119 rfl
                    refine RU.ob_val rfl (RU.wanted_some rfl rfl rfl hg) (fun ev he hc => ?_) ⟨rfl, hO⟩
                    have q120 : ev (.tmp 120) = .slice (some ⟨g5, 0, none⟩) n cp5 := (he (.tmp 120)).trans (hp 2 120 rfl)
                    have q121 : ev (.tmp 121) = .int .i64 (t : Int) := (he (.tmp 121)).trans (hp 3 121 rfl)
                    simp only [List.getElem_toArray, List.getElem_cons_succ, List.getElem_cons_zero, execOp, Option.map_some, Option.map_none]; rw [q120, q121]
                    have hk9 : (t : Int) < (n : Int) := by have := HLT.out; omega
                    first | (go_simp; done) | (go_simp; rfl) | rfl
                  · refine RU.ObT.silent rfl (fun a W k0 V hO hf hp hk => ?_)
                    have hg : a.eval (.tmp 119) = .bool true := hp 1 119 rfl
                    have hO' : Below wr.heap.size wr W := hO
                    have q122 : a.eval (.tmp 122) = .pointer (some ⟨g5, t * 64, none⟩) := hp 4 122 rfl
                    exact RU.ob_op rfl (RU.wanted_some rfl rfl rfl hg) (wp_load_mid 27 (.tmp 122) rfl (g5) (t * 64) q122 (lfc x) _ (range_below RA.out hO' LA.out) Tryd.underlying27 rfl (size_lfc HX.out) ⟨rfl, hO⟩)
                  · refine RU.ObT.silent rfl (fun a W k0 V hO hf hp hk => ?_)
                    have hg : a.eval (.tmp 119) = .bool true := hp 1 119 rfl
                    refine RU.ob_val rfl (RU.wanted_some rfl rfl rfl hg) (fun ev he hc => ?_) ⟨rfl, hO⟩
                    have q0 : ev (.tmp 0) = .slice (some ⟨b, o, none⟩) n cap := (he (.tmp 0)).trans (hf 0 rfl)
                    simp only [List.getElem_toArray, List.getElem_cons_succ, List.getElem_cons_zero, execOp, Option.map_some, Option.map_none]; rw [q0]
                    first | (go_simp; done) | (go_simp; rfl) | rfl
                  · refine RU.ObT.silent rfl (fun a W k0 V hO hf hp hk => ?_)
                    have hg : a.eval (.tmp 119) = .bool true := hp 1 119 rfl
                    refine RU.ob_val rfl (RU.wanted_some rfl rfl rfl hg) (fun ev he hc => ?_) ⟨rfl, hO⟩
                    have q16 : ev (.tmp 16) = .int .i64 (t : Int) := (he (.tmp 16)).trans (hf 16 rfl)
                    simp only [List.getElem_toArray, List.getElem_cons_succ, List.getElem_cons_zero, execOp, Option.map_some, Option.map_none]; rw [q16]
                    first | (go_simp; done) | (go_simp; rfl) | rfl
                  · refine RU.ObT.silent rfl (fun a W k0 V hO hf hp hk => ?_)
                    have hg : a.eval (.tmp 119) = .bool true := hp 1 119 rfl
                    refine RU.ob_val rfl (RU.wanted_some rfl rfl rfl hg) (fun ev he hc => ?_) ⟨rfl, hO⟩
                    have q124 : ev (.tmp 124) = .slice (some ⟨b, o, none⟩) n cap := (he (.tmp 124)).trans (hp 6 124 rfl)
                    have q125 : ev (.tmp 125) = .int .i64 (t : Int) := (he (.tmp 125)).trans (hp 7 125 rfl)
                    simp only [List.getElem_toArray, List.getElem_cons_succ, List.getElem_cons_zero, execOp, Option.map_some, Option.map_none]; rw [q124, q125]
                    have hk9 : (t : Int) < (n : Int) := by have := HLT.out; omega
                    first | (go_simp; done) | (go_simp; rfl) | rfl
                  · refine RU.ObT.silent rfl (fun a W k0 V hO hf hp hk => ?_)
                    have hg : a.eval (.tmp 119) = .bool true := hp 1 119 rfl
                    have hO' : Below wr.heap.size wr W := hO
                    have q126 : a.eval (.tmp 126) = .pointer (some ⟨b, o + t * 64, none⟩) := hp 8 126 rfl
                    exact RU.ob_op rfl (RU.wanted_some rfl rfl rfl hg) (wp_load_mid 27 (.tmp 126) rfl (b) (o + t * 64) q126 (lfc x) _ (range_below RB.out hO' LB.out) Tryd.underlying27 rfl (size_lfc HX.out) ⟨rfl, hO⟩)
                  · refine RU.ObT.silent rfl (fun a W k0 V hO hf hp hk => ?_)
                    have hg : a.eval (.tmp 119) = .bool true := hp 1 119 rfl
                    refine RU.ob_val rfl (RU.wanted_some rfl rfl rfl hg) (fun ev he hc => ?_) ⟨rfl, hO⟩
                    have q123 : ev (.tmp 123) = .agg (lfc x).toArray := (he (.tmp 123)).trans (hp 5 123 rfl)
                    have q127 : ev (.tmp 127) = .agg (lfc x).toArray := (he (.tmp 127)).trans (hp 9 127 rfl)
                    simp only [List.getElem_toArray, List.getElem_cons_succ, List.getElem_cons_zero, execOp, Option.map_some, Option.map_none]; rw [q123, q127]
                    simp only [Sem.run_bind, eqg_lf, eql_lf HX.out W, Result.andThen_ok, Sem.run_pure]; rfl
                  · refine RU.ObT.pure rfl rfl rfl (fun a V hf hp ev he hc W => ?_)
                    have q119 : ev (.tmp 119) = .bool true := (he (.tmp 119)).trans (hp 1 119 rfl)
                    have q128 : ev (.tmp 128) = .bool true := (he (.tmp 128)).trans (hp 10 128 rfl)
                    simp only [List.getElem_toArray, List.getElem_cons_succ, List.getElem_cons_zero, execOp, Option.map_some, Option.map_none]; rw [q119, q128]
                    try simp only [hc]
                    first | (go_simp; done) | (go_simp; rfl) | rfl
                  · refine RU.ObT.pure rfl rfl rfl (fun a V hf hp ev he hc W => ?_)
                    have q129 : ev (.tmp 129) = .bool true := (he (.tmp 129)).trans (hp 11 129 rfl)
                    simp only [List.getElem_toArray, List.getElem_cons_succ, List.getElem_cons_zero, execOp, Option.map_some, Option.map_none]; rw [q129]
                    first | (go_simp; done) | (go_simp; rfl) | rfl
                intro W1 VW1 hOW1
                have BW1 : Hid (Below wr.heap.size wr W1) := hOW1
                clear hOW1
                simp only [RU.lay, RU.val, RU.at', tk26f, Act.put]
                simp only [List.setIfInBounds_toArray, List.set_cons_succ, List.set_cons_zero]
                go_wp2_with fail
                exact ⟨⟨t + 1, HLT.out, rfl, by go_num, H4.out.trans (BW1.out.mono H4.out.size)⟩, by have := HLT.out; simp [intOf]; omega⟩
            · go_wp2_with (go_at_call 13; refine (HSM.out _ _ wr (N9e.out.below H4.out) (N11e.out.below H4.out)).mono ?_; rintro e w19 ⟨rfl, g1⟩; have C19 : Hid (Below w.heap.size w w19) := Below.tr' (Below.tr' C18.out H4.out) g1; clear g1)
              go_ret
              exact ⟨rfl, C19.out⟩
end Go.Proofs.YtkeobajlikhghabDoor
