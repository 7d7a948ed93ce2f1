/- Byte strings joined: slices.Grow, slices.Concat, and the reference's Join. -/
import Derived.Test.YtmaehekekkfpmaaDoorWirA
import Derived.Lib.AppendZeros
set_option linter.unusedSimpArgs false
set_option linter.unusedVariables false
namespace Go.Proofs.YtmaehekekkfpmaaDoor.Wi
open Go Go.RowKit
set_option maxRecDepth 100000
def jo (xss : List (List Int)) : Nat → List Int
  | 0 => []
  | k + 1 => jo xss k ++ mi xss k
theorem jo_mono (xss : List (List Int)) {j : Nat} : ∀ k, j ≤ k → (jo xss j).length ≤ (jo xss k).length
  | 0, h => by obtain rfl : j = 0 := by omega
               exact Nat.le_refl _
  | k + 1, h => by
    by_cases e : j = k + 1
    · subst e; exact Nat.le_refl _
    · have := jo_mono xss k (show j ≤ k by omega); simp only [jo, List.length_append]; omega
def joA (xss : List (List Int)) : List Int := jo xss xss.length
theorem mi_byt {xss : List (List Int)} (h : ∀ m ∈ xss, Byt m) (k : Nat) : Byt (mi xss k) := by
  by_cases hk : k < xss.length
  · rw [mi_get hk]; exact h _ (List.getElem_mem hk)
  · unfold mi; rw [List.getD_eq_getElem?_getD, List.getElem?_eq_none (by omega)]; exact Byt.nil
theorem jo_byt {xss : List (List Int)} (h : ∀ m ∈ xss, Byt m) : ∀ k, Byt (jo xss k)
  | 0 => Byt.nil
  | k + 1 => (jo_byt h k).append (mi_byt h k)
theorem zeros_own (w : World) (n : Nat) (h0 : 0 < n) (hn : n ≤ 140737488355328) :
    ∃ cap w', (Builtin.append_ #[32, 3] 32 #[.slice none 0 0, .int .i64 (n : Int)]).run Tryd.prog w = .ok (.slice (some ⟨w.heap.size, 0, none⟩) n cap) w' ∧ Ow w.heap.size w' (.slice (some ⟨w.heap.size, 0, none⟩) 0 cap) [] ∧ Below w.heap.size w w' := by
  obtain ⟨i, hi, hz, hs, hb⟩ := info_u8
  have hr := Lib.run_append_nil_zeros (P := Tryd.prog) w 32 3 32 5 i (.int .u8 0) .i64 .i64 Tryd.underlying32 Tryd.underlying3 hi hz n h0 (by rw [hs]; omega) (by omega) (by rw [hb]; omega)
  have hge : n ≤ grownCap w n 0 5 := grownCap_ge _ _ _ _
  have hcm : grownCap w n 0 5 ≤ maxLen := grownCap_le_maxLen w n 0 _ (by unfold maxLen; omega)
  have hh : (w.drew.alloc (.cells (Builtin.zeroCells (Value.int .u8 0).cells n ++ Builtin.zeroCells (Value.int .u8 0).cells (grownCap w n 0 5 - n)) 5)).heap[w.heap.size]? = some (.cells (Builtin.zeroCells (Value.int .u8 0).cells n ++ Builtin.zeroCells (Value.int .u8 0).cells (grownCap w n 0 5 - n)) 5 (0, 0)) := by
    show (w.heap.push _)[w.heap.size]? = _; simp
  have hbl : Below w.heap.size w (w.drew.alloc (.cells (Builtin.zeroCells (Value.int .u8 0).cells n ++ Builtin.zeroCells (Value.int .u8 0).cells (grownCap w n 0 5 - n)) 5)) := ((Below.refl _ w).drew).alloc (Nat.le_refl _) _
  have hzc : ∀ m, (Builtin.zeroCells (Value.int .u8 0).cells m).size = m := fun m => by simp [Builtin.zeroCells, show (Value.int .u8 0).cells.size = 1 from rfl]
  refine ⟨_, _, hr, ⟨rfl, .inr ⟨w.heap.size, _, _, rfl, Nat.le_refl _, hh, Nat.zero_le _, hcm, ?_, rfl⟩⟩, hbl⟩
  rw [Array.size_append, hzc, hzc]; omega
set_option maxHeartbeats 2000000 in
theorem Grow_any (n : Nat) (hn : n ≤ 140737488355328) (w : World) :
    Calls Tryd.prog 33 #[.slice none 0 0, .int .i64 (n : Int)] w fun e w' => ∃ v', e = .returned v' ∧ Ow w.heap.size w' v' [] ∧ Below w.heap.size w w' := by
  by_cases h0 : n = 0
  · subst h0
    go_enter Tryd.func33, Tryd.ntmps33
    go_wp2_with fail
    go_ret
    exact ⟨_, rfl, Ow.nil _ _, Below.refl _ _⟩
  · obtain ⟨cap, w1, hr, h1, h2⟩ := zeros_own w n (by omega) hn
    have O1 : Hid (Ow w.heap.size w1 (.slice (some ⟨w.heap.size, 0, none⟩) 0 cap) []) := h1
    have B1 : Hid (Below w.heap.size w w1) := h2
    have HR : Hid ((Builtin.append_ #[32, 3] 32 #[.slice none 0 0, .int .i64 (n : Int)]).run Tryd.prog w = .ok (.slice (some ⟨w.heap.size, 0, none⟩) n cap) w1) := hr
    have hneg : ¬ ((n : Int) < 0) := by omega
    have hpos : (0 : Int) < (n : Int) := by omega
    clear h1 h2 hr
    go_enter Tryd.func33, Tryd.ntmps33
    go_wp2_with (at_builtin; refine Lib.wpList_append_run _ rfl (.tmp 20) (.tmp 21) 32 3 rfl (.slice none 0 0) (.int .i64 (n : Int)) rfl rfl _ w1 HR.out ?_)
    go_ret
    exact ⟨_, rfl, O1.out, B1.out⟩
set_option maxHeartbeats 4000000 in
theorem Concat_any (xss : List (List Int)) (J : List Int) (hJ : joA xss = J) (v : Value) (w : World) (hs : LL w v xss) (hL : J.length ≤ 140737488355328) (hn : xss.length ≤ 1000) :
    Calls Tryd.prog 14 #[v] w fun e w' => ∃ v', e = .returned v' ∧ Ow w.heap.size w' v' J ∧ Below w.heap.size w w' := by
  obtain ⟨ad, cap, rfl, hc, hx⟩ := hs
  have HX : Hid (xss = [] ∧ (ad = none → cap = 0) ∨ ∃ b o, ad = some ⟨b, o, none⟩ ∧ b < w.heap.size ∧ ∀ i, i < xss.length → ∃ u, w.cell? ⟨b, o + i, none⟩ = some u ∧ Sl w u (mi xss i)) := hx
  have HJ : Hid (jo xss xss.length = J) := hJ
  have HB : Hid (∀ k, k ≤ xss.length → (jo xss k).length ≤ 140737488355328) := fun k hk => Nat.le_trans (jo_mono xss _ hk) (by rw [show jo xss xss.length = J from hJ]; exact hL)
  have HGR : Hid (∀ (m : Nat) (W : World), m ≤ 140737488355328 → Calls Tryd.prog 33 #[.slice none 0 0, .int .i64 (m : Int)] W fun e w' => ∃ v', e = .returned v' ∧ Ow W.heap.size w' v' [] ∧ Below W.heap.size W w') := fun m W h => Grow_any m h W
  obtain ⟨n, hn'⟩ : ∃ n, xss.length = n := ⟨_, rfl⟩
  have HN : Hid (xss.length = n) := hn'
  rw [hn'] at hn hc ⊢
  clear hx hL hJ hn'
  go_enter Tryd.func14, Tryd.ntmps14
  go_wp2_with fail
  go_loopw [3, 11] (fun sv i wr => ∃ k : Nat, k ≤ n ∧ i = .int .i64 (k : Int) ∧ sv = .int .i64 (((jo xss k).length : Nat) : Int) ∧ wr = w) (fun _ i _ => n - (intOf i).toNat)
  case atStart => exact ⟨0, Nat.zero_le _, rfl, rfl, rfl⟩
  case round =>
    obtain ⟨k, hkn, rfl, rfl, rfl⟩ := hrel
    by_cases hlt : k < n
    · have HLT : Hid (k < n) := hlt
      rcases HX.out with ⟨rfl, _⟩ | ⟨b, o, rfl, hlb, hm⟩
      · have := HN.out; simp at this; omega
      · obtain ⟨u, c1, hu⟩ := hm k (by rw [HN.out]; exact hlt)
        obtain ⟨ua, uc, hue, -, -⟩ := hu
        obtain ⟨ul, hul⟩ : ∃ m, (mi xss k).length = m := ⟨_, rfl⟩
        obtain ⟨t, ht⟩ : ∃ t, (jo xss k).length = t := ⟨_, rfl⟩
        have HT1 : Hid ((jo xss (k + 1)).length = t + ul) := by show _ = _; rw [jo, List.length_append, ht, hul]
        have hb9 : t + ul ≤ 140737488355328 := by have h1 := HB.out (k + 1) (by rw [HN.out]; exact hlt); have h3 := HT1.out; omega
        have hng : ¬ ((t : Int) + (ul : Int) < 0) := by omega
        rw [hul] at hue
        rw [hue] at c1
        rw [ht]
        clear hm hlb hue hul ht
        go_wp2_with fail
        exact ⟨⟨k + 1, HLT.out, by go_num, by rw [HT1.out]; go_num, trivial⟩, by have := HLT.out; simp [intOf]; omega⟩
    · obtain rfl : k = n := by omega
      have ht9 : J.length ≤ 140737488355328 := by rw [← HJ.out]; exact HB.out _ (Nat.le_refl _)
      obtain ⟨t, ht⟩ : ∃ t, J.length = t := ⟨_, rfl⟩
      rw [ht] at ht9
      have eT : (jo xss k).length = t := by rw [← HN.out, HJ.out]; exact ht
      have HG : Hid (Calls Tryd.prog 33 #[.slice none 0 0, .int .i64 (t : Int)] wr fun e w' => ∃ v', e = .returned v' ∧ Ow wr.heap.size w' v' [] ∧ Below wr.heap.size wr w') := HGR.out t wr ht9
      rw [eT]
      clear eT ht
      go_wp2_with (go_at_call 33; refine HG.out.mono ?_; rintro e w1 ⟨v1, rfl, g1, g2⟩; have O1 : Hid (Ow wr.heap.size w1 v1 []) := g1; have B1 : Hid (Below wr.heap.size wr w1) := g2; clear g1 g2)
      obtain ⟨W0, hW0⟩ : ∃ W, wr = W := ⟨_, rfl⟩
      rw [hW0] at HX O1 B1
      clear HGR HG
      go_loopw [6, 27] (fun av i wx => ∃ j : Nat, j ≤ k ∧ i = .int .i64 (j : Int) ∧ Ow W0.heap.size wx av (jo xss j) ∧ Below W0.heap.size W0 wx) (fun _ i _ => k - (intOf i).toNat)
      case atStart => exact ⟨0, Nat.zero_le _, rfl, O1.out, B1.out⟩
      case round =>
        obtain ⟨j, hjn, rfl, q1, q2⟩ := hrel
        have O2 : Hid (Ow W0.heap.size wr u6 (jo xss j)) := q1
        have B2 : Hid (Below W0.heap.size W0 wr) := q2
        clear q1 q2
        by_cases hlt : j < k
        · have HLT : Hid (j < k) := hlt
          rcases HX.out with ⟨rfl, _⟩ | ⟨b, o, rfl, hlb, hm⟩
          · have := HN.out; simp at this; omega
          · obtain ⟨u, c1, hu⟩ := hm j (by rw [HN.out]; exact hlt)
            have c3 : wr.cell? ⟨b, o + j, none⟩ = some u := (B2.out.cell (p := ⟨b, o + j, none⟩) hlb).trans c1
            have HS : Hid (Sl wr u (mi xss j)) := hu.below B2.out (Nat.le_refl _)
            have HLK : Hid ((jo xss j).length + (mi xss j).length ≤ 140737488355328) := by
              have h1 := HB.out (j + 1) (by rw [HN.out]; exact hlt)
              rw [jo, List.length_append] at h1
              exact h1
            obtain ⟨ua, uc, hue, -, -⟩ := hu
            obtain ⟨ul, hul⟩ : ∃ m, (mi xss j).length = m := ⟨_, rfl⟩
            rw [hul] at hue
            subst hue
            clear hm c1 hlb hul hW0
            go_wp2_with (at_builtin; refine app_u8 (B0 := W0.heap.size) rfl (.tmp 31) (.tmp 32) rfl B2.out.size u6 (jo xss j) rfl O2.out _ rfl (mi xss j) HS.out HLK.out ?_; intro v3 w3 g1 g2 g3 g4; have O3 : Hid (Ow W0.heap.size w3 v3 (jo xss (j + 1))) := g1; have B3 : Hid (Below W0.heap.size W0 w3) := B2.out.trans g3; clear g1 g2 g3 g4)
            exact ⟨⟨j + 1, HLT.out, by go_num, O3.out, B3.out⟩, by have := HLT.out; simp [intOf]; omega⟩
        · obtain rfl : j = k := by omega
          have O3 : Hid (Ow W0.heap.size wr u6 J) := by have := O2.out; rw [← HN.out, HJ.out] at this; exact this
          go_wp2_with fail
          go_ret
          subst hW0
          exact ⟨_, rfl, O3.out, B2.out⟩
end Go.Proofs.YtmaehekekkfpmaaDoor.Wi
