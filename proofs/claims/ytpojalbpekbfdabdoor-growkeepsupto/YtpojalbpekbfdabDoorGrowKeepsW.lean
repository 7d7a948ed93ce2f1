/- The walk of GrowKeeps. -/
import Derived.Test.YtpojalbpekbfdabDoorTroD
import Derived.Test.YtpojalbpekbfdabDoorGrnG
namespace Go.Proofs.YtpojalbpekbfdabDoor
open Go Go.RowKit
set_option linter.unusedSimpArgs false
set_option linter.unusedVariables false
set_option maxRecDepth 100000

theorem range_low {B : Nat} {w w' : World} {b o : Nat} {cs : List Value} (h : w.rangeAt b o cs) (hb : Below B w w') (hlt : b < B) : w'.rangeAt b o cs := fun j v hj => (hb.cell (p := ⟨b, o + j, none⟩) hlt).trans (h j v hj)
theorem ls_first {w : World} {g n cp : Nat} {ls : List Lf} {x : Lf} (hn : ls.length = n) (hc : n ≤ cp) (hlt : g < w.heap.size) (hr : ∀ (i : Nat) (z : Lf), (ls ++ [x])[i]? = some z → w.rangeAt g (0 + i * 64) (lfc z)) : LS w (.slice (some ⟨g, 0, none⟩) n cp) ls :=
  ⟨_, cp, by rw [hn], by rw [hn]; exact hc, .inr ⟨g, 0, rfl, hlt, fun i z hi => hr i z (by rw [List.getElem?_append_left (List.getElem?_eq_some_iff.1 hi).1]; exact hi)⟩⟩
theorem ns_first {w : World} {g n cp : Nat} {ls : List Nd} {x : Nd} (hn : ls.length = n) (hc : n ≤ cp) (hlt : g < w.heap.size) (hr : ∀ (i : Nat) (z : Nd), (ls ++ [x])[i]? = some z → w.rangeAt g (0 + i * 65) (nc z)) : NS w (.slice (some ⟨g, 0, none⟩) n cp) ls :=
  ⟨_, cp, by rw [hn], by rw [hn]; exact hc, .inr ⟨g, 0, rfl, hlt, fun i z hi => hr i z (by rw [List.getElem?_append_left (List.getElem?_eq_some_iff.1 hi).1]; exact hi)⟩⟩
theorem LO.whole {B : Nat} {w : World} {v : Value} {l : List Lf} (h : LO B w v l) (hne : l ≠ []) : ∃ g cap, v = .slice (some ⟨g, 0, none⟩) l.length cap ∧ l.length ≤ cap ∧ g < w.heap.size ∧ ∀ (i : Nat) (x : Lf), l[i]? = some x → w.rangeAt g (0 + i * 64) (lfc x) := by
  obtain ⟨ad, cap, rfl, hc, hx⟩ := h.ls
  obtain ⟨-, ⟨e, h0⟩ | ⟨g, cap', cur, e, -, hg, -⟩⟩ := h.1
  · exact absurd (List.length_eq_zero_iff.1 h0) hne
  · rcases hx with ⟨h0, _⟩ | ⟨b, o, rfl, hlt, hm⟩
    · exact absurd h0 hne
    · cases e
      exact ⟨_, cap, rfl, hc, hlt, hm⟩
theorem NO.whole {B : Nat} {w : World} {v : Value} {l : List Nd} (h : NO B w v l) (hne : l ≠ []) : ∃ g cap, v = .slice (some ⟨g, 0, none⟩) l.length cap ∧ l.length ≤ cap ∧ g < w.heap.size ∧ ∀ (i : Nat) (x : Nd), l[i]? = some x → w.rangeAt g (0 + i * 65) (nc x) := by
  obtain ⟨ad, cap, rfl, hc, hx⟩ := h.ns
  obtain ⟨-, ⟨e, h0⟩ | ⟨g, cap', cur, e, -, hg, -⟩⟩ := h.1
  · exact absurd (List.length_eq_zero_iff.1 h0) hne
  · rcases hx with ⟨h0, _⟩ | ⟨b, o, rfl, hlt, hm⟩
    · exact absurd h0 hne
    · cases e
      exact ⟨_, cap, rfl, hc, hlt, hm⟩
def s78 : List Int := 78 :: List.replicate 31 0
theorem s78_l32 : L32 s78 := ⟨by simp [s78], fun z hz => by
  simp only [s78, List.mem_cons, List.mem_replicate] at hz
  omega⟩
theorem build_78 (w : World) : (Instr.build 25 #[(0, .int .u8 78)]).run Tryd.prog w = .ok (.agg (bv s78).toArray) w := by kernel_rfl
theorem build_l78 (w : World) : (Instr.build 27 #[(1, .agg (bv s78).toArray)]).run Tryd.prog w = .ok (.agg (lfc ⟨z32, s78⟩).toArray) w := by kernel_rfl
def phK (B : Nat) (L : List Nd) (E : Int) : Nat → Value → World → Prop
  | 8, v, W => ∃ v', v = .tuple #[v', .int .i64 E] ∧ NO B W v' L
  | 9, v, W => ∃ v', v = .tuple #[v', .int .i64 E] ∧ NO B W v' L
  | 10, v, W => NO B W v L
  | 12, v, W => NO B W v L
  | _, _, _ => True
theorem phK_mono (B : Nat) (L : List Nd) (E : Int) : ∀ i v W W', phK B L E i v W → Below W.heap.size W W' → phK B L E i v W' := by
  intro i v W W' h hb
  unfold phK at h ⊢
  split at h
  · obtain ⟨v', e, q⟩ := h; exact ⟨v', e, q.below hb⟩
  · obtain ⟨v', e, q⟩ := h; exact ⟨v', e, q.below hb⟩
  · exact NO.below h hb
  · exact NO.below h hb
  · trivial
def gk5f (ad au : Option Addr) (n cap m cu g5 m5 cp5 g6 m6 cp6 : Nat) (E : Int) : Nat → Option Value
  | 0 => some (.slice (some ⟨g5, 0, none⟩) m5 cp5)
  | 1 => some (.slice ad n cap)
  | 2 => some (.int .i64 (n : Int))
  | 3 => some (.slice (some ⟨g5, 0, none⟩) n cp5)
  | 4 => some (.slice (some ⟨g6, 0, none⟩) m6 cp6)
  | 5 => some (.slice au m cu)
  | 6 => some (.int .i64 (m : Int))
  | 7 => some (.slice (some ⟨g6, 0, none⟩) m cp6)
  | 11 => some (.int .i64 E)
  | 13 => some (.int .i64 E)
  | _ => none
def gk6f (ad au : Option Addr) (n cap m cu g5 m5 cp5 g6 m6 cp6 : Nat) (E : Int) : Nat → Option Value
  | 0 => some (.slice (some ⟨g5, 0, none⟩) m5 cp5)
  | 1 => some (.slice ad n cap)
  | 2 => some (.int .i64 (n : Int))
  | 3 => some (.slice (some ⟨g5, 0, none⟩) n cp5)
  | 4 => some (.slice (some ⟨g6, 0, none⟩) m6 cp6)
  | 5 => some (.slice au m cu)
  | 6 => some (.int .i64 (m : Int))
  | 7 => some (.slice (some ⟨g6, 0, none⟩) m cp6)
  | 11 => some (.int .i64 E)
  | 13 => some (.int .i64 E)
  | _ => none
def gk22f (g5 b o n cap m5 cp5 t : Nat) (x : Lf) : Nat → Value
  | 0 => .bool true
  | 1 => .bool true
  | 2 => .slice (some ⟨g5, 0, none⟩) m5 cp5
  | 3 => .int .i64 (t : Int)
  | 4 => .pointer (some ⟨g5, t * 64, none⟩)
  | 5 => .agg (lfc x).toArray
  | 6 => .slice (some ⟨b, o, none⟩) n cap
  | 7 => .int .i64 (t : Int)
  | 8 => .pointer (some ⟨b, o + t * 64, none⟩)
  | 9 => .agg (lfc x).toArray
  | 10 => .bool true
  | 11 => .bool true
  | 12 => .bool true
  | _ => undef
def gk27f (g6 b o m cu m6 cp6 t : Nat) (x : Lf) : Nat → Value
  | 0 => .bool true
  | 1 => .bool true
  | 2 => .slice (some ⟨g6, 0, none⟩) m6 cp6
  | 3 => .int .i64 (t : Int)
  | 4 => .pointer (some ⟨g6, t * 64, none⟩)
  | 5 => .agg (lfc x).toArray
  | 6 => .slice (some ⟨b, o, none⟩) m cu
  | 7 => .int .i64 (t : Int)
  | 8 => .pointer (some ⟨b, o + t * 64, none⟩)
  | 9 => .agg (lfc x).toArray
  | 10 => .bool true
  | 11 => .bool true
  | 12 => .bool true
  | _ => undef
set_option maxHeartbeats 32000000 in
theorem growKeeps_any (ls ms : List Lf) (hk1 : ∀ x ∈ ls, x.Ok) (hk2 : ∀ x ∈ ms, x.Ok) (hlen : ls.length + ms.length ≤ 1200000000000) (v u : Value) (w : World) (hv : LS w v ls) (hu : LS w u ms) (hT : Tb w) :
    Calls Tryd.prog 3 #[v, u] w fun e w' => e = .returned (.bool true) ∧ Below w.heap.size w w' := by
  have hk : ∀ x ∈ ls ++ ms, x.Ok := fun x hx => by
    rcases List.mem_append.1 hx with q | q
    · exact hk1 x q
    · exact hk2 x q
  have TW : Hid (Tb w) := hT
  have VW : Hid (LS w v ls) := hv
  have UW : Hid (LS w u ms) := hu
  have HK1 : Hid (∀ x ∈ ls, x.Ok) := hk1
  have HK2 : Hid (∀ x ∈ ms, x.Ok) := hk2
  obtain ⟨L, E, HLK0, HLL0, HL70, HRS0, HPS0⟩ := stays_own ls ms hk (by omega)
  have HLK : Hid (∀ x ∈ L, x.Ok) := HLK0
  have HL7 : Hid (∀ x ∈ L, x.n ≠ -7) := HL70
  have HST : Hid (∀ (v u : Value) (W : World), LS W v ls → LS W u ms → Below w.heap.size w W → Calls Tryd.prog 6 #[v, u] W fun e w' => ∃ v', e = .returned (.tuple #[v', .int .i64 E]) ∧ NO W.heap.size w' v' L ∧ Below W.heap.size W w') := fun v u W q1 q2 q3 => HPS0 v u W q1 q2 (TW.out.below q3)
  have HRS : Hid (∀ (W : World), LS W v ls → LS W u ms → Calls Tryd.prog 7 #[v, u] W fun e w' => ∃ v', e = .returned (.tuple #[v', .int .i64 E]) ∧ NO W.heap.size w' v' L ∧ Below W.heap.size W w') := fun W q1 q2 => HRS0 v u W q1 q2
  have HCL1 : Hid (∀ (W : World), LS W v ls → Calls Tryd.prog 5 #[v] W fun e w' => ∃ v', e = .returned v' ∧ LO W.heap.size w' v' ls ∧ Below W.heap.size W w') := fun W q => copyLeaves_own ls hk1 (by omega) v W q
  have HCL2 : Hid (∀ (W : World), LS W u ms → Calls Tryd.prog 5 #[u] W fun e w' => ∃ v', e = .returned v' ∧ LO W.heap.size w' v' ms ∧ Below W.heap.size W w') := fun W q => copyLeaves_own ms hk2 (by omega) u W q
  have HCK : Hid (∀ (v u : Value) (W : World), NS W v L → LS W u ms → Below w.heap.size w W → Calls Tryd.prog 8 #[.agg (bv z32).toArray, .agg (bv z32).toArray, v, u] W fun e w' => ∃ er, e = .returned (.int .i64 er) ∧ Below W.heap.size W w') := fun v u W q1 q2 q3 => (Check_any z32 z32 z32_l32 z32_l32 L HLK0 ms hk2 (by omega) v u W q1 q2 (TW.out.below q3)).mono fun e w' ⟨er, r1, _, r3⟩ => ⟨er, r1, r3⟩
  have HSM : Hid (∀ (v u : Value) (W : World), NS W v L → NS W u L → Calls Tryd.prog 9 #[v, u] W fun e w' => e = .returned (.bool true) ∧ Below W.heap.size W w') := fun v u W q1 q2 => sameNodes_any L HLK0 (by omega) v u W q1 q2
  have HB0 : Hid (∀ W : World, (Instr.build 25 #[]).run Tryd.prog W = .ok (.agg (bv z32).toArray) W) := build_32
  obtain ⟨S77, hS77⟩ : ∃ S, s77 = S := ⟨_, rfl⟩
  obtain ⟨l77, hl77⟩ : ∃ l : Lf, (⟨z32, s77⟩ : Lf) = l := ⟨_, rfl⟩
  have HO77 : Hid l77.Ok := by rw [← hl77]; exact ⟨z32_l32, s77_l32⟩
  have HV77 : Hid ((lfc l77)[32]? = some (.int .u8 77)) := by rw [← hl77]; rfl
  have HSB77 : Hid (∀ W : World, (Instr.build 25 #[(0, .int .u8 77)]).run Tryd.prog W = .ok (.agg (bv S77).toArray) W) := fun W => by rw [← hS77]; exact build_77 W
  have HLB77 : Hid (∀ W : World, (Instr.build 27 #[(1, .agg (bv S77).toArray)]).run Tryd.prog W = .ok (.agg (lfc l77).toArray) W) := fun W => by rw [← hS77, ← hl77]; exact build_l77 W
  have HSZ77 : Hid (ls.length + [l77].length ≤ 3000000000000) := by show _ ≤ _; simp only [List.length_cons, List.length_nil]; omega
  obtain ⟨S78, hS78⟩ : ∃ S, s78 = S := ⟨_, rfl⟩
  obtain ⟨l78, hl78⟩ : ∃ l : Lf, (⟨z32, s78⟩ : Lf) = l := ⟨_, rfl⟩
  have HO78 : Hid l78.Ok := by rw [← hl78]; exact ⟨z32_l32, s78_l32⟩
  have HV78 : Hid ((lfc l78)[32]? = some (.int .u8 78)) := by rw [← hl78]; rfl
  have HSB78 : Hid (∀ W : World, (Instr.build 25 #[(0, .int .u8 78)]).run Tryd.prog W = .ok (.agg (bv S78).toArray) W) := fun W => by rw [← hS78]; exact build_78 W
  have HLB78 : Hid (∀ W : World, (Instr.build 27 #[(1, .agg (bv S78).toArray)]).run Tryd.prog W = .ok (.agg (lfc l78).toArray) W) := fun W => by rw [← hS78, ← hl78]; exact build_l78 W
  have HSZ78 : Hid (ms.length + [l78].length ≤ 3000000000000) := by show _ ≤ _; simp only [List.length_cons, List.length_nil]; omega
  obtain ⟨n7, hn7⟩ : ∃ l : Nd, (⟨-7, z32, z32⟩ : Nd) = l := ⟨_, rfl⟩
  have HN7O : Hid n7.Ok := by rw [← hn7]; exact ⟨z32_l32, z32_l32⟩
  have HN7N : Hid (n7.n = -7) := by rw [← hn7]; rfl
  have HN7B : Hid (∀ W : World, (Instr.build 33 #[(0, .int .i64 (-7))]).run Tryd.prog W = .ok (.agg (nc n7).toArray) W) := fun W => by rw [← hn7]; exact build_n _ W
  obtain ⟨n, hn⟩ : ∃ n, ls.length = n := ⟨_, rfl⟩
  have HN : Hid (ls.length = n) := hn
  obtain ⟨m, hm⟩ : ∃ n, ms.length = n := ⟨_, rfl⟩
  have HM : Hid (ms.length = m) := hm
  have hn9 : n + m ≤ 1200000000000 := by rw [← hn, ← hm]; exact hlen
  obtain ⟨nL, hnL⟩ : ∃ n, L.length = n := ⟨_, rfl⟩
  have HNL : Hid (L.length = nL) := hnL
  have hnL9 : nL ≤ 1200000000000 := by omega
  obtain ⟨ad, cap, hv0, -, hxx⟩ := id VW.out
  rw [hn] at hv0
  have HXX : Hid ((ls = [] ∧ (ad = none → cap = 0)) ∨ ∃ b o, ad = some ⟨b, o, none⟩ ∧ b < w.heap.size ∧ ∀ (i : Nat) (x : Lf), ls[i]? = some x → w.rangeAt b (o + i * 64) (lfc x)) := hxx
  subst hv0
  obtain ⟨au, cu, hu0, -, hyy⟩ := id UW.out
  rw [hm] at hu0
  have HYY : Hid ((ms = [] ∧ (au = none → cu = 0)) ∨ ∃ b o, au = some ⟨b, o, none⟩ ∧ b < w.heap.size ∧ ∀ (i : Nat) (x : Lf), ms[i]? = some x → w.rangeAt b (o + i * 64) (lfc x)) := hyy
  subst hu0
  clear hk hk1 hk2 hlen hv hu hT HLK0 HLL0 HL70 HRS0 HPS0 hS77 hl77 hS78 hl78 hn7 hn hm hnL hxx hyy
  go_enter Tryd.func3, Tryd.ntmps3
  go_upto_region 4 with (first
    | (go_at_call 4; refine (awake_any w TW.out).mono ?_; rintro e w1 ⟨rfl, g1⟩; have C1 : Hid (Below w.heap.size w w1) := g1; clear g1)
    | (go_at_call 5; refine (HCL1.out w1 (VW.out.below C1.out)).mono ?_; rintro e w2 ⟨v2, rfl, g1, g2⟩; have O2 : Hid (LO w1.heap.size w2 v2 ls) := g1; have G2 : Hid (Below w1.heap.size w1 w2) := g2; clear g1 g2)
    | (refine wp_build1 25 (.const (.int .u8 77)) rfl rfl (.int .u8 77) rfl _ (HSB77.out w2) ?_)
    | (refine wp_buildk 27 1 (.tmp 21) rfl rfl (.agg (bv S77).toArray) rfl _ (HLB77.out w2) ?_)
    | (refine wpList_onel rfl (.tmp 22) rfl l77 HO77.out rfl ?_)
    | (at_builtin; refine wp_appl rfl (.tmp 20) (.tmp 23) rfl rfl w1.heap.size v2 (.slice (some ⟨w2.heap.size, 0, none⟩) 1 1) ls [l77] rfl rfl (O2.out.alloc _) (fun z hz => by simp at hz; subst hz; exact HO77.out) (ls_one w2 l77 _) HSZ77.out ?_; intro v3 w3 g1 g2; have O3 : Hid (LO w1.heap.size w3 v3 (ls ++ [l77])) := g1; have G3 : Hid (Below w1.heap.size w1 w3) := (G2.out.alloc G2.out.size _).trans g2; have C3 : Hid (Below w.heap.size w w3) := Below.tr' C1.out ((G2.out.alloc G2.out.size _).trans g2); clear g1 g2))
  obtain ⟨g5, cp5, e5, hc5, lt5, rr5⟩ := O3.out.whole (by simp)
  obtain ⟨m5, hm5⟩ : ∃ m, (ls ++ [l77]).length = m := ⟨_, rfl⟩
  have hmng5 : m5 = n + 1 := by rw [← hm5, ← HN.out]; simp
  rw [hm5] at e5 hc5
  subst e5
  have hcng5 : n ≤ cp5 := by omega
  have hnmg5 : n < m5 := by omega
  have RRg5 : Hid (∀ (i : Nat) (x : Lf), (ls ++ [l77])[i]? = some x → w3.rangeAt g5 (0 + i * 64) (lfc x)) := rr5
  have LTg5 : Hid (g5 < w3.heap.size) := lt5
  have VIg5 : Hid (LS w3 (.slice (some ⟨g5, 0, none⟩) n cp5) ls) := ls_first HN.out hcng5 lt5 rr5
  clear rr5 lt5 hm5 hc5 hmng5
  go_upto_region 5 with (first
    | (go_at_call 5; refine (HCL2.out w3 (UW.out.below C3.out)).mono ?_; rintro e wb ⟨v2b, rfl, g1, g2⟩; have Ob : Hid (LO w3.heap.size wb v2b ms) := g1; have Gb : Hid (Below w3.heap.size w3 wb) := g2; clear g1 g2)
    | (refine wp_build1 25 (.const (.int .u8 78)) rfl rfl (.int .u8 78) rfl _ (HSB78.out wb) ?_)
    | (refine wp_buildk 27 1 (.tmp 27) rfl rfl (.agg (bv S78).toArray) rfl _ (HLB78.out wb) ?_)
    | (refine wpList_onel rfl (.tmp 28) rfl l78 HO78.out rfl ?_)
    | (at_builtin; refine wp_appl rfl (.tmp 26) (.tmp 29) rfl rfl w3.heap.size v2b (.slice (some ⟨wb.heap.size, 0, none⟩) 1 1) ms [l78] rfl rfl (Ob.out.alloc _) (fun z hz => by simp at hz; subst hz; exact HO78.out) (ls_one wb l78 _) HSZ78.out ?_; intro v4 w4 g1 g2; have O4 : Hid (LO w3.heap.size w4 v4 (ms ++ [l78])) := g1; have G4 : Hid (Below w3.heap.size w3 w4) := (Gb.out.alloc Gb.out.size _).trans g2; have Cw4 : Hid (Below w.heap.size w w4) := Below.tr' C3.out ((Gb.out.alloc Gb.out.size _).trans g2); clear g1 g2))
  obtain ⟨g6, cp6, e5, hc5, lt5, rr5⟩ := O4.out.whole (by simp)
  obtain ⟨m6, hm5⟩ : ∃ m, (ms ++ [l78]).length = m := ⟨_, rfl⟩
  have hmng6 : m6 = m + 1 := by rw [← hm5, ← HM.out]; simp
  rw [hm5] at e5 hc5
  subst e5
  have hcng6 : m ≤ cp6 := by omega
  have hnmg6 : m < m6 := by omega
  have RRg6 : Hid (∀ (i : Nat) (x : Lf), (ms ++ [l78])[i]? = some x → w4.rangeAt g6 (0 + i * 64) (lfc x)) := rr5
  have LTg6 : Hid (g6 < w4.heap.size) := lt5
  have VIg6 : Hid (LS w4 (.slice (some ⟨g6, 0, none⟩) m cp6) ms) := ls_first HM.out hcng6 lt5 rr5
  clear rr5 lt5 hm5 hc5 hmng6
  have VXw4 : Hid (LS w4 (.slice (some ⟨g5, 0, none⟩) n cp5) ls) := VIg5.out.below G4.out
  have VYw4 : Hid (LS w4 (.slice (some ⟨g6, 0, none⟩) m cp6) ms) := VIg6.out
  have L5 : Hid (g5 < w4.heap.size) := Nat.lt_of_lt_of_le LTg5.out G4.out.size
  refine RG.wp_rgn' (GI w4 (gk5f ad au n cap m cu g5 m5 cp5 g6 m6 cp6 E) (phK w4.heap.size L E) []) (by kernel_rfl) (by kernel_rfl) GI.start ?_ ?_
  · refine ⟨?_, ?_, ?_, ?_, ?_, ?_, ?_, ?_, ?_, ?_, ?_, ?_, ?_, ?_, trivial⟩
    · intro a W d V hI hd hpx hbk hf hp
      have hO' : Below w4.heap.size w4 W := hI.be
      refine RU.ob_val (v := .slice (some ⟨g5, 0, none⟩) m5 cp5) rfl (RU.wanted_none rfl) (fun ev he hc => ?_) ⟨_, rfl, hI.step (phK_mono w4.heap.size L E) (Below.refl _ _) 0 _ (by simp) (fun u hu => by first | (cases hu; rfl) | cases hu) (trivial)⟩
      have q5 : ev (.tmp 5) = .slice (some ⟨g5, 0, none⟩) m5 cp5 := (he (.tmp 5)).trans (hf 5 rfl)
      simp only [List.getElem_toArray, List.getElem_cons_succ, List.getElem_cons_zero, execOp, Option.map_some, Option.map_none]; rw [q5]
      first | (go_simp; done) | (go_simp; rfl) | rfl
    · intro a W d V hI hd hpx hbk hf hp
      have hO' : Below w4.heap.size w4 W := hI.be
      refine RU.ob_val (v := .slice ad n cap) rfl (RU.wanted_none rfl) (fun ev he hc => ?_) ⟨_, rfl, hI.step (phK_mono w4.heap.size L E) (Below.refl _ _) 1 _ (by simp) (fun u hu => by first | (cases hu; rfl) | cases hu) (trivial)⟩
      have q0 : ev (.tmp 0) = .slice ad n cap := (he (.tmp 0)).trans (hf 0 rfl)
      simp only [List.getElem_toArray, List.getElem_cons_succ, List.getElem_cons_zero, execOp, Option.map_some, Option.map_none]; rw [q0]
      first | (go_simp; done) | (go_simp; rfl) | rfl
    · intro a W d V hI hd hpx hbk hf hp
      have hO' : Below w4.heap.size w4 W := hI.be
      refine RU.ob_val (v := .int .i64 (n : Int)) rfl (RU.wanted_none rfl) (fun ev he hc => ?_) ⟨_, rfl, hI.step (phK_mono w4.heap.size L E) (Below.refl _ _) 2 _ (by simp) (fun u hu => by first | (cases hu; rfl) | cases hu) (trivial)⟩
      have q33 : ev (.tmp 33) = .slice ad n cap := (he (.tmp 33)).trans ((hp 1 33 rfl).trans (hI.kn 1 _ rfl (hpx 1 rfl)))
      simp only [List.getElem_toArray, List.getElem_cons_succ, List.getElem_cons_zero, execOp, Option.map_some, Option.map_none]; simp only [resolve, invoke, builtin, Sem.run_bind, Sem.run_pure, Result.andThen_ok, List.map_toArray, List.map_cons, List.map_nil, q33]
      first | (go_simp; done) | (go_simp; rfl) | rfl
    · intro a W d V hI hd hpx hbk hf hp
      have hO' : Below w4.heap.size w4 W := hI.be
      refine RU.ob_val (v := .slice (some ⟨g5, 0, none⟩) n cp5) rfl (RU.wanted_none rfl) (fun ev he hc => ?_) ⟨_, rfl, hI.step (phK_mono w4.heap.size L E) (Below.refl _ _) 3 _ (by simp) (fun u hu => by first | (cases hu; rfl) | cases hu) (trivial)⟩
      have q32 : ev (.tmp 32) = .slice (some ⟨g5, 0, none⟩) m5 cp5 := (he (.tmp 32)).trans ((hp 0 32 rfl).trans (hI.kn 0 _ rfl (hpx 0 rfl)))
      have q34 : ev (.tmp 34) = .int .i64 (n : Int) := (he (.tmp 34)).trans ((hp 2 34 rfl).trans (hI.kn 2 _ rfl (hpx 2 rfl)))
      simp only [List.getElem_toArray, List.getElem_cons_succ, List.getElem_cons_zero, execOp, Option.map_some, Option.map_none]; rw [q32, q34]
      have hk7 : (n : Int) ≤ (cp5 : Int) := by omega
      have hk8 : (m : Int) ≤ (cp6 : Int) := by omega
      first | (go_simp; done) | (go_simp; rfl) | rfl
    · intro a W d V hI hd hpx hbk hf hp
      have hO' : Below w4.heap.size w4 W := hI.be
      refine RU.ob_val (v := .slice (some ⟨g6, 0, none⟩) m6 cp6) rfl (RU.wanted_none rfl) (fun ev he hc => ?_) ⟨_, rfl, hI.step (phK_mono w4.heap.size L E) (Below.refl _ _) 4 _ (by simp) (fun u hu => by first | (cases hu; rfl) | cases hu) (trivial)⟩
      have q6 : ev (.tmp 6) = .slice (some ⟨g6, 0, none⟩) m6 cp6 := (he (.tmp 6)).trans (hf 6 rfl)
      simp only [List.getElem_toArray, List.getElem_cons_succ, List.getElem_cons_zero, execOp, Option.map_some, Option.map_none]; rw [q6]
      first | (go_simp; done) | (go_simp; rfl) | rfl
    · intro a W d V hI hd hpx hbk hf hp
      have hO' : Below w4.heap.size w4 W := hI.be
      refine RU.ob_val (v := .slice au m cu) rfl (RU.wanted_none rfl) (fun ev he hc => ?_) ⟨_, rfl, hI.step (phK_mono w4.heap.size L E) (Below.refl _ _) 5 _ (by simp) (fun u hu => by first | (cases hu; rfl) | cases hu) (trivial)⟩
      have q1 : ev (.tmp 1) = .slice au m cu := (he (.tmp 1)).trans (hf 1 rfl)
      simp only [List.getElem_toArray, List.getElem_cons_succ, List.getElem_cons_zero, execOp, Option.map_some, Option.map_none]; rw [q1]
      first | (go_simp; done) | (go_simp; rfl) | rfl
    · intro a W d V hI hd hpx hbk hf hp
      have hO' : Below w4.heap.size w4 W := hI.be
      refine RU.ob_val (v := .int .i64 (m : Int)) rfl (RU.wanted_none rfl) (fun ev he hc => ?_) ⟨_, rfl, hI.step (phK_mono w4.heap.size L E) (Below.refl _ _) 6 _ (by simp) (fun u hu => by first | (cases hu; rfl) | cases hu) (trivial)⟩
      have q37 : ev (.tmp 37) = .slice au m cu := (he (.tmp 37)).trans ((hp 5 37 rfl).trans (hI.kn 5 _ rfl (hpx 5 rfl)))
      simp only [List.getElem_toArray, List.getElem_cons_succ, List.getElem_cons_zero, execOp, Option.map_some, Option.map_none]; simp only [resolve, invoke, builtin, Sem.run_bind, Sem.run_pure, Result.andThen_ok, List.map_toArray, List.map_cons, List.map_nil, q37]
      first | (go_simp; done) | (go_simp; rfl) | rfl
    · intro a W d V hI hd hpx hbk hf hp
      have hO' : Below w4.heap.size w4 W := hI.be
      refine RU.ob_val (v := .slice (some ⟨g6, 0, none⟩) m cp6) rfl (RU.wanted_none rfl) (fun ev he hc => ?_) ⟨_, rfl, hI.step (phK_mono w4.heap.size L E) (Below.refl _ _) 7 _ (by simp) (fun u hu => by first | (cases hu; rfl) | cases hu) (trivial)⟩
      have q36 : ev (.tmp 36) = .slice (some ⟨g6, 0, none⟩) m6 cp6 := (he (.tmp 36)).trans ((hp 4 36 rfl).trans (hI.kn 4 _ rfl (hpx 4 rfl)))
      have q38 : ev (.tmp 38) = .int .i64 (m : Int) := (he (.tmp 38)).trans ((hp 6 38 rfl).trans (hI.kn 6 _ rfl (hpx 6 rfl)))
      simp only [List.getElem_toArray, List.getElem_cons_succ, List.getElem_cons_zero, execOp, Option.map_some, Option.map_none]; rw [q36, q38]
      have hk7 : (n : Int) ≤ (cp5 : Int) := by omega
      have hk8 : (m : Int) ≤ (cp6 : Int) := by omega
      first | (go_simp; done) | (go_simp; rfl) | rfl
    · intro a W d V hI hd hpx hbk hf hp
      have hO' : Below w4.heap.size w4 W := hI.be
      have e35 : a.eval (.tmp 35) = .slice (some ⟨g5, 0, none⟩) n cp5 := (hp 3 35 rfl).trans (hI.kn 3 _ rfl (hpx 3 rfl))
      have e39 : a.eval (.tmp 39) = .slice (some ⟨g6, 0, none⟩) m cp6 := (hp 7 39 rfl).trans (hI.kn 7 _ rfl (hpx 7 rfl))
      have hno : ∀ x ∈ ([] : List Al), d x.2.1 = false := by simp
      refine RU.ob_call (g := 6) (args := #[.slice (some ⟨g5, 0, none⟩) n cp5, .slice (some ⟨g6, 0, none⟩) m cp6]) rfl (RU.wanted_none rfl) (fun ev he hc => ?_) ((HST.out _ _ W (VXw4.out.below hO') (VYw4.out.below hO') (Below.tr' Cw4.out hO')).mono ?_)
      · have h35 := (he (.tmp 35)).trans e35
        have h39 := (he (.tmp 39)).trans e39
        have hfn := he (.func 6)
        simp only [List.getElem_toArray, List.getElem_cons_succ, List.getElem_cons_zero, execOp, Option.map_some, Option.map_none]
        simp only [resolve, invoke, Sem.run_bind, Sem.run_pure, Result.andThen_ok, List.map_toArray, List.map_cons, List.map_nil, h35, h39, hfn, Act.eval, hc]
        rfl
      · rintro e' W2 ⟨v', rfl, hn2, hb2⟩
        exact ⟨_, rfl, ⟨_, rfl, hI.step (phK_mono w4.heap.size L E) hb2 8 _ (by simp) (fun u hu => by first | (cases hu; rfl) | cases hu) (⟨v', rfl, hn2.mono hO'.size⟩)⟩⟩
    · intro a W d V hI hd hpx hbk hf hp
      have hO' : Below w4.heap.size w4 W := hI.be
      have hno : ∀ x ∈ ([] : List Al), d x.2.1 = false := by simp
      refine RU.ob_val (v := V 8) rfl (RU.wanted_none rfl) (fun ev he hc => ?_) ⟨_, rfl, hI.step (phK_mono w4.heap.size L E) (Below.refl _ _) 9 _ (by simp) (fun u hu => by first | (cases hu; rfl) | cases hu) (hI.pr 8 (hpx 8 rfl) hno)⟩
      have q40 : ev (.tmp 40) = V 8 := (he (.tmp 40)).trans (hp 8 40 rfl)
      simp only [List.getElem_toArray, List.getElem_cons_succ, List.getElem_cons_zero, execOp, Option.map_some, Option.map_none]; rw [q40]
      first | (go_simp; done) | (go_simp; rfl) | rfl
    · intro a W d V hI hd hpx hbk hf hp
      have hO' : Below w4.heap.size w4 W := hI.be
      have e17 : a.eval (.tmp 31) = V 9 := hp 9 31 rfl
      obtain ⟨v', ev4, hn4⟩ : phK w4.heap.size L E 9 (V 9) W := hI.pr 9 (hpx 9 rfl) (by simp)
      refine RU.ob_val (v := v') rfl (RU.wanted_none rfl) (fun ev he hc => ?_) ⟨_, rfl, hI.step (phK_mono w4.heap.size L E) (Below.refl _ _) 10 _ (by simp) (fun u hu => by first | (cases hu; rfl) | cases hu) hn4⟩
      have q17 := (he (.tmp 31)).trans (e17.trans ev4)
      simp only [List.getElem_toArray, List.getElem_cons_succ, List.getElem_cons_zero, execOp, Option.map_some, Option.map_none]; rw [q17]
      first | (go_simp; done) | (go_simp; rfl) | rfl
    · intro a W d V hI hd hpx hbk hf hp
      have hO' : Below w4.heap.size w4 W := hI.be
      have e17 : a.eval (.tmp 31) = V 9 := hp 9 31 rfl
      obtain ⟨v', ev4, hn4⟩ : phK w4.heap.size L E 9 (V 9) W := hI.pr 9 (hpx 9 rfl) (by simp)
      refine RU.ob_val (v := .int .i64 E) rfl (RU.wanted_none rfl) (fun ev he hc => ?_) ⟨_, rfl, hI.step (phK_mono w4.heap.size L E) (Below.refl _ _) 11 _ (by simp) (fun u hu => by first | (cases hu; rfl) | cases hu) trivial⟩
      have q17 := (he (.tmp 31)).trans (e17.trans ev4)
      simp only [List.getElem_toArray, List.getElem_cons_succ, List.getElem_cons_zero, execOp, Option.map_some, Option.map_none]; rw [q17]
      first | (go_simp; done) | (go_simp; rfl) | rfl
    · intro a W d V hI hd hpx hbk hf hp
      have hO' : Below w4.heap.size w4 W := hI.be
      have hno : ∀ x ∈ ([] : List Al), d x.2.1 = false := by simp
      refine RU.ob_val (v := V 10) rfl (RU.wanted_none rfl) (fun ev he hc => ?_) ⟨_, rfl, hI.step (phK_mono w4.heap.size L E) (Below.refl _ _) 12 _ (by simp) (fun u hu => by first | (cases hu; rfl) | cases hu) (hI.pr 10 (hpx 10 rfl) hno)⟩
      have q41 : ev (.tmp 41) = V 10 := (he (.tmp 41)).trans (hp 10 41 rfl)
      simp only [List.getElem_toArray, List.getElem_cons_succ, List.getElem_cons_zero, execOp, Option.map_some, Option.map_none]; rw [q41]
      first | (go_simp; done) | (go_simp; rfl) | rfl
    · intro a W d V hI hd hpx hbk hf hp
      have hO' : Below w4.heap.size w4 W := hI.be
      refine RU.ob_val (v := .int .i64 E) rfl (RU.wanted_none rfl) (fun ev he hc => ?_) ⟨_, rfl, hI.step (phK_mono w4.heap.size L E) (Below.refl _ _) 13 _ (by simp) (fun u hu => by first | (cases hu; rfl) | cases hu) (trivial)⟩
      have q42 : ev (.tmp 42) = .int .i64 E := (he (.tmp 42)).trans ((hp 11 42 rfl).trans (hI.kn 11 _ rfl (hpx 11 rfl)))
      simp only [List.getElem_toArray, List.getElem_cons_succ, List.getElem_cons_zero, execOp, Option.map_some, Option.map_none]; rw [q42]
      first | (go_simp; done) | (go_simp; rfl) | rfl
  intro w5 dw5 Vw5 hal hI
  have Bw5 : Hid (Below w4.heap.size w4 w5) := hI.be
  have hs0 : Vw5 0 = .slice (some ⟨g5, 0, none⟩) m5 cp5 := hI.kn 0 _ rfl (hal 0 (by decide))
  have hs1 : Vw5 1 = .slice ad n cap := hI.kn 1 _ rfl (hal 1 (by decide))
  have hs2 : Vw5 2 = .int .i64 (n : Int) := hI.kn 2 _ rfl (hal 2 (by decide))
  have hs3 : Vw5 3 = .slice (some ⟨g5, 0, none⟩) n cp5 := hI.kn 3 _ rfl (hal 3 (by decide))
  have hs4 : Vw5 4 = .slice (some ⟨g6, 0, none⟩) m6 cp6 := hI.kn 4 _ rfl (hal 4 (by decide))
  have hs5 : Vw5 5 = .slice au m cu := hI.kn 5 _ rfl (hal 5 (by decide))
  have hs6 : Vw5 6 = .int .i64 (m : Int) := hI.kn 6 _ rfl (hal 6 (by decide))
  have hs7 : Vw5 7 = .slice (some ⟨g6, 0, none⟩) m cp6 := hI.kn 7 _ rfl (hal 7 (by decide))
  obtain ⟨u8, hs8⟩ : ∃ u, Vw5 8 = u := ⟨_, rfl⟩
  have P8w5 : Hid ((phK w4.heap.size L E) 8 u8 w5) := by rw [← hs8]; exact hI.pr 8 (hal 8 (by decide)) (by simp)
  obtain ⟨u9, hs9⟩ : ∃ u, Vw5 9 = u := ⟨_, rfl⟩
  have P9w5 : Hid ((phK w4.heap.size L E) 9 u9 w5) := by rw [← hs9]; exact hI.pr 9 (hal 9 (by decide)) (by simp)
  obtain ⟨u10, hs10⟩ : ∃ u, Vw5 10 = u := ⟨_, rfl⟩
  have P10w5 : Hid ((phK w4.heap.size L E) 10 u10 w5) := by rw [← hs10]; exact hI.pr 10 (hal 10 (by decide)) (by simp)
  have hs11 : Vw5 11 = .int .i64 E := hI.kn 11 _ rfl (hal 11 (by decide))
  obtain ⟨u12, hs12⟩ : ∃ u, Vw5 12 = u := ⟨_, rfl⟩
  have P12w5 : Hid ((phK w4.heap.size L E) 12 u12 w5) := by rw [← hs12]; exact hI.pr 12 (hal 12 (by decide)) (by simp)
  have hs13 : Vw5 13 = .int .i64 E := hI.kn 13 _ rfl (hal 13 (by decide))
  simp only [RU.lay, Act.put, hs0, hs1, hs2, hs3, hs4, hs5, hs6, hs7, hs8, hs9, hs10, hs11, hs12, hs13]
  simp only [List.setIfInBounds_toArray, List.set_cons_succ, List.set_cons_zero]
  clear hI hal hs0 hs1 hs2 hs3 hs4 hs5 hs6 hs7 hs8 hs9 hs10 hs11 hs12 hs13
  have Cw5 : Hid (Below w.heap.size w w5) := Below.tr' Cw4.out Bw5.out
  have O7 : Hid (NO w4.heap.size w5 u12 L) := P12w5.out
  have VXw5 : Hid (LS w5 (.slice (some ⟨g5, 0, none⟩) n cp5) ls) := VXw4.out.below Bw5.out
  have VYw5 : Hid (LS w5 (.slice (some ⟨g6, 0, none⟩) m cp6) ms) := VYw4.out.below Bw5.out
  obtain ⟨v7, hv7⟩ : ∃ q, u12 = q := ⟨_, rfl⟩
  rw [hv7] at O7 ⊢
  clear hv7 P8w5 P9w5 P10w5 P12w5
  go_upto_region 6 with (fail)
  refine RG.wp_rgn' (GI w5 (gk6f ad au n cap m cu g5 m5 cp5 g6 m6 cp6 E) (phK w5.heap.size L E) []) (by kernel_rfl) (by kernel_rfl) GI.start ?_ ?_
  · refine ⟨?_, ?_, ?_, ?_, ?_, ?_, ?_, ?_, ?_, ?_, ?_, ?_, ?_, ?_, trivial⟩
    · intro a W d V hI hd hpx hbk hf hp
      have hO' : Below w5.heap.size w5 W := hI.be
      refine RU.ob_val (v := .slice (some ⟨g5, 0, none⟩) m5 cp5) rfl (RU.wanted_none rfl) (fun ev he hc => ?_) ⟨_, rfl, hI.step (phK_mono w5.heap.size L E) (Below.refl _ _) 0 _ (by simp) (fun u hu => by first | (cases hu; rfl) | cases hu) (trivial)⟩
      have q5 : ev (.tmp 5) = .slice (some ⟨g5, 0, none⟩) m5 cp5 := (he (.tmp 5)).trans (hf 5 rfl)
      simp only [List.getElem_toArray, List.getElem_cons_succ, List.getElem_cons_zero, execOp, Option.map_some, Option.map_none]; rw [q5]
      first | (go_simp; done) | (go_simp; rfl) | rfl
    · intro a W d V hI hd hpx hbk hf hp
      have hO' : Below w5.heap.size w5 W := hI.be
      refine RU.ob_val (v := .slice ad n cap) rfl (RU.wanted_none rfl) (fun ev he hc => ?_) ⟨_, rfl, hI.step (phK_mono w5.heap.size L E) (Below.refl _ _) 1 _ (by simp) (fun u hu => by first | (cases hu; rfl) | cases hu) (trivial)⟩
      have q0 : ev (.tmp 0) = .slice ad n cap := (he (.tmp 0)).trans (hf 0 rfl)
      simp only [List.getElem_toArray, List.getElem_cons_succ, List.getElem_cons_zero, execOp, Option.map_some, Option.map_none]; rw [q0]
      first | (go_simp; done) | (go_simp; rfl) | rfl
    · intro a W d V hI hd hpx hbk hf hp
      have hO' : Below w5.heap.size w5 W := hI.be
      refine RU.ob_val (v := .int .i64 (n : Int)) rfl (RU.wanted_none rfl) (fun ev he hc => ?_) ⟨_, rfl, hI.step (phK_mono w5.heap.size L E) (Below.refl _ _) 2 _ (by simp) (fun u hu => by first | (cases hu; rfl) | cases hu) (trivial)⟩
      have q45 : ev (.tmp 45) = .slice ad n cap := (he (.tmp 45)).trans ((hp 1 45 rfl).trans (hI.kn 1 _ rfl (hpx 1 rfl)))
      simp only [List.getElem_toArray, List.getElem_cons_succ, List.getElem_cons_zero, execOp, Option.map_some, Option.map_none]; simp only [resolve, invoke, builtin, Sem.run_bind, Sem.run_pure, Result.andThen_ok, List.map_toArray, List.map_cons, List.map_nil, q45]
      first | (go_simp; done) | (go_simp; rfl) | rfl
    · intro a W d V hI hd hpx hbk hf hp
      have hO' : Below w5.heap.size w5 W := hI.be
      refine RU.ob_val (v := .slice (some ⟨g5, 0, none⟩) n cp5) rfl (RU.wanted_none rfl) (fun ev he hc => ?_) ⟨_, rfl, hI.step (phK_mono w5.heap.size L E) (Below.refl _ _) 3 _ (by simp) (fun u hu => by first | (cases hu; rfl) | cases hu) (trivial)⟩
      have q44 : ev (.tmp 44) = .slice (some ⟨g5, 0, none⟩) m5 cp5 := (he (.tmp 44)).trans ((hp 0 44 rfl).trans (hI.kn 0 _ rfl (hpx 0 rfl)))
      have q46 : ev (.tmp 46) = .int .i64 (n : Int) := (he (.tmp 46)).trans ((hp 2 46 rfl).trans (hI.kn 2 _ rfl (hpx 2 rfl)))
      simp only [List.getElem_toArray, List.getElem_cons_succ, List.getElem_cons_zero, execOp, Option.map_some, Option.map_none]; rw [q44, q46]
      have hk7 : (n : Int) ≤ (cp5 : Int) := by omega
      have hk8 : (m : Int) ≤ (cp6 : Int) := by omega
      first | (go_simp; done) | (go_simp; rfl) | rfl
    · intro a W d V hI hd hpx hbk hf hp
      have hO' : Below w5.heap.size w5 W := hI.be
      refine RU.ob_val (v := .slice (some ⟨g6, 0, none⟩) m6 cp6) rfl (RU.wanted_none rfl) (fun ev he hc => ?_) ⟨_, rfl, hI.step (phK_mono w5.heap.size L E) (Below.refl _ _) 4 _ (by simp) (fun u hu => by first | (cases hu; rfl) | cases hu) (trivial)⟩
      have q6 : ev (.tmp 6) = .slice (some ⟨g6, 0, none⟩) m6 cp6 := (he (.tmp 6)).trans (hf 6 rfl)
      simp only [List.getElem_toArray, List.getElem_cons_succ, List.getElem_cons_zero, execOp, Option.map_some, Option.map_none]; rw [q6]
      first | (go_simp; done) | (go_simp; rfl) | rfl
    · intro a W d V hI hd hpx hbk hf hp
      have hO' : Below w5.heap.size w5 W := hI.be
      refine RU.ob_val (v := .slice au m cu) rfl (RU.wanted_none rfl) (fun ev he hc => ?_) ⟨_, rfl, hI.step (phK_mono w5.heap.size L E) (Below.refl _ _) 5 _ (by simp) (fun u hu => by first | (cases hu; rfl) | cases hu) (trivial)⟩
      have q1 : ev (.tmp 1) = .slice au m cu := (he (.tmp 1)).trans (hf 1 rfl)
      simp only [List.getElem_toArray, List.getElem_cons_succ, List.getElem_cons_zero, execOp, Option.map_some, Option.map_none]; rw [q1]
      first | (go_simp; done) | (go_simp; rfl) | rfl
    · intro a W d V hI hd hpx hbk hf hp
      have hO' : Below w5.heap.size w5 W := hI.be
      refine RU.ob_val (v := .int .i64 (m : Int)) rfl (RU.wanted_none rfl) (fun ev he hc => ?_) ⟨_, rfl, hI.step (phK_mono w5.heap.size L E) (Below.refl _ _) 6 _ (by simp) (fun u hu => by first | (cases hu; rfl) | cases hu) (trivial)⟩
      have q49 : ev (.tmp 49) = .slice au m cu := (he (.tmp 49)).trans ((hp 5 49 rfl).trans (hI.kn 5 _ rfl (hpx 5 rfl)))
      simp only [List.getElem_toArray, List.getElem_cons_succ, List.getElem_cons_zero, execOp, Option.map_some, Option.map_none]; simp only [resolve, invoke, builtin, Sem.run_bind, Sem.run_pure, Result.andThen_ok, List.map_toArray, List.map_cons, List.map_nil, q49]
      first | (go_simp; done) | (go_simp; rfl) | rfl
    · intro a W d V hI hd hpx hbk hf hp
      have hO' : Below w5.heap.size w5 W := hI.be
      refine RU.ob_val (v := .slice (some ⟨g6, 0, none⟩) m cp6) rfl (RU.wanted_none rfl) (fun ev he hc => ?_) ⟨_, rfl, hI.step (phK_mono w5.heap.size L E) (Below.refl _ _) 7 _ (by simp) (fun u hu => by first | (cases hu; rfl) | cases hu) (trivial)⟩
      have q48 : ev (.tmp 48) = .slice (some ⟨g6, 0, none⟩) m6 cp6 := (he (.tmp 48)).trans ((hp 4 48 rfl).trans (hI.kn 4 _ rfl (hpx 4 rfl)))
      have q50 : ev (.tmp 50) = .int .i64 (m : Int) := (he (.tmp 50)).trans ((hp 6 50 rfl).trans (hI.kn 6 _ rfl (hpx 6 rfl)))
      simp only [List.getElem_toArray, List.getElem_cons_succ, List.getElem_cons_zero, execOp, Option.map_some, Option.map_none]; rw [q48, q50]
      have hk7 : (n : Int) ≤ (cp5 : Int) := by omega
      have hk8 : (m : Int) ≤ (cp6 : Int) := by omega
      first | (go_simp; done) | (go_simp; rfl) | rfl
    · intro a W d V hI hd hpx hbk hf hp
      have hO' : Below w5.heap.size w5 W := hI.be
      have e47 : a.eval (.tmp 47) = .slice (some ⟨g5, 0, none⟩) n cp5 := (hp 3 47 rfl).trans (hI.kn 3 _ rfl (hpx 3 rfl))
      have e51 : a.eval (.tmp 51) = .slice (some ⟨g6, 0, none⟩) m cp6 := (hp 7 51 rfl).trans (hI.kn 7 _ rfl (hpx 7 rfl))
      have hno : ∀ x ∈ ([] : List Al), d x.2.1 = false := by simp
      refine RU.ob_call (g := 6) (args := #[.slice (some ⟨g5, 0, none⟩) n cp5, .slice (some ⟨g6, 0, none⟩) m cp6]) rfl (RU.wanted_none rfl) (fun ev he hc => ?_) ((HST.out _ _ W (VXw5.out.below hO') (VYw5.out.below hO') (Below.tr' Cw5.out hO')).mono ?_)
      · have h47 := (he (.tmp 47)).trans e47
        have h51 := (he (.tmp 51)).trans e51
        have hfn := he (.func 6)
        simp only [List.getElem_toArray, List.getElem_cons_succ, List.getElem_cons_zero, execOp, Option.map_some, Option.map_none]
        simp only [resolve, invoke, Sem.run_bind, Sem.run_pure, Result.andThen_ok, List.map_toArray, List.map_cons, List.map_nil, h47, h51, hfn, Act.eval, hc]
        rfl
      · rintro e' W2 ⟨v', rfl, hn2, hb2⟩
        exact ⟨_, rfl, ⟨_, rfl, hI.step (phK_mono w5.heap.size L E) hb2 8 _ (by simp) (fun u hu => by first | (cases hu; rfl) | cases hu) (⟨v', rfl, hn2.mono hO'.size⟩)⟩⟩
    · intro a W d V hI hd hpx hbk hf hp
      have hO' : Below w5.heap.size w5 W := hI.be
      have hno : ∀ x ∈ ([] : List Al), d x.2.1 = false := by simp
      refine RU.ob_val (v := V 8) rfl (RU.wanted_none rfl) (fun ev he hc => ?_) ⟨_, rfl, hI.step (phK_mono w5.heap.size L E) (Below.refl _ _) 9 _ (by simp) (fun u hu => by first | (cases hu; rfl) | cases hu) (hI.pr 8 (hpx 8 rfl) hno)⟩
      have q52 : ev (.tmp 52) = V 8 := (he (.tmp 52)).trans (hp 8 52 rfl)
      simp only [List.getElem_toArray, List.getElem_cons_succ, List.getElem_cons_zero, execOp, Option.map_some, Option.map_none]; rw [q52]
      first | (go_simp; done) | (go_simp; rfl) | rfl
    · intro a W d V hI hd hpx hbk hf hp
      have hO' : Below w5.heap.size w5 W := hI.be
      have e17 : a.eval (.tmp 43) = V 9 := hp 9 43 rfl
      obtain ⟨v', ev4, hn4⟩ : phK w5.heap.size L E 9 (V 9) W := hI.pr 9 (hpx 9 rfl) (by simp)
      refine RU.ob_val (v := v') rfl (RU.wanted_none rfl) (fun ev he hc => ?_) ⟨_, rfl, hI.step (phK_mono w5.heap.size L E) (Below.refl _ _) 10 _ (by simp) (fun u hu => by first | (cases hu; rfl) | cases hu) hn4⟩
      have q17 := (he (.tmp 43)).trans (e17.trans ev4)
      simp only [List.getElem_toArray, List.getElem_cons_succ, List.getElem_cons_zero, execOp, Option.map_some, Option.map_none]; rw [q17]
      first | (go_simp; done) | (go_simp; rfl) | rfl
    · intro a W d V hI hd hpx hbk hf hp
      have hO' : Below w5.heap.size w5 W := hI.be
      have e17 : a.eval (.tmp 43) = V 9 := hp 9 43 rfl
      obtain ⟨v', ev4, hn4⟩ : phK w5.heap.size L E 9 (V 9) W := hI.pr 9 (hpx 9 rfl) (by simp)
      refine RU.ob_val (v := .int .i64 E) rfl (RU.wanted_none rfl) (fun ev he hc => ?_) ⟨_, rfl, hI.step (phK_mono w5.heap.size L E) (Below.refl _ _) 11 _ (by simp) (fun u hu => by first | (cases hu; rfl) | cases hu) trivial⟩
      have q17 := (he (.tmp 43)).trans (e17.trans ev4)
      simp only [List.getElem_toArray, List.getElem_cons_succ, List.getElem_cons_zero, execOp, Option.map_some, Option.map_none]; rw [q17]
      first | (go_simp; done) | (go_simp; rfl) | rfl
    · intro a W d V hI hd hpx hbk hf hp
      have hO' : Below w5.heap.size w5 W := hI.be
      have hno : ∀ x ∈ ([] : List Al), d x.2.1 = false := by simp
      refine RU.ob_val (v := V 10) rfl (RU.wanted_none rfl) (fun ev he hc => ?_) ⟨_, rfl, hI.step (phK_mono w5.heap.size L E) (Below.refl _ _) 12 _ (by simp) (fun u hu => by first | (cases hu; rfl) | cases hu) (hI.pr 10 (hpx 10 rfl) hno)⟩
      have q53 : ev (.tmp 53) = V 10 := (he (.tmp 53)).trans (hp 10 53 rfl)
      simp only [List.getElem_toArray, List.getElem_cons_succ, List.getElem_cons_zero, execOp, Option.map_some, Option.map_none]; rw [q53]
      first | (go_simp; done) | (go_simp; rfl) | rfl
    · intro a W d V hI hd hpx hbk hf hp
      have hO' : Below w5.heap.size w5 W := hI.be
      refine RU.ob_val (v := .int .i64 E) rfl (RU.wanted_none rfl) (fun ev he hc => ?_) ⟨_, rfl, hI.step (phK_mono w5.heap.size L E) (Below.refl _ _) 13 _ (by simp) (fun u hu => by first | (cases hu; rfl) | cases hu) (trivial)⟩
      have q54 : ev (.tmp 54) = .int .i64 E := (he (.tmp 54)).trans ((hp 11 54 rfl).trans (hI.kn 11 _ rfl (hpx 11 rfl)))
      simp only [List.getElem_toArray, List.getElem_cons_succ, List.getElem_cons_zero, execOp, Option.map_some, Option.map_none]; rw [q54]
      first | (go_simp; done) | (go_simp; rfl) | rfl
  intro w6 dw6 Vw6 hal hI
  have Bw6 : Hid (Below w5.heap.size w5 w6) := hI.be
  have hs0 : Vw6 0 = .slice (some ⟨g5, 0, none⟩) m5 cp5 := hI.kn 0 _ rfl (hal 0 (by decide))
  have hs1 : Vw6 1 = .slice ad n cap := hI.kn 1 _ rfl (hal 1 (by decide))
  have hs2 : Vw6 2 = .int .i64 (n : Int) := hI.kn 2 _ rfl (hal 2 (by decide))
  have hs3 : Vw6 3 = .slice (some ⟨g5, 0, none⟩) n cp5 := hI.kn 3 _ rfl (hal 3 (by decide))
  have hs4 : Vw6 4 = .slice (some ⟨g6, 0, none⟩) m6 cp6 := hI.kn 4 _ rfl (hal 4 (by decide))
  have hs5 : Vw6 5 = .slice au m cu := hI.kn 5 _ rfl (hal 5 (by decide))
  have hs6 : Vw6 6 = .int .i64 (m : Int) := hI.kn 6 _ rfl (hal 6 (by decide))
  have hs7 : Vw6 7 = .slice (some ⟨g6, 0, none⟩) m cp6 := hI.kn 7 _ rfl (hal 7 (by decide))
  obtain ⟨u8, hs8⟩ : ∃ u, Vw6 8 = u := ⟨_, rfl⟩
  have P8w6 : Hid ((phK w5.heap.size L E) 8 u8 w6) := by rw [← hs8]; exact hI.pr 8 (hal 8 (by decide)) (by simp)
  obtain ⟨u9, hs9⟩ : ∃ u, Vw6 9 = u := ⟨_, rfl⟩
  have P9w6 : Hid ((phK w5.heap.size L E) 9 u9 w6) := by rw [← hs9]; exact hI.pr 9 (hal 9 (by decide)) (by simp)
  obtain ⟨u10, hs10⟩ : ∃ u, Vw6 10 = u := ⟨_, rfl⟩
  have P10w6 : Hid ((phK w5.heap.size L E) 10 u10 w6) := by rw [← hs10]; exact hI.pr 10 (hal 10 (by decide)) (by simp)
  have hs11 : Vw6 11 = .int .i64 E := hI.kn 11 _ rfl (hal 11 (by decide))
  obtain ⟨u12, hs12⟩ : ∃ u, Vw6 12 = u := ⟨_, rfl⟩
  have P12w6 : Hid ((phK w5.heap.size L E) 12 u12 w6) := by rw [← hs12]; exact hI.pr 12 (hal 12 (by decide)) (by simp)
  have hs13 : Vw6 13 = .int .i64 E := hI.kn 13 _ rfl (hal 13 (by decide))
  simp only [RU.lay, Act.put, hs0, hs1, hs2, hs3, hs4, hs5, hs6, hs7, hs8, hs9, hs10, hs11, hs12, hs13]
  simp only [List.setIfInBounds_toArray, List.set_cons_succ, List.set_cons_zero]
  clear hI hal hs0 hs1 hs2 hs3 hs4 hs5 hs6 hs7 hs8 hs9 hs10 hs11 hs12 hs13
  have C6 : Hid (Below w.heap.size w w6) := Below.tr' Cw5.out Bw6.out
  have G6 : Hid (Below w5.heap.size w5 w6) := Bw6.out
  have O9 : Hid (NO w5.heap.size w6 u12 L) := P12w6.out
  obtain ⟨v9, hv9⟩ : ∃ q, u12 = q := ⟨_, rfl⟩
  rw [hv9] at O9 ⊢
  clear hv9 P8w6 P9w6 P10w6 P12w6
  go_upto_region 8 with (first
    | (go_at_call 7; refine (HRS.out w6 (VW.out.below C6.out) (UW.out.below C6.out)).mono ?_; rintro e w8 ⟨v11, rfl, g1, g2⟩; have O11 : Hid (NO w6.heap.size w8 v11 L) := g1; have G8 : Hid (Below w6.heap.size w6 w8) := g2; have C8 : Hid (Below w.heap.size w w8) := Below.tr' C6.out g2; clear g1 g2))
  have A9 : Hid (At0 w8 v9 L) := O9.out.at0.below G8.out
  have A11 : Hid (At0 w8 v11 L) := O11.out.at0
  have K9 : Hid (∀ b, v9.ownBlock = some b → w5.heap.size ≤ b) := fun b e => (O9.out.1.lt b e).1
  have K11 : Hid (∀ b, v11.ownBlock = some b → w6.heap.size ≤ b) := fun b e => (O11.out.1.lt b e).1
  have O78 : Hid (NO w4.heap.size w8 v7 L) := O7.out.below (Below.tr' G6.out G8.out)
  have K7 : Hid (∀ b, v7.ownBlock = some b → w4.heap.size ≤ b ∧ b < w5.heap.size) := fun b e => O7.out.1.lt b e
  have G48 : Hid (Below w4.heap.size w4 w8) := Below.tr' Bw5.out (Below.tr' G6.out G8.out)
  have G38 : Hid (Below w3.heap.size w3 w8) := Below.tr' G4.out G48.out
  have C4 : Hid (Below w.heap.size w w4) := Cw4.out
  obtain ⟨a7, c7, e7, -, -⟩ := id O7.out.ns
  obtain ⟨a9, c9, e9, -, -⟩ := id O9.out.ns
  obtain ⟨a11, c11, e11, -, -⟩ := id O11.out.ns
  rw [HNL.out] at e7 e9 e11
  subst e7
  subst e9
  subst e11
  go_wp2_with fail
  go_loopw [63] (fun i wr => ∃ (k : Nat) (La : List Nd), k ≤ nL ∧ i = .int .i64 (k : Int) ∧ La.length = nL ∧ NO w4.heap.size wr (.slice a7 nL c7) La ∧ (∀ (j : Nat) (x : Nd), j < k → La[j]? = some x → x.n = -7) ∧ At0 wr (.slice a9 nL c9) L ∧ At0 wr (.slice a11 nL c11) L ∧ Below w4.heap.size w8 wr) (fun i _ => nL - (intOf i).toNat)
  case atStart => exact ⟨0, L, Nat.zero_le _, rfl, HNL.out, O78.out, fun j x h => by omega, A9.out, A11.out, Below.refl _ _⟩
  case round =>
    obtain ⟨k, La, hkl, rfl, hla, q1, q2, q3, q4, q5⟩ := hrel
    have OA : Hid (NO w4.heap.size wr (.slice a7 nL c7) La) := q1
    have A7 : Hid (∀ (j : Nat) (x : Nd), j < k → La[j]? = some x → x.n = -7) := q2
    have A9r : Hid (At0 wr (.slice a9 nL c9) L) := q3
    have A11r : Hid (At0 wr (.slice a11 nL c11) L) := q4
    have BR : Hid (Below w4.heap.size w8 wr) := q5
    have HLA : Hid (La.length = nL) := hla
    clear q1 q2 q3 q4 q5 hla
    by_cases hlt : k < nL
    · have HLT : Hid (k < nL) := hlt
      obtain ⟨x, hx⟩ : ∃ x, La[k]? = some x := ⟨La[k]'(by rw [HLA.out]; exact hlt), List.getElem?_eq_getElem (by rw [HLA.out]; exact hlt)⟩
      obtain ⟨g7, c7', e7, -⟩ := OA.out.sl (by intro e; rw [e] at hx; simp at hx)
      rw [HLA.out] at e7
      cases e7
      obtain ⟨c1, c2⟩ := OA.out.cell0 hx
      obtain ⟨s1, s2⟩ := OA.out.len1 hx (-7)
      have S1 : Hid (NO w4.heap.size (wr.setCell ⟨g7, k * 65, none⟩ (.int .i64 (-7))) (.slice (some ⟨g7, 0, none⟩) nL c7) (La.set k (sn (-7) x))) := s1
      have k7 := K7.out g7 rfl
      have S9 : Hid (At0 (wr.setCell ⟨g7, k * 65, none⟩ (.int .i64 (-7))) (.slice a9 nL c9) L) := A9r.out.far s2 (fun _ b hb e => by cases e; have := K9.out _ hb; omega)
      have S11 : Hid (At0 (wr.setCell ⟨g7, k * 65, none⟩ (.int .i64 (-7))) (.slice a11 nL c11) L) := A11r.out.far s2 (fun _ b hb e => by cases e; have := K11.out _ hb; have := G6.out.size; omega)
      have SB : Hid (Below w4.heap.size w8 (wr.setCell ⟨g7, k * 65, none⟩ (.int .i64 (-7)))) := BR.out.grown s2 (Nat.le_trans G48.out.size BR.out.size) (fun b e => by cases e; exact k7.1)
      have HXK : Hid (La[k]? = some x) := hx
      clear s1 s2 hx
      go_wp2_with fail
      refine ⟨⟨k + 1, La.set k (sn (-7) x), HLT.out, by go_num, by rw [List.length_set]; exact HLA.out, S1.out, fun j z hj hz => ?_, S9.out, S11.out, SB.out⟩, by have := HLT.out; simp [intOf]; omega⟩
      rw [List.getElem?_set] at hz
      by_cases e : k = j
      · subst e
        rw [if_pos rfl, if_pos (by rw [HLA.out]; exact HLT.out)] at hz
        cases hz; rfl
      · rw [if_neg e] at hz
        exact A7.out j z (by omega) hz
    · obtain rfl : k = nL := by omega
      have A77 : Hid (∀ x ∈ La, x.n = -7) := fun x hx => by
        obtain ⟨j, hj, rfl⟩ := List.getElem_of_mem hx
        exact A7.out j _ (by rw [HLA.out] at hj; exact hj) (List.getElem?_eq_getElem hj)
      go_wp2_with fail
      go_loopw [7, 71] (fun av i wr2 => ∃ (j : Nat) (Lb : List Nd), j ≤ 20 ∧ i = .int .i64 (j : Int) ∧ Lb.length = k + j ∧ NO w4.heap.size wr2 av Lb ∧ (∀ x ∈ Lb, x.n = -7) ∧ At0 wr2 (.slice a9 k c9) L ∧ At0 wr2 (.slice a11 k c11) L ∧ Below w4.heap.size w8 wr2) (fun _ i _ => 20 - (intOf i).toNat)
      case atStart => exact ⟨0, La, Nat.zero_le _, rfl, HLA.out, OA.out, A77.out, A9r.out, A11r.out, BR.out⟩
      case round =>
        obtain ⟨j, Lb, hjl, rfl, hlb, q1, q2, q3, q4, q5⟩ := hrel
        have OB : Hid (NO w4.heap.size wr u7 Lb) := q1
        have B7 : Hid (∀ x ∈ Lb, x.n = -7) := q2
        have A9b : Hid (At0 wr (.slice a9 k c9) L) := q3
        have A11b : Hid (At0 wr (.slice a11 k c11) L) := q4
        have BB : Hid (Below w4.heap.size w8 wr) := q5
        have HLB : Hid (Lb.length = k + j) := hlb
        clear q1 q2 q3 q4 q5 hlb
        by_cases hlt2 : j < 20
        · have HLT2 : Hid (j < 20) := hlt2
          have A9x : At0 (wr.alloc (.cells (nc n7).toArray 33)) (.slice a9 k c9) L := A9b.out.below ((Below.refl _ wr).alloc (Nat.le_refl _) _)
          have A11x : At0 (wr.alloc (.cells (nc n7).toArray 33)) (.slice a11 k c11) L := A11b.out.below ((Below.refl _ wr).alloc (Nat.le_refl _) _)
          have OBx : NO w4.heap.size (wr.alloc (.cells (nc n7).toArray 33)) u7 Lb := OB.out.alloc _
          have hLb : L ≠ [] → Lb ≠ [] := fun h e => by
            have h1 := HLB.out
            rw [e] at h1
            have h2 := List.length_pos_iff.2 h
            have h3 := HNL.out
            simp at h1
            omega
          obtain ⟨v3, w9, hr, h1, h2, h3⟩ := app_own OBx (m := [n7]) (fun z hz => by simp at hz; subst hz; exact HN7O.out) (ns_one wr n7 _) (by have := HLB.out; simp only [List.length_cons, List.length_nil]; omega)
          have HR9 : Hid ((Builtin.append_ #[28, 28] 28 #[u7, .slice (some ⟨wr.heap.size, 0, none⟩) 1 1]).run Tryd.prog (wr.alloc (.cells (nc n7).toArray 33)) = .ok v3 w9) := hr
          have O9' : Hid (NO w4.heap.size w9 v3 (Lb ++ [n7])) := h1
          have B9 : Hid (Below w4.heap.size w8 w9) := (BB.out.alloc (Nat.le_trans G48.out.size BB.out.size) _).trans h2
          have X9 : Hid (At0 w9 (.slice a9 k c9) L) := A9x.far h3 (fun hne b hb => A9x.ne OBx B7.out HL7.out hne (hLb hne) b hb)
          have X11 : Hid (At0 w9 (.slice a11 k c11) L) := A11x.far h3 (fun hne b hb => A11x.ne OBx B7.out HL7.out hne (hLb hne) b hb)
          clear hr h1 h2 h3 A9x A11x OBx hLb
          go_wp2_with (first
            | (refine wp_build1 33 (.const (.int .i64 (-7))) rfl rfl (.int .i64 (-7)) rfl _ (HN7B.out wr) ?_)
            | (refine wpList_onen rfl (.tmp 74) rfl n7 HN7O.out rfl ?_)
            | (at_builtin; refine wp_app_run rfl (.tmp 73) (.tmp 75) 28 rfl 28 rfl u7 (.slice (some ⟨wr.heap.size, 0, none⟩) 1 1) v3 w9 rfl rfl HR9.out ?_))
          refine ⟨⟨j + 1, Lb ++ [n7], HLT2.out, by go_num, by have := HLB.out; simp only [List.length_append, List.length_cons, List.length_nil]; omega, O9'.out, fun x hx => ?_, X9.out, X11.out, B9.out⟩, by have := HLT2.out; simp [intOf]; omega⟩
          rcases List.mem_append.1 hx with q | q
          · exact B7.out x q
          · simp at q; subst q; exact HN7N.out
        · have Cw : Hid (Below w.heap.size w wr) := C8.out.trans (BB.out.mono C4.out.size)
          have GW : Hid (w4.heap.size ≤ wr.heap.size) := Nat.le_trans G48.out.size BB.out.size
          have RRw : Hid (∀ (i : Nat) (x : Lf), (ls ++ [l77])[i]? = some x → wr.rangeAt g5 (0 + i * 64) (lfc x)) := fun i x hi => range_low (range_below (RRg5.out i x hi) G38.out LTg5.out) BB.out L5.out
          have RSw : Hid (∀ (i : Nat) (x : Lf), (ms ++ [l78])[i]? = some x → wr.rangeAt g6 (0 + i * 64) (lfc x)) := fun i x hi => range_low (range_below (RRg6.out i x hi) G48.out LTg6.out) BB.out LTg6.out
          have L5w : Hid (g5 < wr.heap.size) := Nat.lt_of_lt_of_le L5.out GW.out
          have L6w : Hid (g6 < wr.heap.size) := Nat.lt_of_lt_of_le LTg6.out GW.out
          have VYr : Hid (LS wr (.slice (some ⟨g6, 0, none⟩) m cp6) ms) := ls_first HM.out hcng6 L6w.out RSw.out
          have hm8 : (m : Int) ≤ (cp6 : Int) := by omega
          have N9r : Hid (NS wr (.slice a9 k c9) L) := A9b.out.ns
          go_upto_region 18 with (first
            | (refine wp_build0 25 rfl rfl _ (HB0.out wr) ?_)
            | (go_at_call 8; refine (HCK.out _ _ wr N9r.out VYr.out Cw.out).mono ?_; rintro e wg ⟨er, rfl, g1⟩; have Grg : Hid (Below wr.heap.size wr wg) := g1; clear g1))
          have R77 : wg.rangeAt g5 (n * 64) (lfc l77) := by have := range_below (RRw.out n l77 (by rw [← HN.out]; simp)) Grg.out L5w.out; rwa [Nat.zero_add] at this
          have c77 : wg.cell? ⟨g5, n * 64 + 32, none⟩ = some (.int .u8 77) := R77 32 _ HV77.out
          have R78 : wg.rangeAt g6 (m * 64) (lfc l78) := by have := range_below (RSw.out m l78 (by rw [← HM.out]; simp)) Grg.out L6w.out; rwa [Nat.zero_add] at this
          have c78 : wg.cell? ⟨g6, m * 64 + 32, none⟩ = some (.int .u8 78) := R78 32 _ HV78.out
          have hz5 : (n : Int) < (m5 : Int) := by omega
          have hz6 : (m : Int) < (m6 : Int) := by omega
          have N9g : Hid (NS wg (.slice a9 k c9) L) := A9b.out.ns.below Grg.out
          have N11g : Hid (NS wg (.slice a11 k c11) L) := A11b.out.ns.below Grg.out
          clear R77 R78
          go_wp2_with (go_at_call 9; refine (HSM.out _ _ wg N9g.out N11g.out).mono ?_; rintro e w18 ⟨rfl, g1⟩; have G18 : Hid (Below wr.heap.size wr w18) := Below.tr' Grg.out g1; clear g1)
          have RR18 : Hid (∀ (i : Nat) (x : Lf), (ls ++ [l77])[i]? = some x → w18.rangeAt g5 (0 + i * 64) (lfc x)) := fun i x hi => range_below (RRw.out i x hi) G18.out L5w.out
          have RS18 : Hid (∀ (i : Nat) (x : Lf), (ms ++ [l78])[i]? = some x → w18.rangeAt g6 (0 + i * 64) (lfc x)) := fun i x hi => range_below (RSw.out i x hi) G18.out L6w.out
          have L518 : Hid (g5 < w18.heap.size) := Nat.lt_of_lt_of_le L5w.out G18.out.size
          have L618 : Hid (g6 < w18.heap.size) := Nat.lt_of_lt_of_le L6w.out G18.out.size
          have C18 : Hid (Below w.heap.size w w18) := Below.tr' Cw.out G18.out
          clear c77 c78
          go_loopw [14, 111] (fun kv i wx => ∃ t : Nat, t ≤ n ∧ kv = .bool true ∧ i = .int .i64 (t : Int) ∧ Below w18.heap.size w18 wx) (fun _ i _ => n - (intOf i).toNat)
          case atStart => exact ⟨0, Nat.zero_le _, rfl, rfl, Below.refl _ _⟩
          case round =>
            obtain ⟨t, htl, rfl, rfl, h4⟩ := hrel
            have H4 : Hid (Below w18.heap.size w18 wr) := h4
            clear h4
            by_cases hlt3 : t < n
            · have HLT : Hid (t < n) := hlt3
              obtain ⟨x, hx⟩ : ∃ x, ls[t]? = some x := ⟨ls[t]'(by rw [HN.out]; exact hlt3), List.getElem?_eq_getElem (by rw [HN.out]; exact hlt3)⟩
              have HX : Hid x.Ok := HK1.out x (List.mem_of_getElem? hx)
              rcases HXX.out with ⟨h0, _⟩ | ⟨b, o, rfl, hlb, hmm⟩
              · rw [h0] at hx; simp at hx
              · have Ce : Hid (Below w.heap.size w wr) := Below.tr' C18.out H4.out
                have RB : Hid (wr.rangeAt b (o + t * 64) (lfc x)) := range_below (hmm t x hx) Ce.out hlb
                have LB : Hid (b < wr.heap.size) := Nat.lt_of_lt_of_le hlb Ce.out.size
                have RA : Hid (wr.rangeAt g5 (t * 64) (lfc x)) := by rw [← Nat.zero_add (t * 64)]; exact range_below (RR18.out t x (by rw [List.getElem?_append_left (List.getElem?_eq_some_iff.1 hx).1]; exact hx)) H4.out L518.out
                have LA : Hid (g5 < wr.heap.size) := Nat.lt_of_lt_of_le L518.out H4.out.size
                clear hmm hlb hx
                go_upto_region 22 with (fail)
                refine RU.wp_rgn' [] (gk22f g5 b o n cap m5 cp5 t x) (fun _ => 0) (gΩ wr) (by kernel_rfl) (by kernel_rfl) (show Below wr.heap.size wr _ from (Below.refl _ _).drew) ?_ ?_
                · refine ⟨?_, ?_, ?_, ?_, ?_, ?_, ?_, ?_, ?_, ?_, ?_, ?_, ?_, trivial⟩
                  · refine RU.ObT.pure rfl rfl rfl (fun a V hf hp ev he hc W => ?_)
                    have q14 : ev (.tmp 14) = .bool true := (he (.tmp 14)).trans (hf 14 rfl)
                    simp only [List.getElem_toArray, List.getElem_cons_succ, List.getElem_cons_zero, execOp, Option.map_some, Option.map_none]; rw [q14]
                    first | (go_simp; done) | (go_simp; rfl) | rfl
                  · refine RU.ObT.pure rfl rfl rfl (fun a V hf hp ev he hc W => ?_)
                    have q114 : ev (.tmp 114) = .bool true := (he (.tmp 114)).trans (hp 0 114 rfl)
                    simp only [List.getElem_toArray, List.getElem_cons_succ, List.getElem_cons_zero, execOp, Option.map_some, Option.map_none]; rw [q114]
                    first | (go_simp; done) | (go_simp; rfl) | rfl
                  · refine RU.ObT.silent rfl (fun a W k0 V hO hf hp hk => ?_)
                    have hg : a.eval (.tmp 115) = .bool true := hp 1 115 rfl
                    refine RU.ob_val rfl (RU.wanted_some rfl rfl rfl hg) (fun ev he hc => ?_) ⟨rfl, hO⟩
                    have q5 : ev (.tmp 5) = .slice (some ⟨g5, 0, none⟩) m5 cp5 := (he (.tmp 5)).trans (hf 5 rfl)
                    simp only [List.getElem_toArray, List.getElem_cons_succ, List.getElem_cons_zero, execOp, Option.map_some, Option.map_none]; rw [q5]
                    first | (go_simp; done) | (go_simp; rfl) | rfl
                  · refine RU.ObT.silent rfl (fun a W k0 V hO hf hp hk => ?_)
                    have hg : a.eval (.tmp 115) = .bool true := hp 1 115 rfl
                    refine RU.ob_val rfl (RU.wanted_some rfl rfl rfl hg) (fun ev he hc => ?_) ⟨rfl, hO⟩
                    have q15 : ev (.tmp 15) = .int .i64 (t : Int) := (he (.tmp 15)).trans (hf 15 rfl)
                    simp only [List.getElem_toArray, List.getElem_cons_succ, List.getElem_cons_zero, execOp, Option.map_some, Option.map_none]; rw [q15]
                    first | (go_simp; done) | (go_simp; rfl) | rfl
                  · refine RU.ObT.silent rfl (fun a W k0 V hO hf hp hk => ?_)
                    have hg : a.eval (.tmp 115) = .bool true := hp 1 115 rfl
                    refine RU.ob_val rfl (RU.wanted_some rfl rfl rfl hg) (fun ev he hc => ?_) ⟨rfl, hO⟩
                    have q116 : ev (.tmp 116) = .slice (some ⟨g5, 0, none⟩) m5 cp5 := (he (.tmp 116)).trans (hp 2 116 rfl)
                    have q117 : ev (.tmp 117) = .int .i64 (t : Int) := (he (.tmp 117)).trans (hp 3 117 rfl)
                    simp only [List.getElem_toArray, List.getElem_cons_succ, List.getElem_cons_zero, execOp, Option.map_some, Option.map_none]; rw [q116, q117]
                    have hk9 : (t : Int) < (n : Int) := by have := HLT.out; omega
                    have hk8 : (t : Int) < (m5 : Int) := by have := HLT.out; omega
                    first | (go_simp; done) | (go_simp; rfl) | rfl
                  · refine RU.ObT.silent rfl (fun a W k0 V hO hf hp hk => ?_)
                    have hg : a.eval (.tmp 115) = .bool true := hp 1 115 rfl
                    have hO' : Below wr.heap.size wr W := hO
                    have q118 : a.eval (.tmp 118) = .pointer (some ⟨g5, t * 64, none⟩) := hp 4 118 rfl
                    exact RU.ob_op rfl (RU.wanted_some rfl rfl rfl hg) (wp_load_mid 27 (.tmp 118) rfl (g5) (t * 64) q118 (lfc x) _ (range_below RA.out hO' LA.out) Tryd.underlying27 rfl (size_lfc HX.out) ⟨rfl, hO⟩)
                  · refine RU.ObT.silent rfl (fun a W k0 V hO hf hp hk => ?_)
                    have hg : a.eval (.tmp 115) = .bool true := hp 1 115 rfl
                    refine RU.ob_val rfl (RU.wanted_some rfl rfl rfl hg) (fun ev he hc => ?_) ⟨rfl, hO⟩
                    have q0 : ev (.tmp 0) = .slice (some ⟨b, o, none⟩) n cap := (he (.tmp 0)).trans (hf 0 rfl)
                    simp only [List.getElem_toArray, List.getElem_cons_succ, List.getElem_cons_zero, execOp, Option.map_some, Option.map_none]; rw [q0]
                    first | (go_simp; done) | (go_simp; rfl) | rfl
                  · refine RU.ObT.silent rfl (fun a W k0 V hO hf hp hk => ?_)
                    have hg : a.eval (.tmp 115) = .bool true := hp 1 115 rfl
                    refine RU.ob_val rfl (RU.wanted_some rfl rfl rfl hg) (fun ev he hc => ?_) ⟨rfl, hO⟩
                    have q15 : ev (.tmp 15) = .int .i64 (t : Int) := (he (.tmp 15)).trans (hf 15 rfl)
                    simp only [List.getElem_toArray, List.getElem_cons_succ, List.getElem_cons_zero, execOp, Option.map_some, Option.map_none]; rw [q15]
                    first | (go_simp; done) | (go_simp; rfl) | rfl
                  · refine RU.ObT.silent rfl (fun a W k0 V hO hf hp hk => ?_)
                    have hg : a.eval (.tmp 115) = .bool true := hp 1 115 rfl
                    refine RU.ob_val rfl (RU.wanted_some rfl rfl rfl hg) (fun ev he hc => ?_) ⟨rfl, hO⟩
                    have q120 : ev (.tmp 120) = .slice (some ⟨b, o, none⟩) n cap := (he (.tmp 120)).trans (hp 6 120 rfl)
                    have q121 : ev (.tmp 121) = .int .i64 (t : Int) := (he (.tmp 121)).trans (hp 7 121 rfl)
                    simp only [List.getElem_toArray, List.getElem_cons_succ, List.getElem_cons_zero, execOp, Option.map_some, Option.map_none]; rw [q120, q121]
                    have hk9 : (t : Int) < (n : Int) := by have := HLT.out; omega
                    have hk8 : (t : Int) < (m5 : Int) := by have := HLT.out; omega
                    first | (go_simp; done) | (go_simp; rfl) | rfl
                  · refine RU.ObT.silent rfl (fun a W k0 V hO hf hp hk => ?_)
                    have hg : a.eval (.tmp 115) = .bool true := hp 1 115 rfl
                    have hO' : Below wr.heap.size wr W := hO
                    have q122 : a.eval (.tmp 122) = .pointer (some ⟨b, o + t * 64, none⟩) := hp 8 122 rfl
                    exact RU.ob_op rfl (RU.wanted_some rfl rfl rfl hg) (wp_load_mid 27 (.tmp 122) rfl (b) (o + t * 64) q122 (lfc x) _ (range_below RB.out hO' LB.out) Tryd.underlying27 rfl (size_lfc HX.out) ⟨rfl, hO⟩)
                  · refine RU.ObT.silent rfl (fun a W k0 V hO hf hp hk => ?_)
                    have hg : a.eval (.tmp 115) = .bool true := hp 1 115 rfl
                    refine RU.ob_val rfl (RU.wanted_some rfl rfl rfl hg) (fun ev he hc => ?_) ⟨rfl, hO⟩
                    have q119 : ev (.tmp 119) = .agg (lfc x).toArray := (he (.tmp 119)).trans (hp 5 119 rfl)
                    have q123 : ev (.tmp 123) = .agg (lfc x).toArray := (he (.tmp 123)).trans (hp 9 123 rfl)
                    simp only [List.getElem_toArray, List.getElem_cons_succ, List.getElem_cons_zero, execOp, Option.map_some, Option.map_none]; rw [q119, q123]
                    simp only [Sem.run_bind, eqg_lf, eql_lf HX.out W, Result.andThen_ok, Sem.run_pure]; rfl
                  · refine RU.ObT.pure rfl rfl rfl (fun a V hf hp ev he hc W => ?_)
                    have q115 : ev (.tmp 115) = .bool true := (he (.tmp 115)).trans (hp 1 115 rfl)
                    have q124 : ev (.tmp 124) = .bool true := (he (.tmp 124)).trans (hp 10 124 rfl)
                    simp only [List.getElem_toArray, List.getElem_cons_succ, List.getElem_cons_zero, execOp, Option.map_some, Option.map_none]; rw [q115, q124]
                    try simp only [hc]
                    first | (go_simp; done) | (go_simp; rfl) | rfl
                  · refine RU.ObT.pure rfl rfl rfl (fun a V hf hp ev he hc W => ?_)
                    have q125 : ev (.tmp 125) = .bool true := (he (.tmp 125)).trans (hp 11 125 rfl)
                    simp only [List.getElem_toArray, List.getElem_cons_succ, List.getElem_cons_zero, execOp, Option.map_some, Option.map_none]; rw [q125]
                    first | (go_simp; done) | (go_simp; rfl) | rfl
                intro W1 VW1 hOW1
                have BW1 : Hid (Below wr.heap.size wr W1) := hOW1
                clear hOW1
                simp only [RU.lay, RU.val, RU.at', gk22f, Act.put]
                simp only [List.setIfInBounds_toArray, List.set_cons_succ, List.set_cons_zero]
                go_wp2_with fail
                exact ⟨⟨t + 1, HLT.out, rfl, by go_num, H4.out.trans (BW1.out.mono H4.out.size)⟩, by have := HLT.out; simp [intOf]; omega⟩
            · have C19 : Hid (Below w.heap.size w wr) := Below.tr' C18.out H4.out
              have RS19 : Hid (∀ (i : Nat) (x : Lf), (ms ++ [l78])[i]? = some x → wr.rangeAt g6 (0 + i * 64) (lfc x)) := fun i x hi => range_below (RS18.out i x hi) H4.out L618.out
              have L619 : Hid (g6 < wr.heap.size) := Nat.lt_of_lt_of_le L618.out H4.out.size
              obtain ⟨w19, hw19⟩ : ∃ q, wr = q := ⟨_, rfl⟩
              rw [hw19] at C19 RS19 L619 ⊢
              go_wp2_with fail
              go_loopw [14, 129] (fun kv i wx => ∃ t : Nat, t ≤ m ∧ kv = .bool true ∧ i = .int .i64 (t : Int) ∧ Below w19.heap.size w19 wx) (fun _ i _ => m - (intOf i).toNat)
              case atStart => exact ⟨0, Nat.zero_le _, rfl, rfl, Below.refl _ _⟩
              case round =>
                obtain ⟨t, htl, rfl, rfl, h4⟩ := hrel
                have H4' : Hid (Below w19.heap.size w19 wr) := h4
                clear h4
                by_cases hlt4 : t < m
                · have HLT : Hid (t < m) := hlt4
                  obtain ⟨x, hx⟩ : ∃ x, ms[t]? = some x := ⟨ms[t]'(by rw [HM.out]; exact hlt4), List.getElem?_eq_getElem (by rw [HM.out]; exact hlt4)⟩
                  have HX : Hid x.Ok := HK2.out x (List.mem_of_getElem? hx)
                  rcases HYY.out with ⟨h0, _⟩ | ⟨b, o, rfl, hlb, hmm⟩
                  · rw [h0] at hx; simp at hx
                  · have Ce : Hid (Below w.heap.size w wr) := Below.tr' C19.out H4'.out
                    have RB : Hid (wr.rangeAt b (o + t * 64) (lfc x)) := range_below (hmm t x hx) Ce.out hlb
                    have LB : Hid (b < wr.heap.size) := Nat.lt_of_lt_of_le hlb Ce.out.size
                    have RA : Hid (wr.rangeAt g6 (t * 64) (lfc x)) := by rw [← Nat.zero_add (t * 64)]; exact range_below (RS19.out t x (by rw [List.getElem?_append_left (List.getElem?_eq_some_iff.1 hx).1]; exact hx)) H4'.out L619.out
                    have LA : Hid (g6 < wr.heap.size) := Nat.lt_of_lt_of_le L619.out H4'.out.size
                    clear hmm hlb hx
                    go_upto_region 27 with (fail)
                    refine RU.wp_rgn' [] (gk27f g6 b o m cu m6 cp6 t x) (fun _ => 0) (gΩ wr) (by kernel_rfl) (by kernel_rfl) (show Below wr.heap.size wr _ from (Below.refl _ _).drew) ?_ ?_
                    · refine ⟨?_, ?_, ?_, ?_, ?_, ?_, ?_, ?_, ?_, ?_, ?_, ?_, ?_, trivial⟩
                      · refine RU.ObT.pure rfl rfl rfl (fun a V hf hp ev he hc W => ?_)
                        have q14 : ev (.tmp 14) = .bool true := (he (.tmp 14)).trans (hf 14 rfl)
                        simp only [List.getElem_toArray, List.getElem_cons_succ, List.getElem_cons_zero, execOp, Option.map_some, Option.map_none]; rw [q14]
                        first | (go_simp; done) | (go_simp; rfl) | rfl
                      · refine RU.ObT.pure rfl rfl rfl (fun a V hf hp ev he hc W => ?_)
                        have q132 : ev (.tmp 132) = .bool true := (he (.tmp 132)).trans (hp 0 132 rfl)
                        simp only [List.getElem_toArray, List.getElem_cons_succ, List.getElem_cons_zero, execOp, Option.map_some, Option.map_none]; rw [q132]
                        first | (go_simp; done) | (go_simp; rfl) | rfl
                      · refine RU.ObT.silent rfl (fun a W k0 V hO hf hp hk => ?_)
                        have hg : a.eval (.tmp 133) = .bool true := hp 1 133 rfl
                        refine RU.ob_val rfl (RU.wanted_some rfl rfl rfl hg) (fun ev he hc => ?_) ⟨rfl, hO⟩
                        have q6 : ev (.tmp 6) = .slice (some ⟨g6, 0, none⟩) m6 cp6 := (he (.tmp 6)).trans (hf 6 rfl)
                        simp only [List.getElem_toArray, List.getElem_cons_succ, List.getElem_cons_zero, execOp, Option.map_some, Option.map_none]; rw [q6]
                        first | (go_simp; done) | (go_simp; rfl) | rfl
                      · refine RU.ObT.silent rfl (fun a W k0 V hO hf hp hk => ?_)
                        have hg : a.eval (.tmp 133) = .bool true := hp 1 133 rfl
                        refine RU.ob_val rfl (RU.wanted_some rfl rfl rfl hg) (fun ev he hc => ?_) ⟨rfl, hO⟩
                        have q16 : ev (.tmp 16) = .int .i64 (t : Int) := (he (.tmp 16)).trans (hf 16 rfl)
                        simp only [List.getElem_toArray, List.getElem_cons_succ, List.getElem_cons_zero, execOp, Option.map_some, Option.map_none]; rw [q16]
                        first | (go_simp; done) | (go_simp; rfl) | rfl
                      · refine RU.ObT.silent rfl (fun a W k0 V hO hf hp hk => ?_)
                        have hg : a.eval (.tmp 133) = .bool true := hp 1 133 rfl
                        refine RU.ob_val rfl (RU.wanted_some rfl rfl rfl hg) (fun ev he hc => ?_) ⟨rfl, hO⟩
                        have q134 : ev (.tmp 134) = .slice (some ⟨g6, 0, none⟩) m6 cp6 := (he (.tmp 134)).trans (hp 2 134 rfl)
                        have q135 : ev (.tmp 135) = .int .i64 (t : Int) := (he (.tmp 135)).trans (hp 3 135 rfl)
                        simp only [List.getElem_toArray, List.getElem_cons_succ, List.getElem_cons_zero, execOp, Option.map_some, Option.map_none]; rw [q134, q135]
                        have hk9 : (t : Int) < (m : Int) := by have := HLT.out; omega
                        have hk8 : (t : Int) < (m6 : Int) := by have := HLT.out; omega
                        first | (go_simp; done) | (go_simp; rfl) | rfl
                      · refine RU.ObT.silent rfl (fun a W k0 V hO hf hp hk => ?_)
                        have hg : a.eval (.tmp 133) = .bool true := hp 1 133 rfl
                        have hO' : Below wr.heap.size wr W := hO
                        have q136 : a.eval (.tmp 136) = .pointer (some ⟨g6, t * 64, none⟩) := hp 4 136 rfl
                        exact RU.ob_op rfl (RU.wanted_some rfl rfl rfl hg) (wp_load_mid 27 (.tmp 136) rfl (g6) (t * 64) q136 (lfc x) _ (range_below RA.out hO' LA.out) Tryd.underlying27 rfl (size_lfc HX.out) ⟨rfl, hO⟩)
                      · refine RU.ObT.silent rfl (fun a W k0 V hO hf hp hk => ?_)
                        have hg : a.eval (.tmp 133) = .bool true := hp 1 133 rfl
                        refine RU.ob_val rfl (RU.wanted_some rfl rfl rfl hg) (fun ev he hc => ?_) ⟨rfl, hO⟩
                        have q1 : ev (.tmp 1) = .slice (some ⟨b, o, none⟩) m cu := (he (.tmp 1)).trans (hf 1 rfl)
                        simp only [List.getElem_toArray, List.getElem_cons_succ, List.getElem_cons_zero, execOp, Option.map_some, Option.map_none]; rw [q1]
                        first | (go_simp; done) | (go_simp; rfl) | rfl
                      · refine RU.ObT.silent rfl (fun a W k0 V hO hf hp hk => ?_)
                        have hg : a.eval (.tmp 133) = .bool true := hp 1 133 rfl
                        refine RU.ob_val rfl (RU.wanted_some rfl rfl rfl hg) (fun ev he hc => ?_) ⟨rfl, hO⟩
                        have q16 : ev (.tmp 16) = .int .i64 (t : Int) := (he (.tmp 16)).trans (hf 16 rfl)
                        simp only [List.getElem_toArray, List.getElem_cons_succ, List.getElem_cons_zero, execOp, Option.map_some, Option.map_none]; rw [q16]
                        first | (go_simp; done) | (go_simp; rfl) | rfl
                      · refine RU.ObT.silent rfl (fun a W k0 V hO hf hp hk => ?_)
                        have hg : a.eval (.tmp 133) = .bool true := hp 1 133 rfl
                        refine RU.ob_val rfl (RU.wanted_some rfl rfl rfl hg) (fun ev he hc => ?_) ⟨rfl, hO⟩
                        have q138 : ev (.tmp 138) = .slice (some ⟨b, o, none⟩) m cu := (he (.tmp 138)).trans (hp 6 138 rfl)
                        have q139 : ev (.tmp 139) = .int .i64 (t : Int) := (he (.tmp 139)).trans (hp 7 139 rfl)
                        simp only [List.getElem_toArray, List.getElem_cons_succ, List.getElem_cons_zero, execOp, Option.map_some, Option.map_none]; rw [q138, q139]
                        have hk9 : (t : Int) < (m : Int) := by have := HLT.out; omega
                        have hk8 : (t : Int) < (m6 : Int) := by have := HLT.out; omega
                        first | (go_simp; done) | (go_simp; rfl) | rfl
                      · refine RU.ObT.silent rfl (fun a W k0 V hO hf hp hk => ?_)
                        have hg : a.eval (.tmp 133) = .bool true := hp 1 133 rfl
                        have hO' : Below wr.heap.size wr W := hO
                        have q140 : a.eval (.tmp 140) = .pointer (some ⟨b, o + t * 64, none⟩) := hp 8 140 rfl
                        exact RU.ob_op rfl (RU.wanted_some rfl rfl rfl hg) (wp_load_mid 27 (.tmp 140) rfl (b) (o + t * 64) q140 (lfc x) _ (range_below RB.out hO' LB.out) Tryd.underlying27 rfl (size_lfc HX.out) ⟨rfl, hO⟩)
                      · refine RU.ObT.silent rfl (fun a W k0 V hO hf hp hk => ?_)
                        have hg : a.eval (.tmp 133) = .bool true := hp 1 133 rfl
                        refine RU.ob_val rfl (RU.wanted_some rfl rfl rfl hg) (fun ev he hc => ?_) ⟨rfl, hO⟩
                        have q137 : ev (.tmp 137) = .agg (lfc x).toArray := (he (.tmp 137)).trans (hp 5 137 rfl)
                        have q141 : ev (.tmp 141) = .agg (lfc x).toArray := (he (.tmp 141)).trans (hp 9 141 rfl)
                        simp only [List.getElem_toArray, List.getElem_cons_succ, List.getElem_cons_zero, execOp, Option.map_some, Option.map_none]; rw [q137, q141]
                        simp only [Sem.run_bind, eqg_lf, eql_lf HX.out W, Result.andThen_ok, Sem.run_pure]; rfl
                      · refine RU.ObT.pure rfl rfl rfl (fun a V hf hp ev he hc W => ?_)
                        have q133 : ev (.tmp 133) = .bool true := (he (.tmp 133)).trans (hp 1 133 rfl)
                        have q142 : ev (.tmp 142) = .bool true := (he (.tmp 142)).trans (hp 10 142 rfl)
                        simp only [List.getElem_toArray, List.getElem_cons_succ, List.getElem_cons_zero, execOp, Option.map_some, Option.map_none]; rw [q133, q142]
                        try simp only [hc]
                        first | (go_simp; done) | (go_simp; rfl) | rfl
                      · refine RU.ObT.pure rfl rfl rfl (fun a V hf hp ev he hc W => ?_)
                        have q143 : ev (.tmp 143) = .bool true := (he (.tmp 143)).trans (hp 11 143 rfl)
                        simp only [List.getElem_toArray, List.getElem_cons_succ, List.getElem_cons_zero, execOp, Option.map_some, Option.map_none]; rw [q143]
                        first | (go_simp; done) | (go_simp; rfl) | rfl
                    intro W1 VW1 hOW1
                    have BW1 : Hid (Below wr.heap.size wr W1) := hOW1
                    clear hOW1
                    simp only [RU.lay, RU.val, RU.at', gk27f, Act.put]
                    simp only [List.setIfInBounds_toArray, List.set_cons_succ, List.set_cons_zero]
                    go_wp2_with fail
                    exact ⟨⟨t + 1, HLT.out, rfl, by go_num, H4'.out.trans (BW1.out.mono H4'.out.size)⟩, by have := HLT.out; simp [intOf]; omega⟩
                · have C20 : Hid (Below w.heap.size w wr) := Below.tr' C19.out H4'.out
                  go_wp2_with fail
                  go_ret
                  exact ⟨rfl, C20.out⟩
end Go.Proofs.YtpojalbpekbfdabDoor
