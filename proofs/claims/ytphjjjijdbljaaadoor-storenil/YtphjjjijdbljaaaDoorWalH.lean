/- Halves; numbers cut off; splitting. -/
import Derived.Test.YtphjjjijdbljaaaDoorWalG
namespace Go.Proofs.YtphjjjijdbljaaaDoor
open Go Go.RowKit
set_option linter.unusedSimpArgs false
set_option linter.unusedVariables false
set_option maxRecDepth 100000

set_option maxHeartbeats 1000000 in
theorem half_any {F : Nat → Prop} {w : World} {g lg : Nat} {s : Dk} (h : PD F w g s) (hl : w.cell? ⟨lg, 0, none⟩ = some (.pointer (some ⟨g, 0, none⟩))) (hn : s.n ≤ 1048576) (t : Nat) (ht : t < 18446744073709551616) :
    Calls Tryd.prog 39 #[.pointer (some ⟨lg, 0, none⟩), .int .u64 (t : Int)] w fun e w' => e = .returned (.tuple #[.int .i64 (hfF s.n t : Int), .int .i64 (hfT s.n t : Int)]) ∧ w' = w := by
  have HP : Hid (PD F w g s) := h
  obtain ⟨n, hnn⟩ : ∃ n, s.n = n := ⟨_, rfl⟩
  have HN : Hid (s.n = n) := hnn
  rw [hnn] at hn ⊢
  clear h hnn
  obtain ⟨z, hz⟩ : ∃ z, n / 2 = z := ⟨_, rfl⟩
  have hz1 : (n : Int) / 2 = (z : Int) := by omega
  have hz2 : z ≤ 1048576 := by omega
  have HZ : Hid (n / 2 = z) := hz
  clear hz
  have hT : t % 2 = 0 ∨ t % 2 = 1 := by omega
  rcases hT with hT | hT
  · have hT' : (t : Int) % 2 = 0 := by omega
    have E1 : Hid (hfF n t = 0 ∧ hfT n t = z) := by show hfF n t = 0 ∧ hfT n t = z; unfold hfF hfT; rw [HZ.out, hT]; simp
    go_enter Tryd.func39, Tryd.ntmps39
    go_wp2_with (go_at_call 24; refine (sectors_any HP.out).mono ?_; rintro e w' ⟨rfl, rfl⟩; rw [HN.out])
    go_ret2
    refine ⟨?_, rfl⟩
    rw [E1.out.1, E1.out.2]; rfl
  · have hT' : (t : Int) % 2 = 1 := by omega
    have E1 : Hid (hfF n t = z ∧ hfT n t = z + z) := by show hfF n t = z ∧ hfT n t = z + z; unfold hfF hfT; rw [HZ.out, hT]; simp
    go_enter Tryd.func39, Tryd.ntmps39
    go_wp2_with (go_at_call 24; refine (sectors_any HP.out).mono ?_; rintro e w' ⟨rfl, rfl⟩; rw [HN.out])
    go_ret2
    refine ⟨?_, rfl⟩
    rw [E1.out.1, E1.out.2]; first | rfl | (congr 1; simp)
set_option maxHeartbeats 1000000 in
theorem cutNumber_no (xs : List Int) (v : Value) (w : World) (hs : Sl w v xs) (hl : xs.length < 8) :
    Calls Tryd.prog 59 #[v] w fun e w' => e = .returned (.tuple #[.int .u64 0, .slice none 0 0, .bool false]) ∧ w' = w := by
  obtain ⟨ad, cap, rfl, hc, -⟩ := hs
  have hl' : (xs.length : Int) < 8 := by omega
  go_enter Tryd.func59, Tryd.ntmps59
  go_wp2
  go_ret3
  exact ⟨rfl, rfl⟩
set_option maxHeartbeats 1000000 in
theorem cutNumber_yes (xs : List Int) (b o cap : Nat) (w : World) (hb : Byt xs) (hs : Sl w (.slice (some ⟨b, o, none⟩) xs.length cap) xs) (hl : 8 ≤ xs.length) (hc : xs.length ≤ cap) :
    Calls Tryd.prog 59 #[.slice (some ⟨b, o, none⟩) xs.length cap] w fun e w' => (∃ o', e = .returned (.tuple #[.int .u64 (nm (xs.take 8)), .slice (some ⟨b, o', none⟩) (xs.length - 8) (cap - 8), .bool true]) ∧ Sl w' (.slice (some ⟨b, o', none⟩) (xs.length - 8) (cap - 8)) (xs.drop 8)) ∧ Below w.heap.size w w' := by
  have H1 : Hid _ := hs.cut 8 hl
  have HB : Hid (Byt (xs.take 8)) := hb.take 8
  have HT : Hid ((xs.take 8).length = 8) := by show (xs.take 8).length = 8; rw [List.length_take]; omega
  have hl' : ¬ (xs.length : Int) < 8 := by omega
  have HV : Hid (rnVal (xs.take 8) = nm (xs.take 8) ∧ rnErr (xs.take 8) = 0) := by show _ ∧ _; unfold rnVal rnErr; rw [HT.out]; exact ⟨rfl, rfl⟩
  clear hb hs
  go_enter Tryd.func59, Tryd.ntmps59
  go_wp2_with (go_at_call 57; refine (readNum_any (xs.take 8) _ w HB.out H1.out.1 (by rw [HT.out]; omega)).mono ?_; rintro e w' ⟨rfl, rfl⟩; rw [HV.out.1, HV.out.2])
  go_quiet (fail)
  have hbd : Below w'.heap.size w' (w'.drewN nq) := below_drewN (Below.refl _ _) nq
  have HS2 : Hid (Sl (w'.drewN nq) _ (xs.drop 8)) := H1.out.2.below hbd (Nat.le_refl _)
  by_cases h4 : cap = 8
  · rw [if_pos h4] at HS2
    subst h4
    rw [Nat.sub_self, show xs.length - 8 = 0 by omega] at HS2
    have HD : Hid _ := hbd
    clear hbd
    go_wp2
    go_ret3
    exact ⟨⟨o, rfl, HS2.out⟩, HD.out⟩
  · rw [if_neg h4] at HS2
    have HD : Hid _ := hbd
    clear hbd
    go_wp2
    go_ret3
    exact ⟨⟨o + 8, rfl, HS2.out⟩, HD.out⟩
/-- The records' bytes, each behind its length. -/
def jx : List (List Int) → List Int
  | [] => []
  | m :: ms => be 8 (m.length : Int) ++ (m ++ jx ms)
theorem jx_app : ∀ l r : List (List Int), (jx (l ++ r)).length = (jx l).length + (jx r).length
  | [], r => by simp [jx]
  | x :: l, r => by simp only [List.cons_append, jx, List.length_append, jx_app l r]; omega
theorem jx_len : ∀ l : List (List Int), 8 * l.length ≤ (jx l).length
  | [] => by simp
  | x :: l => by have := jx_len l; simp only [jx, List.length_append, be_length, List.length_cons]; omega
theorem jx_snoc (m : List Int) : ∀ l : List (List Int), jx (l ++ [m]) = jx l ++ (be 8 (m.length : Int) ++ m)
  | [] => by simp [jx]
  | x :: l => by simp only [List.cons_append, jx, jx_snoc m l, List.append_assoc]
theorem jn_jx (t : Int) (xss : List (List Int)) : ∀ k, k ≤ xss.length → jn t xss k = be 8 t ++ jx (xss.take k)
  | 0, _ => by simp [jn, jx]
  | k + 1, h => by
    rw [take_snoc xss k h, jx_snoc, jn, jn_jx t xss k (by omega)]
    simp only [List.append_assoc]
theorem JN_jx (t : Int) (xss : List (List Int)) : JN t xss = be 8 t ++ jx xss := by
  unfold JN; rw [jn_jx t xss _ (Nat.le_refl _), List.take_length]
/-- Records of bytes, none of them too long. -/
def Rok (xss : List (List Int)) : Prop := ∀ m ∈ xss, Byt m ∧ m.length ≤ 65536
theorem jx_byt : ∀ {xss : List (List Int)}, Rok xss → Byt (jx xss)
  | [], _ => fun z hz => by cases hz
  | m :: ms, h => by
    intro z hz
    simp only [jx, List.mem_append] at hz
    rcases hz with hz | hz | hz
    · exact be_byt _ _ z hz
    · exact (h m (by simp)).1 z hz
    · exact jx_byt (fun x hx => h x (by simp [hx])) z hz
theorem be_cut (n : Int) (r : List Int) : (be 8 n ++ r).take 8 = be 8 n ∧ (be 8 n ++ r).drop 8 = r ∧ (be 8 n ++ r).length = 8 + r.length := by
  have h := be_length 8 n
  refine ⟨?_, ?_, by rw [List.length_append, h]⟩
  · rw [List.take_append_of_le_length (by omega), List.take_of_length_le (by omega)]
  · rw [List.drop_append_of_le_length (by omega), List.drop_of_length_le (by omega), List.nil_append]
/-- A number ahead of what is known. -/
theorem cutNumber_be (n : Int) (r : List Int) (hn : 0 ≤ n) (hn2 : n < 18446744073709551616) (b o cap : Nat) (w : World) (hb : Byt r) (hs : Sl w (.slice (some ⟨b, o, none⟩) (8 + r.length) cap) (be 8 n ++ r)) (hc : 8 + r.length ≤ cap) :
    Calls Tryd.prog 59 #[.slice (some ⟨b, o, none⟩) (8 + r.length) cap] w fun e w' => (∃ o', e = .returned (.tuple #[.int .u64 n, .slice (some ⟨b, o', none⟩) r.length (cap - 8), .bool true]) ∧ Sl w' (.slice (some ⟨b, o', none⟩) r.length (cap - 8)) r) ∧ Below w.heap.size w w' := by
  obtain ⟨h1, h2, h3⟩ := be_cut n r
  have hB : Byt (be 8 n ++ r) := fun z hz => by
    rcases List.mem_append.1 hz with h | h
    · exact be_byt _ _ z h
    · exact hb z h
  rw [← h3] at hs hc ⊢
  refine (cutNumber_yes _ b o cap w hB hs (by omega) hc).mono ?_
  rintro e w' ⟨⟨o', rfl, h4⟩, h5⟩
  rw [h2, h3, show 8 + r.length - 8 = r.length by omega] at h4
  exact ⟨⟨o', by rw [h1, nm_be8 n hn hn2, h3, show 8 + r.length - 8 = r.length by omega], h4⟩, h5⟩
theorem cutNumber_at (n : Int) (r : List Int) (N L : Nat) (hN : N = 8 + r.length) (hL : r.length = L) (hn : 0 ≤ n) (hn2 : n < 18446744073709551616) (b o cap : Nat) (w : World) (hb : Byt r) (hs : Sl w (.slice (some ⟨b, o, none⟩) N cap) (be 8 n ++ r)) (hc : N ≤ cap) :
    Calls Tryd.prog 59 #[.slice (some ⟨b, o, none⟩) N cap] w fun e w' => ∃ o', e = .returned (.tuple #[.int .u64 n, .slice (some ⟨b, o', none⟩) L (cap - 8), .bool true]) ∧ Sl w' (.slice (some ⟨b, o', none⟩) L (cap - 8)) r ∧ Below w.heap.size w w' := by
  subst hN; subst hL
  refine (cutNumber_be n r hn hn2 b o cap w hb hs hc).mono ?_
  rintro e w' ⟨⟨o', h1, h2⟩, h3⟩
  exact ⟨o', h1, h2, h3⟩
set_option maxHeartbeats 1000000 in
theorem split_no (w : World) :
    Calls Tryd.prog 42 #[.slice none 0 0] w fun e w' => e = .returned (.tuple #[.int .u64 0, .slice none 0 0, .bool false]) ∧ w' = w := by
  have HS : Hid (Sl w (.slice none 0 0) []) := ⟨none, 0, rfl, Nat.le_refl _, .inl ⟨rfl, fun _ => rfl⟩⟩
  go_enter Tryd.func42, Tryd.ntmps42
  go_wp2_with (go_at_call 59; refine (cutNumber_no [] _ w HS.out (by decide)).mono ?_; rintro e w' ⟨rfl, rfl⟩)
  go_loopw [2, 3, 4] (fun a b c wr => a = .int .u64 0 ∧ b = .slice none 0 0 ∧ c = .bool false ∧ wr = w') (fun _ _ _ _ => 0)
  case atStart => exact ⟨rfl, rfl, rfl, rfl⟩
  case round =>
    obtain ⟨rfl, rfl, rfl, rfl⟩ := hrel
    go_wp2
    go_ret3
    exact ⟨rfl, rfl⟩
theorem jx_pos (m : List Int) (ms : List (List Int)) : (jx (m :: ms)).length = 8 + (m ++ jx ms).length := by simp only [jx]; exact (be_cut _ _).2.2
set_option maxHeartbeats 2000000 in
theorem split_any (t : Int) (h0 : 0 ≤ t) (h1 : t < 18446744073709551616) (xss : List (List Int)) (b o cap : Nat) (w : World) (hs : Sl w (.slice (some ⟨b, o, none⟩) (JN t xss).length cap) (JN t xss)) (hR : Rok xss) (hc : (JN t xss).length ≤ cap) (hb : b < w.heap.size) (hn : (JN t xss).length ≤ 140737488355328) (hn3 : xss.length ≤ 4000000000000) :
    Calls Tryd.prog 42 #[.slice (some ⟨b, o, none⟩) (JN t xss).length cap] w fun e w' => ∃ v' us, e = .returned (.tuple #[.int .u64 t, v', .bool true]) ∧ OL w.heap.size w' v' us xss ∧ Below w.heap.size w w' := by
  obtain ⟨-, -, h3⟩ := be_cut t (jx xss)
  rw [JN_jx] at hs hc hn ⊢
  rw [h3] at hs hc hn ⊢
  have HS : Hid (Sl w (.slice (some ⟨b, o, none⟩) (8 + (jx xss).length) cap) (be 8 t ++ jx xss)) := hs
  have HR : Hid (Rok xss) := hR
  have HBW : Hid (b < w.heap.size) := hb
  have HN : Hid (8 + (jx xss).length ≤ 140737488355328) := hn
  have HS3 : Hid (xss.length ≤ 4000000000000) := hn3
  clear hs hR hb h3
  go_enter Tryd.func42, Tryd.ntmps42
  go_wp2_with (go_at_call 59; refine (cutNumber_be t (jx xss) h0 h1 b o cap w (jx_byt HR.out) HS.out hc).mono ?_; rintro e w1 ⟨⟨o1, rfl, h2⟩, h3⟩; have S1 : Hid (Sl w1 (.slice (some ⟨b, o1, none⟩) (jx xss).length (cap - 8)) (jx xss)) := h2; have B1 : Hid (Below w.heap.size w w1) := h3; clear h2 h3)
  go_loopw [2, 3, 4, 5] (fun tv lv ok rv wr => ∃ (l r : List (List Int)) (us : List Value) (o2 c2 : Nat), tv = .int .u64 t ∧ xss = l ++ r ∧ ok = .bool true ∧ rv = .slice (some ⟨b, o2, none⟩) (jx r).length c2 ∧ (jx r).length ≤ c2 ∧ Sl wr rv (jx r) ∧ OL w.heap.size wr lv us l ∧ Below w.heap.size w wr) (fun _ _ _ rv _ => lenOf rv)
  case atStart => exact ⟨[], xss, [], o1, cap - 8, rfl, rfl, rfl, rfl, by omega, S1.out, OL.nil _ _, B1.out⟩
  case round =>
    obtain ⟨l, r, us, o2, c2, rfl, hx, rfl, rfl, hc2, h4, h5, h6⟩ := hrel
    have H4 : Hid (Sl wr (.slice (some ⟨b, o2, none⟩) (jx r).length c2) (jx r)) := h4
    have H5 : Hid (OL w.heap.size wr _ us l) := h5
    have H6 : Hid (Below w.heap.size w wr) := h6
    have HX : Hid (xss = l ++ r) := hx
    clear h4 h5 h6 S1 B1 hx
    cases r with
    | nil =>
      rw [List.append_nil] at HX
      go_wp2
      go_ret3
      exact ⟨_, us, rfl, by rw [HX.out]; exact H5.out, H6.out⟩
    | cons m ms =>
      have hp := jx_pos m ms
      have HM : Hid (Byt m ∧ m.length ≤ 65536) := HR.out m (by rw [HX.out]; simp)
      have HB : Hid (Byt (m ++ jx ms)) := by
        show Byt _
        intro z hz
        rcases List.mem_append.1 hz with h | h
        · exact HM.out.1 z h
        · exact jx_byt (fun x hx => HR.out x (by rw [HX.out]; simp [hx])) z h
      obtain ⟨N, hN⟩ : ∃ N, (jx (m :: ms)).length = N := ⟨_, rfl⟩
      obtain ⟨L, hLL⟩ : ∃ L, (m ++ jx ms).length = L := ⟨_, rfl⟩
      have EL : Hid ((m ++ jx ms).length = L) := hLL
      have EN : Hid (N = 8 + (m ++ jx ms).length) := hN.symm.trans hp
      have hL : L = m.length + (jx ms).length := hLL.symm.trans (List.length_append ..)
      have hNL : N = 8 + L := by rw [← hLL, ← hp, hN]
      have H4' : Hid (Sl wr (.slice (some ⟨b, o2, none⟩) N c2) (be 8 (m.length : Int) ++ (m ++ jx ms))) := by
        have h := H4.out; rw [hN] at h; exact h
      rw [hN] at hc2 ⊢
      have hml : m.length ≤ 65536 := HM.out.2
      obtain ⟨M, hM⟩ : ∃ M, m.length = M := ⟨_, rfl⟩
      have EM : Hid (m.length = M) := hM
      rw [hM] at hml hL H4'
      have hpos : (0 : Int) < (N : Int) := by omega
      have g1 : ¬ ((L : Int) < (M : Int)) := by omega
      have hLb : L ≤ 140737488355328 := by
        have h1 := HN.out
        have h2 : (jx xss).length = (jx l).length + (jx (m :: ms)).length := by rw [HX.out]; exact jx_app l (m :: ms)
        omega
      have g2 : M ≤ L := by omega
      have HL : Hid (L = M + (jx ms).length) := hL
      have HJ : Hid (N = 8 + L) := hNL
      have HU : Hid (us.length = l.length) := H5.out.len
      have HLL : Hid ((us.length + 1) * 24 ≤ 140737488355328) := by
        show _ ≤ _
        have h1 := HN.out
        have h2 : 8 * l.length ≤ (jx l).length := jx_len l
        have h3 : (jx xss).length = (jx l).length + (jx (m :: ms)).length := by rw [HX.out]; exact jx_app l (m :: ms)
        have h4 := HU.out
        have h5 := HS3.out
        rw [HX.out, List.length_append] at h5
        omega
      have hZR : Hid (w.heap.size ≤ wr.heap.size) := H6.out.size
      have h8 : 8 ≤ c2 := by omega
      have h9 : L ≤ c2 - 8 := by omega
      clear hp hLL hN hM H4 hNL hL
      go_wp2_with (first
        | (go_at_call 59; refine (cutNumber_at (M : Int) (m ++ jx ms) N L EN.out EL.out (by omega) (by omega) b o2 c2 wr HB.out H4'.out hc2).mono ?_; rintro e w2 ⟨o3, rfl, h2, h3⟩; have S2 : Hid (Sl w2 (.slice (some ⟨b, o3, none⟩) M (c2 - 8)) ((m ++ jx ms).take M) ∧ Sl w2 (.slice (if c2 - 8 = M then some ⟨b, o3, none⟩ else some ⟨b, o3 + M, none⟩) (L - M) (c2 - 8 - M)) ((m ++ jx ms).drop M)) := h2.cut M g2; have B2 : Hid (Below wr.heap.size wr w2) := h3; clear h2 h3)
        | (go_at_call 30; refine (clone_any _ _ w2 S2.out.1 (by rw [List.length_take]; omega) ⟨_, _, _, rfl⟩).mono ?_; rintro e w3 ⟨v3, rfl, h15, h16⟩; rw [← EM.out, List.take_left] at h15; obtain ⟨ad3, cp3, hv3, -, -⟩ := h15.sl; subst hv3; have H15 : Hid (Ow w2.heap.size w3 (.slice ad3 m.length cp3) m) := h15; have H16 : Hid (Below w2.heap.size w2 w3) := h16; clear h15 h16)
        | (at_builtin; refine app_sl (B0 := w.heap.size) rfl (.tmp 34) (.tmp 39) rfl (by have h1 := B2.out.size; have h2 := hZR.out; have h3 := H16.out.size; simp; omega) _ us l rfl (((H5.out.below B2.out).below H16.out).alloc _) (.slice ad3 m.length cp3) m ⟨w3.heap.size, 0, none⟩ 1 rfl (cell_alloc w3 #[.slice ad3 m.length cp3] _ _ 0) ((H15.out.mono (Nat.le_trans hZR.out B2.out.size)).alloc _) (fun b hb => ⟨by have := H15.out.lt b hb; simp; omega, fun e => by have h1 := H15.out.blk b hb; have h2 := (H5.out.blk b e).2; have h3 := B2.out.size; omega⟩) (fun b hb i u' hi e => by have h1 := H15.out.blk b hb; have h2 := (H5.out.apart i u' hi b e).1; have h3 := B2.out.size; omega) HLL.out ?_; intro v4 w4 h4 h5 h6; have H20 : Hid (OL w.heap.size w4 v4 _ (l ++ [m])) := h4; have B34 : Hid (Below w.heap.size w3 w4) := ((Below.refl _ w3).alloc (by have h1 := B2.out.size; have h2 := hZR.out; have h3 := H16.out.size; omega) _).trans h6; clear h4 h5 h6))
      have Z1 : Hid (w.heap.size ≤ w2.heap.size) := Nat.le_trans hZR.out B2.out.size
      obtain ⟨o4, hR⟩ : ∃ o4, (if c2 - 8 = M then some (⟨b, o3, none⟩ : Addr) else some ⟨b, o3 + M, none⟩) = some ⟨b, o4, none⟩ := by split <;> exact ⟨_, rfl⟩
      rw [hR]
      have h21 := S2.out.2
      rw [hR, ← EM.out, List.drop_left, EM.out] at h21
      have hLM : L - M = (jx ms).length := by have := HL.out; omega
      rw [hLM] at h21 ⊢
      have S3 : Sl w4 (.slice (some ⟨b, o4, none⟩) (jx ms).length (c2 - 8 - M)) (jx ms) := (h21.below H16.out (Nat.le_refl _)).keep B34.out.size (fun bb e => by cases e; exact B34.out.block b HBW.out)
      exact ⟨⟨l ++ [m], ms, _, o4, _, rfl, by rw [HX.out]; simp, rfl, rfl, by omega, S3, H20.out, H6.out.trans ((B2.out.mono hZR.out).trans ((H16.out.mono Z1.out).trans B34.out))⟩, by show (jx ms).length < N; have := HJ.out; omega⟩
end Go.Proofs.YtphjjjijdbljaaaDoor
