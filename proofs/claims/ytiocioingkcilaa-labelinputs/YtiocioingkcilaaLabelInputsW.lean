/- The walk of LabelInputs. -/
import Derived.Test.YtiocioingkcilaaLabA
namespace Go.Proofs.Ytiocioingkcilaa
open Go Go.RowKit
set_option linter.unusedSimpArgs false
set_option linter.unusedVariables false
set_option maxRecDepth 100000

theorem nums_of_str {xs : List Int} (hb : Byt xs) {ys : List Int} (hy : Byt ys) (h : (strOfNums xs).toList = (strOfNums ys).toList) : xs = ys := by
  have h' : strOfNums xs = strOfNums ys := by
    have : (strOfNums xs).data.toList = (strOfNums ys).data.toList := by rw [ByteArray.toList_eq, ByteArray.toList_eq] at h; exact h
    exact ByteArray.ext (Array.toList_inj.1 this)
  have h2 : (strOfNums xs).data.toList = (strOfNums ys).data.toList := by rw [h']
  rw [strOfNums_data, strOfNums_data] at h2
  have back : ∀ {zs : List Int}, Byt zs → ((zs.map fun n => UInt8.ofNat n.toNat).map fun b => (b.toNat : Int)) = zs := fun {zs} hz => by
    rw [List.map_map]
    conv => rhs; rw [← List.map_id zs]
    refine List.map_congr_left (fun z q => ?_)
    have := hz z q
    simp; omega
  rw [← back hb, ← back hy, h2]
theorem nb_byt (s : ByteArray) : Byt (nb s) := by
  intro x hx
  unfold nb at hx
  rw [List.mem_map] at hx
  obtain ⟨b, _, rfl⟩ := hx
  have := b.toNat_lt
  omega
theorem inB_byt {s : ByteArray} {n : Int} (f : Bool) (h : inOk s n = true) : Byt (inB s n f) := by
  have ha : acct s = true := by unfold inOk at h; simp at h; exact h.1
  rw [(in_yes h f).2, (encE_ok (lin_small n f (acct_size ha))).2, encK_fl _ _ (Nat.le_refl _)]
  refine (be_byt4 _).append (fl_byt (fun m hm => ?_))
  have hm' : m ∈ lin s n f := List.mem_of_mem_take hm
  simp only [lin, List.mem_cons, List.not_mem_nil, or_false] at hm'
  rcases hm' with rfl | rfl | rfl | rfl
  · intro z hz; simp only [List.mem_cons, List.not_mem_nil, or_false] at hz; omega
  · exact nb_byt s
  · exact be_byt 8 n
  · intro z hz
    simp only [fl1, List.mem_cons, List.not_mem_nil, or_false] at hz
    subst hz
    split <;> omega
theorem str_ne {s t : ByteArray} (h : ¬ s = t) : ¬ s.toList = t.toList := fun e => h (by
  have : s.data.toList = t.data.toList := by rw [ByteArray.toList_eq, ByteArray.toList_eq] at e; exact e
  exact ByteArray.ext (Array.toList_inj.1 this))
def SA : ByteArray := ⟨#[97]⟩
def SB : ByteArray := ⟨#[65]⟩
theorem sa_ok : inOk SA 1 = true := by
  unfold inOk
  rw [show acct SA = true from aw_acct]; rfl
theorem sb_no : inOk SB 1 = false := by
  unfold inOk
  have : acct SB = false := decide_eq_false (fun h => by have := h.2.2 0 (by decide); revert this; decide)
  rw [this]; rfl
set_option maxHeartbeats 1000000 in
theorem awake_any (w : World) : Calls Try.prog 4 #[] w fun e w' => e = .returned (.bool true) ∧ Below w.heap.size w w' := by
  have HE1 : Hid (inE SA 1 = 0) := (in_yes sa_ok true).1
  have HB1 : Hid ((inB SA 1 true).length = 35) := inB_len sa_ok true
  have HE2 : Hid (inE SB 1 = 1) := (in_no sb_no true).1
  have h97 : (⟨#[97]⟩ : ByteArray) = SA := rfl
  have h65 : (⟨#[65]⟩ : ByteArray) = SB := rfl
  have HSA : Hid (SA.size ≤ 140737488355328) := by show SA.size ≤ _; decide
  have HSB : Hid (SB.size ≤ 140737488355328) := by show SB.size ≤ _; decide
  go_enter Try.func4, Try.ntmps4
  go_wp2_with fail
  refine (input_any SA 1 true w HSA.out (by omega)).mono ?_
  rintro e w1 ⟨v1, rfl, h1, h2⟩
  rw [HE1.out]
  obtain ⟨a1, c1, e1, -, -⟩ := id h1
  rw [HB1.out] at e1
  subst e1
  have B1 : Hid (Below w.heap.size w w1) := h2
  clear h1 h2
  go_wp2_with fail
  refine (input_any SB 1 true w1 HSB.out (by omega)).mono ?_
  rintro e w2 ⟨v2, rfl, h1, h2⟩
  rw [HE2.out]
  have B2 : Hid (Below w.heap.size w w2) := B1.out.trans (h2.mono B1.out.size)
  clear h1 h2
  go_wp2_with fail
  go_ret
  exact ⟨rfl, B2.out⟩
theorem fin_no {b : Bool} (h : b = false) : Ending.returned (.bool (!b)) = .returned (.bool true) := by rw [h]; rfl
set_option maxHeartbeats 4000000 in
theorem inputs_any (s t : ByteArray) (n m : Int) (f g : Bool) (w : World) (hs : s.size ≤ 140737488355328) (ht : t.size ≤ 140737488355328) (hn : 0 ≤ n ∧ n < 18446744073709551616) (hm : 0 ≤ m ∧ m < 18446744073709551616) :
    Calls Try.prog 3 #[.string s, .string t, .int .u64 n, .int .u64 m, .bool f, .bool g] w fun e w' => e = .returned (.bool true) ∧ Below w.heap.size w w' := by
  have HS : Hid (s.size ≤ 140737488355328) := hs
  have HT : Hid (t.size ≤ 140737488355328) := ht
  have HN : Hid (0 ≤ n ∧ n < 18446744073709551616) := hn
  have HM : Hid (0 ≤ m ∧ m < 18446744073709551616) := hm
  obtain ⟨E, hE⟩ : ∃ E, inE s n = E := ⟨_, rfl⟩
  obtain ⟨F, hF⟩ : ∃ E, inE t m = E := ⟨_, rfl⟩
  obtain ⟨X, hX⟩ : ∃ X, inB s n f = X := ⟨_, rfl⟩
  obtain ⟨Y, hY⟩ : ∃ X, inB t m g = X := ⟨_, rfl⟩
  have HE : Hid (inE s n = E) := hE
  have HF : Hid (inE t m = F) := hF
  have HX : Hid (inB s n f = X) := hX
  have HY : Hid (inB t m g = Y) := hY
  clear hs ht hn hm hE hF hX hY
  go_enter Try.func3, Try.ntmps3
  go_wp2_with fail
  refine (awake_any w).mono ?_
  rintro e w1 ⟨rfl, h1⟩
  have B1 : Hid (Below w.heap.size w w1) := h1
  clear h1
  go_wp2_with fail
  refine (rinput_any s n f w1 HS.out HN.out).mono ?_
  rintro e w2 ⟨v2, rfl, h1, h2⟩
  rw [HE.out]
  rw [HX.out] at h1
  have S2 : Hid (Sl w2 v2 X) := h1
  have B2 : Hid (Below w.heap.size w w2) := B1.out.trans (h2.mono B1.out.size)
  clear h1 h2
  go_wp2_with fail
  refine (input_any s n f w2 HS.out HN.out).mono ?_
  rintro e w3 ⟨v3, rfl, h1, h2⟩
  rw [HE.out]
  rw [HX.out] at h1
  have S3 : Hid (Sl w3 v3 X) := h1
  have S23 : Hid (Sl w3 v2 X) := S2.out.below h2 (Nat.le_refl _)
  have B3 : Hid (Below w.heap.size w w3) := B2.out.trans (h2.mono B2.out.size)
  clear h1 h2
  go_wp2_with fail
  refine (input_any t m g w3 HT.out HM.out).mono ?_
  rintro e w4 ⟨v4, rfl, h1, h2⟩
  rw [HF.out]
  rw [HY.out] at h1
  have T2 : (convert 24 9 v2).run Try.prog w4 = .ok (.string (strOfNums X)) w4 := (S23.out.below h2 (Nat.le_refl _)).str
  have T3 : (convert 24 9 v3).run Try.prog w4 = .ok (.string (strOfNums X)) w4 := (S3.out.below h2 (Nat.le_refl _)).str
  have T4 : (convert 24 9 v4).run Try.prog w4 = .ok (.string (strOfNums Y)) w4 := h1.str
  have B4 : Hid (Below w.heap.size w w4) := B3.out.trans (h2.mono B3.out.size)
  clear h1 h2
  cases ho : inOk s n with
  | false =>
    have e1 : E = 1 := by rw [← HE.out]; exact (in_no ho f).1
    subst e1
    clear ho
    go_wp2_with fail
    go_ret
    exact ⟨rfl, B4.out⟩
  | true =>
    have e1 : E = 0 := by rw [← HE.out]; exact (in_yes ho f).1
    subst e1
    cases hp : inOk t m with
    | false =>
      have e2 : F = 1 := by rw [← HF.out]; exact (in_no hp g).1
      subst e2
      clear ho hp
      go_wp2_with fail
      go_ret
      exact ⟨rfl, B4.out⟩
    | true =>
      have e2 : F = 0 := by rw [← HF.out]; exact (in_yes hp g).1
      subst e2
      have HXY : Hid (¬ (s = t ∧ n = m ∧ f = g) → ¬ (strOfNums X).toList = (strOfNums Y).toList) := fun hne e => hne (in_inj HN.out HM.out ho hp (by
        rw [HX.out, HY.out]
        exact nums_of_str (by rw [← HX.out]; exact inB_byt f ho) (by rw [← HY.out]; exact inB_byt g hp) e))
      by_cases q : s = t ∧ n = m ∧ f = g
      · obtain ⟨rfl, rfl, rfl⟩ := q
        have hYX : Y = X := by rw [← HX.out, ← HY.out]
        subst hYX
        clear ho hp
        go_wp2_with fail
        go_ret
        exact ⟨rfl, B4.out⟩
      · have hne := HXY.out q
        have HBF : Hid (((strOfNums X).toList == (strOfNums Y).toList) = false) := by show _ = false; simpa using hne
        by_cases q1 : s = t
        · subst q1
          by_cases q2 : n = m
          · subst q2
            have q3 : ¬ f = g := fun e => q ⟨rfl, rfl, e⟩
            clear ho hp q
            cases f <;> cases g
            · exact absurd rfl q3
            · clear q3
              go_wp2_with fail
              go_ret
              exact ⟨fin_no HBF.out, B4.out⟩
            · clear q3
              go_wp2_with fail
              go_ret
              exact ⟨fin_no HBF.out, B4.out⟩
            · exact absurd rfl q3
          · clear ho hp q
            go_wp2_with fail
            go_ret
            exact ⟨fin_no HBF.out, B4.out⟩
        · have hst := str_ne q1
          clear ho hp q q1
          go_wp2_with fail
          go_ret
          exact ⟨fin_no HBF.out, B4.out⟩
end Go.Proofs.Ytiocioingkcilaa
