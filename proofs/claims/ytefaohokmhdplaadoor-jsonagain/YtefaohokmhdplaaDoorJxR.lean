/- The law on Parse, given awake and the reference's objects. -/
import Derived.Test.YtefaohokmhdplaaDoorJxP
import Derived.Test.YtefaohokmhdplaaDoorJsZ
import Derived.Test.YtefaohokmhdplaaDoorJzD
namespace Go.Proofs.YtefaohokmhdplaaDoor
open Go Go.RowKit
set_option linter.unusedSimpArgs false
set_option linter.unusedVariables false
set_option maxRecDepth 100000

set_option maxHeartbeats 8000000 in
theorem parses_walk {w : World} {s : ByteArray} {ev : Value} (hs : s.size ≤ 9223372036854775807) (hv : EV w ev) (HO : s.size ≤ 8192 → ∀ g, ROC g s)
    (HA : Calls Tryd.prog 9 #[] w fun e w' => e = .returned (.bool true) ∧ Below w.heap.size w w') :
    Calls Tryd.prog 3 #[.string s] w fun e w' => e = .returned (.bool true) ∧ Below w.heap.size w w' := by
  have HR1 : Hid (∀ W, Calls Tryd.prog 10 #[.string s] W fun e w' => RRP W (whole s) e w') := fun W => rparse_any hs HO
  have HR2 : Hid (∀ W, EV W ev → Calls Tryd.prog 11 #[.string s] W fun e w' => RP W (whole s) e w') := fun W hw => parse_any hs hw
  have HSM : Hid (∀ jv, whole s = .val jv → Sm jv) := fun jv h => whole_sm h
  have HEV : Hid (EV w ev) := hv
  obtain ⟨R, hR⟩ : ∃ R, whole s = R := ⟨_, rfl⟩
  rw [hR] at HR1 HR2 HSM
  clear hs hv HO hR
  go_enter Tryd.func3, Tryd.ntmps3
  go_wp2_with fail
  refine HA.mono ?_
  rintro e W1 ⟨rfl, b1⟩
  have HB1 : Hid (Below w.heap.size w W1) := b1
  clear b1 HA
  go_wp2_with fail
  refine (HR1.out W1).mono ?_
  intro e W2 h2
  cases R with
  | err j l =>
    obtain ⟨rfl, b2⟩ := h2
    have HB2 : Hid (Below w.heap.size w (W2.alloc (.cells #[.int .i64 0, .bool false, .string ⟨#[]⟩, .slice none 0 0, .slice none 0 0] 26))) := (bl_tr HB1.out b2).alloc (bl_tr HB1.out b2).size _
    clear b2
    cases l with
    | true =>
      rw [show Tv.val TN = .agg #[.int .i64 0, .bool false, .string ⟨#[]⟩, .slice none 0 0, .slice none 0 0] from rfl]
      simp only [if_true]
      go_wp2_with fail
      refine (HR2.out _ (HEV.out.below HB2.out)).mono ?_
      rintro e W3 ⟨rfl, b3⟩
      have HB3 : Hid (Below w.heap.size w W3) := bl_tr HB2.out b3
      clear b3
      simp only [if_true]
      go_wp2
      go_ret
      exact ⟨rfl, HB3.out⟩
    | false =>
      rw [show Tv.val TN = .agg #[.int .i64 0, .bool false, .string ⟨#[]⟩, .slice none 0 0, .slice none 0 0] from rfl]
      simp only [Bool.false_eq_true, if_false]
      go_wp2_with fail
      refine (HR2.out _ (HEV.out.below HB2.out)).mono ?_
      rintro e W3 ⟨rfl, b3⟩
      have HB3 : Hid (Below w.heap.size w W3) := bl_tr HB2.out b3
      clear b3
      simp only [Bool.false_eq_true, if_false]
      go_wp2
      go_ret
      exact ⟨rfl, HB3.out⟩
  | val jv =>
    obtain ⟨x, rfl, htj, b2⟩ := h2
    have HSJ : Hid (Sm jv) := HSM.out jv rfl
    obtain ⟨xk, xb, xt, ⟨ka, kn, kc⟩, ⟨pa, pn, pc⟩⟩ := x
    rw [show Tv.val ⟨xk, xb, xt, ⟨ka, kn, kc⟩, ⟨pa, pn, pc⟩⟩ = .agg #[.int .i64 xk, .bool xb, .string xt, .slice ka kn kc, .slice pa pn pc] from rfl]
    obtain ⟨W4, hW4⟩ : ∃ W4, W2.alloc (.cells #[.int .i64 xk, .bool xb, .string xt, .slice ka kn kc, .slice pa pn pc] 26) = W4 := ⟨_, rfl⟩
    have HW4 : Hid (W2.alloc (.cells #[.int .i64 xk, .bool xb, .string xt, .slice ka kn kc, .slice pa pn pc] 26) = W4) := hW4
    have HB4 : Hid (Below w.heap.size w W4) := by rw [← hW4]; exact (bl_tr HB1.out b2).alloc (bl_tr HB1.out b2).size _
    obtain ⟨b6, hb6⟩ : ∃ b6, W2.heap.size = b6 := ⟨_, rfl⟩
    have HX4 : Hid (TC W4 b6 ⟨xk, xb, xt, ⟨ka, kn, kc⟩, ⟨pa, pn, pc⟩⟩) := by rw [← hW4, ← hb6]; exact heap_alloc_new _ _
    have HTJ : Hid (TJ (fun _ => True) W4 ⟨xk, xb, xt, ⟨ka, kn, kc⟩, ⟨pa, pn, pc⟩⟩ jv) := htj.keep (fun b hb hlt => ⟨trivial, by rw [← hW4]; exact heap_alloc_old _ _ hlt⟩) (by rw [← hW4]; simp)
    clear b2 htj hW4
    go_wp2_with (rw [HW4.out])
    go_wp2_with fail
    refine (HR2.out W4 (HEV.out.below HB4.out)).mono ?_
    rintro e W5 ⟨v, rfl, hvj, b5⟩
    have HB5 : Hid (Below w.heap.size w W5) := bl_tr HB4.out b5
    have HX5 : Hid (TC W5 b6 ⟨xk, xb, xt, ⟨ka, kn, kc⟩, ⟨pa, pn, pc⟩⟩) := HX4.out.keep (b5.block _ HX4.out.lt)
    have HTJ5 : Hid (TJ (fun _ => True) W5 ⟨xk, xb, xt, ⟨ka, kn, kc⟩, ⟨pa, pn, pc⟩⟩ jv) := HTJ.out.keep (fun b hb hlt => ⟨trivial, b5.block _ hlt⟩) b5.size
    obtain ⟨z0, z1, z2, z3, z4, zf⟩ := HX5.out.cells
    simp only [Sv.v] at z0 z1 z2 z3 z4
    obtain ⟨t, p, rfl⟩ := hvj.ifc
    have HIS : Hid (Calls Tryd.prog 12 #[.iface t p, .agg #[.int .i64 xk, .bool xb, .string xt, .slice ka kn kc, .slice pa pn pc]] W5 fun e w' => IsP W5 e w') := is_any hvj HTJ5.out HSJ.out W5 (Below.refl _ _)
    clear hvj b5 zf
    go_wp2_with fail
    refine HIS.out.mono ?_
    rintro e W6 ⟨rfl, b6⟩
    have HB6 : Hid (Below w.heap.size w W6) := bl_tr HB5.out b6
    clear b6
    go_wp2
    go_ret
    exact ⟨rfl, HB6.out⟩
end Go.Proofs.YtefaohokmhdplaaDoor
/- The law: what was parsed is printed, and parsed to the same. -/
namespace Go.Proofs.YtefaohokmhdplaaDoor
open Go Go.RowKit
set_option linter.unusedSimpArgs false
set_option linter.unusedVariables false
set_option maxRecDepth 100000

set_option maxHeartbeats 16000000 in
theorem again_walk {w : World} {s : ByteArray} {ev : Value} (hs : s.size ≤ 9223372036854775807) (hv : EV w ev) :
    Calls Tryd.prog 6 #[.string s] w fun e w' => e = .returned (.bool true) ∧ Below w.heap.size w w' := by
  have HEV : Hid (EV w ev) := hv
  have HA : Hid (Calls Tryd.prog 9 #[] w fun e w' => e = .returned (.bool true) ∧ Below w.heap.size w w') := awake_any hv
  have HS : Hid (s.size ≤ 9223372036854775807) := hs
  have HRW : Hid (∀ W, Calls Tryd.prog 10 #[.string s] W fun e w' => RRP W (whole s) e w') := fun W => rparse_any hs (fun hs g k w i d h hi hd HV => robject_any h hi hs hd HV)
  have HPW : Hid (∀ W, EV W ev → Calls Tryd.prog 11 #[.string s] W fun e w' => RP W (whole s) e w') := fun W hw => parse_any hs hw
  have hs' : (s.size : Int) ≤ 9223372036854775807 := by omega
  clear hs hv
  go_enter Tryd.func6, Tryd.ntmps6
  go_wp2_with fail
  refine HA.out.mono ?_
  rintro e W1 ⟨rfl, hb⟩
  have HB1 : Hid (Below w.heap.size w W1) := hb
  clear hb HA
  go_wp2_with fail
  refine (HPW.out W1 (HEV.out.below HB1.out)).mono ?_
  intro e W2 h2
  cases hR : whole s with
  | err j l =>
    rw [hR] at h2
    obtain ⟨rfl, b2⟩ := h2
    have HB2 : Hid (Below w.heap.size w W2) := bl_tr HB1.out b2
    have hj := whole_err hR
    have hj' : (j : Int) ≤ (s.size : Int) := by omega
    have hj0 : (0 : Int) ≤ (j : Int) := by omega
    clear b2 hR hj HRW HPW
    cases l with
    | true =>
      simp only [if_true]
      go_wp2
      go_ret
      exact ⟨rfl, HB2.out⟩
    | false =>
      simp only [Bool.false_eq_true, if_false]
      go_wp2
      go_ret
      exact ⟨rfl, HB2.out⟩
  | val jv =>
    rw [hR] at h2
    obtain ⟨v, rfl, hvj, b2⟩ := h2
    have HB2 : Hid (Below w.heap.size w W2) := bl_tr HB1.out b2
    obtain ⟨hwm, hlen⟩ := whole_ok hR
    have HSM : Hid (Sm jv) := whole_sm hR
    have HRT : Hid (whole (sb (pj jv)) = if 8192 < (pj jv).length then .err 0 true else .val jv) := whole_rt hwm
    have HR2 : Hid (∀ W, Calls Tryd.prog 10 #[.string s] W fun e w' => RRP W (.val jv) e w') := fun W => by have := HRW.out W; rwa [hR] at this
    have HPR : Hid (Calls Tryd.prog 14 #[v] W2 fun e w' => e = .returned (.string (sb (pj jv))) ∧ Below W2.heap.size W2 w') := print_any (vj_pt hvj) (by omega)
    obtain ⟨t1, p1, rfl⟩ := hvj.ifc
    have HLN : Hid ((pj jv).length ≤ 200000) := hlen
    have hsz := sb_size (pj jv)
    obtain ⟨T, hT⟩ : ∃ T, sb (pj jv) = T := ⟨_, rfl⟩
    have HTT : Hid (sb (pj jv) = T) := hT
    rw [hT] at HPR HRT hsz
    have HSZ : Hid (T.size = (pj jv).length) := hsz
    clear hvj b2 hR hwm hlen HRW HPW hT hsz
    go_wp2_with fail
    refine HPR.out.mono ?_
    rintro e W3 ⟨rfl, b3⟩
    have HB3 : Hid (Below w.heap.size w W3) := bl_tr HB2.out b3
    clear b3 HPR
    go_wp2_with fail
    refine (parse_any (s := T) (by have := HSZ.out; have := HLN.out; omega) (HEV.out.below HB3.out)).mono ?_
    rw [HRT.out]
    intro e W4 h4
    by_cases hl : 8192 < (pj jv).length
    · rw [if_pos hl] at h4
      obtain ⟨rfl, b4⟩ := h4
      have HB4 : Hid (Below w.heap.size w W4) := bl_tr HB3.out b4
      have hTs : (8192 : Int) < (T.size : Int) := by have := HSZ.out; omega
      clear b4 hl
      simp only [if_true]
      go_wp2
      go_ret
      exact ⟨rfl, HB4.out⟩
    rw [if_neg hl] at h4
    obtain ⟨v2, rfl, hvj, b4⟩ := h4
    have HB4 : Hid (Below w.heap.size w W4) := bl_tr HB3.out b4
    have hTs : ¬ (8192 : Int) < (T.size : Int) := by have := HSZ.out; omega
    obtain ⟨t2, p2, rfl⟩ := hvj.ifc
    have HVJ : Hid (VJ (fun b => W3.heap.size ≤ b) W4 (.iface t2 p2) jv) := hvj
    clear b4 hl hvj
    go_wp2_with fail
    refine (HR2.out W4).mono ?_
    intro e W5 h5
    obtain ⟨x, rfl, htj, b5⟩ := h5
    obtain ⟨xk, xb, xt, ⟨ka, kn, kc⟩, ⟨pa, pn, pc⟩⟩ := x
    rw [show Tv.val ⟨xk, xb, xt, ⟨ka, kn, kc⟩, ⟨pa, pn, pc⟩⟩ = .agg #[.int .i64 xk, .bool xb, .string xt, .slice ka kn kc, .slice pa pn pc] from rfl]
    obtain ⟨W6, hW6⟩ : ∃ W6, W5.alloc (.cells #[.int .i64 xk, .bool xb, .string xt, .slice ka kn kc, .slice pa pn pc] 26) = W6 := ⟨_, rfl⟩
    have HW6 : Hid (W5.alloc (.cells #[.int .i64 xk, .bool xb, .string xt, .slice ka kn kc, .slice pa pn pc] 26) = W6) := hW6
    have HB6 : Hid (Below w.heap.size w W6) := by rw [← hW6]; exact (bl_tr HB4.out b5).alloc (bl_tr HB4.out b5).size _
    have HX6 : Hid (TC W6 W5.heap.size ⟨xk, xb, xt, ⟨ka, kn, kc⟩, ⟨pa, pn, pc⟩⟩) := by rw [← hW6]; exact heap_alloc_new _ _
    have HTJ : Hid (TJ (fun _ => True) W6 ⟨xk, xb, xt, ⟨ka, kn, kc⟩, ⟨pa, pn, pc⟩⟩ jv) := htj.keep (fun b hb hlt => ⟨trivial, by rw [← hW6]; exact heap_alloc_old _ _ hlt⟩) (by rw [← hW6]; simp)
    have HVJ6 : Hid (VJ (fun b => W3.heap.size ≤ b) W6 (.iface t2 p2) jv) := HVJ.out.keep (fun b hb hlt => ⟨hb, by rw [← hW6]; exact (heap_alloc_old _ _ (Nat.lt_of_lt_of_le hlt b5.size)).trans (b5.block b hlt)⟩) (by rw [← hW6]; have := b5.size; simp; omega)
    obtain ⟨b6, hb6⟩ : ∃ b6, W5.heap.size = b6 := ⟨_, rfl⟩
    rw [hb6] at HX6
    obtain ⟨z0, z1, z2, z3, z4, zf⟩ := HX6.out.cells
    simp only [Sv.v] at z0 z1 z2 z3 z4
    have HIS : Hid (Calls Tryd.prog 12 #[.iface t2 p2, .agg #[.int .i64 xk, .bool xb, .string xt, .slice ka kn kc, .slice pa pn pc]] W6 fun e w' => IsP W6 e w') := is_any HVJ6.out HTJ.out HSM.out W6 (Below.refl _ _)
    clear htj b5 hW6 zf
    go_wp2_with (rw [HW6.out])
    go_wp2_with fail
    refine HIS.out.mono ?_
    rintro e W7 ⟨rfl, b7⟩
    have HB7 : Hid (Below w.heap.size w W7) := bl_tr HB6.out b7
    have HP7 : Hid (Calls Tryd.prog 14 #[.iface t2 p2] W7 fun e w' => e = .returned (.string T) ∧ Below W7.heap.size W7 w') := by
      have h := print_any (vj_pt (HVJ6.out.keep (A' := fun b => W3.heap.size ≤ b) (fun b hb hlt => ⟨hb, b7.block b hlt⟩) b7.size)) (by have := HLN.out; omega)
      rw [HTT.out] at h; exact h
    clear b7 HIS
    go_wp2_with fail
    refine HP7.out.mono ?_
    rintro e W8 ⟨rfl, b8⟩
    have HB8 : Hid (Below w.heap.size w W8) := bl_tr HB7.out b8
    clear b8 HP7
    go_wp2
    go_ret
    exact ⟨by simp, HB8.out⟩
end Go.Proofs.YtefaohokmhdplaaDoor
