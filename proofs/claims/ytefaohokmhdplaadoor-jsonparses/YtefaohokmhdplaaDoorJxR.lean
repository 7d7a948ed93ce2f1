/- The law on Parse, given awake and the reference's objects. -/
import Derived.Test.YtefaohokmhdplaaDoorJxQ
import Derived.Test.YtefaohokmhdplaaDoorJsZ
namespace Go.Proofs.YtefaohokmhdplaaDoor
open Go Go.RowKit
set_option linter.unusedSimpArgs false
set_option linter.unusedVariables false
set_option maxRecDepth 100000

set_option maxHeartbeats 8000000 in
theorem parses_walk {w : World} {s : ByteArray} {ev : Value} (hs : s.size ≤ 9223372036854775807) (hv : EV w ev) (HO : s.size ≤ 8192 → ∀ g, ROC g s)
    (HA : Calls Tryd.prog 9 #[] w fun e w' => e = .returned (.bool true) ∧ Below w.heap.size w w') :
    Calls Tryd.prog 3 #[.string s] w fun e w' => e = .returned (.bool true) ∧ Below w.heap.size w w' := by
  have HR1 : Hid (∀ W, Calls Tryd.prog 10 #[.string s] W fun e w' => RRP W (whole s) e w') := fun W => rparse_any hs HO
  have HR2 : Hid (∀ W, EV W ev → Calls Tryd.prog 11 #[.string s] W fun e w' => RP W (whole s) e w') := fun W hw => parse_any hs hw
  have HSM : Hid (∀ jv, whole s = .val jv → Sm jv) := fun jv h => whole_sm h
  have HEV : Hid (EV w ev) := hv
  obtain ⟨R, hR⟩ : ∃ R, whole s = R := ⟨_, rfl⟩
  rw [hR] at HR1 HR2 HSM
  clear hs hv HO hR
  go_enter Tryd.func3, Tryd.ntmps3
  go_wp2_with fail
  refine HA.mono ?_
  rintro e W1 ⟨rfl, b1⟩
  have HB1 : Hid (Below w.heap.size w W1) := b1
  clear b1 HA
  go_wp2_with fail
  refine (HR1.out W1).mono ?_
  intro e W2 h2
  cases R with
  | err j l =>
    obtain ⟨rfl, b2⟩ := h2
    have HB2 : Hid (Below w.heap.size w (W2.alloc (.cells #[.int .i64 0, .bool false, .string ⟨#[]⟩, .slice none 0 0, .slice none 0 0] 26))) := (bl_tr HB1.out b2).alloc (bl_tr HB1.out b2).size _
    clear b2
    cases l with
    | true =>
      rw [show Tv.val TN = .agg #[.int .i64 0, .bool false, .string ⟨#[]⟩, .slice none 0 0, .slice none 0 0] from rfl]
      simp only [if_true]
      go_wp2_with fail
      refine (HR2.out _ (HEV.out.below HB2.out)).mono ?_
      rintro e W3 ⟨rfl, b3⟩
      have HB3 : Hid (Below w.heap.size w W3) := bl_tr HB2.out b3
      clear b3
      simp only [if_true]
      go_wp2
      go_ret
      exact ⟨rfl, HB3.out⟩
    | false =>
      rw [show Tv.val TN = .agg #[.int .i64 0, .bool false, .string ⟨#[]⟩, .slice none 0 0, .slice none 0 0] from rfl]
      simp only [Bool.false_eq_true, if_false]
      go_wp2_with fail
      refine (HR2.out _ (HEV.out.below HB2.out)).mono ?_
      rintro e W3 ⟨rfl, b3⟩
      have HB3 : Hid (Below w.heap.size w W3) := bl_tr HB2.out b3
      clear b3
      simp only [Bool.false_eq_true, if_false]
      go_wp2
      go_ret
      exact ⟨rfl, HB3.out⟩
  | val jv =>
    obtain ⟨x, rfl, htj, b2⟩ := h2
    have HSJ : Hid (Sm jv) := HSM.out jv rfl
    obtain ⟨xk, xb, xt, ⟨ka, kn, kc⟩, ⟨pa, pn, pc⟩⟩ := x
    rw [show Tv.val ⟨xk, xb, xt, ⟨ka, kn, kc⟩, ⟨pa, pn, pc⟩⟩ = .agg #[.int .i64 xk, .bool xb, .string xt, .slice ka kn kc, .slice pa pn pc] from rfl]
    obtain ⟨W4, hW4⟩ : ∃ W4, W2.alloc (.cells #[.int .i64 xk, .bool xb, .string xt, .slice ka kn kc, .slice pa pn pc] 26) = W4 := ⟨_, rfl⟩
    have HW4 : Hid (W2.alloc (.cells #[.int .i64 xk, .bool xb, .string xt, .slice ka kn kc, .slice pa pn pc] 26) = W4) := hW4
    have HB4 : Hid (Below w.heap.size w W4) := by rw [← hW4]; exact (bl_tr HB1.out b2).alloc (bl_tr HB1.out b2).size _
    obtain ⟨b6, hb6⟩ : ∃ b6, W2.heap.size = b6 := ⟨_, rfl⟩
    have HX4 : Hid (TC W4 b6 ⟨xk, xb, xt, ⟨ka, kn, kc⟩, ⟨pa, pn, pc⟩⟩) := by rw [← hW4, ← hb6]; exact heap_alloc_new _ _
    have HTJ : Hid (TJ (fun _ => True) W4 ⟨xk, xb, xt, ⟨ka, kn, kc⟩, ⟨pa, pn, pc⟩⟩ jv) := htj.keep (fun b hb hlt => ⟨trivial, by rw [← hW4]; exact heap_alloc_old _ _ hlt⟩) (by rw [← hW4]; simp)
    clear b2 htj hW4
    go_wp2_with (rw [HW4.out])
    go_wp2_with fail
    refine (HR2.out W4 (HEV.out.below HB4.out)).mono ?_
    rintro e W5 ⟨v, rfl, hvj, b5⟩
    have HB5 : Hid (Below w.heap.size w W5) := bl_tr HB4.out b5
    have HX5 : Hid (TC W5 b6 ⟨xk, xb, xt, ⟨ka, kn, kc⟩, ⟨pa, pn, pc⟩⟩) := HX4.out.keep (b5.block _ HX4.out.lt)
    have HTJ5 : Hid (TJ (fun _ => True) W5 ⟨xk, xb, xt, ⟨ka, kn, kc⟩, ⟨pa, pn, pc⟩⟩ jv) := HTJ.out.keep (fun b hb hlt => ⟨trivial, b5.block _ hlt⟩) b5.size
    obtain ⟨z0, z1, z2, z3, z4, zf⟩ := HX5.out.cells
    simp only [Sv.v] at z0 z1 z2 z3 z4
    obtain ⟨t, p, rfl⟩ := hvj.ifc
    have HIS : Hid (Calls Tryd.prog 12 #[.iface t p, .agg #[.int .i64 xk, .bool xb, .string xt, .slice ka kn kc, .slice pa pn pc]] W5 fun e w' => IsP W5 e w') := is_any hvj HTJ5.out HSJ.out W5 (Below.refl _ _)
    clear hvj b5 zf
    go_wp2_with fail
    refine HIS.out.mono ?_
    rintro e W6 ⟨rfl, b6⟩
    have HB6 : Hid (Below w.heap.size w W6) := bl_tr HB5.out b6
    clear b6
    go_wp2
    go_ret
    exact ⟨rfl, HB6.out⟩
end Go.Proofs.YtefaohokmhdplaaDoor
