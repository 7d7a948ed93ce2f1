/- DiskNil, walked. -/
import Derived.Test.YtmlialabdijcoaaDskK
namespace Go.Proofs.Ytmlialabdijcoaa
open Go Go.RowKit
set_option linter.unusedSimpArgs false
set_option linter.unusedVariables false
set_option maxRecDepth 100000

set_option maxHeartbeats 2000000 in
theorem diskNil_walk (n : Int) (v : Value) (w : World) : Calls Try.prog 7 #[.int .i64 n, v] w fun e w' => e = .returned (.bool true) ∧ Below w.heap.size w w' := by
  have hz := zero_sec
  have hbz := build_sec
  have heq := eq_sec z64 z64_length
  go_enter Try.func7, Try.ntmps7
  go_wp2_with fail
  refine (awake_any w).mono ?_
  rintro e w1 ⟨rfl, h1⟩
  have B1 : Hid (Below w.heap.size w w1) := h1
  clear h1
  go_wp2_with fail
  refine (nil_setFull w1 true).mono ?_
  rintro e w2 ⟨rfl, rfl⟩
  go_wp2_with fail
  refine (nil_setFuse w2 n).mono ?_
  rintro e w3 ⟨rfl, rfl⟩
  go_wp2_with fail
  refine (nil_restart w3 v).mono ?_
  rintro e w4 ⟨rfl, rfl⟩
  go_wp2_with fail
  refine (nil_read w4 n).mono ?_
  rintro e w5 ⟨rfl, h5⟩
  have B5 : Hid (Below w.heap.size w w5) := B1.out.trans (h5.mono B1.out.size)
  have S5 : Hid (w.heap.size ≤ w5.heap.size) := B5.out.size
  clear h5
  go_wp2_with (first
    | (refine wpList_store_mid rfl 35 _ _ rfl w5.heap.size 0 (bv z64).toArray rfl rfl (lay_there w5 z64_length) (size_sec z64_length) (bv_one' _) ?_; generalize hW : World.setCells _ _ _ _ = W; have L6 := laid z64_length hW; clear hW; have B6 : Hid (Below w.heap.size w W) := B5.out.trans (L6.out.1.mono S5.out))
    | (refine load_g rfl 35 _ rfl w5.heap.size 0 rfl (bv z64) _ L6.out.2.1 Try.underlying35 rfl (by rw [bv_length, z64_length]; exact size64) ?_))
  refine (nil_write W n z64).mono ?_
  rintro e w7 ⟨rfl, h7⟩
  have B7 : Hid (Below w.heap.size w w7) := B6.out.trans (h7.mono B6.out.size)
  clear h7
  go_wp2_with fail
  refine (nil_sync w7).mono ?_
  rintro e w8 ⟨rfl, rfl⟩
  go_wp2_with fail
  refine (nil_sectors w8).mono ?_
  rintro e w9 ⟨rfl, rfl⟩
  go_wp2_with fail
  refine (nil_waiting w9).mono ?_
  rintro e w10 ⟨rfl, rfl⟩
  go_wp2_with fail
  refine (nil_down w10).mono ?_
  rintro e w11 ⟨rfl, rfl⟩
  go_wp2_with fail
  go_ret
  exact ⟨rfl, B7.out⟩
end Go.Proofs.Ytmlialabdijcoaa
