/- The walk of ShaNil. -/
import Derived.Test.YtoadimfeckappaaDoorShaQ
namespace Go.Proofs.YtoadimfeckappaaDoor
open Go Go.RowKit

theorem eq_z32 (w : World) : (Op.equalIn 10000 24 (.agg z32) (.agg z32)).run Tryd.prog w = .ok true w := by kernel_rfl
set_option maxRecDepth 100000 in
set_option maxHeartbeats 400000 in
theorem shaNil_walk (v : Value) (w : World) (hT : Tabs w K256 H256) :
    Calls Tryd.prog 8 #[v] w fun e w' => e = .returned (.bool true) ∧ Below w.heap.size w w' := by
  have HT : Hid (Tabs w K256 H256) := hT
  clear hT
  have hz := zero_32
  have he := eq_z32
  go_enter Tryd.func8, Tryd.ntmps8
  go_wp2_with fail
  refine (awake_any w HT.out).mono ?_
  rintro e w1 ⟨rfl, hb1⟩
  have HB1 : Hid (Below w.heap.size w w1) := hb1
  clear hb1
  go_wp2_with fail
  refine (write_nilh _ _).mono ?_
  rintro e w2 ⟨rfl, rfl⟩
  go_wp2_with fail
  refine (sum_nil _).mono ?_
  rintro e w3 ⟨rfl, hb3⟩
  have HB3 : Hid (Below w.heap.size w w3) := HB1.out.trans (hb3.mono HB1.out.size)
  clear hb3
  go_wp2_with fail
  refine (len_nil _).mono ?_
  rintro e w4 ⟨rfl, rfl⟩
  go_wp2_with fail
  refine (copy_nil _).mono ?_
  rintro e w5 ⟨rfl, rfl⟩
  go_wp2
  go_ret
  exact ⟨rfl, HB3.out⟩
theorem shaNilProof.walk {w1 : World} (a0 : Option Addr) (len0 cap0 : Nat) (z0 : List Int) (_w0 : IsRow .u8 w1 a0 len0 cap0 z0) (w : World) (hT : Tabs w K256 H256) :
    Calls Tryd.prog 8 #[.slice a0 len0 cap0] w fun e w' => e = .returned (.bool true) ∧ Below w.heap.size w w' := shaNil_walk _ w hT
end Go.Proofs.YtoadimfeckappaaDoor
