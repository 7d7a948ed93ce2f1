/-
  DERIVED. GIVEN WITH THE SEED: THE PROGRAM's TIES (one call each: nine closed facts by the kernel) AND EACH ROW's TIE, after the 31st guide's Derived/Test/Toyas{Tie, Card}.lean. No idea stands in it: it is a product of the set-up. Laid BY PROGRAM, IN A SANDBOX (cutbox-door.mjs). By AI agents, Wed Nov 11 2026. No macro, syntax, notation, axiom, sorry.
-/
import Derived.Test.YtnmgpkpdjpjbgaaDoorRows
import Derived.LaidByTextLater
import Derived.SevenTiedAt
import Derived.LaidSub
import Derived.LaidOnce
namespace Go.Proofs.YtnmgpkpdjpjbgaaDoor
open Go
set_option maxRecDepth 100000
theorem seatTie1 : Tryd.prog.laidByTextLater [("beacon/point.one", Rows.laid_beacon_point_one), ("beacon/point.curve", Rows.laid_beacon_point_curve), ("beacon/point.generatorX", Rows.laid_beacon_point_generatorX), ("beacon/point.generatorY", Rows.laid_beacon_point_generatorY)] [.data, .data, .data, .data] true :=
  Program.laidByTextLater_by_one 29 8 33 (by kernel_rfl) (by kernel_rfl) (by kernel_rfl) (by kernel_rfl) (by kernel_rfl) (by kernel_rfl) (fun _ _ => by kernel_rfl)
theorem noOwnUnsafe : Tryd.pinned.checked.prog.headLifts.contains "ownunsafe" = false := by kernel_rfl
theorem tie : Tryd.prog.laidByTextLater [("beacon/point.one", Rows.laid_beacon_point_one), ("beacon/point.curve", Rows.laid_beacon_point_curve), ("beacon/point.generatorX", Rows.laid_beacon_point_generatorX), ("beacon/point.generatorY", Rows.laid_beacon_point_generatorY)] [.data, .data, .data, .data] true :=
  Program.laidByTextLater.sub seatTie1 ["beacon/point.one", "beacon/point.curve", "beacon/point.generatorX", "beacon/point.generatorY"] (by kernel_rfl) (by kernel_rfl)
theorem pointAll_row_tie : Rows.pointAllRow.laidByTextAt .later Tryd.pinned [.data, .data, .data, .data] true :=
  OpenClaim.laidByTextAt_later rfl rfl tie noOwnUnsafe
theorem pointGroup_row_tie : Rows.pointGroupRow.laidByTextAt .later Tryd.pinned [.data, .data, .data, .data] true :=
  OpenClaim.laidByTextAt_later rfl rfl tie noOwnUnsafe
theorem pointOften_row_tie : Rows.pointOftenRow.laidByTextAt .later Tryd.pinned [.data, .data, .data, .data] true :=
  OpenClaim.laidByTextAt_later rfl rfl tie noOwnUnsafe
theorem pointEight_row_tie : Rows.pointEightRow.laidByTextAt .later Tryd.pinned [.data, .data, .data, .data] true :=
  OpenClaim.laidByTextAt_later rfl rfl tie noOwnUnsafe
theorem pointOrder_row_tie : Rows.pointOrderRow.laidByTextAt .later Tryd.pinned [.data, .data, .data, .data] true :=
  OpenClaim.laidByTextAt_later rfl rfl tie noOwnUnsafe
theorem tie2 : Tryd.prog.laidByTextLater [("beacon/point.one", Rows.laid_beacon_point_one), ("beacon/point.curve", Rows.laid_beacon_point_curve), ("beacon/point.generatorY", Rows.laid_beacon_point_generatorY)] [.data, .data, .data] true :=
  Program.laidByTextLater.sub seatTie1 ["beacon/point.one", "beacon/point.curve", "beacon/point.generatorY"] (by kernel_rfl) (by kernel_rfl)
theorem pointBytes_row_tie : Rows.pointBytesRow.laidByTextAt .later Tryd.pinned [.data, .data, .data] true :=
  OpenClaim.laidByTextAt_later rfl rfl tie2 noOwnUnsafe
theorem pointAllUpto_row_tie : Rows.pointAllUptoRow.laidByTextAt .later Tryd.pinned [.data, .data, .data, .data] true :=
  OpenClaim.laidByTextAt_later rfl rfl tie noOwnUnsafe
theorem pointGroupUpto_row_tie : Rows.pointGroupUptoRow.laidByTextAt .later Tryd.pinned [.data, .data, .data, .data] true :=
  OpenClaim.laidByTextAt_later rfl rfl tie noOwnUnsafe
theorem pointOftenUpto_row_tie : Rows.pointOftenUptoRow.laidByTextAt .later Tryd.pinned [.data, .data, .data, .data] true :=
  OpenClaim.laidByTextAt_later rfl rfl tie noOwnUnsafe
theorem pointEightUpto_row_tie : Rows.pointEightUptoRow.laidByTextAt .later Tryd.pinned [.data, .data, .data, .data] true :=
  OpenClaim.laidByTextAt_later rfl rfl tie noOwnUnsafe
theorem pointBytesUpto_row_tie : Rows.pointBytesUptoRow.laidByTextAt .later Tryd.pinned [.data, .data, .data] true :=
  OpenClaim.laidByTextAt_later rfl rfl tie2 noOwnUnsafe
theorem pointOrderUpto_row_tie : Rows.pointOrderUptoRow.laidByTextAt .later Tryd.pinned [.data, .data, .data, .data] true :=
  OpenClaim.laidByTextAt_later rfl rfl tie noOwnUnsafe
end Go.Proofs.YtnmgpkpdjpjbgaaDoor
