/-
  DERIVED. GIVEN WITH THE SEED: THE PROGRAM's TIES (one call each: nine closed facts by the kernel) AND EACH ROW's TIE, after the 31st guide's Derived/Test/Toyas{Tie, Card}.lean. No idea stands in it: it is a product of the set-up. Laid BY PROGRAM, IN A SANDBOX (cutbox-door.mjs). By AI agents, Wed Nov 11 2026. No macro, syntax, notation, axiom, sorry.
-/
import Derived.Test.YtajehiidpecknaaGreatDoorRows
import Derived.LaidByTextLater
import Derived.SevenTiedAt
import Derived.LaidSub
import Derived.LaidOnce
namespace Go.Proofs.YtajehiidpecknaaGreatDoor
open Go
set_option maxRecDepth 100000
theorem seatTie1 : Tryz.prog.laidByTextLater [("beacon/sha2.squares512", Rows.laid_beacon_sha2_squares512), ("beacon/sha2.cubes512", Rows.laid_beacon_sha2_cubes512), ("beacon/point.one", Rows.laid_beacon_point_one), ("beacon/point.curve", Rows.laid_beacon_point_curve), ("beacon/point.generatorX", Rows.laid_beacon_point_generatorX), ("beacon/point.generatorY", Rows.laid_beacon_point_generatorY)] [.data, .data, .data, .data, .data, .data] true :=
  Program.laidByTextLater_by_one 39 8 81 (by kernel_rfl) (by kernel_rfl) (by kernel_rfl) (by kernel_rfl) (by kernel_rfl) (by kernel_rfl) (fun _ _ => by kernel_rfl)
theorem noOwnUnsafe : Tryz.pinned.checked.prog.headLifts.contains "ownunsafe" = false := by kernel_rfl
theorem tie : Tryz.prog.laidByTextLater [("beacon/sha2.squares512", Rows.laid_beacon_sha2_squares512), ("beacon/sha2.cubes512", Rows.laid_beacon_sha2_cubes512), ("beacon/point.one", Rows.laid_beacon_point_one), ("beacon/point.curve", Rows.laid_beacon_point_curve), ("beacon/point.generatorX", Rows.laid_beacon_point_generatorX), ("beacon/point.generatorY", Rows.laid_beacon_point_generatorY)] [.data, .data, .data, .data, .data, .data] true :=
  Program.laidByTextLater.sub seatTie1 ["beacon/sha2.squares512", "beacon/sha2.cubes512", "beacon/point.one", "beacon/point.curve", "beacon/point.generatorX", "beacon/point.generatorY"] (by kernel_rfl) (by kernel_rfl)
theorem vrfProves_row_tie : Rows.vrfProvesRow.laidByTextAt .later Tryz.pinned [.data, .data, .data, .data, .data, .data] true :=
  OpenClaim.laidByTextAt_later rfl rfl tie noOwnUnsafe
theorem vrfVerifies_row_tie : Rows.vrfVerifiesRow.laidByTextAt .later Tryz.pinned [.data, .data, .data, .data, .data, .data] true :=
  OpenClaim.laidByTextAt_later rfl rfl tie noOwnUnsafe
theorem vrfAccepts_row_tie : Rows.vrfAcceptsRow.laidByTextAt .later Tryz.pinned [.data, .data, .data, .data, .data, .data] true :=
  OpenClaim.laidByTextAt_later rfl rfl tie noOwnUnsafe
theorem vrfTurned_row_tie : Rows.vrfTurnedRow.laidByTextAt .later Tryz.pinned [.data, .data, .data, .data, .data, .data] true :=
  OpenClaim.laidByTextAt_later rfl rfl tie noOwnUnsafe
theorem vrfKeeps_row_tie : Rows.vrfKeepsRow.laidByTextAt .later Tryz.pinned [.data, .data, .data, .data, .data, .data] true :=
  OpenClaim.laidByTextAt_later rfl rfl tie noOwnUnsafe
theorem vrfProvesUpto_row_tie : Rows.vrfProvesUptoRow.laidByTextAt .later Tryz.pinned [.data, .data, .data, .data, .data, .data] true :=
  OpenClaim.laidByTextAt_later rfl rfl tie noOwnUnsafe
theorem vrfVerifiesUpto_row_tie : Rows.vrfVerifiesUptoRow.laidByTextAt .later Tryz.pinned [.data, .data, .data, .data, .data, .data] true :=
  OpenClaim.laidByTextAt_later rfl rfl tie noOwnUnsafe
theorem vrfAcceptsUpto_row_tie : Rows.vrfAcceptsUptoRow.laidByTextAt .later Tryz.pinned [.data, .data, .data, .data, .data, .data] true :=
  OpenClaim.laidByTextAt_later rfl rfl tie noOwnUnsafe
theorem vrfTurnedUpto_row_tie : Rows.vrfTurnedUptoRow.laidByTextAt .later Tryz.pinned [.data, .data, .data, .data, .data, .data] true :=
  OpenClaim.laidByTextAt_later rfl rfl tie noOwnUnsafe
theorem vrfKeepsUpto_row_tie : Rows.vrfKeepsUptoRow.laidByTextAt .later Tryz.pinned [.data, .data, .data, .data, .data, .data] true :=
  OpenClaim.laidByTextAt_later rfl rfl tie noOwnUnsafe
end Go.Proofs.YtajehiidpecknaaGreatDoor
