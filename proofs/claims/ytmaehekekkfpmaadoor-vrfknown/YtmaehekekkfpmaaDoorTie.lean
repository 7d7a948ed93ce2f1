/-
  DERIVED. GIVEN WITH THE SEED: THE PROGRAM's TIES (one call each: nine closed facts by the kernel) AND EACH ROW's TIE, after the 31st guide's Derived/Test/Toyas{Tie, Card}.lean. No idea stands in it: it is a product of the set-up. Laid BY PROGRAM, IN A SANDBOX (cutbox-door.mjs). By AI agents, Wed Nov 11 2026. No macro, syntax, notation, axiom, sorry.
-/
import Derived.Test.YtmaehekekkfpmaaDoorRows
import Derived.LaidByTextLater
import Derived.SevenTiedAt
import Derived.LaidSub
import Derived.LaidOnce
namespace Go.Proofs.YtmaehekekkfpmaaDoor
open Go
set_option maxRecDepth 100000
theorem seatTie1 : Tryd.prog.laidByTextLater [("beacon/sha2.squares512", Rows.laid_beacon_sha2_squares512), ("beacon/sha2.cubes512", Rows.laid_beacon_sha2_cubes512), ("beacon/point.one", Rows.laid_beacon_point_one), ("beacon/point.curve", Rows.laid_beacon_point_curve), ("beacon/point.generatorX", Rows.laid_beacon_point_generatorX), ("beacon/point.generatorY", Rows.laid_beacon_point_generatorY)] [.data, .data, .data, .data, .data, .data] true :=
  Program.laidByTextLater_by_one 39 8 81 (by kernel_rfl) (by kernel_rfl) (by kernel_rfl) (by kernel_rfl) (by kernel_rfl) (by kernel_rfl) (fun _ _ => by kernel_rfl)
theorem noOwnUnsafe : Tryd.pinned.checked.prog.headLifts.contains "ownunsafe" = false := by kernel_rfl
theorem tie : Tryd.prog.laidByTextLater [("beacon/sha2.squares512", Rows.laid_beacon_sha2_squares512), ("beacon/sha2.cubes512", Rows.laid_beacon_sha2_cubes512), ("beacon/point.one", Rows.laid_beacon_point_one), ("beacon/point.curve", Rows.laid_beacon_point_curve), ("beacon/point.generatorX", Rows.laid_beacon_point_generatorX), ("beacon/point.generatorY", Rows.laid_beacon_point_generatorY)] [.data, .data, .data, .data, .data, .data] true :=
  Program.laidByTextLater.sub seatTie1 ["beacon/sha2.squares512", "beacon/sha2.cubes512", "beacon/point.one", "beacon/point.curve", "beacon/point.generatorX", "beacon/point.generatorY"] (by kernel_rfl) (by kernel_rfl)
theorem vrfKnown_row_tie : Rows.vrfKnownRow.laidByTextAt .later Tryd.pinned [.data, .data, .data, .data, .data, .data] true :=
  OpenClaim.laidByTextAt_later rfl rfl tie noOwnUnsafe
theorem vrfKnownUpto_row_tie : Rows.vrfKnownUptoRow.laidByTextAt .later Tryd.pinned [.data, .data, .data, .data, .data, .data] true :=
  OpenClaim.laidByTextAt_later rfl rfl tie noOwnUnsafe
end Go.Proofs.YtmaehekekkfpmaaDoor
