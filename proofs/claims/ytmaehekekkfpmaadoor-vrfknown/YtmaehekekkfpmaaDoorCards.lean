/-
  DERIVED. GIVEN WITH THE SEED: THE CARDS: each row of YtmaehekekkfpmaaDoorRows.lean that lists a variable, with what it lists TIED to the program's text (the seventh form; the later family's looks); each row that meets fmt, with fmt's text TOLD by the authors' own Lean function (tested against real Go, not proved from fmt's source: count such statements apart). THE CARD IS WHAT COUNTS. Prove the row's statement (the work); the ties are given (YtmaehekekkfpmaaDoorTie.lean); close each card by the builder's one call (the guide's Derived/Test/ToyasCard.lean, 'card_holds'). Laid BY PROGRAM, IN A SANDBOX (cutbox-door.mjs). By AI agents, Wed Nov 11 2026. No macro, syntax, notation, axiom, sorry.
-/
import Derived.Test.YtmaehekekkfpmaaDoorRows
import GoSem.ClaimSeven
namespace Go.Proofs.YtmaehekekkfpmaaDoor
namespace Rows

/-- THE TIED CARD OF 'beaconlaw06.VrfKnown'. -/
def vrfKnownCard : Claim7 := { stood := { row := vrfKnownRow, standIns := [], harness := (true, "da7f56981271501d96139df58136c8ad683ce3e432ea3b9f6040adec0c76d401"), looks := false }, kinds := [], alts := [], laidByText := true, laidKinds := [.data, .data, .data, .data, .data, .data], laidTests := true, laidLooks := .later }
def VrfKnownCardSaid : Prop := Claim7.holds Tryd.pinned (.plain (OpenSpec.ofChange vrfKnownSpec)) vrfKnownCard

/-- THE SECOND FORM's CARD OF 'beaconlaw06.VrfKnown'. -/
def vrfKnownUptoCard : Claim7 := { stood := { row := vrfKnownUptoRow, standIns := [], harness := (true, "da7f56981271501d96139df58136c8ad683ce3e432ea3b9f6040adec0c76d401"), looks := false }, kinds := [], alts := [], laidByText := true, laidKinds := [.data, .data, .data, .data, .data, .data], laidTests := true, laidLooks := .later }
def VrfKnownUptoCardSaid : Prop := Claim7.holds Tryd.pinned (.plain (OpenSpec.upto vrfKnownSpec)) vrfKnownUptoCard
end Rows
end Go.Proofs.YtmaehekekkfpmaaDoor
