/-
  DERIVED. GIVEN WITH THE SEED: THE CARDS: each row of YtkhjnjlinfbfoaaGreatDoorRows.lean that lists a variable, with what it lists TIED to the program's text (the seventh form; the later family's looks); each row that meets fmt, with fmt's text TOLD by the authors' own Lean function (tested against real Go, not proved from fmt's source: count such statements apart). THE CARD IS WHAT COUNTS. Prove the row's statement (the work); the ties are given (YtkhjnjlinfbfoaaGreatDoorTie.lean); close each card by the builder's one call (the guide's Derived/Test/ToyasCard.lean, 'card_holds'). Laid BY PROGRAM, IN A SANDBOX (cutbox-door.mjs). By AI agents, Wed Nov 11 2026. No macro, syntax, notation, axiom, sorry.
-/
import Derived.Test.YtkhjnjlinfbfoaaGreatDoorRows
import GoSem.ClaimSeven
namespace Go.Proofs.YtkhjnjlinfbfoaaGreatDoor
namespace Rows

/-- THE TIED CARD OF 'beaconlaw05.EddsaVerifies'. -/
def eddsaVerifiesCard : Claim7 := { stood := { row := eddsaVerifiesRow, standIns := [], harness := (true, "e1c531233997abc8fd92dd5f6365c1f96c83c07e43a1356c6f09bd07dbfc1a6a"), looks := false }, kinds := [], alts := [], laidByText := true, laidKinds := [.data, .data, .data, .data, .data, .data], laidTests := true, laidLooks := .later }
def EddsaVerifiesCardSaid : Prop := Claim7.holds Tryz.pinned (.plain (OpenSpec.ofChange eddsaVerifiesSpec)) eddsaVerifiesCard

/-- THE TIED CARD OF 'beaconlaw05.EddsaTurned'. -/
def eddsaTurnedCard : Claim7 := { stood := { row := eddsaTurnedRow, standIns := [], harness := (true, "e1c531233997abc8fd92dd5f6365c1f96c83c07e43a1356c6f09bd07dbfc1a6a"), looks := false }, kinds := [], alts := [], laidByText := true, laidKinds := [.data, .data, .data, .data, .data, .data], laidTests := true, laidLooks := .later }
def EddsaTurnedCardSaid : Prop := Claim7.holds Tryz.pinned (.plain (OpenSpec.ofChange eddsaTurnedSpec)) eddsaTurnedCard

/-- THE SECOND FORM's CARD OF 'beaconlaw05.EddsaVerifies'. -/
def eddsaVerifiesUptoCard : Claim7 := { stood := { row := eddsaVerifiesUptoRow, standIns := [], harness := (true, "e1c531233997abc8fd92dd5f6365c1f96c83c07e43a1356c6f09bd07dbfc1a6a"), looks := false }, kinds := [], alts := [], laidByText := true, laidKinds := [.data, .data, .data, .data, .data, .data], laidTests := true, laidLooks := .later }
def EddsaVerifiesUptoCardSaid : Prop := Claim7.holds Tryz.pinned (.plain (OpenSpec.upto eddsaVerifiesSpec)) eddsaVerifiesUptoCard

/-- THE SECOND FORM's CARD OF 'beaconlaw05.EddsaTurned'. -/
def eddsaTurnedUptoCard : Claim7 := { stood := { row := eddsaTurnedUptoRow, standIns := [], harness := (true, "e1c531233997abc8fd92dd5f6365c1f96c83c07e43a1356c6f09bd07dbfc1a6a"), looks := false }, kinds := [], alts := [], laidByText := true, laidKinds := [.data, .data, .data, .data, .data, .data], laidTests := true, laidLooks := .later }
def EddsaTurnedUptoCardSaid : Prop := Claim7.holds Tryz.pinned (.plain (OpenSpec.upto eddsaTurnedSpec)) eddsaTurnedUptoCard
end Rows
end Go.Proofs.YtkhjnjlinfbfoaaGreatDoor
