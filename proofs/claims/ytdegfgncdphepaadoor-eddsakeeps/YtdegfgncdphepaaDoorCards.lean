/-
  DERIVED. GIVEN WITH THE SEED: THE CARDS: each row of YtdegfgncdphepaaDoorRows.lean that lists a variable, with what it lists TIED to the program's text (the seventh form; the later family's looks); each row that meets fmt, with fmt's text TOLD by the authors' own Lean function (tested against real Go, not proved from fmt's source: count such statements apart). THE CARD IS WHAT COUNTS. Prove the row's statement (the work); the ties are given (YtdegfgncdphepaaDoorTie.lean); close each card by the builder's one call (the guide's Derived/Test/ToyasCard.lean, 'card_holds'). Laid BY PROGRAM, IN A SANDBOX (cutbox-door.mjs). By AI agents, Wed Nov 11 2026. No macro, syntax, notation, axiom, sorry.
-/
import Derived.Test.YtdegfgncdphepaaDoorRows
import GoSem.ClaimSeven
namespace Go.Proofs.YtdegfgncdphepaaDoor
namespace Rows

/-- THE TIED CARD OF 'beaconlaw05.EddsaKeeps'. -/
def eddsaKeepsCard : Claim7 := { stood := { row := eddsaKeepsRow, standIns := [], harness := (true, "f7c40380a2a12733b28d6f917e3951080925bd90b8619f399b7746c51525eec7"), looks := false }, kinds := [], alts := [], laidByText := true, laidKinds := [.data, .data, .data, .data, .data, .data], laidTests := true, laidLooks := .later }
def EddsaKeepsCardSaid : Prop := Claim7.holds Tryd.pinned (.plain (OpenSpec.ofChange eddsaKeepsSpec)) eddsaKeepsCard

/-- THE SECOND FORM's CARD OF 'beaconlaw05.EddsaKeeps'. -/
def eddsaKeepsUptoCard : Claim7 := { stood := { row := eddsaKeepsUptoRow, standIns := [], harness := (true, "f7c40380a2a12733b28d6f917e3951080925bd90b8619f399b7746c51525eec7"), looks := false }, kinds := [], alts := [], laidByText := true, laidKinds := [.data, .data, .data, .data, .data, .data], laidTests := true, laidLooks := .later }
def EddsaKeepsUptoCardSaid : Prop := Claim7.holds Tryd.pinned (.plain (OpenSpec.upto eddsaKeepsSpec)) eddsaKeepsUptoCard
end Rows
end Go.Proofs.YtdegfgncdphepaaDoor
