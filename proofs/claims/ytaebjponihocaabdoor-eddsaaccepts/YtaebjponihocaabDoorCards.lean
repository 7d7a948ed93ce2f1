/-
  DERIVED. GIVEN WITH THE SEED: THE CARDS: each row of YtaebjponihocaabDoorRows.lean that lists a variable, with what it lists TIED to the program's text (the seventh form; the later family's looks); each row that meets fmt, with fmt's text TOLD by the authors' own Lean function (tested against real Go, not proved from fmt's source: count such statements apart). THE CARD IS WHAT COUNTS. Prove the row's statement (the work); the ties are given (YtaebjponihocaabDoorTie.lean); close each card by the builder's one call (the guide's Derived/Test/ToyasCard.lean, 'card_holds'). Laid BY PROGRAM, IN A SANDBOX (cutbox-door.mjs). By AI agents, Wed Nov 11 2026. No macro, syntax, notation, axiom, sorry.
-/
import Derived.Test.YtaebjponihocaabDoorRows
import GoSem.ClaimSeven
namespace Go.Proofs.YtaebjponihocaabDoor
namespace Rows

/-- THE TIED CARD OF 'beaconlaw05.EddsaAccepts'. -/
def eddsaAcceptsCard : Claim7 := { stood := { row := eddsaAcceptsRow, standIns := [], harness := (true, "ae3c719506a67eafe9e7dfa40f5256ed4e9852714163b2c95de675c6b945824a"), looks := false }, kinds := [], alts := [], laidByText := true, laidKinds := [.data, .data, .data, .data, .data, .data], laidTests := true, laidLooks := .later }
def EddsaAcceptsCardSaid : Prop := Claim7.holds Tryd.pinned (.plain (OpenSpec.ofChange eddsaAcceptsSpec)) eddsaAcceptsCard

/-- THE TIED CARD OF 'beaconlaw05.EddsaLarge'. -/
def eddsaLargeCard : Claim7 := { stood := { row := eddsaLargeRow, standIns := [], harness := (true, "ae3c719506a67eafe9e7dfa40f5256ed4e9852714163b2c95de675c6b945824a"), looks := false }, kinds := [], alts := [], laidByText := true, laidKinds := [.data, .data, .data, .data, .data, .data], laidTests := true, laidLooks := .later }
def EddsaLargeCardSaid : Prop := Claim7.holds Tryd.pinned (.plain (OpenSpec.ofChange eddsaLargeSpec)) eddsaLargeCard

/-- THE TIED CARD OF 'beaconlaw05.EddsaKeeps'. -/
def eddsaKeepsCard : Claim7 := { stood := { row := eddsaKeepsRow, standIns := [], harness := (true, "ae3c719506a67eafe9e7dfa40f5256ed4e9852714163b2c95de675c6b945824a"), looks := false }, kinds := [], alts := [], laidByText := true, laidKinds := [.data, .data, .data, .data, .data, .data], laidTests := true, laidLooks := .later }
def EddsaKeepsCardSaid : Prop := Claim7.holds Tryd.pinned (.plain (OpenSpec.ofChange eddsaKeepsSpec)) eddsaKeepsCard

/-- THE SECOND FORM's CARD OF 'beaconlaw05.EddsaAccepts'. -/
def eddsaAcceptsUptoCard : Claim7 := { stood := { row := eddsaAcceptsUptoRow, standIns := [], harness := (true, "ae3c719506a67eafe9e7dfa40f5256ed4e9852714163b2c95de675c6b945824a"), looks := false }, kinds := [], alts := [], laidByText := true, laidKinds := [.data, .data, .data, .data, .data, .data], laidTests := true, laidLooks := .later }
def EddsaAcceptsUptoCardSaid : Prop := Claim7.holds Tryd.pinned (.plain (OpenSpec.upto eddsaAcceptsSpec)) eddsaAcceptsUptoCard

/-- THE SECOND FORM's CARD OF 'beaconlaw05.EddsaLarge'. -/
def eddsaLargeUptoCard : Claim7 := { stood := { row := eddsaLargeUptoRow, standIns := [], harness := (true, "ae3c719506a67eafe9e7dfa40f5256ed4e9852714163b2c95de675c6b945824a"), looks := false }, kinds := [], alts := [], laidByText := true, laidKinds := [.data, .data, .data, .data, .data, .data], laidTests := true, laidLooks := .later }
def EddsaLargeUptoCardSaid : Prop := Claim7.holds Tryd.pinned (.plain (OpenSpec.upto eddsaLargeSpec)) eddsaLargeUptoCard

/-- THE SECOND FORM's CARD OF 'beaconlaw05.EddsaKeeps'. -/
def eddsaKeepsUptoCard : Claim7 := { stood := { row := eddsaKeepsUptoRow, standIns := [], harness := (true, "ae3c719506a67eafe9e7dfa40f5256ed4e9852714163b2c95de675c6b945824a"), looks := false }, kinds := [], alts := [], laidByText := true, laidKinds := [.data, .data, .data, .data, .data, .data], laidTests := true, laidLooks := .later }
def EddsaKeepsUptoCardSaid : Prop := Claim7.holds Tryd.pinned (.plain (OpenSpec.upto eddsaKeepsSpec)) eddsaKeepsUptoCard
end Rows
end Go.Proofs.YtaebjponihocaabDoor
