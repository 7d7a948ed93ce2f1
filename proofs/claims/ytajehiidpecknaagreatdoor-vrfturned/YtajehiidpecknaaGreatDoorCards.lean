/-
  DERIVED. GIVEN WITH THE SEED: THE CARDS: each row of YtajehiidpecknaaGreatDoorRows.lean that lists a variable, with what it lists TIED to the program's text (the seventh form; the later family's looks); each row that meets fmt, with fmt's text TOLD by the authors' own Lean function (tested against real Go, not proved from fmt's source: count such statements apart). THE CARD IS WHAT COUNTS. Prove the row's statement (the work); the ties are given (YtajehiidpecknaaGreatDoorTie.lean); close each card by the builder's one call (the guide's Derived/Test/ToyasCard.lean, 'card_holds'). Laid BY PROGRAM, IN A SANDBOX (cutbox-door.mjs). By AI agents, Wed Nov 11 2026. No macro, syntax, notation, axiom, sorry.
-/
import Derived.Test.YtajehiidpecknaaGreatDoorRows
import GoSem.ClaimSeven
namespace Go.Proofs.YtajehiidpecknaaGreatDoor
namespace Rows

/-- THE TIED CARD OF 'beaconlaw06.VrfProves'. -/
def vrfProvesCard : Claim7 := { stood := { row := vrfProvesRow, standIns := [], harness := (true, "7c69070170808188edb0fb2cf8a23040d82194155e305ec7336466fb43036568"), looks := false }, kinds := [], alts := [], laidByText := true, laidKinds := [.data, .data, .data, .data, .data, .data], laidTests := true, laidLooks := .later }
def VrfProvesCardSaid : Prop := Claim7.holds Tryz.pinned (.plain (OpenSpec.ofChange vrfProvesSpec)) vrfProvesCard

/-- THE TIED CARD OF 'beaconlaw06.VrfVerifies'. -/
def vrfVerifiesCard : Claim7 := { stood := { row := vrfVerifiesRow, standIns := [], harness := (true, "7c69070170808188edb0fb2cf8a23040d82194155e305ec7336466fb43036568"), looks := false }, kinds := [], alts := [], laidByText := true, laidKinds := [.data, .data, .data, .data, .data, .data], laidTests := true, laidLooks := .later }
def VrfVerifiesCardSaid : Prop := Claim7.holds Tryz.pinned (.plain (OpenSpec.ofChange vrfVerifiesSpec)) vrfVerifiesCard

/-- THE TIED CARD OF 'beaconlaw06.VrfAccepts'. -/
def vrfAcceptsCard : Claim7 := { stood := { row := vrfAcceptsRow, standIns := [], harness := (true, "7c69070170808188edb0fb2cf8a23040d82194155e305ec7336466fb43036568"), looks := false }, kinds := [], alts := [], laidByText := true, laidKinds := [.data, .data, .data, .data, .data, .data], laidTests := true, laidLooks := .later }
def VrfAcceptsCardSaid : Prop := Claim7.holds Tryz.pinned (.plain (OpenSpec.ofChange vrfAcceptsSpec)) vrfAcceptsCard

/-- THE TIED CARD OF 'beaconlaw06.VrfTurned'. -/
def vrfTurnedCard : Claim7 := { stood := { row := vrfTurnedRow, standIns := [], harness := (true, "7c69070170808188edb0fb2cf8a23040d82194155e305ec7336466fb43036568"), looks := false }, kinds := [], alts := [], laidByText := true, laidKinds := [.data, .data, .data, .data, .data, .data], laidTests := true, laidLooks := .later }
def VrfTurnedCardSaid : Prop := Claim7.holds Tryz.pinned (.plain (OpenSpec.ofChange vrfTurnedSpec)) vrfTurnedCard

/-- THE TIED CARD OF 'beaconlaw06.VrfKeeps'. -/
def vrfKeepsCard : Claim7 := { stood := { row := vrfKeepsRow, standIns := [], harness := (true, "7c69070170808188edb0fb2cf8a23040d82194155e305ec7336466fb43036568"), looks := false }, kinds := [], alts := [], laidByText := true, laidKinds := [.data, .data, .data, .data, .data, .data], laidTests := true, laidLooks := .later }
def VrfKeepsCardSaid : Prop := Claim7.holds Tryz.pinned (.plain (OpenSpec.ofChange vrfKeepsSpec)) vrfKeepsCard

/-- THE SECOND FORM's CARD OF 'beaconlaw06.VrfProves'. -/
def vrfProvesUptoCard : Claim7 := { stood := { row := vrfProvesUptoRow, standIns := [], harness := (true, "7c69070170808188edb0fb2cf8a23040d82194155e305ec7336466fb43036568"), looks := false }, kinds := [], alts := [], laidByText := true, laidKinds := [.data, .data, .data, .data, .data, .data], laidTests := true, laidLooks := .later }
def VrfProvesUptoCardSaid : Prop := Claim7.holds Tryz.pinned (.plain (OpenSpec.upto vrfProvesSpec)) vrfProvesUptoCard

/-- THE SECOND FORM's CARD OF 'beaconlaw06.VrfVerifies'. -/
def vrfVerifiesUptoCard : Claim7 := { stood := { row := vrfVerifiesUptoRow, standIns := [], harness := (true, "7c69070170808188edb0fb2cf8a23040d82194155e305ec7336466fb43036568"), looks := false }, kinds := [], alts := [], laidByText := true, laidKinds := [.data, .data, .data, .data, .data, .data], laidTests := true, laidLooks := .later }
def VrfVerifiesUptoCardSaid : Prop := Claim7.holds Tryz.pinned (.plain (OpenSpec.upto vrfVerifiesSpec)) vrfVerifiesUptoCard

/-- THE SECOND FORM's CARD OF 'beaconlaw06.VrfAccepts'. -/
def vrfAcceptsUptoCard : Claim7 := { stood := { row := vrfAcceptsUptoRow, standIns := [], harness := (true, "7c69070170808188edb0fb2cf8a23040d82194155e305ec7336466fb43036568"), looks := false }, kinds := [], alts := [], laidByText := true, laidKinds := [.data, .data, .data, .data, .data, .data], laidTests := true, laidLooks := .later }
def VrfAcceptsUptoCardSaid : Prop := Claim7.holds Tryz.pinned (.plain (OpenSpec.upto vrfAcceptsSpec)) vrfAcceptsUptoCard

/-- THE SECOND FORM's CARD OF 'beaconlaw06.VrfTurned'. -/
def vrfTurnedUptoCard : Claim7 := { stood := { row := vrfTurnedUptoRow, standIns := [], harness := (true, "7c69070170808188edb0fb2cf8a23040d82194155e305ec7336466fb43036568"), looks := false }, kinds := [], alts := [], laidByText := true, laidKinds := [.data, .data, .data, .data, .data, .data], laidTests := true, laidLooks := .later }
def VrfTurnedUptoCardSaid : Prop := Claim7.holds Tryz.pinned (.plain (OpenSpec.upto vrfTurnedSpec)) vrfTurnedUptoCard

/-- THE SECOND FORM's CARD OF 'beaconlaw06.VrfKeeps'. -/
def vrfKeepsUptoCard : Claim7 := { stood := { row := vrfKeepsUptoRow, standIns := [], harness := (true, "7c69070170808188edb0fb2cf8a23040d82194155e305ec7336466fb43036568"), looks := false }, kinds := [], alts := [], laidByText := true, laidKinds := [.data, .data, .data, .data, .data, .data], laidTests := true, laidLooks := .later }
def VrfKeepsUptoCardSaid : Prop := Claim7.holds Tryz.pinned (.plain (OpenSpec.upto vrfKeepsSpec)) vrfKeepsUptoCard
end Rows
end Go.Proofs.YtajehiidpecknaaGreatDoor
