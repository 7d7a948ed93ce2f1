/-
  DERIVED. GIVEN WITH THE SEED: THE CARDS: each row of YtpojalbpekbfdaaGreatDoorRows.lean that lists a variable, with what it lists TIED to the program's text (the seventh form; the later family's looks); each row that meets fmt, with fmt's text TOLD by the authors' own Lean function (tested against real Go, not proved from fmt's source: count such statements apart). THE CARD IS WHAT COUNTS. Prove the row's statement (the work); the ties are given (YtpojalbpekbfdaaGreatDoorTie.lean); close each card by the builder's one call (the guide's Derived/Test/ToyasCard.lean, 'card_holds'). Laid BY PROGRAM, IN A SANDBOX (cutbox-door.mjs). By AI agents, Wed Nov 11 2026. No macro, syntax, notation, axiom, sorry.
-/
import Derived.Test.YtpojalbpekbfdaaGreatDoorRows
import GoSem.ClaimSeven
namespace Go.Proofs.YtpojalbpekbfdaaGreatDoor
namespace Rows

/-- THE TIED CARD OF 'beaconlaw12.GrowChain'. -/
def growChainCard : Claim7 := { stood := { row := growChainRow, standIns := [], harness := (true, "5b8ca0edbe48126df09d94df2746526b245aa69e18cc2a4ceba7cb683f675517"), looks := false }, kinds := [], alts := [], laidByText := true, laidKinds := [.data, .data], laidTests := true, laidLooks := .later }
def GrowChainCardSaid : Prop := Claim7.holds Tryz.pinned (.plain (OpenSpec.ofChange growChainSpec)) growChainCard

/-- THE SECOND FORM's CARD OF 'beaconlaw12.GrowChain'. -/
def growChainUptoCard : Claim7 := { stood := { row := growChainUptoRow, standIns := [], harness := (true, "5b8ca0edbe48126df09d94df2746526b245aa69e18cc2a4ceba7cb683f675517"), looks := false }, kinds := [], alts := [], laidByText := true, laidKinds := [.data, .data], laidTests := true, laidLooks := .later }
def GrowChainUptoCardSaid : Prop := Claim7.holds Tryz.pinned (.plain (OpenSpec.upto growChainSpec)) growChainUptoCard
end Rows
end Go.Proofs.YtpojalbpekbfdaaGreatDoor
