/-
  DERIVED. GIVEN WITH THE SEED: THE CARDS: each row of YtpojalbpekbfdabDoorRows.lean that lists a variable, with what it lists TIED to the program's text (the seventh form; the later family's looks); each row that meets fmt, with fmt's text TOLD by the authors' own Lean function (tested against real Go, not proved from fmt's source: count such statements apart). THE CARD IS WHAT COUNTS. Prove the row's statement (the work); the ties are given (YtpojalbpekbfdabDoorTie.lean); close each card by the builder's one call (the guide's Derived/Test/ToyasCard.lean, 'card_holds'). Laid BY PROGRAM, IN A SANDBOX (cutbox-door.mjs). By AI agents, Wed Nov 11 2026. No macro, syntax, notation, axiom, sorry.
-/
import Derived.Test.YtpojalbpekbfdabDoorRows
import GoSem.ClaimSeven
namespace Go.Proofs.YtpojalbpekbfdabDoor
namespace Rows

/-- THE TIED CARD OF 'beaconlaw12.GrowKeeps'. -/
def growKeepsCard : Claim7 := { stood := { row := growKeepsRow, standIns := [], harness := (true, "9a6b70746039ceacb1a71bfeee36cb8ac108a94f1033e1a174c3a57877b0a8e8"), looks := false }, kinds := [], alts := [], laidByText := true, laidKinds := [.data, .data], laidTests := true, laidLooks := .later }
def GrowKeepsCardSaid : Prop := Claim7.holds Tryd.pinned (.plain (OpenSpec.ofChange growKeepsSpec)) growKeepsCard

/-- THE SECOND FORM's CARD OF 'beaconlaw12.GrowKeeps'. -/
def growKeepsUptoCard : Claim7 := { stood := { row := growKeepsUptoRow, standIns := [], harness := (true, "9a6b70746039ceacb1a71bfeee36cb8ac108a94f1033e1a174c3a57877b0a8e8"), looks := false }, kinds := [], alts := [], laidByText := true, laidKinds := [.data, .data], laidTests := true, laidLooks := .later }
def GrowKeepsUptoCardSaid : Prop := Claim7.holds Tryd.pinned (.plain (OpenSpec.upto growKeepsSpec)) growKeepsUptoCard
end Rows
end Go.Proofs.YtpojalbpekbfdabDoor
