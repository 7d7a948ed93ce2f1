/-
  DERIVED. GIVEN WITH THE SEED: THE CARDS: each row of YtpojalbpekbfdaaDoorRows.lean that lists a variable, with what it lists TIED to the program's text (the seventh form; the later family's looks); each row that meets fmt, with fmt's text TOLD by the authors' own Lean function (tested against real Go, not proved from fmt's source: count such statements apart). THE CARD IS WHAT COUNTS. Prove the row's statement (the work); the ties are given (YtpojalbpekbfdaaDoorTie.lean); close each card by the builder's one call (the guide's Derived/Test/ToyasCard.lean, 'card_holds'). Laid BY PROGRAM, IN A SANDBOX (cutbox-door.mjs). By AI agents, Wed Nov 11 2026. No macro, syntax, notation, axiom, sorry.
-/
import Derived.Test.YtpojalbpekbfdaaDoorRows
import GoSem.ClaimSeven
namespace Go.Proofs.YtpojalbpekbfdaaDoor
namespace Rows

/-- THE TIED CARD OF 'beaconlaw12.GrowStays'. -/
def growStaysCard : Claim7 := { stood := { row := growStaysRow, standIns := [], harness := (true, "15cf4d74b58c038fbb84b83afb3fab59dd8b469c0caac01af4bce05f009dc2a8"), looks := false }, kinds := [], alts := [], laidByText := true, laidKinds := [.data, .data], laidTests := true, laidLooks := .later }
def GrowStaysCardSaid : Prop := Claim7.holds Tryd.pinned (.plain (OpenSpec.ofChange growStaysSpec)) growStaysCard

/-- THE TIED CARD OF 'beaconlaw12.GrowChecks'. -/
def growChecksCard : Claim7 := { stood := { row := growChecksRow, standIns := [], harness := (true, "15cf4d74b58c038fbb84b83afb3fab59dd8b469c0caac01af4bce05f009dc2a8"), looks := false }, kinds := [], alts := [], laidByText := true, laidKinds := [.data, .data], laidTests := true, laidLooks := .later }
def GrowChecksCardSaid : Prop := Claim7.holds Tryd.pinned (.plain (OpenSpec.ofChange growChecksSpec)) growChecksCard

/-- THE TIED CARD OF 'beaconlaw12.GrowAccepts'. -/
def growAcceptsCard : Claim7 := { stood := { row := growAcceptsRow, standIns := [], harness := (true, "15cf4d74b58c038fbb84b83afb3fab59dd8b469c0caac01af4bce05f009dc2a8"), looks := false }, kinds := [], alts := [], laidByText := true, laidKinds := [.data, .data], laidTests := true, laidLooks := .later }
def GrowAcceptsCardSaid : Prop := Claim7.holds Tryd.pinned (.plain (OpenSpec.ofChange growAcceptsSpec)) growAcceptsCard

/-- THE TIED CARD OF 'beaconlaw12.GrowLeast'. -/
def growLeastCard : Claim7 := { stood := { row := growLeastRow, standIns := [], harness := (true, "15cf4d74b58c038fbb84b83afb3fab59dd8b469c0caac01af4bce05f009dc2a8"), looks := false }, kinds := [], alts := [], laidByText := true, laidKinds := [.data, .data], laidTests := true, laidLooks := .later }
def GrowLeastCardSaid : Prop := Claim7.holds Tryd.pinned (.plain (OpenSpec.ofChange growLeastSpec)) growLeastCard

/-- THE TIED CARD OF 'beaconlaw12.GrowRelinks'. -/
def growRelinksCard : Claim7 := { stood := { row := growRelinksRow, standIns := [], harness := (true, "15cf4d74b58c038fbb84b83afb3fab59dd8b469c0caac01af4bce05f009dc2a8"), looks := false }, kinds := [], alts := [], laidByText := true, laidKinds := [.data, .data], laidTests := true, laidLooks := .later }
def GrowRelinksCardSaid : Prop := Claim7.holds Tryd.pinned (.plain (OpenSpec.ofChange growRelinksSpec)) growRelinksCard

/-- THE SECOND FORM's CARD OF 'beaconlaw12.GrowStays'. -/
def growStaysUptoCard : Claim7 := { stood := { row := growStaysUptoRow, standIns := [], harness := (true, "15cf4d74b58c038fbb84b83afb3fab59dd8b469c0caac01af4bce05f009dc2a8"), looks := false }, kinds := [], alts := [], laidByText := true, laidKinds := [.data, .data], laidTests := true, laidLooks := .later }
def GrowStaysUptoCardSaid : Prop := Claim7.holds Tryd.pinned (.plain (OpenSpec.upto growStaysSpec)) growStaysUptoCard

/-- THE SECOND FORM's CARD OF 'beaconlaw12.GrowChecks'. -/
def growChecksUptoCard : Claim7 := { stood := { row := growChecksUptoRow, standIns := [], harness := (true, "15cf4d74b58c038fbb84b83afb3fab59dd8b469c0caac01af4bce05f009dc2a8"), looks := false }, kinds := [], alts := [], laidByText := true, laidKinds := [.data, .data], laidTests := true, laidLooks := .later }
def GrowChecksUptoCardSaid : Prop := Claim7.holds Tryd.pinned (.plain (OpenSpec.upto growChecksSpec)) growChecksUptoCard

/-- THE SECOND FORM's CARD OF 'beaconlaw12.GrowAccepts'. -/
def growAcceptsUptoCard : Claim7 := { stood := { row := growAcceptsUptoRow, standIns := [], harness := (true, "15cf4d74b58c038fbb84b83afb3fab59dd8b469c0caac01af4bce05f009dc2a8"), looks := false }, kinds := [], alts := [], laidByText := true, laidKinds := [.data, .data], laidTests := true, laidLooks := .later }
def GrowAcceptsUptoCardSaid : Prop := Claim7.holds Tryd.pinned (.plain (OpenSpec.upto growAcceptsSpec)) growAcceptsUptoCard

/-- THE SECOND FORM's CARD OF 'beaconlaw12.GrowLeast'. -/
def growLeastUptoCard : Claim7 := { stood := { row := growLeastUptoRow, standIns := [], harness := (true, "15cf4d74b58c038fbb84b83afb3fab59dd8b469c0caac01af4bce05f009dc2a8"), looks := false }, kinds := [], alts := [], laidByText := true, laidKinds := [.data, .data], laidTests := true, laidLooks := .later }
def GrowLeastUptoCardSaid : Prop := Claim7.holds Tryd.pinned (.plain (OpenSpec.upto growLeastSpec)) growLeastUptoCard

/-- THE SECOND FORM's CARD OF 'beaconlaw12.GrowRelinks'. -/
def growRelinksUptoCard : Claim7 := { stood := { row := growRelinksUptoRow, standIns := [], harness := (true, "15cf4d74b58c038fbb84b83afb3fab59dd8b469c0caac01af4bce05f009dc2a8"), looks := false }, kinds := [], alts := [], laidByText := true, laidKinds := [.data, .data], laidTests := true, laidLooks := .later }
def GrowRelinksUptoCardSaid : Prop := Claim7.holds Tryd.pinned (.plain (OpenSpec.upto growRelinksSpec)) growRelinksUptoCard
end Rows
end Go.Proofs.YtpojalbpekbfdaaDoor
