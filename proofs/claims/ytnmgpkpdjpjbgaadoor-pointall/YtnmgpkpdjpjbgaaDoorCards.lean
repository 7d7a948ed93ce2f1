/-
  DERIVED. GIVEN WITH THE SEED: THE CARDS: each row of YtnmgpkpdjpjbgaaDoorRows.lean that lists a variable, with what it lists TIED to the program's text (the seventh form; the later family's looks); each row that meets fmt, with fmt's text TOLD by the authors' own Lean function (tested against real Go, not proved from fmt's source: count such statements apart). THE CARD IS WHAT COUNTS. Prove the row's statement (the work); the ties are given (YtnmgpkpdjpjbgaaDoorTie.lean); close each card by the builder's one call (the guide's Derived/Test/ToyasCard.lean, 'card_holds'). Laid BY PROGRAM, IN A SANDBOX (cutbox-door.mjs). By AI agents, Wed Nov 11 2026. No macro, syntax, notation, axiom, sorry.
-/
import Derived.Test.YtnmgpkpdjpjbgaaDoorRows
import GoSem.ClaimSeven
namespace Go.Proofs.YtnmgpkpdjpjbgaaDoor
namespace Rows

/-- THE TIED CARD OF 'beaconlaw04.PointAll'. -/
def pointAllCard : Claim7 := { stood := { row := pointAllRow, standIns := [], harness := (true, "d547e141989451b9a9b72c48d944f045430b869fcf94bf8b12ebeb14db616f1b"), looks := false }, kinds := [], alts := [], laidByText := true, laidKinds := [.data, .data, .data, .data], laidTests := true, laidLooks := .later }
def PointAllCardSaid : Prop := Claim7.holds Tryd.pinned (.plain (OpenSpec.ofChange pointAllSpec)) pointAllCard

/-- THE TIED CARD OF 'beaconlaw04.PointGroup'. -/
def pointGroupCard : Claim7 := { stood := { row := pointGroupRow, standIns := [], harness := (true, "d547e141989451b9a9b72c48d944f045430b869fcf94bf8b12ebeb14db616f1b"), looks := false }, kinds := [], alts := [], laidByText := true, laidKinds := [.data, .data, .data, .data], laidTests := true, laidLooks := .later }
def PointGroupCardSaid : Prop := Claim7.holds Tryd.pinned (.plain (OpenSpec.ofChange pointGroupSpec)) pointGroupCard

/-- THE TIED CARD OF 'beaconlaw04.PointOften'. -/
def pointOftenCard : Claim7 := { stood := { row := pointOftenRow, standIns := [], harness := (true, "d547e141989451b9a9b72c48d944f045430b869fcf94bf8b12ebeb14db616f1b"), looks := false }, kinds := [], alts := [], laidByText := true, laidKinds := [.data, .data, .data, .data], laidTests := true, laidLooks := .later }
def PointOftenCardSaid : Prop := Claim7.holds Tryd.pinned (.plain (OpenSpec.ofChange pointOftenSpec)) pointOftenCard

/-- THE TIED CARD OF 'beaconlaw04.PointEight'. -/
def pointEightCard : Claim7 := { stood := { row := pointEightRow, standIns := [], harness := (true, "d547e141989451b9a9b72c48d944f045430b869fcf94bf8b12ebeb14db616f1b"), looks := false }, kinds := [], alts := [], laidByText := true, laidKinds := [.data, .data, .data, .data], laidTests := true, laidLooks := .later }
def PointEightCardSaid : Prop := Claim7.holds Tryd.pinned (.plain (OpenSpec.ofChange pointEightSpec)) pointEightCard

/-- THE TIED CARD OF 'beaconlaw04.PointBytes'. -/
def pointBytesCard : Claim7 := { stood := { row := pointBytesRow, standIns := [], harness := (true, "d547e141989451b9a9b72c48d944f045430b869fcf94bf8b12ebeb14db616f1b"), looks := false }, kinds := [], alts := [], laidByText := true, laidKinds := [.data, .data, .data], laidTests := true, laidLooks := .later }
def PointBytesCardSaid : Prop := Claim7.holds Tryd.pinned (.plain (OpenSpec.ofChange pointBytesSpec)) pointBytesCard

/-- THE TIED CARD OF 'beaconlaw04.PointOrder'. -/
def pointOrderCard : Claim7 := { stood := { row := pointOrderRow, standIns := [], harness := (true, "d547e141989451b9a9b72c48d944f045430b869fcf94bf8b12ebeb14db616f1b"), looks := false }, kinds := [], alts := [], laidByText := true, laidKinds := [.data, .data, .data, .data], laidTests := true, laidLooks := .later }
def PointOrderCardSaid : Prop := Claim7.holds Tryd.pinned (.plain (OpenSpec.ofChange pointOrderSpec)) pointOrderCard

/-- THE SECOND FORM's CARD OF 'beaconlaw04.PointAll'. -/
def pointAllUptoCard : Claim7 := { stood := { row := pointAllUptoRow, standIns := [], harness := (true, "d547e141989451b9a9b72c48d944f045430b869fcf94bf8b12ebeb14db616f1b"), looks := false }, kinds := [], alts := [], laidByText := true, laidKinds := [.data, .data, .data, .data], laidTests := true, laidLooks := .later }
def PointAllUptoCardSaid : Prop := Claim7.holds Tryd.pinned (.plain (OpenSpec.upto pointAllSpec)) pointAllUptoCard

/-- THE SECOND FORM's CARD OF 'beaconlaw04.PointGroup'. -/
def pointGroupUptoCard : Claim7 := { stood := { row := pointGroupUptoRow, standIns := [], harness := (true, "d547e141989451b9a9b72c48d944f045430b869fcf94bf8b12ebeb14db616f1b"), looks := false }, kinds := [], alts := [], laidByText := true, laidKinds := [.data, .data, .data, .data], laidTests := true, laidLooks := .later }
def PointGroupUptoCardSaid : Prop := Claim7.holds Tryd.pinned (.plain (OpenSpec.upto pointGroupSpec)) pointGroupUptoCard

/-- THE SECOND FORM's CARD OF 'beaconlaw04.PointOften'. -/
def pointOftenUptoCard : Claim7 := { stood := { row := pointOftenUptoRow, standIns := [], harness := (true, "d547e141989451b9a9b72c48d944f045430b869fcf94bf8b12ebeb14db616f1b"), looks := false }, kinds := [], alts := [], laidByText := true, laidKinds := [.data, .data, .data, .data], laidTests := true, laidLooks := .later }
def PointOftenUptoCardSaid : Prop := Claim7.holds Tryd.pinned (.plain (OpenSpec.upto pointOftenSpec)) pointOftenUptoCard

/-- THE SECOND FORM's CARD OF 'beaconlaw04.PointEight'. -/
def pointEightUptoCard : Claim7 := { stood := { row := pointEightUptoRow, standIns := [], harness := (true, "d547e141989451b9a9b72c48d944f045430b869fcf94bf8b12ebeb14db616f1b"), looks := false }, kinds := [], alts := [], laidByText := true, laidKinds := [.data, .data, .data, .data], laidTests := true, laidLooks := .later }
def PointEightUptoCardSaid : Prop := Claim7.holds Tryd.pinned (.plain (OpenSpec.upto pointEightSpec)) pointEightUptoCard

/-- THE SECOND FORM's CARD OF 'beaconlaw04.PointBytes'. -/
def pointBytesUptoCard : Claim7 := { stood := { row := pointBytesUptoRow, standIns := [], harness := (true, "d547e141989451b9a9b72c48d944f045430b869fcf94bf8b12ebeb14db616f1b"), looks := false }, kinds := [], alts := [], laidByText := true, laidKinds := [.data, .data, .data], laidTests := true, laidLooks := .later }
def PointBytesUptoCardSaid : Prop := Claim7.holds Tryd.pinned (.plain (OpenSpec.upto pointBytesSpec)) pointBytesUptoCard

/-- THE SECOND FORM's CARD OF 'beaconlaw04.PointOrder'. -/
def pointOrderUptoCard : Claim7 := { stood := { row := pointOrderUptoRow, standIns := [], harness := (true, "d547e141989451b9a9b72c48d944f045430b869fcf94bf8b12ebeb14db616f1b"), looks := false }, kinds := [], alts := [], laidByText := true, laidKinds := [.data, .data, .data, .data], laidTests := true, laidLooks := .later }
def PointOrderUptoCardSaid : Prop := Claim7.holds Tryd.pinned (.plain (OpenSpec.upto pointOrderSpec)) pointOrderUptoCard
end Rows
end Go.Proofs.YtnmgpkpdjpjbgaaDoor
