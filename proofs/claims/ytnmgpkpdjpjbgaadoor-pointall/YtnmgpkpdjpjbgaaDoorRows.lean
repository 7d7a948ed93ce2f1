/-
  NARROWER THAN 'FOR EVERY INPUT', by the rows' own cells (each row's printed sentence says how): PointAll: laid · PointGroup: laid · PointOften: laid · PointEight: laid · PointBytes: laid · PointOrder: laid.
  DERIVED. THE GIVEN ROWS OF THIS SEAT. 6 by the template 'for every input the law returns true; each argument reads behind the call as it read before'; 0 by the template 'total and deterministic' (their statements: YtnmgpkpdjpjbgaaDoorTotals.lean).
  GIVEN WITH THE SEED: the statements are not yours to turn. If you find one false, say at which input.
  Laid BY PROGRAM, IN A SANDBOX (cutbox-rows.mjs): the forced cells as the released guide's own fill.sh prints them over the translation a86c8c30d3ce773b… (all of the seat's roots in one cut). By AI agents, Wed Nov 11 2026. No macro, syntax, notation, axiom, sorry.
-/
import Derived.Test.YtnmgpkpdjpjbgaaDoorChecked
import GoSem.Claim
import GoSem.ClaimJoined
import GoSem.ClaimMapViews
import Derived.JoinedTies
import Derived.KernelRfl
namespace Go.Proofs.YtnmgpkpdjpjbgaaDoor
/- THE CELL 'sum', in the pinned program and in every row, IS THE sha256 OF THE DUMP (.gsa) THAT YtnmgpkpdjpjbgaaDoorProg.lean LOADS. Nothing in Lean hashes anything: it is a label: what it is worth is what the hold of that sum in a sandbox is worth. -/
noncomputable def Tryd.pinned : Pinned := { name := "ytnmgpkpdjpjbgaadoor", sum := "a86c8c30d3ce773b35d667ba896921f5f72a49450c6ac3e2175a7fdb0139631d", checked := Tryd.checked }
namespace Rows
def none {H : Type} : Left H := { results := [], args := [] }

/- WHAT THE LISTED PACKAGE-LEVEL VARIABLES READ AS WHEN THE CALL BEGINS. Each datum BY PROGRAM (the guide's laid-datum.mjs) off the statement by which the dump's own 'gosem.cut.vars' lays the variable. In a bare row this is a premise. The card (YtnmgpkpdjpjbgaaDoorCards.lean) ties it to the program's text. -/
def laid_beacon_point_one {H : Type} : DataW H := .agg [.lit (.int .u8 1), .lit (.int .u8 0), .lit (.int .u8 0), .lit (.int .u8 0), .lit (.int .u8 0), .lit (.int .u8 0), .lit (.int .u8 0), .lit (.int .u8 0), .lit (.int .u8 0), .lit (.int .u8 0), .lit (.int .u8 0), .lit (.int .u8 0), .lit (.int .u8 0), .lit (.int .u8 0), .lit (.int .u8 0), .lit (.int .u8 0), .lit (.int .u8 0), .lit (.int .u8 0), .lit (.int .u8 0), .lit (.int .u8 0), .lit (.int .u8 0), .lit (.int .u8 0), .lit (.int .u8 0), .lit (.int .u8 0), .lit (.int .u8 0), .lit (.int .u8 0), .lit (.int .u8 0), .lit (.int .u8 0), .lit (.int .u8 0), .lit (.int .u8 0), .lit (.int .u8 0), .lit (.int .u8 0)]
def laid_beacon_point_curve {H : Type} : DataW H := .agg [.lit (.int .u8 163), .lit (.int .u8 120), .lit (.int .u8 89), .lit (.int .u8 19), .lit (.int .u8 202), .lit (.int .u8 77), .lit (.int .u8 235), .lit (.int .u8 117), .lit (.int .u8 171), .lit (.int .u8 216), .lit (.int .u8 65), .lit (.int .u8 65), .lit (.int .u8 77), .lit (.int .u8 10), .lit (.int .u8 112), .lit (.int .u8 0), .lit (.int .u8 152), .lit (.int .u8 232), .lit (.int .u8 121), .lit (.int .u8 119), .lit (.int .u8 121), .lit (.int .u8 64), .lit (.int .u8 199), .lit (.int .u8 140), .lit (.int .u8 115), .lit (.int .u8 254), .lit (.int .u8 111), .lit (.int .u8 43), .lit (.int .u8 238), .lit (.int .u8 108), .lit (.int .u8 3), .lit (.int .u8 82)]
def laid_beacon_point_generatorX {H : Type} : DataW H := .agg [.lit (.int .u8 26), .lit (.int .u8 213), .lit (.int .u8 37), .lit (.int .u8 143), .lit (.int .u8 96), .lit (.int .u8 45), .lit (.int .u8 86), .lit (.int .u8 201), .lit (.int .u8 178), .lit (.int .u8 167), .lit (.int .u8 37), .lit (.int .u8 149), .lit (.int .u8 96), .lit (.int .u8 199), .lit (.int .u8 44), .lit (.int .u8 105), .lit (.int .u8 92), .lit (.int .u8 220), .lit (.int .u8 214), .lit (.int .u8 253), .lit (.int .u8 49), .lit (.int .u8 226), .lit (.int .u8 164), .lit (.int .u8 192), .lit (.int .u8 254), .lit (.int .u8 83), .lit (.int .u8 110), .lit (.int .u8 205), .lit (.int .u8 211), .lit (.int .u8 54), .lit (.int .u8 105), .lit (.int .u8 33)]
def laid_beacon_point_generatorY {H : Type} : DataW H := .agg [.lit (.int .u8 88), .lit (.int .u8 102), .lit (.int .u8 102), .lit (.int .u8 102), .lit (.int .u8 102), .lit (.int .u8 102), .lit (.int .u8 102), .lit (.int .u8 102), .lit (.int .u8 102), .lit (.int .u8 102), .lit (.int .u8 102), .lit (.int .u8 102), .lit (.int .u8 102), .lit (.int .u8 102), .lit (.int .u8 102), .lit (.int .u8 102), .lit (.int .u8 102), .lit (.int .u8 102), .lit (.int .u8 102), .lit (.int .u8 102), .lit (.int .u8 102), .lit (.int .u8 102), .lit (.int .u8 102), .lit (.int .u8 102), .lit (.int .u8 102), .lit (.int .u8 102), .lit (.int .u8 102), .lit (.int .u8 102), .lit (.int .u8 102), .lit (.int .u8 102), .lit (.int .u8 102), .lit (.int .u8 102)]

/-- 'beaconlaw04.PointAll': WHATEVER THE INPUT: true; the input reads as it did. -/
def pointAllSpec : ChangeSpec := { name := "pointAll", fn := fun _ => fun
  | [d1, d2, d3] => { results := [.lit (.bool true)], args := [d1, d2, d3] }
  | _ => none }
def pointAllRow : OpenClaim := { program := "ytnmgpkpdjpjbgaadoor", sum := "a86c8c30d3ce773b35d667ba896921f5f72a49450c6ac3e2175a7fdb0139631d", func := "beacon/beaconlaw04.PointAll", spec := "pointAll", inPlace := ["math/bits.Add64", "math/bits.Sub64"], named := ["beacon/point.generatorY", "beacon/point.one", "beacon/point.curve", "beacon/point.generatorX"], apart := false, laid := [("beacon/point.one", laid_beacon_point_one), ("beacon/point.curve", laid_beacon_point_curve), ("beacon/point.generatorX", laid_beacon_point_generatorX), ("beacon/point.generatorY", laid_beacon_point_generatorY)] }
def PointAllSaid : Prop := pointAllRow.holds Tryd.pinned (OpenSpec.ofChange pointAllSpec)

/-- ITS FALSE NEIGHBOUR: 'it returns false'. Refute it at one input. -/
def pointAllWrong : ChangeSpec := { name := "pointAll", fn := fun _ => fun
  | [d1, d2, d3] => { results := [.lit (.bool false)], args := [d1, d2, d3] }
  | _ => none }
def PointAllWrongFalsely : Prop := pointAllRow.holds Tryd.pinned (OpenSpec.ofChange pointAllWrong)

/-- 'beaconlaw04.PointGroup': WHATEVER THE INPUT: true; the input reads as it did. -/
def pointGroupSpec : ChangeSpec := { name := "pointGroup", fn := fun _ => fun
  | [d1, d2, d3] => { results := [.lit (.bool true)], args := [d1, d2, d3] }
  | _ => none }
def pointGroupRow : OpenClaim := { program := "ytnmgpkpdjpjbgaadoor", sum := "a86c8c30d3ce773b35d667ba896921f5f72a49450c6ac3e2175a7fdb0139631d", func := "beacon/beaconlaw04.PointGroup", spec := "pointGroup", inPlace := ["math/bits.Add64", "math/bits.Sub64"], named := ["beacon/point.generatorY", "beacon/point.one", "beacon/point.curve", "beacon/point.generatorX"], apart := false, laid := [("beacon/point.one", laid_beacon_point_one), ("beacon/point.curve", laid_beacon_point_curve), ("beacon/point.generatorX", laid_beacon_point_generatorX), ("beacon/point.generatorY", laid_beacon_point_generatorY)] }
def PointGroupSaid : Prop := pointGroupRow.holds Tryd.pinned (OpenSpec.ofChange pointGroupSpec)

/-- ITS FALSE NEIGHBOUR: 'it returns false'. Refute it at one input. -/
def pointGroupWrong : ChangeSpec := { name := "pointGroup", fn := fun _ => fun
  | [d1, d2, d3] => { results := [.lit (.bool false)], args := [d1, d2, d3] }
  | _ => none }
def PointGroupWrongFalsely : Prop := pointGroupRow.holds Tryd.pinned (OpenSpec.ofChange pointGroupWrong)

/-- 'beaconlaw04.PointOften': WHATEVER THE INPUT: true; the input reads as it did. -/
def pointOftenSpec : ChangeSpec := { name := "pointOften", fn := fun _ => fun
  | [d1, d2] => { results := [.lit (.bool true)], args := [d1, d2] }
  | _ => none }
def pointOftenRow : OpenClaim := { program := "ytnmgpkpdjpjbgaadoor", sum := "a86c8c30d3ce773b35d667ba896921f5f72a49450c6ac3e2175a7fdb0139631d", func := "beacon/beaconlaw04.PointOften", spec := "pointOften", inPlace := ["math/bits.Add64", "math/bits.Sub64"], named := ["beacon/point.generatorY", "beacon/point.one", "beacon/point.curve", "beacon/point.generatorX"], apart := false, laid := [("beacon/point.one", laid_beacon_point_one), ("beacon/point.curve", laid_beacon_point_curve), ("beacon/point.generatorX", laid_beacon_point_generatorX), ("beacon/point.generatorY", laid_beacon_point_generatorY)] }
def PointOftenSaid : Prop := pointOftenRow.holds Tryd.pinned (OpenSpec.ofChange pointOftenSpec)

/-- ITS FALSE NEIGHBOUR: 'it returns false'. Refute it at one input. -/
def pointOftenWrong : ChangeSpec := { name := "pointOften", fn := fun _ => fun
  | [d1, d2] => { results := [.lit (.bool false)], args := [d1, d2] }
  | _ => none }
def PointOftenWrongFalsely : Prop := pointOftenRow.holds Tryd.pinned (OpenSpec.ofChange pointOftenWrong)

/-- 'beaconlaw04.PointEight': WHATEVER THE INPUT: true; the input reads as it did. -/
def pointEightSpec : ChangeSpec := { name := "pointEight", fn := fun _ => fun
  | [d] => { results := [.lit (.bool true)], args := [d] }
  | _ => none }
def pointEightRow : OpenClaim := { program := "ytnmgpkpdjpjbgaadoor", sum := "a86c8c30d3ce773b35d667ba896921f5f72a49450c6ac3e2175a7fdb0139631d", func := "beacon/beaconlaw04.PointEight", spec := "pointEight", inPlace := ["math/bits.Add64", "math/bits.Sub64"], named := ["beacon/point.generatorY", "beacon/point.one", "beacon/point.curve", "beacon/point.generatorX"], apart := false, laid := [("beacon/point.one", laid_beacon_point_one), ("beacon/point.curve", laid_beacon_point_curve), ("beacon/point.generatorX", laid_beacon_point_generatorX), ("beacon/point.generatorY", laid_beacon_point_generatorY)] }
def PointEightSaid : Prop := pointEightRow.holds Tryd.pinned (OpenSpec.ofChange pointEightSpec)

/-- ITS FALSE NEIGHBOUR: 'it returns false'. Refute it at one input. -/
def pointEightWrong : ChangeSpec := { name := "pointEight", fn := fun _ => fun
  | [d] => { results := [.lit (.bool false)], args := [d] }
  | _ => none }
def PointEightWrongFalsely : Prop := pointEightRow.holds Tryd.pinned (OpenSpec.ofChange pointEightWrong)

/-- 'beaconlaw04.PointBytes': WHATEVER THE INPUT: true; the input reads as it did. -/
def pointBytesSpec : ChangeSpec := { name := "pointBytes", fn := fun _ => fun
  | [d] => { results := [.lit (.bool true)], args := [d] }
  | _ => none }
def pointBytesRow : OpenClaim := { program := "ytnmgpkpdjpjbgaadoor", sum := "a86c8c30d3ce773b35d667ba896921f5f72a49450c6ac3e2175a7fdb0139631d", func := "beacon/beaconlaw04.PointBytes", spec := "pointBytes", inPlace := ["math/bits.Add64", "math/bits.Sub64"], named := ["beacon/point.generatorY", "beacon/point.one", "beacon/point.curve"], apart := false, laid := [("beacon/point.one", laid_beacon_point_one), ("beacon/point.curve", laid_beacon_point_curve), ("beacon/point.generatorY", laid_beacon_point_generatorY)] }
def PointBytesSaid : Prop := pointBytesRow.holds Tryd.pinned (OpenSpec.ofChange pointBytesSpec)

/-- ITS FALSE NEIGHBOUR: 'it returns false'. Refute it at one input. -/
def pointBytesWrong : ChangeSpec := { name := "pointBytes", fn := fun _ => fun
  | [d] => { results := [.lit (.bool false)], args := [d] }
  | _ => none }
def PointBytesWrongFalsely : Prop := pointBytesRow.holds Tryd.pinned (OpenSpec.ofChange pointBytesWrong)

/-- 'beaconlaw04.PointOrder': WHATEVER THE INPUT: true; the input reads as it did. -/
def pointOrderSpec : ChangeSpec := { name := "pointOrder", fn := fun _ => fun
  | [] => { results := [.lit (.bool true)], args := [] }
  | _ => none }
def pointOrderRow : OpenClaim := { program := "ytnmgpkpdjpjbgaadoor", sum := "a86c8c30d3ce773b35d667ba896921f5f72a49450c6ac3e2175a7fdb0139631d", func := "beacon/beaconlaw04.PointOrder", spec := "pointOrder", inPlace := ["math/bits.Add64", "math/bits.Sub64"], named := ["beacon/point.generatorY", "beacon/point.one", "beacon/point.curve", "beacon/point.generatorX"], apart := false, laid := [("beacon/point.one", laid_beacon_point_one), ("beacon/point.curve", laid_beacon_point_curve), ("beacon/point.generatorX", laid_beacon_point_generatorX), ("beacon/point.generatorY", laid_beacon_point_generatorY)] }
def PointOrderSaid : Prop := pointOrderRow.holds Tryd.pinned (OpenSpec.ofChange pointOrderSpec)

/-- ITS FALSE NEIGHBOUR: 'it returns false'. Refute it at one input. -/
def pointOrderWrong : ChangeSpec := { name := "pointOrder", fn := fun _ => fun
  | [] => { results := [.lit (.bool false)], args := [] }
  | _ => none }
def PointOrderWrongFalsely : Prop := pointOrderRow.holds Tryd.pinned (OpenSpec.ofChange pointOrderWrong)

/- THE SECOND FORM. 'bulk': how many values and letters a reading holds, each counted each time it is reached (what is shared counts as often as it is met; a slice's spare places count too). A statement '..UptoSaid' is the law's where the arguments, and the package variables that the reading takes, are together of bulk at most 1048576: NARROWER than '..Said'. Prove '..Said' where nothing that the law and all that it calls make is longer than what came in: it says more and counts as full. Else prove '..UptoSaid'. A law counts once. -/
mutual
def uptoBulk {H : Type} : DataW H → Nat
  | .lit (.string bytes) => bytes.length + 1
  | .lit _ => 1
  | .nil => 1
  | .ptr d => uptoBulk d + 1
  | .slice elems spare => uptoBulkAll elems + uptoBulkAll spare + 1
  | .agg parts => uptoBulkAll parts + 1
  | .iface _ d => uptoBulk d + 1
  | .map entries => uptoBulkEntries entries + 1
  | .held _ => 1
def uptoBulkAll {H : Type} : List (DataW H) → Nat
  | [] => 0
  | d :: r => uptoBulk d + uptoBulkAll r
def uptoBulkEntries {H : Type} : List (Lit × DataW H) → Nat
  | [] => 0
  | x :: r => uptoBulkEntry x + uptoBulkEntries r
def uptoBulkEntry {H : Type} : Lit × DataW H → Nat
  | (.string bytes, d) => bytes.length + uptoBulk d + 1
  | (_, d) => uptoBulk d + 1
 end
def uptoSmall : (H : Type) → List (DataW H) → Bool := fun _ ds => decide (uptoBulkAll ds ≤ 1048576)
def OpenSpec.upto (s : _root_.Go.ChangeSpec) : _root_.Go.OpenSpec := { _root_.Go.OpenSpec.ofChange s with cond := some uptoSmall }

/-- 'beaconlaw04.PointAll', WHERE WHAT IT READS IS OF BULK AT MOST 1048576: true; the input reads as it did. -/
def pointAllUptoRow : OpenClaim := { program := "ytnmgpkpdjpjbgaadoor", sum := "a86c8c30d3ce773b35d667ba896921f5f72a49450c6ac3e2175a7fdb0139631d", func := "beacon/beaconlaw04.PointAll", spec := "pointAll", inPlace := ["math/bits.Add64", "math/bits.Sub64"], named := ["beacon/point.generatorY", "beacon/point.one", "beacon/point.curve", "beacon/point.generatorX"], apart := false, laid := [("beacon/point.one", laid_beacon_point_one), ("beacon/point.curve", laid_beacon_point_curve), ("beacon/point.generatorX", laid_beacon_point_generatorX), ("beacon/point.generatorY", laid_beacon_point_generatorY)], narrowed := true }
def PointAllUptoSaid : Prop := pointAllUptoRow.holds Tryd.pinned (OpenSpec.upto pointAllSpec)

/-- 'beaconlaw04.PointGroup', WHERE WHAT IT READS IS OF BULK AT MOST 1048576: true; the input reads as it did. -/
def pointGroupUptoRow : OpenClaim := { program := "ytnmgpkpdjpjbgaadoor", sum := "a86c8c30d3ce773b35d667ba896921f5f72a49450c6ac3e2175a7fdb0139631d", func := "beacon/beaconlaw04.PointGroup", spec := "pointGroup", inPlace := ["math/bits.Add64", "math/bits.Sub64"], named := ["beacon/point.generatorY", "beacon/point.one", "beacon/point.curve", "beacon/point.generatorX"], apart := false, laid := [("beacon/point.one", laid_beacon_point_one), ("beacon/point.curve", laid_beacon_point_curve), ("beacon/point.generatorX", laid_beacon_point_generatorX), ("beacon/point.generatorY", laid_beacon_point_generatorY)], narrowed := true }
def PointGroupUptoSaid : Prop := pointGroupUptoRow.holds Tryd.pinned (OpenSpec.upto pointGroupSpec)

/-- 'beaconlaw04.PointOften', WHERE WHAT IT READS IS OF BULK AT MOST 1048576: true; the input reads as it did. -/
def pointOftenUptoRow : OpenClaim := { program := "ytnmgpkpdjpjbgaadoor", sum := "a86c8c30d3ce773b35d667ba896921f5f72a49450c6ac3e2175a7fdb0139631d", func := "beacon/beaconlaw04.PointOften", spec := "pointOften", inPlace := ["math/bits.Add64", "math/bits.Sub64"], named := ["beacon/point.generatorY", "beacon/point.one", "beacon/point.curve", "beacon/point.generatorX"], apart := false, laid := [("beacon/point.one", laid_beacon_point_one), ("beacon/point.curve", laid_beacon_point_curve), ("beacon/point.generatorX", laid_beacon_point_generatorX), ("beacon/point.generatorY", laid_beacon_point_generatorY)], narrowed := true }
def PointOftenUptoSaid : Prop := pointOftenUptoRow.holds Tryd.pinned (OpenSpec.upto pointOftenSpec)

/-- 'beaconlaw04.PointEight', WHERE WHAT IT READS IS OF BULK AT MOST 1048576: true; the input reads as it did. -/
def pointEightUptoRow : OpenClaim := { program := "ytnmgpkpdjpjbgaadoor", sum := "a86c8c30d3ce773b35d667ba896921f5f72a49450c6ac3e2175a7fdb0139631d", func := "beacon/beaconlaw04.PointEight", spec := "pointEight", inPlace := ["math/bits.Add64", "math/bits.Sub64"], named := ["beacon/point.generatorY", "beacon/point.one", "beacon/point.curve", "beacon/point.generatorX"], apart := false, laid := [("beacon/point.one", laid_beacon_point_one), ("beacon/point.curve", laid_beacon_point_curve), ("beacon/point.generatorX", laid_beacon_point_generatorX), ("beacon/point.generatorY", laid_beacon_point_generatorY)], narrowed := true }
def PointEightUptoSaid : Prop := pointEightUptoRow.holds Tryd.pinned (OpenSpec.upto pointEightSpec)

/-- 'beaconlaw04.PointBytes', WHERE WHAT IT READS IS OF BULK AT MOST 1048576: true; the input reads as it did. -/
def pointBytesUptoRow : OpenClaim := { program := "ytnmgpkpdjpjbgaadoor", sum := "a86c8c30d3ce773b35d667ba896921f5f72a49450c6ac3e2175a7fdb0139631d", func := "beacon/beaconlaw04.PointBytes", spec := "pointBytes", inPlace := ["math/bits.Add64", "math/bits.Sub64"], named := ["beacon/point.generatorY", "beacon/point.one", "beacon/point.curve"], apart := false, laid := [("beacon/point.one", laid_beacon_point_one), ("beacon/point.curve", laid_beacon_point_curve), ("beacon/point.generatorY", laid_beacon_point_generatorY)], narrowed := true }
def PointBytesUptoSaid : Prop := pointBytesUptoRow.holds Tryd.pinned (OpenSpec.upto pointBytesSpec)

/-- 'beaconlaw04.PointOrder', WHERE WHAT IT READS IS OF BULK AT MOST 1048576: true; the input reads as it did. -/
def pointOrderUptoRow : OpenClaim := { program := "ytnmgpkpdjpjbgaadoor", sum := "a86c8c30d3ce773b35d667ba896921f5f72a49450c6ac3e2175a7fdb0139631d", func := "beacon/beaconlaw04.PointOrder", spec := "pointOrder", inPlace := ["math/bits.Add64", "math/bits.Sub64"], named := ["beacon/point.generatorY", "beacon/point.one", "beacon/point.curve", "beacon/point.generatorX"], apart := false, laid := [("beacon/point.one", laid_beacon_point_one), ("beacon/point.curve", laid_beacon_point_curve), ("beacon/point.generatorX", laid_beacon_point_generatorX), ("beacon/point.generatorY", laid_beacon_point_generatorY)], narrowed := true }
def PointOrderUptoSaid : Prop := pointOrderUptoRow.holds Tryd.pinned (OpenSpec.upto pointOrderSpec)

end Rows
end Go.Proofs.YtnmgpkpdjpjbgaaDoor
