/- What a law's world holds of package point's variables. -/
import Derived.Test.YtnmgpkpdjpjbgaaDoorPoiA
import Derived.ProofKit
import Derived.Deep.DeepHandedRow
import Derived.Lib.LaidTab
namespace Go.Proofs.YtnmgpkpdjpjbgaaDoor
open Go Go.ChangeShapes Go.WideShapes Go.ChangeAt Go.RowKit
set_option linter.unusedVariables false
theorem laid_tail {P : Program} {W : World} {n : String} {d : DataW Unit} {rest : List (String × DataW Unit)} (h : laidMet P ((n, d) :: rest) W) : laidMet P rest W := by
  obtain ⟨ps, ⟨g, t, cs, fuel, p, q, e1, e2, e3, e4, hr, rfl⟩, hnd, hrows⟩ := h
  exact ⟨q, hr, (List.nodup_append.1 hnd).2.1, fun b off hp => hrows b off (List.mem_append_right _ hp)⟩
theorem c_u8 : Tryd.prog.cellsOf 5 = 1 := by kernel_rfl
theorem c_32 : Tryd.prog.cellsOf 22 = 32 := by kernel_rfl
/-- A variable's block. -/
theorem blk_of {W : World} {name : String} {g : Nat} {zs : List Int} {n : Nat} (hS : W.ShapedOpen Tryd.prog) (hg : Tryd.prog.globalNamed name = some g) (hl : g < Tryd.prog.globals.size)
    (ht : (((begin Tryd.prog (fun _ _ => 0) default).world.heap[g]?).bind Obj.row?).map Prod.snd = some 22) (hT : Lib.TabIs Tryd.prog W name .u8 zs) (hz : (zs.map fun z => Value.int .u8 z) = bl n) :
    W.heap[g]? = some (.cells (bl n).toArray 22 (0, 0)) := by
  obtain ⟨q, hq, hq2⟩ := Option.map_eq_some_iff.1 ht
  obtain ⟨zero, t⟩ := q
  simp only at hq2
  subst hq2
  obtain ⟨cs, h1, _, _⟩ := hS.1 g zero _ hl hq
  unfold Lib.TabIs World.var? at hT
  rw [hg, Option.bind_some, h1] at hT
  simp only [Option.some.injEq] at hT
  rw [h1, hT, hz]
def n_one : List Int := [1, 0, 0, 0, 0, 0, 0, 0, 0, 0, 0, 0, 0, 0, 0, 0, 0, 0, 0, 0, 0, 0, 0, 0, 0, 0, 0, 0, 0, 0, 0, 0]
theorem z_one : (n_one.map fun z => Value.int .u8 z) = bl 1 := by kernel_rfl
theorem g_one : Tryd.prog.globalNamed "beacon/point.one" = some 3 := by kernel_rfl
theorem gt_one : (Tryd.prog.globals[3]?).map (·.type) = some 22 := by kernel_rfl
theorem gs_one : 3 < Tryd.prog.globals.size := of_decide_eq_true (by kernel_rfl)
theorem gw_one : (((begin Tryd.prog (fun _ _ => 0) default).world.heap[3]?).bind Obj.row?).map Prod.snd = some 22 := by kernel_rfl
theorem tab_one {W : World} {rest : List (String × DataW Unit)} (h : laidMet Tryd.prog (("beacon/point.one", Lib.tabData .u8 n_one) :: rest) W) : Lib.TabIs Tryd.prog W "beacon/point.one" .u8 n_one :=
  Lib.tabIs_of_head g_one gt_one Tryd.underlying22 Tryd.underlying5 c_u8 c_32 h
theorem blk_one {W : World} (hS : W.ShapedOpen Tryd.prog) (h : Lib.TabIs Tryd.prog W "beacon/point.one" .u8 n_one) : W.heap[3]? = some (.cells (bl 1).toArray 22 (0, 0)) :=
  blk_of hS g_one gs_one gw_one h z_one
def n_curve : List Int := [163, 120, 89, 19, 202, 77, 235, 117, 171, 216, 65, 65, 77, 10, 112, 0, 152, 232, 121, 119, 121, 64, 199, 140, 115, 254, 111, 43, 238, 108, 3, 82]
theorem z_curve : (n_curve.map fun z => Value.int .u8 z) = bl DN' := by kernel_rfl
theorem g_curve : Tryd.prog.globalNamed "beacon/point.curve" = some 1 := by kernel_rfl
theorem gt_curve : (Tryd.prog.globals[1]?).map (·.type) = some 22 := by kernel_rfl
theorem gs_curve : 1 < Tryd.prog.globals.size := of_decide_eq_true (by kernel_rfl)
theorem gw_curve : (((begin Tryd.prog (fun _ _ => 0) default).world.heap[1]?).bind Obj.row?).map Prod.snd = some 22 := by kernel_rfl
theorem tab_curve {W : World} {rest : List (String × DataW Unit)} (h : laidMet Tryd.prog (("beacon/point.curve", Lib.tabData .u8 n_curve) :: rest) W) : Lib.TabIs Tryd.prog W "beacon/point.curve" .u8 n_curve :=
  Lib.tabIs_of_head g_curve gt_curve Tryd.underlying22 Tryd.underlying5 c_u8 c_32 h
theorem blk_curve {W : World} (hS : W.ShapedOpen Tryd.prog) (h : Lib.TabIs Tryd.prog W "beacon/point.curve" .u8 n_curve) : W.heap[1]? = some (.cells (bl DN').toArray 22 (0, 0)) :=
  blk_of hS g_curve gs_curve gw_curve h z_curve
def n_generatorX : List Int := [26, 213, 37, 143, 96, 45, 86, 201, 178, 167, 37, 149, 96, 199, 44, 105, 92, 220, 214, 253, 49, 226, 164, 192, 254, 83, 110, 205, 211, 54, 105, 33]
theorem z_generatorX : (n_generatorX.map fun z => Value.int .u8 z) = bl GX := by kernel_rfl
theorem g_generatorX : Tryd.prog.globalNamed "beacon/point.generatorX" = some 2 := by kernel_rfl
theorem gt_generatorX : (Tryd.prog.globals[2]?).map (·.type) = some 22 := by kernel_rfl
theorem gs_generatorX : 2 < Tryd.prog.globals.size := of_decide_eq_true (by kernel_rfl)
theorem gw_generatorX : (((begin Tryd.prog (fun _ _ => 0) default).world.heap[2]?).bind Obj.row?).map Prod.snd = some 22 := by kernel_rfl
theorem tab_generatorX {W : World} {rest : List (String × DataW Unit)} (h : laidMet Tryd.prog (("beacon/point.generatorX", Lib.tabData .u8 n_generatorX) :: rest) W) : Lib.TabIs Tryd.prog W "beacon/point.generatorX" .u8 n_generatorX :=
  Lib.tabIs_of_head g_generatorX gt_generatorX Tryd.underlying22 Tryd.underlying5 c_u8 c_32 h
theorem blk_generatorX {W : World} (hS : W.ShapedOpen Tryd.prog) (h : Lib.TabIs Tryd.prog W "beacon/point.generatorX" .u8 n_generatorX) : W.heap[2]? = some (.cells (bl GX).toArray 22 (0, 0)) :=
  blk_of hS g_generatorX gs_generatorX gw_generatorX h z_generatorX
def n_generatorY : List Int := [88, 102, 102, 102, 102, 102, 102, 102, 102, 102, 102, 102, 102, 102, 102, 102, 102, 102, 102, 102, 102, 102, 102, 102, 102, 102, 102, 102, 102, 102, 102, 102]
theorem z_generatorY : (n_generatorY.map fun z => Value.int .u8 z) = bl GY := by kernel_rfl
theorem g_generatorY : Tryd.prog.globalNamed "beacon/point.generatorY" = some 0 := by kernel_rfl
theorem gt_generatorY : (Tryd.prog.globals[0]?).map (·.type) = some 22 := by kernel_rfl
theorem gs_generatorY : 0 < Tryd.prog.globals.size := of_decide_eq_true (by kernel_rfl)
theorem gw_generatorY : (((begin Tryd.prog (fun _ _ => 0) default).world.heap[0]?).bind Obj.row?).map Prod.snd = some 22 := by kernel_rfl
theorem tab_generatorY {W : World} {rest : List (String × DataW Unit)} (h : laidMet Tryd.prog (("beacon/point.generatorY", Lib.tabData .u8 n_generatorY) :: rest) W) : Lib.TabIs Tryd.prog W "beacon/point.generatorY" .u8 n_generatorY :=
  Lib.tabIs_of_head g_generatorY gt_generatorY Tryd.underlying22 Tryd.underlying5 c_u8 c_32 h
theorem blk_generatorY {W : World} (hS : W.ShapedOpen Tryd.prog) (h : Lib.TabIs Tryd.prog W "beacon/point.generatorY" .u8 n_generatorY) : W.heap[0]? = some (.cells (bl GY).toArray 22 (0, 0)) :=
  blk_of hS g_generatorY gs_generatorY gw_generatorY h z_generatorY
def L3 : List (String × DataW Unit) := [("beacon/point.one", Lib.tabData .u8 n_one), ("beacon/point.curve", Lib.tabData .u8 n_curve), ("beacon/point.generatorY", Lib.tabData .u8 n_generatorY)]
def L4 : List (String × DataW Unit) := [("beacon/point.one", Lib.tabData .u8 n_one), ("beacon/point.curve", Lib.tabData .u8 n_curve), ("beacon/point.generatorX", Lib.tabData .u8 n_generatorX), ("beacon/point.generatorY", Lib.tabData .u8 n_generatorY)]
theorem glo0 {W : World} (hS : W.ShapedOpen Tryd.prog) (h : laidMet Tryd.prog L3 W) : Glo M0 W := by
  have t1 := tab_one h
  have t2 := tab_curve (laid_tail h)
  have t3 := tab_generatorY (laid_tail (laid_tail h))
  intro b B hB
  match b, hB with
  | 0, hB => cases hB; exact blk_generatorY hS t3
  | 1, hB => cases hB; exact blk_curve hS t2
  | 2, hB => cases hB
  | 3, hB => cases hB; exact blk_one hS t1
  | b + 4, hB => cases hB
theorem glo1 {W : World} (hS : W.ShapedOpen Tryd.prog) (h : laidMet Tryd.prog L4 W) : Glo M1 W := by
  have t1 := tab_one h
  have t2 := tab_curve (laid_tail h)
  have t3 := tab_generatorX (laid_tail (laid_tail h))
  have t4 := tab_generatorY (laid_tail (laid_tail (laid_tail h)))
  intro b B hB
  match b, hB with
  | 0, hB => cases hB; exact blk_generatorY hS t4
  | 1, hB => cases hB; exact blk_curve hS t2
  | 2, hB => cases hB; exact blk_generatorX hS t3
  | 3, hB => cases hB; exact blk_one hS t1
  | b + 4, hB => cases hB
end Go.Proofs.YtnmgpkpdjpjbgaaDoor
