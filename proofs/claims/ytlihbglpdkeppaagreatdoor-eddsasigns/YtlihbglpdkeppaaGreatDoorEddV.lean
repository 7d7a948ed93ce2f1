/- What a law's world holds of the variables. -/
import Derived.Test.YtlihbglpdkeppaaGreatDoorHshC
import Derived.Test.YtlihbglpdkeppaaGreatDoorRows
import Derived.OpenShut
import Derived.ChangeOld
import Derived.ProofKit
import Derived.Deep.DeepHandedRow
import Derived.Lib.LaidTab
set_option linter.unusedSimpArgs false
set_option linter.unusedVariables false
namespace Go.Proofs.YtlihbglpdkeppaaGreatDoor.Edd
open Go Go.ChangeShapes Go.WideShapes Go.ChangeAt Go.RowKit Shf
set_option maxRecDepth 100000
theorem laid_tail {P:Program} {W:World} {n:String} {d:DataW Unit} {rest:List (String × DataW Unit)} (h:laidMet P ((n,d) :: rest) W):laidMet P rest W:=by
 obtain ⟨ps,⟨g,t,cs,fuel,p,q,e1,e2,e3,e4,hr,rfl⟩,hnd,hrows⟩:=h
 exact ⟨q,hr,(List.nodup_append.1 hnd).2.1,fun b off hp=>hrows b off (List.mem_append_right _ hp)⟩
theorem Glo.rep (n:Nat) (w:World):Glo (List.replicate n none) w:=fun b B hB=>by
 unfold getB at hB
 rw [List.getElem?_replicate] at hB
 split at hB <;> cases hB
theorem Glo.set {M:Mem} {w:World} (h:Glo M w) {g:Nat} {B:Blk} (hB:w.heap[g]? = some (.cells B.cells.toArray B.ty.id B.ty.fz)):Glo (M.set g (some B)) w:=fun b B' hB'=>by
 rw [getB_set] at hB'
 split at hB'
 ·rename_i e
  cases hB'
  rw [e.1];exact hB
 ·exact h b B' hB'
theorem blk_ofG {W:World} {name:String} {g:Nat} {zs:List Int} {k:IntKind} {t:TypeId} {cells:List Value} (hS:W.ShapedOpen Tryz.prog) (hg:Tryz.prog.globalNamed name=some g) (hl:g<Tryz.prog.globals.size)
  (ht:(((begin Tryz.prog (fun _ _=>0) default).world.heap[g]?).bind Obj.row?).map Prod.snd=some t) (hT:Lib.TabIs Tryz.prog W name k zs) (hz:(zs.map fun z=>Value.int k z)=cells) :
  W.heap[g]? = some (.cells cells.toArray t (0,0)):=by
 obtain ⟨q,hq,hq2⟩:=Option.map_eq_some_iff.1 ht
 obtain ⟨zero,t⟩:=q
 simp only at hq2
 subst hq2
 obtain ⟨cs,h1,_,_⟩:=hS.1 g zero _ hl hq
 unfold Lib.TabIs World.var? at hT
 rw [hg,Option.bind_some,h1] at hT
 simp only [Option.some.injEq] at hT
 rw [h1,hT,hz]
theorem c_u8:Tryz.prog.cellsOf 5=1:=by kernel_rfl
theorem c_u64:Tryz.prog.cellsOf 42=1:=by kernel_rfl
def n_one:List Int:=[1,0,0,0,0,0,0,0,0,0,0,0,0,0,0,0,0,0,0,0,0,0,0,0,0,0,0,0,0,0,0,0]
def n_curve:List Int:=[163,120,89,19,202,77,235,117,171,216,65,65,77,10,112,0,152,232,121,119,121,64,199,140,115,254,111,43,238,108,3,82]
def n_generatorX:List Int:=[26,213,37,143,96,45,86,201,178,167,37,149,96,199,44,105,92,220,214,253,49,226,164,192,254,83,110,205,211,54,105,33]
def n_generatorY:List Int:=[88,102,102,102,102,102,102,102,102,102,102,102,102,102,102,102,102,102,102,102,102,102,102,102,102,102,102,102,102,102,102,102]
theorem z_sq:(H5.map fun z=>Value.int .u64 z)=H512:=by kernel_rfl
theorem g_sq : Tryz.prog.globalNamed "beacon/sha2.squares512" = some 0 := by kernel_rfl
theorem gt_sq:(Tryz.prog.globals[0]?).map (·.type)=some 91:=by kernel_rfl
theorem gs_sq:0<Tryz.prog.globals.size:=of_decide_eq_true (by kernel_rfl)
theorem gw_sq:(((begin Tryz.prog (fun _ _=>0) default).world.heap[0]?).bind Obj.row?).map Prod.snd=some 91:=by kernel_rfl
theorem cc_sq:Tryz.prog.cellsOf 91=8:=by kernel_rfl
theorem blk_sq {W : World} {rest : List (String × DataW Unit)} (hS : W.ShapedOpen Tryz.prog) (h : laidMet Tryz.prog (("beacon/sha2.squares512", Lib.tabData .u64 H5) :: rest) W) : W.heap[0]? = some (.cells (H512).toArray 91 (0, 0)) :=
 blk_ofG hS g_sq gs_sq gw_sq (Lib.tabIs_of_head g_sq gt_sq Tryz.underlying91 Tryz.underlying42 c_u64 cc_sq h) z_sq
theorem z_cu:(K5.map fun z=>Value.int .u64 z)=K512:=by kernel_rfl
theorem g_cu : Tryz.prog.globalNamed "beacon/sha2.cubes512" = some 3 := by kernel_rfl
theorem gt_cu:(Tryz.prog.globals[3]?).map (·.type)=some 104:=by kernel_rfl
theorem gs_cu:3<Tryz.prog.globals.size:=of_decide_eq_true (by kernel_rfl)
theorem gw_cu:(((begin Tryz.prog (fun _ _=>0) default).world.heap[3]?).bind Obj.row?).map Prod.snd=some 104:=by kernel_rfl
theorem cc_cu:Tryz.prog.cellsOf 104=80:=by kernel_rfl
theorem blk_cu {W : World} {rest : List (String × DataW Unit)} (hS : W.ShapedOpen Tryz.prog) (h : laidMet Tryz.prog (("beacon/sha2.cubes512", Lib.tabData .u64 K5) :: rest) W) : W.heap[3]? = some (.cells (K512).toArray 104 (0, 0)) :=
 blk_ofG hS g_cu gs_cu gw_cu (Lib.tabIs_of_head g_cu gt_cu Tryz.underlying104 Tryz.underlying42 c_u64 cc_cu h) z_cu
theorem z_one:(n_one.map fun z=>Value.int .u8 z)=(bl 1):=by kernel_rfl
theorem g_one : Tryz.prog.globalNamed "beacon/point.one" = some 4 := by kernel_rfl
theorem gt_one:(Tryz.prog.globals[4]?).map (·.type)=some 22:=by kernel_rfl
theorem gs_one:4<Tryz.prog.globals.size:=of_decide_eq_true (by kernel_rfl)
theorem gw_one:(((begin Tryz.prog (fun _ _=>0) default).world.heap[4]?).bind Obj.row?).map Prod.snd=some 22:=by kernel_rfl
theorem cc_one:Tryz.prog.cellsOf 22=32:=by kernel_rfl
theorem blk_one {W : World} {rest : List (String × DataW Unit)} (hS : W.ShapedOpen Tryz.prog) (h : laidMet Tryz.prog (("beacon/point.one", Lib.tabData .u8 n_one) :: rest) W) : W.heap[4]? = some (.cells ((bl 1)).toArray 22 (0, 0)) :=
 blk_ofG hS g_one gs_one gw_one (Lib.tabIs_of_head g_one gt_one Tryz.underlying22 Tryz.underlying5 c_u8 cc_one h) z_one
theorem z_curve:(n_curve.map fun z=>Value.int .u8 z)=(bl DN'):=by kernel_rfl
theorem g_curve : Tryz.prog.globalNamed "beacon/point.curve" = some 5 := by kernel_rfl
theorem gt_curve:(Tryz.prog.globals[5]?).map (·.type)=some 22:=by kernel_rfl
theorem gs_curve:5<Tryz.prog.globals.size:=of_decide_eq_true (by kernel_rfl)
theorem gw_curve:(((begin Tryz.prog (fun _ _=>0) default).world.heap[5]?).bind Obj.row?).map Prod.snd=some 22:=by kernel_rfl
theorem cc_curve:Tryz.prog.cellsOf 22=32:=by kernel_rfl
theorem blk_curve {W : World} {rest : List (String × DataW Unit)} (hS : W.ShapedOpen Tryz.prog) (h : laidMet Tryz.prog (("beacon/point.curve", Lib.tabData .u8 n_curve) :: rest) W) : W.heap[5]? = some (.cells ((bl DN')).toArray 22 (0, 0)) :=
 blk_ofG hS g_curve gs_curve gw_curve (Lib.tabIs_of_head g_curve gt_curve Tryz.underlying22 Tryz.underlying5 c_u8 cc_curve h) z_curve
theorem z_generatorX:(n_generatorX.map fun z=>Value.int .u8 z)=(bl GX):=by kernel_rfl
theorem g_generatorX : Tryz.prog.globalNamed "beacon/point.generatorX" = some 1 := by kernel_rfl
theorem gt_generatorX:(Tryz.prog.globals[1]?).map (·.type)=some 22:=by kernel_rfl
theorem gs_generatorX:1<Tryz.prog.globals.size:=of_decide_eq_true (by kernel_rfl)
theorem gw_generatorX:(((begin Tryz.prog (fun _ _=>0) default).world.heap[1]?).bind Obj.row?).map Prod.snd=some 22:=by kernel_rfl
theorem cc_generatorX:Tryz.prog.cellsOf 22=32:=by kernel_rfl
theorem blk_generatorX {W : World} {rest : List (String × DataW Unit)} (hS : W.ShapedOpen Tryz.prog) (h : laidMet Tryz.prog (("beacon/point.generatorX", Lib.tabData .u8 n_generatorX) :: rest) W) : W.heap[1]? = some (.cells ((bl GX)).toArray 22 (0, 0)) :=
 blk_ofG hS g_generatorX gs_generatorX gw_generatorX (Lib.tabIs_of_head g_generatorX gt_generatorX Tryz.underlying22 Tryz.underlying5 c_u8 cc_generatorX h) z_generatorX
theorem z_generatorY:(n_generatorY.map fun z=>Value.int .u8 z)=(bl GY):=by kernel_rfl
theorem g_generatorY : Tryz.prog.globalNamed "beacon/point.generatorY" = some 2 := by kernel_rfl
theorem gt_generatorY:(Tryz.prog.globals[2]?).map (·.type)=some 22:=by kernel_rfl
theorem gs_generatorY:2<Tryz.prog.globals.size:=of_decide_eq_true (by kernel_rfl)
theorem gw_generatorY:(((begin Tryz.prog (fun _ _=>0) default).world.heap[2]?).bind Obj.row?).map Prod.snd=some 22:=by kernel_rfl
theorem cc_generatorY:Tryz.prog.cellsOf 22=32:=by kernel_rfl
theorem blk_generatorY {W : World} {rest : List (String × DataW Unit)} (hS : W.ShapedOpen Tryz.prog) (h : laidMet Tryz.prog (("beacon/point.generatorY", Lib.tabData .u8 n_generatorY) :: rest) W) : W.heap[2]? = some (.cells ((bl GY)).toArray 22 (0, 0)) :=
 blk_ofG hS g_generatorY gs_generatorY gw_generatorY (Lib.tabIs_of_head g_generatorY gt_generatorY Tryz.underlying22 Tryz.underlying5 c_u8 cc_generatorY h) z_generatorY
def L6 : List (String × DataW Unit) := [("beacon/sha2.squares512", Lib.tabData .u64 H5), ("beacon/sha2.cubes512", Lib.tabData .u64 K5), ("beacon/point.one", Lib.tabData .u8 n_one), ("beacon/point.curve", Lib.tabData .u8 n_curve), ("beacon/point.generatorX", Lib.tabData .u8 n_generatorX), ("beacon/point.generatorY", Lib.tabData .u8 n_generatorY)]
theorem gloA {W:World} (hS:W.ShapedOpen Tryz.prog) (h:laidMet Tryz.prog L6 W):Glo MA W:=by
 have h1:=blk_sq hS h
 have h:=laid_tail h
 have h2:=blk_cu hS h
 have h:=laid_tail h
 have h3:=blk_one hS h
 have h:=laid_tail h
 have h4:=blk_curve hS h
 have h:=laid_tail h
 have h5:=blk_generatorX hS h
 have h:=laid_tail h
 have h6:=blk_generatorY hS h
 unfold MA
 exact Glo.set (Glo.set (Glo.set (Glo.set (Glo.set (Glo.set (Glo.rep _ _) h1) h2) h6) h4) h3) h5
theorem bulk_lits {H:Type} : ∀ zs:List Int,Rows.uptoBulkAll (lits (H:=H) .u8 zs)=zs.length
 | []=>by simp [lits,Rows.uptoBulkAll]
 | z :: zs=>by
  have ih:=bulk_lits (H:=H) zs
  simp only [lits,List.map_cons,Rows.uptoBulkAll,Rows.uptoBulk,List.length_cons] at ih ⊢
  omega
def rowZ (zs:List Int):List Value:=zs.map fun z => .int .u8 z
def ByteR (y:List Value):Prop := ∀ u ∈ y,IsByte u
theorem src_of {W:World} {base:Nat} {x:Addr} {l c:Nat} {zs:List Int} {H:Type} {d:DataW H} (hv:Value.okWide Tryz.prog W .any base 23 (.slice (some x) l c)) (hl:l≤c) (hz:zs.length=c)
  (hcell : ∀ i,i<zs.length→W.cell? (x.add i)=some (.int .u8 (zs.getD i 0))) (hwz : ∀ n ∈ zs,(Lit.int .u8 n).wf=true) (hd:d = .slice (lits .u8 (zs.take l)) (lits .u8 (zs.drop l))) :
  ∃ y,ByteR y∧y.length=l∧WSrc (.slice (some x) l c) l y W∧l≤Rows.uptoBulk d:=by
 have hb:x.spot=none∧x.block<W.heap.size:=by
  simp only [Value.okWide,Tryz.underlying23,Cell.okWide,Cell.ok] at hv
  obtain ⟨_,_,_,hs,row,cells,hsh,_⟩:=hv
  refine ⟨hs,?_⟩
  unfold World.shape? at hsh
  cases hg:W.heap[x.block]? with
  | none=>rw [hg] at hsh;simp at hsh
  | some o=>exact (Array.getElem?_eq_some_iff.1 hg).1
 obtain ⟨b,off,sp⟩:=x
 obtain rfl:sp=none:=hb.1
 have hlen:(rowZ (zs.take l)).length=l:=by simp [rowZ];omega
 refine ⟨rowZ (zs.take l),fun u hu => ?_,hlen,⟨hlen,.inr ⟨b,off,c,rfl,hb.2,fun j u hu => ?_⟩⟩,?_⟩
 ·obtain ⟨z,hz',rfl⟩:=List.mem_map.1 hu
  have h':=hwz z (List.mem_of_mem_take hz')
  simp only [Lit.wf,Bool.and_eq_true,decide_eq_true_eq] at h'
  have h'':(0:Int)≤z∧z≤255:=h'
  exact ⟨z,rfl,h''.1,by omega⟩
 ·have hj:j<l:=by
   have:=(List.getElem?_eq_some_iff.1 hu).1
   omega
  have h1:=hcell j (by omega)
  rw [Addr.add_mid] at h1
  rw [h1]
  unfold rowZ at hu
  rw [List.getElem?_map,List.getElem?_take,if_pos hj,List.getElem?_eq_getElem (by omega)] at hu
  simp only [Option.map_some,Option.some.injEq] at hu
  rw [←hu,List.getD_eq_getElem?_getD,List.getElem?_eq_getElem (by omega)];rfl
 ·rw [hd]
  simp only [Rows.uptoBulk,bulk_lits,List.length_take,List.length_drop]
  omega
end Go.Proofs.YtlihbglpdkeppaaGreatDoor.Edd
