/- Layer 6: parts, widened, halves of the program and Parts of the reference, over lists. -/
import Derived.Test.YtmaehekekkfpmaaDoorVrC
set_option linter.unusedSimpArgs false
set_option linter.unusedVariables false
namespace Go.Proofs.YtmaehekekkfpmaaDoor.Wi
open Go Go.RowKit
set_option maxRecDepth 100000
theorem flat_row (x:List Int):Go.Proofs.YtmaehekekkfpmaaDoor.flat2 (.agg (bv x).toArray)=true:=by
 show ((bv x).toArray.toList.all Go.Proofs.YtmaehekekkfpmaaDoor.flat1)=true
 rw [List.toList_toArray]
 exact List.all_eq_true.2 fun u hu=>by obtain ⟨z,_,rfl⟩:=List.mem_map.1 hu;rfl
theorem flat_row1 (x:List Int):Go.Proofs.YtmaehekekkfpmaaDoor.flat (.agg (bv x).toArray)=true:=flat_row x
theorem flat_row3 (x y z:List Int):Go.Proofs.YtmaehekekkfpmaaDoor.flat (.tuple #[.agg (bv x).toArray,.agg (bv y).toArray,.agg (bv z).toArray])=true:=by
 show ([_,_,_].all Go.Proofs.YtmaehekekkfpmaaDoor.flat2)=true
 rw [List.all_cons,List.all_cons,List.all_cons,flat_row,flat_row,flat_row];rfl
theorem row_bv {n:Nat} {x:List Int} (h:x.length=n):Ve.rowN n (gi x)=bv x:=by
 apply List.ext_getElem?
 intro i
 by_cases hi:i<n
 ·rw [bv_get x (by omega),Ve.rowN,List.getElem?_map,List.getElem?_range hi];rfl
 ·rw [List.getElem?_eq_none (l:=Ve.rowN n (gi x)) (by simp [Ve.rowN];omega),List.getElem?_eq_none (by rw [bv_length];omega)]
def pG (x:List Int):List Int:=x.take 32
def pC (x:List Int):List Int:=(x.drop 32).take 16
def pT (x:List Int):List Int:=x.drop 48
theorem bv_pG (x:List Int):(bv x).take 32=bv (pG x):=by unfold pG bv;rw [List.map_take]
theorem bv_pC (x:List Int):((bv x).drop 32).take 16=bv (pC x):=by unfold pC bv;rw [List.map_take,List.map_drop]
theorem bv_pT (x:List Int):(bv x).drop 48=bv (pT x):=by unfold pT bv;rw [List.map_drop]
def wd (c:List Int):List Int:=c ++ List.replicate 16 0
theorem bv_wd (c:List Int):bv c ++ List.replicate 16 (Value.int .u8 0)=bv (wd c):=by unfold wd;rw [bv_append];rfl
theorem L32.pG {x:List Int} (h:x.length=80) (hb:Byt x):L32 (pG x):=⟨by rw [Wi.pG,List.length_take,h];rfl,fun z hz=>hb z (List.mem_of_mem_take hz)⟩
theorem L32.pT {x:List Int} (h:x.length=80) (hb:Byt x):L32 (pT x):=⟨by rw [Wi.pT,List.length_drop,h],fun z hz=>hb z (List.mem_of_mem_drop hz)⟩
theorem pC_len {x:List Int} (h:x.length=80):(pC x).length=16:=by rw [pC,List.length_take,List.length_drop,h];rfl
theorem L32.wd {c:List Int} (h:c.length=16) (hb:Byt c):L32 (wd c):=⟨by rw [Wi.wd,List.length_append,h,List.length_replicate],fun z hz=>by
 rcases List.mem_append.1 hz with hz | hz
 ·exact hb z hz
 ·have:=(List.mem_replicate.1 hz).2;omega⟩
theorem par_sl {x:List Int} (h:x.length=80) (w:World) (hw:Glo Ve.MA w):Calls Tryd.prog 18 #[.agg (bv x).toArray] w fun e w'=>e = .returned (.tuple #[.agg (bv (pG x)).toArray,.agg (bv (pC x)).toArray,.agg (bv (pT x)).toArray])∧Below w.heap.size w w':=by
 have run:=Ve.par_run Ve.R0 (gi x)
 rw [row_bv h,bv_pG,bv_pC,bv_pT] at run
 exact sfunG_calls Ve.EF_ok mixed Ve.MA_flat Ve.MA_in Tryd.func18 (by kernel_rfl) run (fun p hp=>by cases hp) (by rw [List.all_cons,flat_row1];rfl) (.inl (flat_row3 _ _ _)) w hw
theorem wid_sl {c:List Int} (h:c.length=16) (w:World) (hw:Glo Ve.MA w):Calls Tryd.prog 17 #[.agg (bv c).toArray] w fun e w'=>e = .returned (.agg (bv (wd c)).toArray)∧Below w.heap.size w w':=by
 have run:=Ve.wid_run Ve.R0 (gi c)
 rw [row_bv h,bv_wd] at run
 exact sfunG_calls Ve.EF_ok mixed Ve.MA_flat Ve.MA_in Tryd.func17 (by kernel_rfl) run (fun p hp=>by cases hp) (by rw [List.all_cons,flat_row1];rfl) (.inl (flat_row1 _)) w hw
theorem hlv_sl {s:List Int} (hs:L32 s) (w:World) (hw:Glo Ve.MA w):Calls Tryd.prog 8 #[.agg (bv s).toArray] w fun e w'=>e = .returned (.tuple #[.agg (bv (Ve.sk s)).toArray,.agg (bv (Ve.pf s)).toArray])∧Below w.heap.size w w':=by
 have:=Ve.halves_any (le s) (le32 hs) w hw
 rw [bi_le hs,←ag_le hs] at this
 exact this
end Go.Proofs.YtmaehekekkfpmaaDoor.Wi
