/- The reference's Sum512 as a contract of the engine; its Halves. -/
import Derived.Test.YtlihbglpdkeppaaGreatDoorMemN
import Derived.Test.YtlihbglpdkeppaaGreatDoorRfsG
import Derived.Test.YtlihbglpdkeppaaGreatDoorEddC
set_option linter.unusedSimpArgs false
set_option linter.unusedVariables false
namespace Go.Proofs.YtlihbglpdkeppaaGreatDoor.Edd
open Go Go.RowKit Shf
variable {H:Ren→World→Prop} {Q:Exit→Act × Mem→Prop}
def pSm (l:List Value) (o n:Nat):Prop:=o+n≤l.length∧(∀ u ∈ (l.drop o).take n,IsByte u)∧n+400≤140737488355328
def gRsm (sha:List Value→Nat→Nat→S8) (args:List Value) (m:Mem):Option (List Prop × Value) :=
 match args with
 | [.slice (some ⟨b,o,none⟩) n c]=>(getB m b).map fun B=>([pSm B.cells o n],.agg (out64 (sha B.cells o n)).toArray)
 | _=>none
def sha0F (l:List Value) (o n:Nat):S8:=sumB n fun i=>intL l (o+i)
theorem gRsm_ok {X:Cx} (hX:X.Ok Tryz.prog):(X.read 36 (gRsm sha0F)).Ok Tryz.prog:=by
 refine Cx.read_ok hX (fun args m ps v hg hp r w args' hr hgl ha => ?_) (fun args m q i B hi hg => ?_)
 ·unfold gRsm at hg
  split at hg
  ·rename_i b o n c
   cases hB:getB m b with
   | none=>simp [hB] at hg
   | some B =>
    simp only [hB,Option.map_some,Option.some.injEq,Prod.mk.injEq] at hg
    obtain ⟨rfl,rfl⟩:=hg
    obtain ⟨h1,h2,h3⟩:pSm B.cells o n:=hp _ (List.mem_singleton.2 rfl)
    obtain ⟨c0,cs,p1,p2,p3⟩:=hr.cells b B hB
    obtain ⟨a1,l1,t1,t2,rfl⟩:=trL_cons ha
    simp only [trL,Option.some.injEq] at t2;subst t2
    obtain ⟨c',hc',rfl⟩:=tr_slice t1
    rw [p1] at hc';cases hc'
    have hlen:((B.cells.drop o).take n).length=n:=by rw [List.length_take,List.length_drop];omega
    have hget : ∀ i,i<n→((B.cells.drop o).take n)[i]? = B.cells[o+i]? := fun i hi=>by rw [List.getElem?_take,if_pos hi,List.getElem?_drop]
    have hby : ∀ i,i<n → ∃ x:Int,B.cells[o+i]? = some (.int .u8 x)∧0≤x∧x<256:=by
     intro i hi
     have hlt:i<((B.cells.drop o).take n).length:=by omega
     obtain ⟨x,hx,hr0,hr1⟩:=h2 (((B.cells.drop o).take n)[i]'hlt) (List.getElem_mem hlt)
     refine ⟨x,?_,hr0,hr1⟩
     rw [←hget i hi,List.getElem?_eq_getElem hlt,hx]
    have hrow:rowP (fun i=>intL B.cells (o+i)) n=(B.cells.drop o).take n:=by
     apply List.ext_getElem?
     intro i
     by_cases hi:i<n
     ·obtain ⟨x,hx,_⟩:=hby i hi
      rw [rowP_get _ hi,hget i hi,hx]
      unfold intL;rw [hx]
     ·rw [List.getElem?_eq_none (by rw [rowP_len];omega),List.getElem?_eq_none (by omega)]
    have hu8:((B.cells.drop o).take n).all flat1=true:=u8_flat fun u hu=>by obtain ⟨x,hx,_⟩:=h2 u hu;exact ⟨x,hx⟩
    have hs:WSrc (Sv.val ⟨some ⟨c0,o,none⟩,n,c⟩) n (rowP (fun i=>intL B.cells (o+i)) n) w:=by
     rw [hrow]
     refine ⟨hlen,.inr ⟨c0,o,c,rfl,hr.lt p1,fun j x hx => ?_⟩⟩
     have e:=trL_take n (trL_drop o p2)
     rw [trL_all (tr1_flat r) hu8] at e
     simp only [Option.some.injEq] at e
     rw [e,List.getElem?_take] at hx
     split at hx
     ·rw [List.getElem?_drop] at hx
      simp [World.cell?,p3,hx]
     ·simp at hx
    have hcall:=rsum_calls ⟨some ⟨c0,o,none⟩,n,c⟩ (fun i=>intL B.cells (o+i)) h3 (fun i hi=>by
     obtain ⟨x,hx,h0,h1⟩:=hby i hi
     have:intL B.cells (o+i)=x:=by unfold intL;rw [hx]
     rw [this];exact ⟨h0,h1⟩) w hs
    have hfl : ∀ r:Ren,tr r (.agg (out64 (sha0F B.cells o n)).toArray)=some (.agg (out64 (sha0F B.cells o n)).toArray):=fun r=>tr_flat r _ (by kernel_rfl)
    rcases hcall with ⟨v',w',k1,rfl,k3⟩ | ⟨k1,k2⟩
    ·exact .inl ⟨_,w',k1,hfl r,k3⟩
    ·refine .inr ⟨k1,k2.mono ?_⟩
     rintro e w' ⟨v',rfl,rfl,k3⟩
     exact ⟨_,rfl,hfl r,k3⟩
  ·simp at hg
 ·unfold gRsm at hg ⊢
  split at hg
  ·rename_i b o n c
   cases hB:getB m b with
   | none=>simp [hB] at hg
   | some B'=>simp only [getB_fill (hole_ne hi hB),hB] at hg ⊢;exact hg
  ·simp at hg
def YS (sha:List Value→Nat→Nat→S8):Cx:=Cx.none.read 36 (gRsm sha)
theorem YS_ok:(YS sha0F).Ok Tryz.prog:=gRsm_ok Cx.none_ok
theorem YS_gl (sha:List Value→Nat→Nat→S8):(YS sha).gl = []:=rfl
def lowQ (o:List Value):List Value := .int .u8 (bits .and .u8 (intL o 0) 248) :: ((o.drop 1).take 30 ++ [.int .u8 (bits .or .u8 (bits .and .u8 (intL o 31) 127) 64)])
def hvP (c:Code):List Code:=[cL c,cL (cR c),cL (cR (cR c)),cL (cR (cR (cR c))),cL (cR (cR (cR (cR c)))),cL (cR (cR (cR (cR (cR c)))))]
def hvE (c:Code):Code:=cL (cR (cR (cR (cR (cR (cR c))))))
theorem hv_code:bodyOf Tryz.f14=seqs (hvP (bodyOf Tryz.f14)) (.seq (hvE (bodyOf Tryz.f14)) .ret):=by kernel_rfl
def hv1 (P:Program) (sha:List Value→Nat→Nat→S8) (fn:Func) (s:Nat):Act × Mem:=runL P (YS sha) 60 (hvP (bodyOf fn)) (sinit fn [bv s],[])
theorem hv_1 (sha:List Value→Nat→Nat→S8) (s:Nat):sexecL Tryz.prog (YS sha) 60 (hvP (bodyOf Tryz.f14)) [] (sinit Tryz.f14 [bv s],[])=some ([pSm (bl s) 0 32],hv1 Tryz.prog sha Tryz.f14 s):=by kernel_rfl
noncomputable def hvO:Array Oper:=rOps (hvE (bodyOf Tryz.f14))
theorem hv_reg:hvE (bodyOf Tryz.f14) = .region (rId (hvE (bodyOf Tryz.f14))) hvO true:=by kernel_rfl
def hvS (P:Program) (sha:List Value→Nat→Nat→S8) (fn:Func) (i:Nat) (t:Act × Mem):Act × Mem:=sstS P (YS sha) (rOps (hvE (bodyOf fn))) 4 i t
def hvA (t:Act × Mem) (cap:Nat) (q:List Value):Act × Mem:=(t.1.put (some 23) (.slice (some ⟨5,0,none⟩) 32 cap),t.2 ++ [some ⟨q,⟨5,(0,0)⟩⟩])
def hv2 (P:Program) (sha:List Value→Nat→Nat→S8) (fn:Func) (s:Nat):Act × Mem:=((hv1 P sha fn s).1,(hv1 P sha fn s).2 ++ List.replicate ((rOps (hvE (bodyOf fn))).toList.filter makes).length none)
noncomputable def l_e:Array Bool:=Array.replicate hvO.size false
noncomputable def t_e (sha:List Value→Nat→Nat→S8) (s:Nat):Act × Mem:=hv2 Tryz.prog sha Tryz.f14 s
noncomputable def l_0:Array Bool:=l_e.setIfInBounds 0 true
noncomputable def t_0 (sha:List Value→Nat→Nat→S8) (s:Nat):Act × Mem:=hvS Tryz.prog sha Tryz.f14 0 (t_e sha s)
noncomputable def l_1:Array Bool:=l_e.setIfInBounds 1 true
noncomputable def t_1 (sha:List Value→Nat→Nat→S8) (s:Nat):Act × Mem:=hvS Tryz.prog sha Tryz.f14 1 (t_e sha s)
noncomputable def l_2:Array Bool:=l_e.setIfInBounds 2 true
noncomputable def t_2 (sha:List Value→Nat→Nat→S8) (s:Nat):Act × Mem:=hvS Tryz.prog sha Tryz.f14 2 (t_e sha s)
noncomputable def l_01:Array Bool:=l_0.setIfInBounds 1 true
noncomputable def t_01 (sha:List Value→Nat→Nat→S8) (s:Nat):Act × Mem:=hvS Tryz.prog sha Tryz.f14 1 (t_0 sha s)
noncomputable def l_02:Array Bool:=l_0.setIfInBounds 2 true
noncomputable def t_02 (sha:List Value→Nat→Nat→S8) (s:Nat):Act × Mem:=hvS Tryz.prog sha Tryz.f14 2 (t_0 sha s)
noncomputable def l_10:Array Bool:=l_1.setIfInBounds 0 true
noncomputable def t_10 (sha:List Value→Nat→Nat→S8) (s:Nat):Act × Mem:=hvS Tryz.prog sha Tryz.f14 0 (t_1 sha s)
noncomputable def l_12:Array Bool:=l_1.setIfInBounds 2 true
noncomputable def t_12 (sha:List Value→Nat→Nat→S8) (s:Nat):Act × Mem:=hvS Tryz.prog sha Tryz.f14 2 (t_1 sha s)
noncomputable def l_20:Array Bool:=l_2.setIfInBounds 0 true
noncomputable def t_20 (sha:List Value→Nat→Nat→S8) (s:Nat):Act × Mem:=hvS Tryz.prog sha Tryz.f14 0 (t_2 sha s)
noncomputable def l_21:Array Bool:=l_2.setIfInBounds 1 true
noncomputable def t_21 (sha:List Value→Nat→Nat→S8) (s:Nat):Act × Mem:=hvS Tryz.prog sha Tryz.f14 1 (t_2 sha s)
noncomputable def l_012:Array Bool:=l_01.setIfInBounds 2 true
noncomputable def t_012 (sha:List Value→Nat→Nat→S8) (s:Nat):Act × Mem:=hvS Tryz.prog sha Tryz.f14 2 (t_01 sha s)
noncomputable def l_021:Array Bool:=l_02.setIfInBounds 1 true
noncomputable def t_021 (sha:List Value→Nat→Nat→S8) (s:Nat):Act × Mem:=hvS Tryz.prog sha Tryz.f14 1 (t_02 sha s)
noncomputable def l_102:Array Bool:=l_10.setIfInBounds 2 true
noncomputable def t_102 (sha:List Value→Nat→Nat→S8) (s:Nat):Act × Mem:=hvS Tryz.prog sha Tryz.f14 2 (t_10 sha s)
noncomputable def l_120:Array Bool:=l_12.setIfInBounds 0 true
noncomputable def t_120 (sha:List Value→Nat→Nat→S8) (s:Nat):Act × Mem:=hvS Tryz.prog sha Tryz.f14 0 (t_12 sha s)
noncomputable def l_123:Array Bool:=l_12.setIfInBounds 3 true
noncomputable def t_123 (sha:List Value→Nat→Nat→S8) (s:Nat) (cap:Nat) (q:List Value):Act × Mem:=hvA (t_12 sha s) cap q
noncomputable def l_201:Array Bool:=l_20.setIfInBounds 1 true
noncomputable def t_201 (sha:List Value→Nat→Nat→S8) (s:Nat):Act × Mem:=hvS Tryz.prog sha Tryz.f14 1 (t_20 sha s)
noncomputable def l_210:Array Bool:=l_21.setIfInBounds 0 true
noncomputable def t_210 (sha:List Value→Nat→Nat→S8) (s:Nat):Act × Mem:=hvS Tryz.prog sha Tryz.f14 0 (t_21 sha s)
noncomputable def l_213:Array Bool:=l_21.setIfInBounds 3 true
noncomputable def t_213 (sha:List Value→Nat→Nat→S8) (s:Nat) (cap:Nat) (q:List Value):Act × Mem:=hvA (t_21 sha s) cap q
noncomputable def l_0123:Array Bool:=l_012.setIfInBounds 3 true
noncomputable def t_0123 (sha:List Value→Nat→Nat→S8) (s:Nat) (cap:Nat) (q:List Value):Act × Mem:=hvA (t_012 sha s) cap q
noncomputable def l_0213:Array Bool:=l_021.setIfInBounds 3 true
noncomputable def t_0213 (sha:List Value→Nat→Nat→S8) (s:Nat) (cap:Nat) (q:List Value):Act × Mem:=hvA (t_021 sha s) cap q
noncomputable def l_1023:Array Bool:=l_102.setIfInBounds 3 true
noncomputable def t_1023 (sha:List Value→Nat→Nat→S8) (s:Nat) (cap:Nat) (q:List Value):Act × Mem:=hvA (t_102 sha s) cap q
noncomputable def l_1203:Array Bool:=l_120.setIfInBounds 3 true
noncomputable def t_1203 (sha:List Value→Nat→Nat→S8) (s:Nat) (cap:Nat) (q:List Value):Act × Mem:=hvA (t_120 sha s) cap q
noncomputable def l_1230:Array Bool:=l_123.setIfInBounds 0 true
noncomputable def t_1230 (sha:List Value→Nat→Nat→S8) (s:Nat) (cap:Nat) (q:List Value):Act × Mem:=hvS Tryz.prog sha Tryz.f14 0 (t_123 sha s cap q)
noncomputable def l_2013:Array Bool:=l_201.setIfInBounds 3 true
noncomputable def t_2013 (sha:List Value→Nat→Nat→S8) (s:Nat) (cap:Nat) (q:List Value):Act × Mem:=hvA (t_201 sha s) cap q
noncomputable def l_2103:Array Bool:=l_210.setIfInBounds 3 true
noncomputable def t_2103 (sha:List Value→Nat→Nat→S8) (s:Nat) (cap:Nat) (q:List Value):Act × Mem:=hvA (t_210 sha s) cap q
noncomputable def l_2130:Array Bool:=l_213.setIfInBounds 0 true
noncomputable def t_2130 (sha:List Value→Nat→Nat→S8) (s:Nat) (cap:Nat) (q:List Value):Act × Mem:=hvS Tryz.prog sha Tryz.f14 0 (t_213 sha s cap q)
noncomputable def l_01234:Array Bool:=l_0123.setIfInBounds 4 true
noncomputable def t_01234 (sha:List Value→Nat→Nat→S8) (s:Nat) (cap:Nat) (q:List Value):Act × Mem:=hvS Tryz.prog sha Tryz.f14 4 (t_0123 sha s cap q)
noncomputable def l_02134:Array Bool:=l_0213.setIfInBounds 4 true
noncomputable def t_02134 (sha:List Value→Nat→Nat→S8) (s:Nat) (cap:Nat) (q:List Value):Act × Mem:=hvS Tryz.prog sha Tryz.f14 4 (t_0213 sha s cap q)
noncomputable def l_10234:Array Bool:=l_1023.setIfInBounds 4 true
noncomputable def t_10234 (sha:List Value→Nat→Nat→S8) (s:Nat) (cap:Nat) (q:List Value):Act × Mem:=hvS Tryz.prog sha Tryz.f14 4 (t_1023 sha s cap q)
noncomputable def l_12034:Array Bool:=l_1203.setIfInBounds 4 true
noncomputable def t_12034 (sha:List Value→Nat→Nat→S8) (s:Nat) (cap:Nat) (q:List Value):Act × Mem:=hvS Tryz.prog sha Tryz.f14 4 (t_1203 sha s cap q)
noncomputable def l_12304:Array Bool:=l_1230.setIfInBounds 4 true
noncomputable def t_12304 (sha:List Value→Nat→Nat→S8) (s:Nat) (cap:Nat) (q:List Value):Act × Mem:=hvS Tryz.prog sha Tryz.f14 4 (t_1230 sha s cap q)
noncomputable def l_20134:Array Bool:=l_2013.setIfInBounds 4 true
noncomputable def t_20134 (sha:List Value→Nat→Nat→S8) (s:Nat) (cap:Nat) (q:List Value):Act × Mem:=hvS Tryz.prog sha Tryz.f14 4 (t_2013 sha s cap q)
noncomputable def l_21034:Array Bool:=l_2103.setIfInBounds 4 true
noncomputable def t_21034 (sha:List Value→Nat→Nat→S8) (s:Nat) (cap:Nat) (q:List Value):Act × Mem:=hvS Tryz.prog sha Tryz.f14 4 (t_2103 sha s cap q)
noncomputable def l_21304:Array Bool:=l_2130.setIfInBounds 4 true
noncomputable def t_21304 (sha:List Value→Nat→Nat→S8) (s:Nat) (cap:Nat) (q:List Value):Act × Mem:=hvS Tryz.prog sha Tryz.f14 4 (t_2130 sha s cap q)
noncomputable def l_012345:Array Bool:=l_01234.setIfInBounds 5 true
noncomputable def t_012345 (sha:List Value→Nat→Nat→S8) (s:Nat) (cap:Nat) (q:List Value):Act × Mem:=hvS Tryz.prog sha Tryz.f14 5 (t_01234 sha s cap q)
noncomputable def l_021345:Array Bool:=l_02134.setIfInBounds 5 true
noncomputable def t_021345 (sha:List Value→Nat→Nat→S8) (s:Nat) (cap:Nat) (q:List Value):Act × Mem:=hvS Tryz.prog sha Tryz.f14 5 (t_02134 sha s cap q)
noncomputable def l_102345:Array Bool:=l_10234.setIfInBounds 5 true
noncomputable def t_102345 (sha:List Value→Nat→Nat→S8) (s:Nat) (cap:Nat) (q:List Value):Act × Mem:=hvS Tryz.prog sha Tryz.f14 5 (t_10234 sha s cap q)
noncomputable def l_120345:Array Bool:=l_12034.setIfInBounds 5 true
noncomputable def t_120345 (sha:List Value→Nat→Nat→S8) (s:Nat) (cap:Nat) (q:List Value):Act × Mem:=hvS Tryz.prog sha Tryz.f14 5 (t_12034 sha s cap q)
noncomputable def l_123045:Array Bool:=l_12304.setIfInBounds 5 true
noncomputable def t_123045 (sha:List Value→Nat→Nat→S8) (s:Nat) (cap:Nat) (q:List Value):Act × Mem:=hvS Tryz.prog sha Tryz.f14 5 (t_12304 sha s cap q)
noncomputable def l_201345:Array Bool:=l_20134.setIfInBounds 5 true
noncomputable def t_201345 (sha:List Value→Nat→Nat→S8) (s:Nat) (cap:Nat) (q:List Value):Act × Mem:=hvS Tryz.prog sha Tryz.f14 5 (t_20134 sha s cap q)
noncomputable def l_210345:Array Bool:=l_21034.setIfInBounds 5 true
noncomputable def t_210345 (sha:List Value→Nat→Nat→S8) (s:Nat) (cap:Nat) (q:List Value):Act × Mem:=hvS Tryz.prog sha Tryz.f14 5 (t_21034 sha s cap q)
noncomputable def l_213045:Array Bool:=l_21304.setIfInBounds 5 true
noncomputable def t_213045 (sha:List Value→Nat→Nat→S8) (s:Nat) (cap:Nat) (q:List Value):Act × Mem:=hvS Tryz.prog sha Tryz.f14 5 (t_21304 sha s cap q)
theorem hr_e:Region.ready .any hvO l_e = [0,1,2]:=by kernel_rfl
theorem hs_e_0 (sha:List Value→Nat→Nat→S8) (s:Nat):sstep Tryz.prog (YS sha) hvO 4 0 (t_e sha s)=some ([],(t_0 sha s)):=by kernel_rfl
theorem hs_e_1 (sha:List Value→Nat→Nat→S8) (s:Nat):sstep Tryz.prog (YS sha) hvO 4 1 (t_e sha s)=some ([],(t_1 sha s)):=by kernel_rfl
theorem hs_e_2 (sha:List Value→Nat→Nat→S8) (s:Nat):sstep Tryz.prog (YS sha) hvO 4 2 (t_e sha s)=some ([],(t_2 sha s)):=by kernel_rfl
theorem hr_0:Region.ready .any hvO l_0 = [1,2]:=by kernel_rfl
theorem hs_0_1 (sha:List Value→Nat→Nat→S8) (s:Nat):sstep Tryz.prog (YS sha) hvO 4 1 (t_0 sha s)=some ([],(t_01 sha s)):=by kernel_rfl
theorem hs_0_2 (sha:List Value→Nat→Nat→S8) (s:Nat):sstep Tryz.prog (YS sha) hvO 4 2 (t_0 sha s)=some ([],(t_02 sha s)):=by kernel_rfl
theorem hr_1:Region.ready .any hvO l_1 = [0,2]:=by kernel_rfl
theorem hs_1_0 (sha:List Value→Nat→Nat→S8) (s:Nat):sstep Tryz.prog (YS sha) hvO 4 0 (t_1 sha s)=some ([],(t_10 sha s)):=by kernel_rfl
theorem hs_1_2 (sha:List Value→Nat→Nat→S8) (s:Nat):sstep Tryz.prog (YS sha) hvO 4 2 (t_1 sha s)=some ([],(t_12 sha s)):=by kernel_rfl
theorem hr_2:Region.ready .any hvO l_2 = [0,1]:=by kernel_rfl
theorem hs_2_0 (sha:List Value→Nat→Nat→S8) (s:Nat):sstep Tryz.prog (YS sha) hvO 4 0 (t_2 sha s)=some ([],(t_20 sha s)):=by kernel_rfl
theorem hs_2_1 (sha:List Value→Nat→Nat→S8) (s:Nat):sstep Tryz.prog (YS sha) hvO 4 1 (t_2 sha s)=some ([],(t_21 sha s)):=by kernel_rfl
theorem hr_01:Region.ready .any hvO l_01 = [2]:=by kernel_rfl
theorem hs_01_2 (sha:List Value→Nat→Nat→S8) (s:Nat):sstep Tryz.prog (YS sha) hvO 4 2 (t_01 sha s)=some ([],(t_012 sha s)):=by kernel_rfl
theorem hr_02:Region.ready .any hvO l_02 = [1]:=by kernel_rfl
theorem hs_02_1 (sha:List Value→Nat→Nat→S8) (s:Nat):sstep Tryz.prog (YS sha) hvO 4 1 (t_02 sha s)=some ([],(t_021 sha s)):=by kernel_rfl
theorem hr_10:Region.ready .any hvO l_10 = [2]:=by kernel_rfl
theorem hs_10_2 (sha:List Value→Nat→Nat→S8) (s:Nat):sstep Tryz.prog (YS sha) hvO 4 2 (t_10 sha s)=some ([],(t_102 sha s)):=by kernel_rfl
theorem hr_12:Region.ready .any hvO l_12 = [0,3]:=by kernel_rfl
theorem hs_12_0 (sha:List Value→Nat→Nat→S8) (s:Nat):sstep Tryz.prog (YS sha) hvO 4 0 (t_12 sha s)=some ([],(t_120 sha s)):=by kernel_rfl
theorem ha_12 (sha:List Value→Nat→Nat→S8) (s:Nat):okX [] (t_12 sha s).1.eval (.tmp 21)=true∧okX [] (t_12 sha s).1.eval (.tmp 22)=true∧(t_12 sha s).1.eval (.tmp 21) = .slice (some ⟨4,0,none⟩) 0 0∧(t_12 sha s).1.eval (.tmp 22) = .slice (some ⟨2,32,none⟩) 32 32∧getB (t_12 sha s).2 4=some ⟨[],⟨5,(0,0)⟩⟩∧getB (t_12 sha s).2 2=some ⟨out64 (sha (bl s) 0 32),26⟩∧(t_12 sha s).2.length=5:=⟨by kernel_rfl,by kernel_rfl,by kernel_rfl,by kernel_rfl,by kernel_rfl,by kernel_rfl,by kernel_rfl⟩
theorem hr_20:Region.ready .any hvO l_20 = [1]:=by kernel_rfl
theorem hs_20_1 (sha:List Value→Nat→Nat→S8) (s:Nat):sstep Tryz.prog (YS sha) hvO 4 1 (t_20 sha s)=some ([],(t_201 sha s)):=by kernel_rfl
theorem hr_21:Region.ready .any hvO l_21 = [0,3]:=by kernel_rfl
theorem hs_21_0 (sha:List Value→Nat→Nat→S8) (s:Nat):sstep Tryz.prog (YS sha) hvO 4 0 (t_21 sha s)=some ([],(t_210 sha s)):=by kernel_rfl
theorem ha_21 (sha:List Value→Nat→Nat→S8) (s:Nat):okX [] (t_21 sha s).1.eval (.tmp 21)=true∧okX [] (t_21 sha s).1.eval (.tmp 22)=true∧(t_21 sha s).1.eval (.tmp 21) = .slice (some ⟨4,0,none⟩) 0 0∧(t_21 sha s).1.eval (.tmp 22) = .slice (some ⟨2,32,none⟩) 32 32∧getB (t_21 sha s).2 4=some ⟨[],⟨5,(0,0)⟩⟩∧getB (t_21 sha s).2 2=some ⟨out64 (sha (bl s) 0 32),26⟩∧(t_21 sha s).2.length=5:=⟨by kernel_rfl,by kernel_rfl,by kernel_rfl,by kernel_rfl,by kernel_rfl,by kernel_rfl,by kernel_rfl⟩
theorem hr_012:Region.ready .any hvO l_012 = [3]:=by kernel_rfl
theorem ha_012 (sha:List Value→Nat→Nat→S8) (s:Nat):okX [] (t_012 sha s).1.eval (.tmp 21)=true∧okX [] (t_012 sha s).1.eval (.tmp 22)=true∧(t_012 sha s).1.eval (.tmp 21) = .slice (some ⟨4,0,none⟩) 0 0∧(t_012 sha s).1.eval (.tmp 22) = .slice (some ⟨2,32,none⟩) 32 32∧getB (t_012 sha s).2 4=some ⟨[],⟨5,(0,0)⟩⟩∧getB (t_012 sha s).2 2=some ⟨out64 (sha (bl s) 0 32),26⟩∧(t_012 sha s).2.length=5:=⟨by kernel_rfl,by kernel_rfl,by kernel_rfl,by kernel_rfl,by kernel_rfl,by kernel_rfl,by kernel_rfl⟩
theorem hr_021:Region.ready .any hvO l_021 = [3]:=by kernel_rfl
theorem ha_021 (sha:List Value→Nat→Nat→S8) (s:Nat):okX [] (t_021 sha s).1.eval (.tmp 21)=true∧okX [] (t_021 sha s).1.eval (.tmp 22)=true∧(t_021 sha s).1.eval (.tmp 21) = .slice (some ⟨4,0,none⟩) 0 0∧(t_021 sha s).1.eval (.tmp 22) = .slice (some ⟨2,32,none⟩) 32 32∧getB (t_021 sha s).2 4=some ⟨[],⟨5,(0,0)⟩⟩∧getB (t_021 sha s).2 2=some ⟨out64 (sha (bl s) 0 32),26⟩∧(t_021 sha s).2.length=5:=⟨by kernel_rfl,by kernel_rfl,by kernel_rfl,by kernel_rfl,by kernel_rfl,by kernel_rfl,by kernel_rfl⟩
theorem hr_102:Region.ready .any hvO l_102 = [3]:=by kernel_rfl
theorem ha_102 (sha:List Value→Nat→Nat→S8) (s:Nat):okX [] (t_102 sha s).1.eval (.tmp 21)=true∧okX [] (t_102 sha s).1.eval (.tmp 22)=true∧(t_102 sha s).1.eval (.tmp 21) = .slice (some ⟨4,0,none⟩) 0 0∧(t_102 sha s).1.eval (.tmp 22) = .slice (some ⟨2,32,none⟩) 32 32∧getB (t_102 sha s).2 4=some ⟨[],⟨5,(0,0)⟩⟩∧getB (t_102 sha s).2 2=some ⟨out64 (sha (bl s) 0 32),26⟩∧(t_102 sha s).2.length=5:=⟨by kernel_rfl,by kernel_rfl,by kernel_rfl,by kernel_rfl,by kernel_rfl,by kernel_rfl,by kernel_rfl⟩
theorem hr_120:Region.ready .any hvO l_120 = [3]:=by kernel_rfl
theorem ha_120 (sha:List Value→Nat→Nat→S8) (s:Nat):okX [] (t_120 sha s).1.eval (.tmp 21)=true∧okX [] (t_120 sha s).1.eval (.tmp 22)=true∧(t_120 sha s).1.eval (.tmp 21) = .slice (some ⟨4,0,none⟩) 0 0∧(t_120 sha s).1.eval (.tmp 22) = .slice (some ⟨2,32,none⟩) 32 32∧getB (t_120 sha s).2 4=some ⟨[],⟨5,(0,0)⟩⟩∧getB (t_120 sha s).2 2=some ⟨out64 (sha (bl s) 0 32),26⟩∧(t_120 sha s).2.length=5:=⟨by kernel_rfl,by kernel_rfl,by kernel_rfl,by kernel_rfl,by kernel_rfl,by kernel_rfl,by kernel_rfl⟩
theorem hr_123:Region.ready .any hvO l_123 = [0]:=by kernel_rfl
theorem hs_123_0 (sha:List Value→Nat→Nat→S8) (s:Nat) (cap:Nat) (q:List Value):sstep Tryz.prog (YS sha) hvO 4 0 (t_123 sha s cap q)=some ([],(t_1230 sha s cap q)):=by kernel_rfl
theorem hr_201:Region.ready .any hvO l_201 = [3]:=by kernel_rfl
theorem ha_201 (sha:List Value→Nat→Nat→S8) (s:Nat):okX [] (t_201 sha s).1.eval (.tmp 21)=true∧okX [] (t_201 sha s).1.eval (.tmp 22)=true∧(t_201 sha s).1.eval (.tmp 21) = .slice (some ⟨4,0,none⟩) 0 0∧(t_201 sha s).1.eval (.tmp 22) = .slice (some ⟨2,32,none⟩) 32 32∧getB (t_201 sha s).2 4=some ⟨[],⟨5,(0,0)⟩⟩∧getB (t_201 sha s).2 2=some ⟨out64 (sha (bl s) 0 32),26⟩∧(t_201 sha s).2.length=5:=⟨by kernel_rfl,by kernel_rfl,by kernel_rfl,by kernel_rfl,by kernel_rfl,by kernel_rfl,by kernel_rfl⟩
theorem hr_210:Region.ready .any hvO l_210 = [3]:=by kernel_rfl
theorem ha_210 (sha:List Value→Nat→Nat→S8) (s:Nat):okX [] (t_210 sha s).1.eval (.tmp 21)=true∧okX [] (t_210 sha s).1.eval (.tmp 22)=true∧(t_210 sha s).1.eval (.tmp 21) = .slice (some ⟨4,0,none⟩) 0 0∧(t_210 sha s).1.eval (.tmp 22) = .slice (some ⟨2,32,none⟩) 32 32∧getB (t_210 sha s).2 4=some ⟨[],⟨5,(0,0)⟩⟩∧getB (t_210 sha s).2 2=some ⟨out64 (sha (bl s) 0 32),26⟩∧(t_210 sha s).2.length=5:=⟨by kernel_rfl,by kernel_rfl,by kernel_rfl,by kernel_rfl,by kernel_rfl,by kernel_rfl,by kernel_rfl⟩
theorem hr_213:Region.ready .any hvO l_213 = [0]:=by kernel_rfl
theorem hs_213_0 (sha:List Value→Nat→Nat→S8) (s:Nat) (cap:Nat) (q:List Value):sstep Tryz.prog (YS sha) hvO 4 0 (t_213 sha s cap q)=some ([],(t_2130 sha s cap q)):=by kernel_rfl
theorem hr_0123:Region.ready .any hvO l_0123 = [4]:=by kernel_rfl
theorem hs_0123_4 (sha:List Value→Nat→Nat→S8) (s:Nat) (cap:Nat) (q:List Value):sstep Tryz.prog (YS sha) hvO 4 4 (t_0123 sha s cap q)=some ([],(t_01234 sha s cap q)):=by kernel_rfl
theorem hr_0213:Region.ready .any hvO l_0213 = [4]:=by kernel_rfl
theorem hs_0213_4 (sha:List Value→Nat→Nat→S8) (s:Nat) (cap:Nat) (q:List Value):sstep Tryz.prog (YS sha) hvO 4 4 (t_0213 sha s cap q)=some ([],(t_02134 sha s cap q)):=by kernel_rfl
theorem hr_1023:Region.ready .any hvO l_1023 = [4]:=by kernel_rfl
theorem hs_1023_4 (sha:List Value→Nat→Nat→S8) (s:Nat) (cap:Nat) (q:List Value):sstep Tryz.prog (YS sha) hvO 4 4 (t_1023 sha s cap q)=some ([],(t_10234 sha s cap q)):=by kernel_rfl
theorem hr_1203:Region.ready .any hvO l_1203 = [4]:=by kernel_rfl
theorem hs_1203_4 (sha:List Value→Nat→Nat→S8) (s:Nat) (cap:Nat) (q:List Value):sstep Tryz.prog (YS sha) hvO 4 4 (t_1203 sha s cap q)=some ([],(t_12034 sha s cap q)):=by kernel_rfl
theorem hr_1230:Region.ready .any hvO l_1230 = [4]:=by kernel_rfl
theorem hs_1230_4 (sha:List Value→Nat→Nat→S8) (s:Nat) (cap:Nat) (q:List Value):sstep Tryz.prog (YS sha) hvO 4 4 (t_1230 sha s cap q)=some ([],(t_12304 sha s cap q)):=by kernel_rfl
theorem hr_2013:Region.ready .any hvO l_2013 = [4]:=by kernel_rfl
theorem hs_2013_4 (sha:List Value→Nat→Nat→S8) (s:Nat) (cap:Nat) (q:List Value):sstep Tryz.prog (YS sha) hvO 4 4 (t_2013 sha s cap q)=some ([],(t_20134 sha s cap q)):=by kernel_rfl
theorem hr_2103:Region.ready .any hvO l_2103 = [4]:=by kernel_rfl
theorem hs_2103_4 (sha:List Value→Nat→Nat→S8) (s:Nat) (cap:Nat) (q:List Value):sstep Tryz.prog (YS sha) hvO 4 4 (t_2103 sha s cap q)=some ([],(t_21034 sha s cap q)):=by kernel_rfl
theorem hr_2130:Region.ready .any hvO l_2130 = [4]:=by kernel_rfl
theorem hs_2130_4 (sha:List Value→Nat→Nat→S8) (s:Nat) (cap:Nat) (q:List Value):sstep Tryz.prog (YS sha) hvO 4 4 (t_2130 sha s cap q)=some ([],(t_21304 sha s cap q)):=by kernel_rfl
theorem hr_01234:Region.ready .any hvO l_01234 = [5]:=by kernel_rfl
theorem hs_01234_5 (sha:List Value→Nat→Nat→S8) (s:Nat) (cap:Nat) (q:List Value):sstep Tryz.prog (YS sha) hvO 4 5 (t_01234 sha s cap q)=some ([],(t_012345 sha s cap q)):=by kernel_rfl
theorem hr_02134:Region.ready .any hvO l_02134 = [5]:=by kernel_rfl
theorem hs_02134_5 (sha:List Value→Nat→Nat→S8) (s:Nat) (cap:Nat) (q:List Value):sstep Tryz.prog (YS sha) hvO 4 5 (t_02134 sha s cap q)=some ([],(t_021345 sha s cap q)):=by kernel_rfl
theorem hr_10234:Region.ready .any hvO l_10234 = [5]:=by kernel_rfl
theorem hs_10234_5 (sha:List Value→Nat→Nat→S8) (s:Nat) (cap:Nat) (q:List Value):sstep Tryz.prog (YS sha) hvO 4 5 (t_10234 sha s cap q)=some ([],(t_102345 sha s cap q)):=by kernel_rfl
theorem hr_12034:Region.ready .any hvO l_12034 = [5]:=by kernel_rfl
theorem hs_12034_5 (sha:List Value→Nat→Nat→S8) (s:Nat) (cap:Nat) (q:List Value):sstep Tryz.prog (YS sha) hvO 4 5 (t_12034 sha s cap q)=some ([],(t_120345 sha s cap q)):=by kernel_rfl
theorem hr_12304:Region.ready .any hvO l_12304 = [5]:=by kernel_rfl
theorem hs_12304_5 (sha:List Value→Nat→Nat→S8) (s:Nat) (cap:Nat) (q:List Value):sstep Tryz.prog (YS sha) hvO 4 5 (t_12304 sha s cap q)=some ([],(t_123045 sha s cap q)):=by kernel_rfl
theorem hr_20134:Region.ready .any hvO l_20134 = [5]:=by kernel_rfl
theorem hs_20134_5 (sha:List Value→Nat→Nat→S8) (s:Nat) (cap:Nat) (q:List Value):sstep Tryz.prog (YS sha) hvO 4 5 (t_20134 sha s cap q)=some ([],(t_201345 sha s cap q)):=by kernel_rfl
theorem hr_21034:Region.ready .any hvO l_21034 = [5]:=by kernel_rfl
theorem hs_21034_5 (sha:List Value→Nat→Nat→S8) (s:Nat) (cap:Nat) (q:List Value):sstep Tryz.prog (YS sha) hvO 4 5 (t_21034 sha s cap q)=some ([],(t_210345 sha s cap q)):=by kernel_rfl
theorem hr_21304:Region.ready .any hvO l_21304 = [5]:=by kernel_rfl
theorem hs_21304_5 (sha:List Value→Nat→Nat→S8) (s:Nat) (cap:Nat) (q:List Value):sstep Tryz.prog (YS sha) hvO 4 5 (t_21304 sha s cap q)=some ([],(t_213045 sha s cap q)):=by kernel_rfl
theorem hr_012345:Region.ready .any hvO l_012345 = []:=by kernel_rfl
theorem hr_021345:Region.ready .any hvO l_021345 = []:=by kernel_rfl
theorem hr_102345:Region.ready .any hvO l_102345 = []:=by kernel_rfl
theorem hr_120345:Region.ready .any hvO l_120345 = []:=by kernel_rfl
theorem hr_123045:Region.ready .any hvO l_123045 = []:=by kernel_rfl
theorem hr_201345:Region.ready .any hvO l_201345 = []:=by kernel_rfl
theorem hr_210345:Region.ready .any hvO l_210345 = []:=by kernel_rfl
theorem hr_213045:Region.ready .any hvO l_213045 = []:=by kernel_rfl
theorem hf_r_012345 (sha:List Value→Nat→Nat→S8) (s:Nat) (cap:Nat) (q:List Value):sres Tryz.prog Tryz.f14 (t_012345 sha s cap q)=some (.tuple #[.agg (lowQ (out64 (sha (bl s) 0 32))).toArray,.slice (some ⟨5,0,none⟩) 32 cap]):=by kernel_rfl
theorem hf_d_012345 (sha:List Value→Nat→Nat→S8) (s:Nat) (cap:Nat) (q:List Value):(t_012345 sha s cap q).1.defers = []:=by kernel_rfl
theorem hf_m_012345 (sha:List Value→Nat→Nat→S8) (s:Nat) (cap:Nat) (q:List Value):getB (t_012345 sha s cap q).2 5=some ⟨q,⟨5,(0,0)⟩⟩:=by kernel_rfl
theorem hf_r_021345 (sha:List Value→Nat→Nat→S8) (s:Nat) (cap:Nat) (q:List Value):sres Tryz.prog Tryz.f14 (t_021345 sha s cap q)=some (.tuple #[.agg (lowQ (out64 (sha (bl s) 0 32))).toArray,.slice (some ⟨5,0,none⟩) 32 cap]):=by kernel_rfl
theorem hf_d_021345 (sha:List Value→Nat→Nat→S8) (s:Nat) (cap:Nat) (q:List Value):(t_021345 sha s cap q).1.defers = []:=by kernel_rfl
theorem hf_m_021345 (sha:List Value→Nat→Nat→S8) (s:Nat) (cap:Nat) (q:List Value):getB (t_021345 sha s cap q).2 5=some ⟨q,⟨5,(0,0)⟩⟩:=by kernel_rfl
theorem hf_r_102345 (sha:List Value→Nat→Nat→S8) (s:Nat) (cap:Nat) (q:List Value):sres Tryz.prog Tryz.f14 (t_102345 sha s cap q)=some (.tuple #[.agg (lowQ (out64 (sha (bl s) 0 32))).toArray,.slice (some ⟨5,0,none⟩) 32 cap]):=by kernel_rfl
theorem hf_d_102345 (sha:List Value→Nat→Nat→S8) (s:Nat) (cap:Nat) (q:List Value):(t_102345 sha s cap q).1.defers = []:=by kernel_rfl
theorem hf_m_102345 (sha:List Value→Nat→Nat→S8) (s:Nat) (cap:Nat) (q:List Value):getB (t_102345 sha s cap q).2 5=some ⟨q,⟨5,(0,0)⟩⟩:=by kernel_rfl
theorem hf_r_120345 (sha:List Value→Nat→Nat→S8) (s:Nat) (cap:Nat) (q:List Value):sres Tryz.prog Tryz.f14 (t_120345 sha s cap q)=some (.tuple #[.agg (lowQ (out64 (sha (bl s) 0 32))).toArray,.slice (some ⟨5,0,none⟩) 32 cap]):=by kernel_rfl
theorem hf_d_120345 (sha:List Value→Nat→Nat→S8) (s:Nat) (cap:Nat) (q:List Value):(t_120345 sha s cap q).1.defers = []:=by kernel_rfl
theorem hf_m_120345 (sha:List Value→Nat→Nat→S8) (s:Nat) (cap:Nat) (q:List Value):getB (t_120345 sha s cap q).2 5=some ⟨q,⟨5,(0,0)⟩⟩:=by kernel_rfl
theorem hf_r_123045 (sha:List Value→Nat→Nat→S8) (s:Nat) (cap:Nat) (q:List Value):sres Tryz.prog Tryz.f14 (t_123045 sha s cap q)=some (.tuple #[.agg (lowQ (out64 (sha (bl s) 0 32))).toArray,.slice (some ⟨5,0,none⟩) 32 cap]):=by kernel_rfl
theorem hf_d_123045 (sha:List Value→Nat→Nat→S8) (s:Nat) (cap:Nat) (q:List Value):(t_123045 sha s cap q).1.defers = []:=by kernel_rfl
theorem hf_m_123045 (sha:List Value→Nat→Nat→S8) (s:Nat) (cap:Nat) (q:List Value):getB (t_123045 sha s cap q).2 5=some ⟨q,⟨5,(0,0)⟩⟩:=by kernel_rfl
theorem hf_r_201345 (sha:List Value→Nat→Nat→S8) (s:Nat) (cap:Nat) (q:List Value):sres Tryz.prog Tryz.f14 (t_201345 sha s cap q)=some (.tuple #[.agg (lowQ (out64 (sha (bl s) 0 32))).toArray,.slice (some ⟨5,0,none⟩) 32 cap]):=by kernel_rfl
theorem hf_d_201345 (sha:List Value→Nat→Nat→S8) (s:Nat) (cap:Nat) (q:List Value):(t_201345 sha s cap q).1.defers = []:=by kernel_rfl
theorem hf_m_201345 (sha:List Value→Nat→Nat→S8) (s:Nat) (cap:Nat) (q:List Value):getB (t_201345 sha s cap q).2 5=some ⟨q,⟨5,(0,0)⟩⟩:=by kernel_rfl
theorem hf_r_210345 (sha:List Value→Nat→Nat→S8) (s:Nat) (cap:Nat) (q:List Value):sres Tryz.prog Tryz.f14 (t_210345 sha s cap q)=some (.tuple #[.agg (lowQ (out64 (sha (bl s) 0 32))).toArray,.slice (some ⟨5,0,none⟩) 32 cap]):=by kernel_rfl
theorem hf_d_210345 (sha:List Value→Nat→Nat→S8) (s:Nat) (cap:Nat) (q:List Value):(t_210345 sha s cap q).1.defers = []:=by kernel_rfl
theorem hf_m_210345 (sha:List Value→Nat→Nat→S8) (s:Nat) (cap:Nat) (q:List Value):getB (t_210345 sha s cap q).2 5=some ⟨q,⟨5,(0,0)⟩⟩:=by kernel_rfl
theorem hf_r_213045 (sha:List Value→Nat→Nat→S8) (s:Nat) (cap:Nat) (q:List Value):sres Tryz.prog Tryz.f14 (t_213045 sha s cap q)=some (.tuple #[.agg (lowQ (out64 (sha (bl s) 0 32))).toArray,.slice (some ⟨5,0,none⟩) 32 cap]):=by kernel_rfl
theorem hf_d_213045 (sha:List Value→Nat→Nat→S8) (s:Nat) (cap:Nat) (q:List Value):(t_213045 sha s cap q).1.defers = []:=by kernel_rfl
theorem hf_m_213045 (sha:List Value→Nat→Nat→S8) (s:Nat) (cap:Nat) (q:List Value):getB (t_213045 sha s cap q).2 5=some ⟨q,⟨5,(0,0)⟩⟩:=by kernel_rfl
theorem SWA.three {gl:List Nat} {P:Program} {ops:Array Oper} {n:Nat} {listed:Array Bool} {s:Act × Mem} {i j k:Nat} (hr:Region.ready .any ops listed = [i,j,k]) (h:SWO H P gl ops n listed i s Q) (h':SWO H P gl ops n listed j s Q) (h'':SWO H P gl ops n listed k s Q):SWA H P gl ops (n+1) listed s Q :=
 fun r₀ w₀ A w r hH S=>⟨fun e=>(by rw [hr] at e;cases e),fun x hx=>by
  rw [hr] at hx
  simp only [List.mem_cons,List.not_mem_nil,or_false] at hx
  rcases hx with rfl | rfl | rfl
  ·exact h r₀ w₀ A w r hH S
  ·exact h' r₀ w₀ A w r hH S
  ·exact h'' r₀ w₀ A w r hH S⟩
noncomputable def hvQ (sha:List Value→Nat→Nat→S8) (s:Nat):Exit→Act × Mem→Prop:=(fun ex t=>(ex = .normal∨ex = .ret)∧t.1.defers = [] ∧ ∃ b cap q,sres Tryz.prog Tryz.f14 t=some (.tuple #[.agg (lowQ (out64 (sha (bl s) 0 32))).toArray,.slice (some ⟨b,0,none⟩) 32 cap])∧getB t.2 b=some ⟨q,⟨5,(0,0)⟩⟩∧([]:Mem).length≤b∧q.all flat1=true∧OwnRow ((out64 (sha (bl s) 0 32)).drop 32) cap q ∧ ∀ i B,getB ([]:Mem) i=some B→getB t.2 i=some B)
theorem hv_body (sha:List Value→Nat→Nat→S8) (s:Nat) (hX:(YS sha).Ok Tryz.prog):SWn H Tryz.prog [] (bodyOf Tryz.f14) (sinit Tryz.f14 [bv s],[]) (fun ex t=>(ex = .normal∨ex = .ret)∧t.1.defers = [] ∧ ∃ b cap q,sres Tryz.prog Tryz.f14 t=some (.tuple #[.agg (lowQ (out64 (sha (bl s) 0 32))).toArray,.slice (some ⟨b,0,none⟩) 32 cap])∧getB t.2 b=some ⟨q,⟨5,(0,0)⟩⟩∧([]:Mem).length≤b∧q.all flat1=true∧OwnRow ((out64 (sha (bl s) 0 32)).drop 32) cap q ∧ ∀ i B,getB ([]:Mem) i=some B→getB t.2 i=some B):=by
 show SWn H Tryz.prog [] (bodyOf Tryz.f14) (sinit Tryz.f14 [bv s],[]) (hvQ sha s)
 rw [hv_code]
 refine SWn.preG hX mixed (YS_gl sha) rfl (hv_1 sha s) (fun p hp => ?_) (SWn.seq ?_)
 ·rw [List.mem_singleton.1 hp]
  exact ⟨by rw [bl_len];omega,fun u hu=>bl_byte s u (List.mem_of_mem_drop (List.mem_of_mem_take hu)),by omega⟩
 rw [hv_reg]
 refine SWn.regionA mixed ?_
 have hg:=YS_gl sha
 have k_213045 : ∀ cap q,OwnRow ((out64 (sha (bl s) 0 32)).drop 32) cap q→SWA H Tryz.prog [] hvO 0 l_213045 (t_213045 sha s cap q) (thenS (fun s'=>SWn H Tryz.prog [] .ret s' (hvQ sha s)) (hvQ sha s)):=by
  intro cap q hrow
  refine SWA.nil hr_213045 (SW.n (SW.ret ⟨.inr rfl,hf_d_213045 sha s cap q,5,cap,q,hf_r_213045 sha s cap q,hf_m_213045 sha s cap q,Nat.zero_le _,hrow.flat,hrow,fun i B h=>by simp [getB] at h⟩))
 have k_210345 : ∀ cap q,OwnRow ((out64 (sha (bl s) 0 32)).drop 32) cap q→SWA H Tryz.prog [] hvO 0 l_210345 (t_210345 sha s cap q) (thenS (fun s'=>SWn H Tryz.prog [] .ret s' (hvQ sha s)) (hvQ sha s)):=by
  intro cap q hrow
  refine SWA.nil hr_210345 (SW.n (SW.ret ⟨.inr rfl,hf_d_210345 sha s cap q,5,cap,q,hf_r_210345 sha s cap q,hf_m_210345 sha s cap q,Nat.zero_le _,hrow.flat,hrow,fun i B h=>by simp [getB] at h⟩))
 have k_201345 : ∀ cap q,OwnRow ((out64 (sha (bl s) 0 32)).drop 32) cap q→SWA H Tryz.prog [] hvO 0 l_201345 (t_201345 sha s cap q) (thenS (fun s'=>SWn H Tryz.prog [] .ret s' (hvQ sha s)) (hvQ sha s)):=by
  intro cap q hrow
  refine SWA.nil hr_201345 (SW.n (SW.ret ⟨.inr rfl,hf_d_201345 sha s cap q,5,cap,q,hf_r_201345 sha s cap q,hf_m_201345 sha s cap q,Nat.zero_le _,hrow.flat,hrow,fun i B h=>by simp [getB] at h⟩))
 have k_123045 : ∀ cap q,OwnRow ((out64 (sha (bl s) 0 32)).drop 32) cap q→SWA H Tryz.prog [] hvO 0 l_123045 (t_123045 sha s cap q) (thenS (fun s'=>SWn H Tryz.prog [] .ret s' (hvQ sha s)) (hvQ sha s)):=by
  intro cap q hrow
  refine SWA.nil hr_123045 (SW.n (SW.ret ⟨.inr rfl,hf_d_123045 sha s cap q,5,cap,q,hf_r_123045 sha s cap q,hf_m_123045 sha s cap q,Nat.zero_le _,hrow.flat,hrow,fun i B h=>by simp [getB] at h⟩))
 have k_120345 : ∀ cap q,OwnRow ((out64 (sha (bl s) 0 32)).drop 32) cap q→SWA H Tryz.prog [] hvO 0 l_120345 (t_120345 sha s cap q) (thenS (fun s'=>SWn H Tryz.prog [] .ret s' (hvQ sha s)) (hvQ sha s)):=by
  intro cap q hrow
  refine SWA.nil hr_120345 (SW.n (SW.ret ⟨.inr rfl,hf_d_120345 sha s cap q,5,cap,q,hf_r_120345 sha s cap q,hf_m_120345 sha s cap q,Nat.zero_le _,hrow.flat,hrow,fun i B h=>by simp [getB] at h⟩))
 have k_102345 : ∀ cap q,OwnRow ((out64 (sha (bl s) 0 32)).drop 32) cap q→SWA H Tryz.prog [] hvO 0 l_102345 (t_102345 sha s cap q) (thenS (fun s'=>SWn H Tryz.prog [] .ret s' (hvQ sha s)) (hvQ sha s)):=by
  intro cap q hrow
  refine SWA.nil hr_102345 (SW.n (SW.ret ⟨.inr rfl,hf_d_102345 sha s cap q,5,cap,q,hf_r_102345 sha s cap q,hf_m_102345 sha s cap q,Nat.zero_le _,hrow.flat,hrow,fun i B h=>by simp [getB] at h⟩))
 have k_021345 : ∀ cap q,OwnRow ((out64 (sha (bl s) 0 32)).drop 32) cap q→SWA H Tryz.prog [] hvO 0 l_021345 (t_021345 sha s cap q) (thenS (fun s'=>SWn H Tryz.prog [] .ret s' (hvQ sha s)) (hvQ sha s)):=by
  intro cap q hrow
  refine SWA.nil hr_021345 (SW.n (SW.ret ⟨.inr rfl,hf_d_021345 sha s cap q,5,cap,q,hf_r_021345 sha s cap q,hf_m_021345 sha s cap q,Nat.zero_le _,hrow.flat,hrow,fun i B h=>by simp [getB] at h⟩))
 have k_012345 : ∀ cap q,OwnRow ((out64 (sha (bl s) 0 32)).drop 32) cap q→SWA H Tryz.prog [] hvO 0 l_012345 (t_012345 sha s cap q) (thenS (fun s'=>SWn H Tryz.prog [] .ret s' (hvQ sha s)) (hvQ sha s)):=by
  intro cap q hrow
  refine SWA.nil hr_012345 (SW.n (SW.ret ⟨.inr rfl,hf_d_012345 sha s cap q,5,cap,q,hf_r_012345 sha s cap q,hf_m_012345 sha s cap q,Nat.zero_le _,hrow.flat,hrow,fun i B h=>by simp [getB] at h⟩))
 have k_21304 : ∀ cap q,OwnRow ((out64 (sha (bl s) 0 32)).drop 32) cap q→SWA H Tryz.prog [] hvO 1 l_21304 (t_21304 sha s cap q) (thenS (fun s'=>SWn H Tryz.prog [] .ret s' (hvQ sha s)) (hvQ sha s)):=by
  intro cap q hrow
  refine SWA.one hr_21304 ?_
  ·refine SWO.step hX.h hg (hs_21304_5 sha s cap q) (by simp) ?_
   exact k_213045 cap q hrow
 have k_21034 : ∀ cap q,OwnRow ((out64 (sha (bl s) 0 32)).drop 32) cap q→SWA H Tryz.prog [] hvO 1 l_21034 (t_21034 sha s cap q) (thenS (fun s'=>SWn H Tryz.prog [] .ret s' (hvQ sha s)) (hvQ sha s)):=by
  intro cap q hrow
  refine SWA.one hr_21034 ?_
  ·refine SWO.step hX.h hg (hs_21034_5 sha s cap q) (by simp) ?_
   exact k_210345 cap q hrow
 have k_20134 : ∀ cap q,OwnRow ((out64 (sha (bl s) 0 32)).drop 32) cap q→SWA H Tryz.prog [] hvO 1 l_20134 (t_20134 sha s cap q) (thenS (fun s'=>SWn H Tryz.prog [] .ret s' (hvQ sha s)) (hvQ sha s)):=by
  intro cap q hrow
  refine SWA.one hr_20134 ?_
  ·refine SWO.step hX.h hg (hs_20134_5 sha s cap q) (by simp) ?_
   exact k_201345 cap q hrow
 have k_12304 : ∀ cap q,OwnRow ((out64 (sha (bl s) 0 32)).drop 32) cap q→SWA H Tryz.prog [] hvO 1 l_12304 (t_12304 sha s cap q) (thenS (fun s'=>SWn H Tryz.prog [] .ret s' (hvQ sha s)) (hvQ sha s)):=by
  intro cap q hrow
  refine SWA.one hr_12304 ?_
  ·refine SWO.step hX.h hg (hs_12304_5 sha s cap q) (by simp) ?_
   exact k_123045 cap q hrow
 have k_12034 : ∀ cap q,OwnRow ((out64 (sha (bl s) 0 32)).drop 32) cap q→SWA H Tryz.prog [] hvO 1 l_12034 (t_12034 sha s cap q) (thenS (fun s'=>SWn H Tryz.prog [] .ret s' (hvQ sha s)) (hvQ sha s)):=by
  intro cap q hrow
  refine SWA.one hr_12034 ?_
  ·refine SWO.step hX.h hg (hs_12034_5 sha s cap q) (by simp) ?_
   exact k_120345 cap q hrow
 have k_10234 : ∀ cap q,OwnRow ((out64 (sha (bl s) 0 32)).drop 32) cap q→SWA H Tryz.prog [] hvO 1 l_10234 (t_10234 sha s cap q) (thenS (fun s'=>SWn H Tryz.prog [] .ret s' (hvQ sha s)) (hvQ sha s)):=by
  intro cap q hrow
  refine SWA.one hr_10234 ?_
  ·refine SWO.step hX.h hg (hs_10234_5 sha s cap q) (by simp) ?_
   exact k_102345 cap q hrow
 have k_02134 : ∀ cap q,OwnRow ((out64 (sha (bl s) 0 32)).drop 32) cap q→SWA H Tryz.prog [] hvO 1 l_02134 (t_02134 sha s cap q) (thenS (fun s'=>SWn H Tryz.prog [] .ret s' (hvQ sha s)) (hvQ sha s)):=by
  intro cap q hrow
  refine SWA.one hr_02134 ?_
  ·refine SWO.step hX.h hg (hs_02134_5 sha s cap q) (by simp) ?_
   exact k_021345 cap q hrow
 have k_01234 : ∀ cap q,OwnRow ((out64 (sha (bl s) 0 32)).drop 32) cap q→SWA H Tryz.prog [] hvO 1 l_01234 (t_01234 sha s cap q) (thenS (fun s'=>SWn H Tryz.prog [] .ret s' (hvQ sha s)) (hvQ sha s)):=by
  intro cap q hrow
  refine SWA.one hr_01234 ?_
  ·refine SWO.step hX.h hg (hs_01234_5 sha s cap q) (by simp) ?_
   exact k_012345 cap q hrow
 have k_2130 : ∀ cap q,OwnRow ((out64 (sha (bl s) 0 32)).drop 32) cap q→SWA H Tryz.prog [] hvO 2 l_2130 (t_2130 sha s cap q) (thenS (fun s'=>SWn H Tryz.prog [] .ret s' (hvQ sha s)) (hvQ sha s)):=by
  intro cap q hrow
  refine SWA.one hr_2130 ?_
  ·refine SWO.step hX.h hg (hs_2130_4 sha s cap q) (by simp) ?_
   exact k_21304 cap q hrow
 have k_2103 : ∀ cap q,OwnRow ((out64 (sha (bl s) 0 32)).drop 32) cap q→SWA H Tryz.prog [] hvO 2 l_2103 (t_2103 sha s cap q) (thenS (fun s'=>SWn H Tryz.prog [] .ret s' (hvQ sha s)) (hvQ sha s)):=by
  intro cap q hrow
  refine SWA.one hr_2103 ?_
  ·refine SWO.step hX.h hg (hs_2103_4 sha s cap q) (by simp) ?_
   exact k_21034 cap q hrow
 have k_2013 : ∀ cap q,OwnRow ((out64 (sha (bl s) 0 32)).drop 32) cap q→SWA H Tryz.prog [] hvO 2 l_2013 (t_2013 sha s cap q) (thenS (fun s'=>SWn H Tryz.prog [] .ret s' (hvQ sha s)) (hvQ sha s)):=by
  intro cap q hrow
  refine SWA.one hr_2013 ?_
  ·refine SWO.step hX.h hg (hs_2013_4 sha s cap q) (by simp) ?_
   exact k_20134 cap q hrow
 have k_1230 : ∀ cap q,OwnRow ((out64 (sha (bl s) 0 32)).drop 32) cap q→SWA H Tryz.prog [] hvO 2 l_1230 (t_1230 sha s cap q) (thenS (fun s'=>SWn H Tryz.prog [] .ret s' (hvQ sha s)) (hvQ sha s)):=by
  intro cap q hrow
  refine SWA.one hr_1230 ?_
  ·refine SWO.step hX.h hg (hs_1230_4 sha s cap q) (by simp) ?_
   exact k_12304 cap q hrow
 have k_1203 : ∀ cap q,OwnRow ((out64 (sha (bl s) 0 32)).drop 32) cap q→SWA H Tryz.prog [] hvO 2 l_1203 (t_1203 sha s cap q) (thenS (fun s'=>SWn H Tryz.prog [] .ret s' (hvQ sha s)) (hvQ sha s)):=by
  intro cap q hrow
  refine SWA.one hr_1203 ?_
  ·refine SWO.step hX.h hg (hs_1203_4 sha s cap q) (by simp) ?_
   exact k_12034 cap q hrow
 have k_1023 : ∀ cap q,OwnRow ((out64 (sha (bl s) 0 32)).drop 32) cap q→SWA H Tryz.prog [] hvO 2 l_1023 (t_1023 sha s cap q) (thenS (fun s'=>SWn H Tryz.prog [] .ret s' (hvQ sha s)) (hvQ sha s)):=by
  intro cap q hrow
  refine SWA.one hr_1023 ?_
  ·refine SWO.step hX.h hg (hs_1023_4 sha s cap q) (by simp) ?_
   exact k_10234 cap q hrow
 have k_0213 : ∀ cap q,OwnRow ((out64 (sha (bl s) 0 32)).drop 32) cap q→SWA H Tryz.prog [] hvO 2 l_0213 (t_0213 sha s cap q) (thenS (fun s'=>SWn H Tryz.prog [] .ret s' (hvQ sha s)) (hvQ sha s)):=by
  intro cap q hrow
  refine SWA.one hr_0213 ?_
  ·refine SWO.step hX.h hg (hs_0213_4 sha s cap q) (by simp) ?_
   exact k_02134 cap q hrow
 have k_0123 : ∀ cap q,OwnRow ((out64 (sha (bl s) 0 32)).drop 32) cap q→SWA H Tryz.prog [] hvO 2 l_0123 (t_0123 sha s cap q) (thenS (fun s'=>SWn H Tryz.prog [] .ret s' (hvQ sha s)) (hvQ sha s)):=by
  intro cap q hrow
  refine SWA.one hr_0123 ?_
  ·refine SWO.step hX.h hg (hs_0123_4 sha s cap q) (by simp) ?_
   exact k_01234 cap q hrow
 have k_213 : ∀ cap q,OwnRow ((out64 (sha (bl s) 0 32)).drop 32) cap q→SWA H Tryz.prog [] hvO 3 l_213 (t_213 sha s cap q) (thenS (fun s'=>SWn H Tryz.prog [] .ret s' (hvQ sha s)) (hvQ sha s)):=by
  intro cap q hrow
  refine SWA.one hr_213 ?_
  ·refine SWO.step hX.h hg (hs_213_0 sha s cap q) (by simp) ?_
   exact k_2130 cap q hrow
 have k_210:SWA H Tryz.prog [] hvO 3 l_210 (t_210 sha s) (thenS (fun s'=>SWn H Tryz.prog [] .ret s' (hvQ sha s)) (hvQ sha s)):=by
  refine SWA.one hr_210 ?_
  ·obtain ⟨a1,a2,a3,a4,a5,a6,a7⟩:=ha_210 sha s
   have hs:SrcS H Tryz.prog 23 (t_210 sha s).2 ((t_210 sha s).1.eval (.tmp 22)) 32 ((out64 (sha (bl s) 0 32)).drop 32):=by
    rw [a4]
    have:=SrcS.row (H:=H) (P:=Tryz.prog) (tx:=23) (e':=5) (m:=(t_210 sha s).2) byteT.ht a6 (o:=32) (n:=32) (c:=32) (by simp [out64_len]) (by kernel_rfl)
    exact this
   refine SWO.appE (b:=4) (k:=32) (news:=(out64 (sha (bl s) 0 32)).drop 32) (ds:=23) (sx := .tmp 21) (xx := .tmp 22) byteT (by kernel_rfl) a1 a2 a3 a5 hs rfl (by omega) (by omega) fun cap q hrow => ?_
   rw [a7]
   exact k_2103 cap q hrow
 have k_201:SWA H Tryz.prog [] hvO 3 l_201 (t_201 sha s) (thenS (fun s'=>SWn H Tryz.prog [] .ret s' (hvQ sha s)) (hvQ sha s)):=by
  refine SWA.one hr_201 ?_
  ·obtain ⟨a1,a2,a3,a4,a5,a6,a7⟩:=ha_201 sha s
   have hs:SrcS H Tryz.prog 23 (t_201 sha s).2 ((t_201 sha s).1.eval (.tmp 22)) 32 ((out64 (sha (bl s) 0 32)).drop 32):=by
    rw [a4]
    have:=SrcS.row (H:=H) (P:=Tryz.prog) (tx:=23) (e':=5) (m:=(t_201 sha s).2) byteT.ht a6 (o:=32) (n:=32) (c:=32) (by simp [out64_len]) (by kernel_rfl)
    exact this
   refine SWO.appE (b:=4) (k:=32) (news:=(out64 (sha (bl s) 0 32)).drop 32) (ds:=23) (sx := .tmp 21) (xx := .tmp 22) byteT (by kernel_rfl) a1 a2 a3 a5 hs rfl (by omega) (by omega) fun cap q hrow => ?_
   rw [a7]
   exact k_2013 cap q hrow
 have k_123 : ∀ cap q,OwnRow ((out64 (sha (bl s) 0 32)).drop 32) cap q→SWA H Tryz.prog [] hvO 3 l_123 (t_123 sha s cap q) (thenS (fun s'=>SWn H Tryz.prog [] .ret s' (hvQ sha s)) (hvQ sha s)):=by
  intro cap q hrow
  refine SWA.one hr_123 ?_
  ·refine SWO.step hX.h hg (hs_123_0 sha s cap q) (by simp) ?_
   exact k_1230 cap q hrow
 have k_120:SWA H Tryz.prog [] hvO 3 l_120 (t_120 sha s) (thenS (fun s'=>SWn H Tryz.prog [] .ret s' (hvQ sha s)) (hvQ sha s)):=by
  refine SWA.one hr_120 ?_
  ·obtain ⟨a1,a2,a3,a4,a5,a6,a7⟩:=ha_120 sha s
   have hs:SrcS H Tryz.prog 23 (t_120 sha s).2 ((t_120 sha s).1.eval (.tmp 22)) 32 ((out64 (sha (bl s) 0 32)).drop 32):=by
    rw [a4]
    have:=SrcS.row (H:=H) (P:=Tryz.prog) (tx:=23) (e':=5) (m:=(t_120 sha s).2) byteT.ht a6 (o:=32) (n:=32) (c:=32) (by simp [out64_len]) (by kernel_rfl)
    exact this
   refine SWO.appE (b:=4) (k:=32) (news:=(out64 (sha (bl s) 0 32)).drop 32) (ds:=23) (sx := .tmp 21) (xx := .tmp 22) byteT (by kernel_rfl) a1 a2 a3 a5 hs rfl (by omega) (by omega) fun cap q hrow => ?_
   rw [a7]
   exact k_1203 cap q hrow
 have k_102:SWA H Tryz.prog [] hvO 3 l_102 (t_102 sha s) (thenS (fun s'=>SWn H Tryz.prog [] .ret s' (hvQ sha s)) (hvQ sha s)):=by
  refine SWA.one hr_102 ?_
  ·obtain ⟨a1,a2,a3,a4,a5,a6,a7⟩:=ha_102 sha s
   have hs:SrcS H Tryz.prog 23 (t_102 sha s).2 ((t_102 sha s).1.eval (.tmp 22)) 32 ((out64 (sha (bl s) 0 32)).drop 32):=by
    rw [a4]
    have:=SrcS.row (H:=H) (P:=Tryz.prog) (tx:=23) (e':=5) (m:=(t_102 sha s).2) byteT.ht a6 (o:=32) (n:=32) (c:=32) (by simp [out64_len]) (by kernel_rfl)
    exact this
   refine SWO.appE (b:=4) (k:=32) (news:=(out64 (sha (bl s) 0 32)).drop 32) (ds:=23) (sx := .tmp 21) (xx := .tmp 22) byteT (by kernel_rfl) a1 a2 a3 a5 hs rfl (by omega) (by omega) fun cap q hrow => ?_
   rw [a7]
   exact k_1023 cap q hrow
 have k_021:SWA H Tryz.prog [] hvO 3 l_021 (t_021 sha s) (thenS (fun s'=>SWn H Tryz.prog [] .ret s' (hvQ sha s)) (hvQ sha s)):=by
  refine SWA.one hr_021 ?_
  ·obtain ⟨a1,a2,a3,a4,a5,a6,a7⟩:=ha_021 sha s
   have hs:SrcS H Tryz.prog 23 (t_021 sha s).2 ((t_021 sha s).1.eval (.tmp 22)) 32 ((out64 (sha (bl s) 0 32)).drop 32):=by
    rw [a4]
    have:=SrcS.row (H:=H) (P:=Tryz.prog) (tx:=23) (e':=5) (m:=(t_021 sha s).2) byteT.ht a6 (o:=32) (n:=32) (c:=32) (by simp [out64_len]) (by kernel_rfl)
    exact this
   refine SWO.appE (b:=4) (k:=32) (news:=(out64 (sha (bl s) 0 32)).drop 32) (ds:=23) (sx := .tmp 21) (xx := .tmp 22) byteT (by kernel_rfl) a1 a2 a3 a5 hs rfl (by omega) (by omega) fun cap q hrow => ?_
   rw [a7]
   exact k_0213 cap q hrow
 have k_012:SWA H Tryz.prog [] hvO 3 l_012 (t_012 sha s) (thenS (fun s'=>SWn H Tryz.prog [] .ret s' (hvQ sha s)) (hvQ sha s)):=by
  refine SWA.one hr_012 ?_
  ·obtain ⟨a1,a2,a3,a4,a5,a6,a7⟩:=ha_012 sha s
   have hs:SrcS H Tryz.prog 23 (t_012 sha s).2 ((t_012 sha s).1.eval (.tmp 22)) 32 ((out64 (sha (bl s) 0 32)).drop 32):=by
    rw [a4]
    have:=SrcS.row (H:=H) (P:=Tryz.prog) (tx:=23) (e':=5) (m:=(t_012 sha s).2) byteT.ht a6 (o:=32) (n:=32) (c:=32) (by simp [out64_len]) (by kernel_rfl)
    exact this
   refine SWO.appE (b:=4) (k:=32) (news:=(out64 (sha (bl s) 0 32)).drop 32) (ds:=23) (sx := .tmp 21) (xx := .tmp 22) byteT (by kernel_rfl) a1 a2 a3 a5 hs rfl (by omega) (by omega) fun cap q hrow => ?_
   rw [a7]
   exact k_0123 cap q hrow
 have k_21:SWA H Tryz.prog [] hvO 4 l_21 (t_21 sha s) (thenS (fun s'=>SWn H Tryz.prog [] .ret s' (hvQ sha s)) (hvQ sha s)):=by
  refine SWA.two hr_21 ?_ ?_
  ·refine SWO.step hX.h hg (hs_21_0 sha s) (by simp) ?_
   exact k_210
  ·obtain ⟨a1,a2,a3,a4,a5,a6,a7⟩:=ha_21 sha s
   have hs:SrcS H Tryz.prog 23 (t_21 sha s).2 ((t_21 sha s).1.eval (.tmp 22)) 32 ((out64 (sha (bl s) 0 32)).drop 32):=by
    rw [a4]
    have:=SrcS.row (H:=H) (P:=Tryz.prog) (tx:=23) (e':=5) (m:=(t_21 sha s).2) byteT.ht a6 (o:=32) (n:=32) (c:=32) (by simp [out64_len]) (by kernel_rfl)
    exact this
   refine SWO.appE (b:=4) (k:=32) (news:=(out64 (sha (bl s) 0 32)).drop 32) (ds:=23) (sx := .tmp 21) (xx := .tmp 22) byteT (by kernel_rfl) a1 a2 a3 a5 hs rfl (by omega) (by omega) fun cap q hrow => ?_
   rw [a7]
   exact k_213 cap q hrow
 have k_20:SWA H Tryz.prog [] hvO 4 l_20 (t_20 sha s) (thenS (fun s'=>SWn H Tryz.prog [] .ret s' (hvQ sha s)) (hvQ sha s)):=by
  refine SWA.one hr_20 ?_
  ·refine SWO.step hX.h hg (hs_20_1 sha s) (by simp) ?_
   exact k_201
 have k_12:SWA H Tryz.prog [] hvO 4 l_12 (t_12 sha s) (thenS (fun s'=>SWn H Tryz.prog [] .ret s' (hvQ sha s)) (hvQ sha s)):=by
  refine SWA.two hr_12 ?_ ?_
  ·refine SWO.step hX.h hg (hs_12_0 sha s) (by simp) ?_
   exact k_120
  ·obtain ⟨a1,a2,a3,a4,a5,a6,a7⟩:=ha_12 sha s
   have hs:SrcS H Tryz.prog 23 (t_12 sha s).2 ((t_12 sha s).1.eval (.tmp 22)) 32 ((out64 (sha (bl s) 0 32)).drop 32):=by
    rw [a4]
    have:=SrcS.row (H:=H) (P:=Tryz.prog) (tx:=23) (e':=5) (m:=(t_12 sha s).2) byteT.ht a6 (o:=32) (n:=32) (c:=32) (by simp [out64_len]) (by kernel_rfl)
    exact this
   refine SWO.appE (b:=4) (k:=32) (news:=(out64 (sha (bl s) 0 32)).drop 32) (ds:=23) (sx := .tmp 21) (xx := .tmp 22) byteT (by kernel_rfl) a1 a2 a3 a5 hs rfl (by omega) (by omega) fun cap q hrow => ?_
   rw [a7]
   exact k_123 cap q hrow
 have k_10:SWA H Tryz.prog [] hvO 4 l_10 (t_10 sha s) (thenS (fun s'=>SWn H Tryz.prog [] .ret s' (hvQ sha s)) (hvQ sha s)):=by
  refine SWA.one hr_10 ?_
  ·refine SWO.step hX.h hg (hs_10_2 sha s) (by simp) ?_
   exact k_102
 have k_02:SWA H Tryz.prog [] hvO 4 l_02 (t_02 sha s) (thenS (fun s'=>SWn H Tryz.prog [] .ret s' (hvQ sha s)) (hvQ sha s)):=by
  refine SWA.one hr_02 ?_
  ·refine SWO.step hX.h hg (hs_02_1 sha s) (by simp) ?_
   exact k_021
 have k_01:SWA H Tryz.prog [] hvO 4 l_01 (t_01 sha s) (thenS (fun s'=>SWn H Tryz.prog [] .ret s' (hvQ sha s)) (hvQ sha s)):=by
  refine SWA.one hr_01 ?_
  ·refine SWO.step hX.h hg (hs_01_2 sha s) (by simp) ?_
   exact k_012
 have k_2:SWA H Tryz.prog [] hvO 5 l_2 (t_2 sha s) (thenS (fun s'=>SWn H Tryz.prog [] .ret s' (hvQ sha s)) (hvQ sha s)):=by
  refine SWA.two hr_2 ?_ ?_
  ·refine SWO.step hX.h hg (hs_2_0 sha s) (by simp) ?_
   exact k_20
  ·refine SWO.step hX.h hg (hs_2_1 sha s) (by simp) ?_
   exact k_21
 have k_1:SWA H Tryz.prog [] hvO 5 l_1 (t_1 sha s) (thenS (fun s'=>SWn H Tryz.prog [] .ret s' (hvQ sha s)) (hvQ sha s)):=by
  refine SWA.two hr_1 ?_ ?_
  ·refine SWO.step hX.h hg (hs_1_0 sha s) (by simp) ?_
   exact k_10
  ·refine SWO.step hX.h hg (hs_1_2 sha s) (by simp) ?_
   exact k_12
 have k_0:SWA H Tryz.prog [] hvO 5 l_0 (t_0 sha s) (thenS (fun s'=>SWn H Tryz.prog [] .ret s' (hvQ sha s)) (hvQ sha s)):=by
  refine SWA.two hr_0 ?_ ?_
  ·refine SWO.step hX.h hg (hs_0_1 sha s) (by simp) ?_
   exact k_01
  ·refine SWO.step hX.h hg (hs_0_2 sha s) (by simp) ?_
   exact k_02
 have k_e:SWA H Tryz.prog [] hvO 6 l_e (t_e sha s) (thenS (fun s'=>SWn H Tryz.prog [] .ret s' (hvQ sha s)) (hvQ sha s)):=by
  refine SWA.three hr_e ?_ ?_ ?_
  ·refine SWO.step hX.h hg (hs_e_0 sha s) (by simp) ?_
   exact k_0
  ·refine SWO.step hX.h hg (hs_e_1 sha s) (by simp) ?_
   exact k_1
  ·refine SWO.step hX.h hg (hs_e_2 sha s) (by simp) ?_
   exact k_2
 exact k_e
end Go.Proofs.YtlihbglpdkeppaaGreatDoor.Edd
