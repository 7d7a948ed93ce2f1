/- Package point: multiples. -/
import Derived.Test.YtlihbglpdkeppaaGreatDoorPoiB
set_option linter.unusedSimpArgs false
set_option linter.unusedVariables false
namespace Go.Proofs.YtlihbglpdkeppaaGreatDoor
open Go Go.RowKit
def SU (p q:P4):P4:=sumN (p4 (pv p)) (p4 (pv q))
def muS (a:P4):Nat→P4
 | 0=>neuN
 | n+1=>SU (muS a n) a
def muN (a:P4):Nat→P4
 | 0=>neuN
 | n+1=>sumN (muN a n) a
theorem muN_ok (a:P4) : ∀ n,(muN a n).ok
 | 0=>neuN_ok
 | n+1=>sumN_ok _ _
theorem muS_eq {a:P4} (h:a.ok) : ∀ n,muS a n=muN a n
 | 0=>rfl
 | n+1=>by
  show sumN (p4 (pv (muS a n))) (p4 (pv a))=sumN (muN a n) a
  rw [muS_eq h n,p4_pv (muN_ok a n),p4_pv h]
def muT (a:P4) (i:Nat):Prop:=IsP (pv (muS a i))∧IsP (pv a)
def fstR (o:Option (List Prop × Value)):Option (List Prop):=o.map (·.1)
def sndR (o:Option (List Prop × Value)):Value:=(o.map (·.2)).getD undef
theorem of_fst {o:Option (List Prop × Value)} {ps:List Prop} (h:fstR o=some ps):o=some (ps,sndR o):=by
 cases o with
 | none=>cases h
 | some q=>simp only [fstR,Option.map_some,Option.some.injEq] at h;subst h;rfl
def mulV (P:Program) (fn:Func) (a:P4):Value:=sndR (sfunG P F3 M0 100 fn (bodyOf fn) [pv a])
def cellsOf:Value→List Value
 | .agg cs=>cs.toList
 | _=>[]
def isAggB:Value→Bool
 | .agg _=>true
 | _=>false
theorem agg_cells {v:Value} (h:isAggB v=true):v = .agg (cellsOf v).toArray:=by
 cases v <;> simp [isAggB] at h
 rename_i cs
 simp [cellsOf]
def sl (l:List Value) (i:Nat):List Value:=(l.drop (128*i)).take 128
def muL (g:Nat→P4):List Value:=(List.range 16).flatMap fun i=>pcs (g i)
theorem of_slices (f:Nat→List Value) : ∀ (n:Nat) (l:List Value),l.length=128*n→(∀ i,i<n→sl l i=f i)→l=(List.range n).flatMap f
 | 0,l,hl,_=>by
  have:l = []:=List.eq_nil_of_length_eq_zero (by omega)
  rw [this];rfl
 | n+1,l,hl,h=>by
  have ih:=of_slices f n (l.take (128*n)) (by rw [List.length_take];omega) (fun i hi=>by
   rw [←h i (by omega)]
   unfold sl
   rw [List.drop_take,List.take_take]
   congr 1
   omega)
  have hn:=h n (by omega)
  unfold sl at hn
  rw [List.take_of_length_le (by rw [List.length_drop];omega)] at hn
  rw [List.range_succ,List.flatMap_append,←ih,List.flatMap_cons,List.flatMap_nil,List.append_nil,←hn,List.take_append_drop]
theorem mul_run1 (a:P4):fstR (sfunG Tryz.prog F3 M0 100 Tryz.f78 (bodyOf Tryz.f78) [pv a])=some [muT a 0,muT a 1,muT a 2,muT a 3,muT a 4,muT a 5,muT a 6,muT a 7,muT a 8,muT a 9,muT a 10,muT a 11,muT a 12,muT a 13,muT a 14]:=by kernel_rfl
theorem mul_agg (a:P4):isAggB (mulV Tryz.prog Tryz.f78 a)=true:=by kernel_rfl
theorem mul_len (a:P4):(cellsOf (mulV Tryz.prog Tryz.f78 a)).length=2048:=by kernel_rfl
theorem mul_sl (a:P4):(List.range 16).map (sl (cellsOf (mulV Tryz.prog Tryz.f78 a)))=(List.range 16).map fun i=>pcs (muS a i):=by kernel_rfl
theorem mul_val {a:P4} (h:a.ok):mulV Tryz.prog Tryz.f78 a = .agg (muL (muN a)).toArray:=by
 have e:=of_slices (fun i=>pcs (muS a i)) 16 _ (mul_len a) (fun i hi=>List.map_inj_left.1 (mul_sl a) i (List.mem_range.2 hi))
 rw [agg_cells (mul_agg a),e]
 unfold muL
 rw [show muS a=muN a from funext (muS_eq h)]
theorem flat_muL (g:Nat→P4):flat (.agg (muL g).toArray)=true:=by
 show ((muL g).toArray.toList.all flat1)=true
 rw [List.toList_toArray]
 unfold muL
 rw [List.all_flatMap]
 refine List.all_eq_true.2 fun i _ => ?_
 unfold pcs
 simp only [List.all_append,flat_bl,Bool.and_self]
def gMus:List Value→Option (List Prop × Value)
 | [A]=>some ([IsP A],.agg (muL (muN (p4 A))).toArray)
 | _=>none
theorem gMus_ok {X:Cx} (hX:X.Ok Tryz.prog) (hc:coversG M0 X.gl=true):(X.var M0 78 gMus).Ok Tryz.prog:=by
 refine gVar_ok hX M0_flat hc Tryz.func78 (by kernel_rfl) (by kernel_rfl) ?_
 intro args ps v ha hg hp
 unfold gMus at hg
 split at hg
 ·rename_i A
  simp only [Option.some.injEq,Prod.mk.injEq] at hg
  obtain ⟨rfl,rfl⟩:=hg
  obtain ⟨hA,lA⟩:=hp _ (List.mem_singleton.2 rfl)
  refine ⟨.inl (flat_muL _),fun w hw => ?_⟩
  have run:=of_fst (mul_run1 (p4 A))
  have e:=mul_val lA
  unfold mulV at e
  rw [e] at run
  have ht : ∀ i,muT (p4 A) i:=fun i=>by
   unfold muT
   rw [muS_eq lA]
   exact ⟨isP_pv (muN_ok _ _),isP_pv lA⟩
  have h:=sfunG_calls F3_ok mixed M0_flat (by kernel_rfl) Tryz.func78 (by kernel_rfl) run (by
   intro p hp
   simp only [List.mem_cons,List.not_mem_nil,or_false] at hp
   rcases hp with rfl | rfl | rfl | rfl | rfl | rfl | rfl | rfl | rfl | rfl | rfl | rfl | rfl | rfl | rfl <;> exact ht _) (by simp [flat_pv]) (.inl (flat_muL _)) w hw
  rw [←hA] at h
  exact h
 ·simp at hg
def F4:Cx:=F3.var M0 78 gMus
theorem F4_ok:F4.Ok Tryz.prog:=gMus_ok F3_ok (by kernel_rfl)
end Go.Proofs.YtlihbglpdkeppaaGreatDoor
namespace Go.Proofs.YtlihbglpdkeppaaGreatDoor
open Go Go.RowKit
def thd (t22 t39 t66 n:Nat) (a:P4) (L:List Value) (tot:P4) (i:Int):Act × Mem :=
  (⟨#[poison,poison,.pointer (some ⟨np,0,none⟩),.pointer (some ⟨np+1,0,none⟩),.pointer (some ⟨np+2,0,none⟩),.pointer (some ⟨np+3,0,none⟩),.pointer (some ⟨np+4,0,none⟩),.int .i64 i] ++ Array.replicate 26 poison,[]⟩,
   M0 ++ [some ⟨bl n,t22⟩,some ⟨pcs a,t39⟩,some ⟨pcs ⟨0,0,0,0⟩,t39⟩,some ⟨L,t66⟩,some ⟨pcs tot,t39⟩])
def tF:List Nat:=[0,1] ++ (List.range 26).map (· + 8)
def tK (s:Act × Mem):Act × Mem:=(forgetL s.1 tF,s.2)
def tLB (fn:Func):Code:=cL (cL (cR (cL (cR (cR (cR (bodyOf fn)))))))
def tB1 (fn:Func):Code:=cL (cR (tLB fn))
def tR6 (fn:Func):Code:=cL (cL (tB1 fn))
def tR7 (fn:Func):Code:=cR (cL (tB1 fn))
def tR5 (fn:Func):Code:=cR (cR (tLB fn))
def tT (fn:Func):Code:=cR (cR (cR (cR (bodyOf fn))))
def FtX:Cx:=F4.terms
theorem FtX_ok:FtX.Ok Tryz.prog:=Cx.terms_ok F4_ok
def zeroC (P:Program) (t:Nat):List Value :=
  match P.info? t with
  | some i=>match i.zero with
    | some z=>z.cells.toList
    | none=>[]
  | none=>[]
theorem zeroC_len:(zeroC Tryz.prog 99).length=2048:=by kernel_rfl
def ts1 (P:Program) (fn:Func) (n:Nat) (a:P4):Act × Mem:=runS P F4 20 (cL (bodyOf fn)) (sinit fn [bv n,pv a],M0)
def ts2 (P:Program) (fn:Func) (n:Nat) (a:P4):Act × Mem:=runS P F4 20 (cL (cR (bodyOf fn))) (ts1 P fn n a)
def ts3 (P:Program) (fn:Func) (n:Nat) (a:P4):Act × Mem:=runS P F4 20 (cL (cR (cR (bodyOf fn)))) (ts2 P fn n a)
def ts4 (P:Program) (fn:Func) (n:Nat) (a:P4):Act × Mem:=runS P F4 20 (cL (cL (cR (cR (cR (bodyOf fn)))))) (ts3 P fn n a)
def fstS (r:Option (List Prop × Exit × Act × Mem)):Option (List Prop × Exit):=r.map fun q=>(q.1,q.2.1)
theorem of_fstS {P:Program} {X:Cx} {n:Nat} {c:Code} {s:Act × Mem} {ps:List Prop} {e:Exit} (h:fstS (sexec P X n c [] s)=some (ps,e)):sexec P X n c [] s=some (ps,e,runS P X n c s):=by
  unfold runS
  cases hs:sexec P X n c [] s with
  | none=>rw [hs] at h;cases h
  | some q =>
    obtain ⟨a,b,c⟩:=q
    rw [hs] at h
    simp only [fstS,Option.map_some,Option.some.injEq,Prod.mk.injEq] at h
    obtain ⟨rfl,rfl⟩:=h
    rfl
theorem t_1 (n:Nat) (a:P4):fstS (sexec Tryz.prog F4 20 (cL (bodyOf Tryz.f34)) [] (sinit Tryz.f34 [bv n,pv a],M0))=some ([],.normal):=by kernel_rfl
theorem t_2 (n:Nat) (a:P4):fstS (sexec Tryz.prog F4 20 (cL (cR (bodyOf Tryz.f34))) [] (ts1 Tryz.prog Tryz.f34 n a))=some ([IsP (pv a)],.normal):=by kernel_rfl
theorem t_3 (n:Nat) (a:P4):fstS (sexec Tryz.prog F4 20 (cL (cR (cR (bodyOf Tryz.f34)))) [] (ts2 Tryz.prog Tryz.f34 n a))=some ([],.normal):=by kernel_rfl
theorem t_4 (n:Nat) (a:P4):fstS (sexec Tryz.prog F4 20 (cL (cL (cR (cR (cR (bodyOf Tryz.f34)))))) [] (ts3 Tryz.prog Tryz.f34 n a))=some ([],.normal):=by kernel_rfl
theorem t_h (n:Nat) (a:P4):tK (ts4 Tryz.prog Tryz.f34 n a)=thd 22 57 99 n a (putL (zeroC Tryz.prog 99) 0 (muL (muN (p4 (pv a))))) neuN 31:=by kernel_rfl
theorem t_go (n:Nat) (a:P4) (g:Nat→P4) (tot:P4) (i:Int):proj tK (sexec Tryz.prog (FtX.tell [(12,true)]) 40 (cL (tLB Tryz.f34)) [] (thd 22 57 99 n a (muL g) tot i))=some ([decide (i≥0)=true],thd 22 57 99 n a (muL g) tot i):=by kernel_rfl
theorem t_5 (n:Nat) (a:P4) (g:Nat→P4) (tot:P4) (i:Int):proj tK (sexec Tryz.prog F4 40 (tR5 Tryz.f34) [] (thd 22 57 99 n a (muL g) tot i))=some ([],thd 22 57 99 n a (muL g) tot (IntKind.i64.wrap (i - 1))):=by kernel_rfl
def tX (P:Program) (fn:Func) (t22 t39 t66 n:Nat) (a:P4) (g:Nat→P4) (tot:P4) (i:Int):Act × Mem:=runS P (FtX.tell [(12,false)]) 40 (cL (tLB fn)) (thd t22 t39 t66 n a (muL g) tot i)
theorem t_x (n:Nat) (a:P4) (g:Nat→P4) (tot:P4) (i:Int):fstS (sexec Tryz.prog (FtX.tell [(12,false)]) 40 (cL (tLB Tryz.f34)) [] (thd 22 57 99 n a (muL g) tot i))=some ([decide (i≥0)=false],.exit 0):=by kernel_rfl
theorem t_z (n:Nat) (a:P4) (g:Nat→P4) (tot:P4) (i:Int):fstS (sexec Tryz.prog F4 40 (tT Tryz.f34) [] (tX Tryz.prog Tryz.f34 22 57 99 n a g tot i))=some ([],.ret):=by kernel_rfl
theorem t_r (n:Nat) (a:P4) (g:Nat→P4) (tot:P4) (i:Int):sres Tryz.prog Tryz.f34 (runS Tryz.prog F4 40 (tT Tryz.f34) (tX Tryz.prog Tryz.f34 22 57 99 n a g tot i))=some (pv tot):=by kernel_rfl
theorem t_d (n:Nat) (a:P4) (g:Nat→P4) (tot:P4) (i:Int):(runS Tryz.prog F4 40 (tT Tryz.f34) (tX Tryz.prog Tryz.f34 22 57 99 n a g tot i)).1.defers = []:=by kernel_rfl
theorem t_m (n:Nat) (a:P4) (g:Nat→P4) (tot:P4) (i:Int):gHas M0 (runS Tryz.prog F4 40 (tT Tryz.f34) (tX Tryz.prog Tryz.f34 22 57 99 n a g tot i)).2=true:=by kernel_rfl
def nb (n:Nat) (i:Int):Int:=intL (bl n) (0+i.toNat*1)
def stepV (tot q:P4):P4:=sumN (p4 (pv (sixN (p4 (pv tot))))) (p4 (pv q))
def tO (n:Nat) (tot q:P4) (i:Int) (d:Int) (x:List Prop):List Prop :=
  [IsP (pv tot),0≤i∧i<((32:Nat):Int),(bl n)[0+i.toNat*1]? = some (.int .u8 (nb n i))] ++ x ++ [0≤d∧d<((16:Nat):Int),IsP (pv (sixN (p4 (pv tot))))∧IsP (pv q)]
theorem t6_0 (n:Nat) (a:P4) (g:Nat→P4) (tot:P4) (i:Int):proj tK (sexec Tryz.prog (FtX.tellI [(20,0)]) 40 (tR6 Tryz.f34) [] (thd 22 57 99 n a (muL g) tot i))=some (tO n tot (g 0) i 0 [0≤(4:Int),Int.fdiv (nb n i) (2 ^ min (4:Int).toNat 8)=0],thd 22 57 99 n a (muL g) (stepV tot (g 0)) i):=by kernel_rfl
theorem t7_0 (n:Nat) (a:P4) (g:Nat→P4) (tot:P4) (i:Int):proj tK (sexec Tryz.prog (FtX.tellI [(29,0)]) 40 (tR7 Tryz.f34) [] (thd 22 57 99 n a (muL g) tot i))=some (tO n tot (g 0) i 0 [bits .and .u8 (nb n i) 15=0],thd 22 57 99 n a (muL g) (stepV tot (g 0)) i):=by kernel_rfl
theorem t6_1 (n:Nat) (a:P4) (g:Nat→P4) (tot:P4) (i:Int):proj tK (sexec Tryz.prog (FtX.tellI [(20,1)]) 40 (tR6 Tryz.f34) [] (thd 22 57 99 n a (muL g) tot i))=some (tO n tot (g 1) i 1 [0≤(4:Int),Int.fdiv (nb n i) (2 ^ min (4:Int).toNat 8)=1],thd 22 57 99 n a (muL g) (stepV tot (g 1)) i):=by kernel_rfl
theorem t7_1 (n:Nat) (a:P4) (g:Nat→P4) (tot:P4) (i:Int):proj tK (sexec Tryz.prog (FtX.tellI [(29,1)]) 40 (tR7 Tryz.f34) [] (thd 22 57 99 n a (muL g) tot i))=some (tO n tot (g 1) i 1 [bits .and .u8 (nb n i) 15=1],thd 22 57 99 n a (muL g) (stepV tot (g 1)) i):=by kernel_rfl
theorem t6_2 (n:Nat) (a:P4) (g:Nat→P4) (tot:P4) (i:Int):proj tK (sexec Tryz.prog (FtX.tellI [(20,2)]) 40 (tR6 Tryz.f34) [] (thd 22 57 99 n a (muL g) tot i))=some (tO n tot (g 2) i 2 [0≤(4:Int),Int.fdiv (nb n i) (2 ^ min (4:Int).toNat 8)=2],thd 22 57 99 n a (muL g) (stepV tot (g 2)) i):=by kernel_rfl
theorem t7_2 (n:Nat) (a:P4) (g:Nat→P4) (tot:P4) (i:Int):proj tK (sexec Tryz.prog (FtX.tellI [(29,2)]) 40 (tR7 Tryz.f34) [] (thd 22 57 99 n a (muL g) tot i))=some (tO n tot (g 2) i 2 [bits .and .u8 (nb n i) 15=2],thd 22 57 99 n a (muL g) (stepV tot (g 2)) i):=by kernel_rfl
theorem t6_3 (n:Nat) (a:P4) (g:Nat→P4) (tot:P4) (i:Int):proj tK (sexec Tryz.prog (FtX.tellI [(20,3)]) 40 (tR6 Tryz.f34) [] (thd 22 57 99 n a (muL g) tot i))=some (tO n tot (g 3) i 3 [0≤(4:Int),Int.fdiv (nb n i) (2 ^ min (4:Int).toNat 8)=3],thd 22 57 99 n a (muL g) (stepV tot (g 3)) i):=by kernel_rfl
theorem t7_3 (n:Nat) (a:P4) (g:Nat→P4) (tot:P4) (i:Int):proj tK (sexec Tryz.prog (FtX.tellI [(29,3)]) 40 (tR7 Tryz.f34) [] (thd 22 57 99 n a (muL g) tot i))=some (tO n tot (g 3) i 3 [bits .and .u8 (nb n i) 15=3],thd 22 57 99 n a (muL g) (stepV tot (g 3)) i):=by kernel_rfl
theorem t6_4 (n:Nat) (a:P4) (g:Nat→P4) (tot:P4) (i:Int):proj tK (sexec Tryz.prog (FtX.tellI [(20,4)]) 40 (tR6 Tryz.f34) [] (thd 22 57 99 n a (muL g) tot i))=some (tO n tot (g 4) i 4 [0≤(4:Int),Int.fdiv (nb n i) (2 ^ min (4:Int).toNat 8)=4],thd 22 57 99 n a (muL g) (stepV tot (g 4)) i):=by kernel_rfl
theorem t7_4 (n:Nat) (a:P4) (g:Nat→P4) (tot:P4) (i:Int):proj tK (sexec Tryz.prog (FtX.tellI [(29,4)]) 40 (tR7 Tryz.f34) [] (thd 22 57 99 n a (muL g) tot i))=some (tO n tot (g 4) i 4 [bits .and .u8 (nb n i) 15=4],thd 22 57 99 n a (muL g) (stepV tot (g 4)) i):=by kernel_rfl
theorem t6_5 (n:Nat) (a:P4) (g:Nat→P4) (tot:P4) (i:Int):proj tK (sexec Tryz.prog (FtX.tellI [(20,5)]) 40 (tR6 Tryz.f34) [] (thd 22 57 99 n a (muL g) tot i))=some (tO n tot (g 5) i 5 [0≤(4:Int),Int.fdiv (nb n i) (2 ^ min (4:Int).toNat 8)=5],thd 22 57 99 n a (muL g) (stepV tot (g 5)) i):=by kernel_rfl
theorem t7_5 (n:Nat) (a:P4) (g:Nat→P4) (tot:P4) (i:Int):proj tK (sexec Tryz.prog (FtX.tellI [(29,5)]) 40 (tR7 Tryz.f34) [] (thd 22 57 99 n a (muL g) tot i))=some (tO n tot (g 5) i 5 [bits .and .u8 (nb n i) 15=5],thd 22 57 99 n a (muL g) (stepV tot (g 5)) i):=by kernel_rfl
theorem t6_6 (n:Nat) (a:P4) (g:Nat→P4) (tot:P4) (i:Int):proj tK (sexec Tryz.prog (FtX.tellI [(20,6)]) 40 (tR6 Tryz.f34) [] (thd 22 57 99 n a (muL g) tot i))=some (tO n tot (g 6) i 6 [0≤(4:Int),Int.fdiv (nb n i) (2 ^ min (4:Int).toNat 8)=6],thd 22 57 99 n a (muL g) (stepV tot (g 6)) i):=by kernel_rfl
theorem t7_6 (n:Nat) (a:P4) (g:Nat→P4) (tot:P4) (i:Int):proj tK (sexec Tryz.prog (FtX.tellI [(29,6)]) 40 (tR7 Tryz.f34) [] (thd 22 57 99 n a (muL g) tot i))=some (tO n tot (g 6) i 6 [bits .and .u8 (nb n i) 15=6],thd 22 57 99 n a (muL g) (stepV tot (g 6)) i):=by kernel_rfl
theorem t6_7 (n:Nat) (a:P4) (g:Nat→P4) (tot:P4) (i:Int):proj tK (sexec Tryz.prog (FtX.tellI [(20,7)]) 40 (tR6 Tryz.f34) [] (thd 22 57 99 n a (muL g) tot i))=some (tO n tot (g 7) i 7 [0≤(4:Int),Int.fdiv (nb n i) (2 ^ min (4:Int).toNat 8)=7],thd 22 57 99 n a (muL g) (stepV tot (g 7)) i):=by kernel_rfl
theorem t7_7 (n:Nat) (a:P4) (g:Nat→P4) (tot:P4) (i:Int):proj tK (sexec Tryz.prog (FtX.tellI [(29,7)]) 40 (tR7 Tryz.f34) [] (thd 22 57 99 n a (muL g) tot i))=some (tO n tot (g 7) i 7 [bits .and .u8 (nb n i) 15=7],thd 22 57 99 n a (muL g) (stepV tot (g 7)) i):=by kernel_rfl
theorem t6_8 (n:Nat) (a:P4) (g:Nat→P4) (tot:P4) (i:Int):proj tK (sexec Tryz.prog (FtX.tellI [(20,8)]) 40 (tR6 Tryz.f34) [] (thd 22 57 99 n a (muL g) tot i))=some (tO n tot (g 8) i 8 [0≤(4:Int),Int.fdiv (nb n i) (2 ^ min (4:Int).toNat 8)=8],thd 22 57 99 n a (muL g) (stepV tot (g 8)) i):=by kernel_rfl
theorem t7_8 (n:Nat) (a:P4) (g:Nat→P4) (tot:P4) (i:Int):proj tK (sexec Tryz.prog (FtX.tellI [(29,8)]) 40 (tR7 Tryz.f34) [] (thd 22 57 99 n a (muL g) tot i))=some (tO n tot (g 8) i 8 [bits .and .u8 (nb n i) 15=8],thd 22 57 99 n a (muL g) (stepV tot (g 8)) i):=by kernel_rfl
theorem t6_9 (n:Nat) (a:P4) (g:Nat→P4) (tot:P4) (i:Int):proj tK (sexec Tryz.prog (FtX.tellI [(20,9)]) 40 (tR6 Tryz.f34) [] (thd 22 57 99 n a (muL g) tot i))=some (tO n tot (g 9) i 9 [0≤(4:Int),Int.fdiv (nb n i) (2 ^ min (4:Int).toNat 8)=9],thd 22 57 99 n a (muL g) (stepV tot (g 9)) i):=by kernel_rfl
theorem t7_9 (n:Nat) (a:P4) (g:Nat→P4) (tot:P4) (i:Int):proj tK (sexec Tryz.prog (FtX.tellI [(29,9)]) 40 (tR7 Tryz.f34) [] (thd 22 57 99 n a (muL g) tot i))=some (tO n tot (g 9) i 9 [bits .and .u8 (nb n i) 15=9],thd 22 57 99 n a (muL g) (stepV tot (g 9)) i):=by kernel_rfl
theorem t6_10 (n:Nat) (a:P4) (g:Nat→P4) (tot:P4) (i:Int):proj tK (sexec Tryz.prog (FtX.tellI [(20,10)]) 40 (tR6 Tryz.f34) [] (thd 22 57 99 n a (muL g) tot i))=some (tO n tot (g 10) i 10 [0≤(4:Int),Int.fdiv (nb n i) (2 ^ min (4:Int).toNat 8)=10],thd 22 57 99 n a (muL g) (stepV tot (g 10)) i):=by kernel_rfl
theorem t7_10 (n:Nat) (a:P4) (g:Nat→P4) (tot:P4) (i:Int):proj tK (sexec Tryz.prog (FtX.tellI [(29,10)]) 40 (tR7 Tryz.f34) [] (thd 22 57 99 n a (muL g) tot i))=some (tO n tot (g 10) i 10 [bits .and .u8 (nb n i) 15=10],thd 22 57 99 n a (muL g) (stepV tot (g 10)) i):=by kernel_rfl
theorem t6_11 (n:Nat) (a:P4) (g:Nat→P4) (tot:P4) (i:Int):proj tK (sexec Tryz.prog (FtX.tellI [(20,11)]) 40 (tR6 Tryz.f34) [] (thd 22 57 99 n a (muL g) tot i))=some (tO n tot (g 11) i 11 [0≤(4:Int),Int.fdiv (nb n i) (2 ^ min (4:Int).toNat 8)=11],thd 22 57 99 n a (muL g) (stepV tot (g 11)) i):=by kernel_rfl
theorem t7_11 (n:Nat) (a:P4) (g:Nat→P4) (tot:P4) (i:Int):proj tK (sexec Tryz.prog (FtX.tellI [(29,11)]) 40 (tR7 Tryz.f34) [] (thd 22 57 99 n a (muL g) tot i))=some (tO n tot (g 11) i 11 [bits .and .u8 (nb n i) 15=11],thd 22 57 99 n a (muL g) (stepV tot (g 11)) i):=by kernel_rfl
theorem t6_12 (n:Nat) (a:P4) (g:Nat→P4) (tot:P4) (i:Int):proj tK (sexec Tryz.prog (FtX.tellI [(20,12)]) 40 (tR6 Tryz.f34) [] (thd 22 57 99 n a (muL g) tot i))=some (tO n tot (g 12) i 12 [0≤(4:Int),Int.fdiv (nb n i) (2 ^ min (4:Int).toNat 8)=12],thd 22 57 99 n a (muL g) (stepV tot (g 12)) i):=by kernel_rfl
theorem t7_12 (n:Nat) (a:P4) (g:Nat→P4) (tot:P4) (i:Int):proj tK (sexec Tryz.prog (FtX.tellI [(29,12)]) 40 (tR7 Tryz.f34) [] (thd 22 57 99 n a (muL g) tot i))=some (tO n tot (g 12) i 12 [bits .and .u8 (nb n i) 15=12],thd 22 57 99 n a (muL g) (stepV tot (g 12)) i):=by kernel_rfl
theorem t6_13 (n:Nat) (a:P4) (g:Nat→P4) (tot:P4) (i:Int):proj tK (sexec Tryz.prog (FtX.tellI [(20,13)]) 40 (tR6 Tryz.f34) [] (thd 22 57 99 n a (muL g) tot i))=some (tO n tot (g 13) i 13 [0≤(4:Int),Int.fdiv (nb n i) (2 ^ min (4:Int).toNat 8)=13],thd 22 57 99 n a (muL g) (stepV tot (g 13)) i):=by kernel_rfl
theorem t7_13 (n:Nat) (a:P4) (g:Nat→P4) (tot:P4) (i:Int):proj tK (sexec Tryz.prog (FtX.tellI [(29,13)]) 40 (tR7 Tryz.f34) [] (thd 22 57 99 n a (muL g) tot i))=some (tO n tot (g 13) i 13 [bits .and .u8 (nb n i) 15=13],thd 22 57 99 n a (muL g) (stepV tot (g 13)) i):=by kernel_rfl
theorem t6_14 (n:Nat) (a:P4) (g:Nat→P4) (tot:P4) (i:Int):proj tK (sexec Tryz.prog (FtX.tellI [(20,14)]) 40 (tR6 Tryz.f34) [] (thd 22 57 99 n a (muL g) tot i))=some (tO n tot (g 14) i 14 [0≤(4:Int),Int.fdiv (nb n i) (2 ^ min (4:Int).toNat 8)=14],thd 22 57 99 n a (muL g) (stepV tot (g 14)) i):=by kernel_rfl
theorem t7_14 (n:Nat) (a:P4) (g:Nat→P4) (tot:P4) (i:Int):proj tK (sexec Tryz.prog (FtX.tellI [(29,14)]) 40 (tR7 Tryz.f34) [] (thd 22 57 99 n a (muL g) tot i))=some (tO n tot (g 14) i 14 [bits .and .u8 (nb n i) 15=14],thd 22 57 99 n a (muL g) (stepV tot (g 14)) i):=by kernel_rfl
theorem t6_15 (n:Nat) (a:P4) (g:Nat→P4) (tot:P4) (i:Int):proj tK (sexec Tryz.prog (FtX.tellI [(20,15)]) 40 (tR6 Tryz.f34) [] (thd 22 57 99 n a (muL g) tot i))=some (tO n tot (g 15) i 15 [0≤(4:Int),Int.fdiv (nb n i) (2 ^ min (4:Int).toNat 8)=15],thd 22 57 99 n a (muL g) (stepV tot (g 15)) i):=by kernel_rfl
theorem t7_15 (n:Nat) (a:P4) (g:Nat→P4) (tot:P4) (i:Int):proj tK (sexec Tryz.prog (FtX.tellI [(29,15)]) 40 (tR7 Tryz.f34) [] (thd 22 57 99 n a (muL g) tot i))=some (tO n tot (g 15) i 15 [bits .and .u8 (nb n i) 15=15],thd 22 57 99 n a (muL g) (stepV tot (g 15)) i):=by kernel_rfl
end Go.Proofs.YtlihbglpdkeppaaGreatDoor
