/- Package point: times, its runs. -/
import Derived.Test.YtmaehekekkfpmaaDoorPoiB
set_option linter.unusedSimpArgs false
set_option linter.unusedVariables false
namespace Go.Proofs.YtmaehekekkfpmaaDoor
open Go Go.RowKit
def thd (t22 t39 t66 n:Nat) (a:P4) (L:List Value) (tot:P4) (i:Int):Act × Mem :=
  (⟨#[poison,poison,.pointer (some ⟨np,0,none⟩),.pointer (some ⟨np+1,0,none⟩),.pointer (some ⟨np+2,0,none⟩),.pointer (some ⟨np+3,0,none⟩),.pointer (some ⟨np+4,0,none⟩),.int .i64 i] ++ Array.replicate 26 poison,[]⟩,
   M0 ++ [some ⟨bl n,t22⟩,some ⟨pcs a,t39⟩,some ⟨pcs ⟨0,0,0,0⟩,t39⟩,some ⟨L,t66⟩,some ⟨pcs tot,t39⟩])
def tF:List Nat:=[0,1] ++ (List.range 26).map (· + 8)
def tK (s:Act × Mem):Act × Mem:=(forgetL s.1 tF,s.2)
def tLB (fn:Func):Code:=cL (cL (cR (cL (cR (cR (cR (bodyOf fn)))))))
def tB1 (fn:Func):Code:=cL (cR (tLB fn))
def tR6 (fn:Func):Code:=cL (cL (tB1 fn))
def tR7 (fn:Func):Code:=cR (cL (tB1 fn))
def tR5 (fn:Func):Code:=cR (cR (tLB fn))
def tT (fn:Func):Code:=cR (cR (cR (cR (bodyOf fn))))
def FtX:Cx:=F4.terms
theorem FtX_ok:FtX.Ok Tryd.prog:=Cx.terms_ok F4_ok
def zeroC (P:Program) (t:Nat):List Value :=
  match P.info? t with
  | some i=>match i.zero with
    | some z=>z.cells.toList
    | none=>[]
  | none=>[]
theorem zeroC_len:(zeroC Tryd.prog 79).length=2048:=by kernel_rfl
def ts1 (P:Program) (fn:Func) (n:Nat) (a:P4):Act × Mem:=runS P F4 20 (cL (bodyOf fn)) (sinit fn [bv n,pv a],M0)
def ts2 (P:Program) (fn:Func) (n:Nat) (a:P4):Act × Mem:=runS P F4 20 (cL (cR (bodyOf fn))) (ts1 P fn n a)
def ts3 (P:Program) (fn:Func) (n:Nat) (a:P4):Act × Mem:=runS P F4 20 (cL (cR (cR (bodyOf fn)))) (ts2 P fn n a)
def ts4 (P:Program) (fn:Func) (n:Nat) (a:P4):Act × Mem:=runS P F4 20 (cL (cL (cR (cR (cR (bodyOf fn)))))) (ts3 P fn n a)
def fstS (r:Option (List Prop × Exit × Act × Mem)):Option (List Prop × Exit):=r.map fun q=>(q.1,q.2.1)
theorem of_fstS {P:Program} {X:Cx} {n:Nat} {c:Code} {s:Act × Mem} {ps:List Prop} {e:Exit} (h:fstS (sexec P X n c [] s)=some (ps,e)):sexec P X n c [] s=some (ps,e,runS P X n c s):=by
  unfold runS
  cases hs:sexec P X n c [] s with
  | none=>rw [hs] at h;cases h
  | some q =>
    obtain ⟨a,b,c⟩:=q
    rw [hs] at h
    simp only [fstS,Option.map_some,Option.some.injEq,Prod.mk.injEq] at h
    obtain ⟨rfl,rfl⟩:=h
    rfl
theorem t_1 (n:Nat) (a:P4):fstS (sexec Tryd.prog F4 20 (cL (bodyOf Tryd.f22)) [] (sinit Tryd.f22 [bv n,pv a],M0))=some ([],.normal):=by kernel_rfl
theorem t_2 (n:Nat) (a:P4):fstS (sexec Tryd.prog F4 20 (cL (cR (bodyOf Tryd.f22))) [] (ts1 Tryd.prog Tryd.f22 n a))=some ([IsP (pv a)],.normal):=by kernel_rfl
theorem t_3 (n:Nat) (a:P4):fstS (sexec Tryd.prog F4 20 (cL (cR (cR (bodyOf Tryd.f22)))) [] (ts2 Tryd.prog Tryd.f22 n a))=some ([],.normal):=by kernel_rfl
theorem t_4 (n:Nat) (a:P4):fstS (sexec Tryd.prog F4 20 (cL (cL (cR (cR (cR (bodyOf Tryd.f22)))))) [] (ts3 Tryd.prog Tryd.f22 n a))=some ([],.normal):=by kernel_rfl
theorem t_h (n:Nat) (a:P4):tK (ts4 Tryd.prog Tryd.f22 n a)=thd 26 52 79 n a (putL (zeroC Tryd.prog 79) 0 (muL (muN (p4 (pv a))))) neuN 31:=by kernel_rfl
theorem t_go (n:Nat) (a:P4) (g:Nat→P4) (tot:P4) (i:Int):proj tK (sexec Tryd.prog (FtX.tell [(12,true)]) 40 (cL (tLB Tryd.f22)) [] (thd 26 52 79 n a (muL g) tot i))=some ([decide (i≥0)=true],thd 26 52 79 n a (muL g) tot i):=by kernel_rfl
theorem t_5 (n:Nat) (a:P4) (g:Nat→P4) (tot:P4) (i:Int):proj tK (sexec Tryd.prog F4 40 (tR5 Tryd.f22) [] (thd 26 52 79 n a (muL g) tot i))=some ([],thd 26 52 79 n a (muL g) tot (IntKind.i64.wrap (i - 1))):=by kernel_rfl
def tX (P:Program) (fn:Func) (t22 t39 t66 n:Nat) (a:P4) (g:Nat→P4) (tot:P4) (i:Int):Act × Mem:=runS P (FtX.tell [(12,false)]) 40 (cL (tLB fn)) (thd t22 t39 t66 n a (muL g) tot i)
theorem t_x (n:Nat) (a:P4) (g:Nat→P4) (tot:P4) (i:Int):fstS (sexec Tryd.prog (FtX.tell [(12,false)]) 40 (cL (tLB Tryd.f22)) [] (thd 26 52 79 n a (muL g) tot i))=some ([decide (i≥0)=false],.exit 0):=by kernel_rfl
theorem t_z (n:Nat) (a:P4) (g:Nat→P4) (tot:P4) (i:Int):fstS (sexec Tryd.prog F4 40 (tT Tryd.f22) [] (tX Tryd.prog Tryd.f22 26 52 79 n a g tot i))=some ([],.ret):=by kernel_rfl
theorem t_r (n:Nat) (a:P4) (g:Nat→P4) (tot:P4) (i:Int):sres Tryd.prog Tryd.f22 (runS Tryd.prog F4 40 (tT Tryd.f22) (tX Tryd.prog Tryd.f22 26 52 79 n a g tot i))=some (pv tot):=by kernel_rfl
theorem t_d (n:Nat) (a:P4) (g:Nat→P4) (tot:P4) (i:Int):(runS Tryd.prog F4 40 (tT Tryd.f22) (tX Tryd.prog Tryd.f22 26 52 79 n a g tot i)).1.defers = []:=by kernel_rfl
theorem t_m (n:Nat) (a:P4) (g:Nat→P4) (tot:P4) (i:Int):gHas M0 (runS Tryd.prog F4 40 (tT Tryd.f22) (tX Tryd.prog Tryd.f22 26 52 79 n a g tot i)).2=true:=by kernel_rfl
def nb (n:Nat) (i:Int):Int:=intL (bl n) (0+i.toNat*1)
def stepV (tot q:P4):P4:=sumN (p4 (pv (sixN (p4 (pv tot))))) (p4 (pv q))
def tO (n:Nat) (tot q:P4) (i:Int) (d:Int) (x:List Prop):List Prop :=
  [IsP (pv tot),0≤i∧i<((32:Nat):Int),(bl n)[0+i.toNat*1]? = some (.int .u8 (nb n i))] ++ x ++ [0≤d∧d<((16:Nat):Int),IsP (pv (sixN (p4 (pv tot))))∧IsP (pv q)]
theorem t6_0 (n:Nat) (a:P4) (g:Nat→P4) (tot:P4) (i:Int):proj tK (sexec Tryd.prog (FtX.tellI [(20,0)]) 40 (tR6 Tryd.f22) [] (thd 26 52 79 n a (muL g) tot i))=some (tO n tot (g 0) i 0 [0≤(4:Int),Int.fdiv (nb n i) (2 ^ min (4:Int).toNat 8)=0],thd 26 52 79 n a (muL g) (stepV tot (g 0)) i):=by kernel_rfl
theorem t7_0 (n:Nat) (a:P4) (g:Nat→P4) (tot:P4) (i:Int):proj tK (sexec Tryd.prog (FtX.tellI [(29,0)]) 40 (tR7 Tryd.f22) [] (thd 26 52 79 n a (muL g) tot i))=some (tO n tot (g 0) i 0 [bits .and .u8 (nb n i) 15=0],thd 26 52 79 n a (muL g) (stepV tot (g 0)) i):=by kernel_rfl
theorem t6_1 (n:Nat) (a:P4) (g:Nat→P4) (tot:P4) (i:Int):proj tK (sexec Tryd.prog (FtX.tellI [(20,1)]) 40 (tR6 Tryd.f22) [] (thd 26 52 79 n a (muL g) tot i))=some (tO n tot (g 1) i 1 [0≤(4:Int),Int.fdiv (nb n i) (2 ^ min (4:Int).toNat 8)=1],thd 26 52 79 n a (muL g) (stepV tot (g 1)) i):=by kernel_rfl
theorem t7_1 (n:Nat) (a:P4) (g:Nat→P4) (tot:P4) (i:Int):proj tK (sexec Tryd.prog (FtX.tellI [(29,1)]) 40 (tR7 Tryd.f22) [] (thd 26 52 79 n a (muL g) tot i))=some (tO n tot (g 1) i 1 [bits .and .u8 (nb n i) 15=1],thd 26 52 79 n a (muL g) (stepV tot (g 1)) i):=by kernel_rfl
theorem t6_2 (n:Nat) (a:P4) (g:Nat→P4) (tot:P4) (i:Int):proj tK (sexec Tryd.prog (FtX.tellI [(20,2)]) 40 (tR6 Tryd.f22) [] (thd 26 52 79 n a (muL g) tot i))=some (tO n tot (g 2) i 2 [0≤(4:Int),Int.fdiv (nb n i) (2 ^ min (4:Int).toNat 8)=2],thd 26 52 79 n a (muL g) (stepV tot (g 2)) i):=by kernel_rfl
theorem t7_2 (n:Nat) (a:P4) (g:Nat→P4) (tot:P4) (i:Int):proj tK (sexec Tryd.prog (FtX.tellI [(29,2)]) 40 (tR7 Tryd.f22) [] (thd 26 52 79 n a (muL g) tot i))=some (tO n tot (g 2) i 2 [bits .and .u8 (nb n i) 15=2],thd 26 52 79 n a (muL g) (stepV tot (g 2)) i):=by kernel_rfl
theorem t6_3 (n:Nat) (a:P4) (g:Nat→P4) (tot:P4) (i:Int):proj tK (sexec Tryd.prog (FtX.tellI [(20,3)]) 40 (tR6 Tryd.f22) [] (thd 26 52 79 n a (muL g) tot i))=some (tO n tot (g 3) i 3 [0≤(4:Int),Int.fdiv (nb n i) (2 ^ min (4:Int).toNat 8)=3],thd 26 52 79 n a (muL g) (stepV tot (g 3)) i):=by kernel_rfl
theorem t7_3 (n:Nat) (a:P4) (g:Nat→P4) (tot:P4) (i:Int):proj tK (sexec Tryd.prog (FtX.tellI [(29,3)]) 40 (tR7 Tryd.f22) [] (thd 26 52 79 n a (muL g) tot i))=some (tO n tot (g 3) i 3 [bits .and .u8 (nb n i) 15=3],thd 26 52 79 n a (muL g) (stepV tot (g 3)) i):=by kernel_rfl
theorem t6_4 (n:Nat) (a:P4) (g:Nat→P4) (tot:P4) (i:Int):proj tK (sexec Tryd.prog (FtX.tellI [(20,4)]) 40 (tR6 Tryd.f22) [] (thd 26 52 79 n a (muL g) tot i))=some (tO n tot (g 4) i 4 [0≤(4:Int),Int.fdiv (nb n i) (2 ^ min (4:Int).toNat 8)=4],thd 26 52 79 n a (muL g) (stepV tot (g 4)) i):=by kernel_rfl
theorem t7_4 (n:Nat) (a:P4) (g:Nat→P4) (tot:P4) (i:Int):proj tK (sexec Tryd.prog (FtX.tellI [(29,4)]) 40 (tR7 Tryd.f22) [] (thd 26 52 79 n a (muL g) tot i))=some (tO n tot (g 4) i 4 [bits .and .u8 (nb n i) 15=4],thd 26 52 79 n a (muL g) (stepV tot (g 4)) i):=by kernel_rfl
theorem t6_5 (n:Nat) (a:P4) (g:Nat→P4) (tot:P4) (i:Int):proj tK (sexec Tryd.prog (FtX.tellI [(20,5)]) 40 (tR6 Tryd.f22) [] (thd 26 52 79 n a (muL g) tot i))=some (tO n tot (g 5) i 5 [0≤(4:Int),Int.fdiv (nb n i) (2 ^ min (4:Int).toNat 8)=5],thd 26 52 79 n a (muL g) (stepV tot (g 5)) i):=by kernel_rfl
theorem t7_5 (n:Nat) (a:P4) (g:Nat→P4) (tot:P4) (i:Int):proj tK (sexec Tryd.prog (FtX.tellI [(29,5)]) 40 (tR7 Tryd.f22) [] (thd 26 52 79 n a (muL g) tot i))=some (tO n tot (g 5) i 5 [bits .and .u8 (nb n i) 15=5],thd 26 52 79 n a (muL g) (stepV tot (g 5)) i):=by kernel_rfl
theorem t6_6 (n:Nat) (a:P4) (g:Nat→P4) (tot:P4) (i:Int):proj tK (sexec Tryd.prog (FtX.tellI [(20,6)]) 40 (tR6 Tryd.f22) [] (thd 26 52 79 n a (muL g) tot i))=some (tO n tot (g 6) i 6 [0≤(4:Int),Int.fdiv (nb n i) (2 ^ min (4:Int).toNat 8)=6],thd 26 52 79 n a (muL g) (stepV tot (g 6)) i):=by kernel_rfl
theorem t7_6 (n:Nat) (a:P4) (g:Nat→P4) (tot:P4) (i:Int):proj tK (sexec Tryd.prog (FtX.tellI [(29,6)]) 40 (tR7 Tryd.f22) [] (thd 26 52 79 n a (muL g) tot i))=some (tO n tot (g 6) i 6 [bits .and .u8 (nb n i) 15=6],thd 26 52 79 n a (muL g) (stepV tot (g 6)) i):=by kernel_rfl
theorem t6_7 (n:Nat) (a:P4) (g:Nat→P4) (tot:P4) (i:Int):proj tK (sexec Tryd.prog (FtX.tellI [(20,7)]) 40 (tR6 Tryd.f22) [] (thd 26 52 79 n a (muL g) tot i))=some (tO n tot (g 7) i 7 [0≤(4:Int),Int.fdiv (nb n i) (2 ^ min (4:Int).toNat 8)=7],thd 26 52 79 n a (muL g) (stepV tot (g 7)) i):=by kernel_rfl
theorem t7_7 (n:Nat) (a:P4) (g:Nat→P4) (tot:P4) (i:Int):proj tK (sexec Tryd.prog (FtX.tellI [(29,7)]) 40 (tR7 Tryd.f22) [] (thd 26 52 79 n a (muL g) tot i))=some (tO n tot (g 7) i 7 [bits .and .u8 (nb n i) 15=7],thd 26 52 79 n a (muL g) (stepV tot (g 7)) i):=by kernel_rfl
theorem t6_8 (n:Nat) (a:P4) (g:Nat→P4) (tot:P4) (i:Int):proj tK (sexec Tryd.prog (FtX.tellI [(20,8)]) 40 (tR6 Tryd.f22) [] (thd 26 52 79 n a (muL g) tot i))=some (tO n tot (g 8) i 8 [0≤(4:Int),Int.fdiv (nb n i) (2 ^ min (4:Int).toNat 8)=8],thd 26 52 79 n a (muL g) (stepV tot (g 8)) i):=by kernel_rfl
theorem t7_8 (n:Nat) (a:P4) (g:Nat→P4) (tot:P4) (i:Int):proj tK (sexec Tryd.prog (FtX.tellI [(29,8)]) 40 (tR7 Tryd.f22) [] (thd 26 52 79 n a (muL g) tot i))=some (tO n tot (g 8) i 8 [bits .and .u8 (nb n i) 15=8],thd 26 52 79 n a (muL g) (stepV tot (g 8)) i):=by kernel_rfl
theorem t6_9 (n:Nat) (a:P4) (g:Nat→P4) (tot:P4) (i:Int):proj tK (sexec Tryd.prog (FtX.tellI [(20,9)]) 40 (tR6 Tryd.f22) [] (thd 26 52 79 n a (muL g) tot i))=some (tO n tot (g 9) i 9 [0≤(4:Int),Int.fdiv (nb n i) (2 ^ min (4:Int).toNat 8)=9],thd 26 52 79 n a (muL g) (stepV tot (g 9)) i):=by kernel_rfl
theorem t7_9 (n:Nat) (a:P4) (g:Nat→P4) (tot:P4) (i:Int):proj tK (sexec Tryd.prog (FtX.tellI [(29,9)]) 40 (tR7 Tryd.f22) [] (thd 26 52 79 n a (muL g) tot i))=some (tO n tot (g 9) i 9 [bits .and .u8 (nb n i) 15=9],thd 26 52 79 n a (muL g) (stepV tot (g 9)) i):=by kernel_rfl
theorem t6_10 (n:Nat) (a:P4) (g:Nat→P4) (tot:P4) (i:Int):proj tK (sexec Tryd.prog (FtX.tellI [(20,10)]) 40 (tR6 Tryd.f22) [] (thd 26 52 79 n a (muL g) tot i))=some (tO n tot (g 10) i 10 [0≤(4:Int),Int.fdiv (nb n i) (2 ^ min (4:Int).toNat 8)=10],thd 26 52 79 n a (muL g) (stepV tot (g 10)) i):=by kernel_rfl
theorem t7_10 (n:Nat) (a:P4) (g:Nat→P4) (tot:P4) (i:Int):proj tK (sexec Tryd.prog (FtX.tellI [(29,10)]) 40 (tR7 Tryd.f22) [] (thd 26 52 79 n a (muL g) tot i))=some (tO n tot (g 10) i 10 [bits .and .u8 (nb n i) 15=10],thd 26 52 79 n a (muL g) (stepV tot (g 10)) i):=by kernel_rfl
theorem t6_11 (n:Nat) (a:P4) (g:Nat→P4) (tot:P4) (i:Int):proj tK (sexec Tryd.prog (FtX.tellI [(20,11)]) 40 (tR6 Tryd.f22) [] (thd 26 52 79 n a (muL g) tot i))=some (tO n tot (g 11) i 11 [0≤(4:Int),Int.fdiv (nb n i) (2 ^ min (4:Int).toNat 8)=11],thd 26 52 79 n a (muL g) (stepV tot (g 11)) i):=by kernel_rfl
theorem t7_11 (n:Nat) (a:P4) (g:Nat→P4) (tot:P4) (i:Int):proj tK (sexec Tryd.prog (FtX.tellI [(29,11)]) 40 (tR7 Tryd.f22) [] (thd 26 52 79 n a (muL g) tot i))=some (tO n tot (g 11) i 11 [bits .and .u8 (nb n i) 15=11],thd 26 52 79 n a (muL g) (stepV tot (g 11)) i):=by kernel_rfl
theorem t6_12 (n:Nat) (a:P4) (g:Nat→P4) (tot:P4) (i:Int):proj tK (sexec Tryd.prog (FtX.tellI [(20,12)]) 40 (tR6 Tryd.f22) [] (thd 26 52 79 n a (muL g) tot i))=some (tO n tot (g 12) i 12 [0≤(4:Int),Int.fdiv (nb n i) (2 ^ min (4:Int).toNat 8)=12],thd 26 52 79 n a (muL g) (stepV tot (g 12)) i):=by kernel_rfl
theorem t7_12 (n:Nat) (a:P4) (g:Nat→P4) (tot:P4) (i:Int):proj tK (sexec Tryd.prog (FtX.tellI [(29,12)]) 40 (tR7 Tryd.f22) [] (thd 26 52 79 n a (muL g) tot i))=some (tO n tot (g 12) i 12 [bits .and .u8 (nb n i) 15=12],thd 26 52 79 n a (muL g) (stepV tot (g 12)) i):=by kernel_rfl
theorem t6_13 (n:Nat) (a:P4) (g:Nat→P4) (tot:P4) (i:Int):proj tK (sexec Tryd.prog (FtX.tellI [(20,13)]) 40 (tR6 Tryd.f22) [] (thd 26 52 79 n a (muL g) tot i))=some (tO n tot (g 13) i 13 [0≤(4:Int),Int.fdiv (nb n i) (2 ^ min (4:Int).toNat 8)=13],thd 26 52 79 n a (muL g) (stepV tot (g 13)) i):=by kernel_rfl
theorem t7_13 (n:Nat) (a:P4) (g:Nat→P4) (tot:P4) (i:Int):proj tK (sexec Tryd.prog (FtX.tellI [(29,13)]) 40 (tR7 Tryd.f22) [] (thd 26 52 79 n a (muL g) tot i))=some (tO n tot (g 13) i 13 [bits .and .u8 (nb n i) 15=13],thd 26 52 79 n a (muL g) (stepV tot (g 13)) i):=by kernel_rfl
theorem t6_14 (n:Nat) (a:P4) (g:Nat→P4) (tot:P4) (i:Int):proj tK (sexec Tryd.prog (FtX.tellI [(20,14)]) 40 (tR6 Tryd.f22) [] (thd 26 52 79 n a (muL g) tot i))=some (tO n tot (g 14) i 14 [0≤(4:Int),Int.fdiv (nb n i) (2 ^ min (4:Int).toNat 8)=14],thd 26 52 79 n a (muL g) (stepV tot (g 14)) i):=by kernel_rfl
theorem t7_14 (n:Nat) (a:P4) (g:Nat→P4) (tot:P4) (i:Int):proj tK (sexec Tryd.prog (FtX.tellI [(29,14)]) 40 (tR7 Tryd.f22) [] (thd 26 52 79 n a (muL g) tot i))=some (tO n tot (g 14) i 14 [bits .and .u8 (nb n i) 15=14],thd 26 52 79 n a (muL g) (stepV tot (g 14)) i):=by kernel_rfl
theorem t6_15 (n:Nat) (a:P4) (g:Nat→P4) (tot:P4) (i:Int):proj tK (sexec Tryd.prog (FtX.tellI [(20,15)]) 40 (tR6 Tryd.f22) [] (thd 26 52 79 n a (muL g) tot i))=some (tO n tot (g 15) i 15 [0≤(4:Int),Int.fdiv (nb n i) (2 ^ min (4:Int).toNat 8)=15],thd 26 52 79 n a (muL g) (stepV tot (g 15)) i):=by kernel_rfl
theorem t7_15 (n:Nat) (a:P4) (g:Nat→P4) (tot:P4) (i:Int):proj tK (sexec Tryd.prog (FtX.tellI [(29,15)]) 40 (tR7 Tryd.f22) [] (thd 26 52 79 n a (muL g) tot i))=some (tO n tot (g 15) i 15 [bits .and .u8 (nb n i) 15=15],thd 26 52 79 n a (muL g) (stepV tot (g 15)) i):=by kernel_rfl
end Go.Proofs.YtmaehekekkfpmaaDoor
