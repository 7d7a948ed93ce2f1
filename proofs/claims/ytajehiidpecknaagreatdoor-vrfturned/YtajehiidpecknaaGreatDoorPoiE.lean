import Derived.Test.YtajehiidpecknaaGreatDoorPoiB
set_option linter.all false
namespace Go.Proofs.YtajehiidpecknaaGreatDoor
open Go Go.RowKit
def thd (t22 t39 t66 n:Nat) (a:P4) (L:List Value) (tot:P4) (i:Int):Act × Mem :=
 (⟨#[cT,cT,.pointer (some ⟨np,0,none⟩),.pointer (some ⟨np+1,0,none⟩),.pointer (some ⟨np+2,0,none⟩),.pointer (some ⟨np+3,0,none⟩),.pointer (some ⟨np+4,0,none⟩),.int .i64 i] ++ Array.replicate 26 cT,[]⟩,
  M0 ++ [some ⟨bl n,t22⟩,some ⟨pcs a,t39⟩,some ⟨pcs ⟨0,0,0,0⟩,t39⟩,some ⟨L,t66⟩,some ⟨pcs tot,t39⟩])
def tF:List Nat:=[0,1] ++ (List.range 26).map (· + 8)
def tK (s:Act × Mem):Act × Mem:=(forgetL s.1 tF,s.2)
def tLB (fn:Func):Code:=cL (cL (cR (cL (cR (cR (cR (ag fn)))))))
def tB1 (fn:Func):Code:=cL (cR (tLB fn))
def tR6 (fn:Func):Code:=cL (cL (tB1 fn))
def tR7 (fn:Func):Code:=cR (cL (tB1 fn))
def tR5 (fn:Func):Code:=cR (cR (tLB fn))
def tT (fn:Func):Code:=cR (cR (cR (cR (ag fn))))
def FtX:Cx:=F4.terms
theorem tq:FtX.Ok Tryz.prog:=Cx.terms_ok iI
def CQ (P:Program) (t:Nat):List Value :=
 match P.info? t with
 | some i=>match i.zero with
  | some z=>z.cells.toList
  | none=>[]
 | none=>[]
theorem Bb:(CQ Tryz.prog 122).length=2048:=by kernel_rfl
def ts1 (P:Program) (fn:Func) (n:Nat) (a:P4):Act × Mem:=cQ P F4 20 (cL (ag fn)) (bS fn [bv n,pv a],M0)
def ts2 (P:Program) (fn:Func) (n:Nat) (a:P4):Act × Mem:=cQ P F4 20 (cL (cR (ag fn))) (ts1 P fn n a)
def ts3 (P:Program) (fn:Func) (n:Nat) (a:P4):Act × Mem:=cQ P F4 20 (cL (cR (cR (ag fn)))) (ts2 P fn n a)
def ts4 (P:Program) (fn:Func) (n:Nat) (a:P4):Act × Mem:=cQ P F4 20 (cL (cL (cR (cR (cR (ag fn)))))) (ts3 P fn n a)
def kR (r:Option (List Prop × Exit × Act × Mem)):Option (List Prop × Exit):=r.map fun q=>(q.1,q.2.1)
theorem dG {P:Program} {X:Cx} {n:Nat} {c:Code} {s:Act × Mem} {ps:List Prop} {e:Exit} (h:kR (sexec P X n c [] s)=some (ps,e)):sexec P X n c [] s=some (ps,e,cQ P X n c s):=by
 unfold cQ
 cases hs:sexec P X n c [] s with
 | none=>rw [hs] at h;cases h
 | some q =>
  obtain ⟨a,b,c⟩:=q
  rw [hs] at h
  simp only [kR,YO,qG,qH] at h
  obtain ⟨rfl,rfl⟩:=h
  rfl
theorem t_1 (n:Nat) (a:P4):kR (sexec Tryz.prog F4 20 (cL (ag Tryz.f52)) [] (bS Tryz.f52 [bv n,pv a],M0))=some ([],.normal):=by kernel_rfl
theorem t_2 (n:Nat) (a:P4):kR (sexec Tryz.prog F4 20 (cL (cR (ag Tryz.f52))) [] (ts1 Tryz.prog Tryz.f52 n a))=some ([IsP (pv a)],.normal):=by kernel_rfl
theorem t_3 (n:Nat) (a:P4):kR (sexec Tryz.prog F4 20 (cL (cR (cR (ag Tryz.f52)))) [] (ts2 Tryz.prog Tryz.f52 n a))=some ([],.normal):=by kernel_rfl
theorem t_4 (n:Nat) (a:P4):kR (sexec Tryz.prog F4 20 (cL (cL (cR (cR (cR (ag Tryz.f52)))))) [] (ts3 Tryz.prog Tryz.f52 n a))=some ([],.normal):=by kernel_rfl
theorem t_h (n:Nat) (a:P4):tK (ts4 Tryz.prog Tryz.f52 n a)=thd 22 79 122 n a (pJ (CQ Tryz.prog 122) 0 (muL (muN (p4 (pv a))))) iC 31:=by kernel_rfl
theorem OS (n:Nat) (a:P4) (g:Nat→P4) (tot:P4) (i:Int):proj tK (sexec Tryz.prog (FtX.tell [(12,true)]) 40 (cL (tLB Tryz.f52)) [] (thd 22 79 122 n a (muL g) tot i))=some ([decide (i≥0)=true],thd 22 79 122 n a (muL g) tot i):=by kernel_rfl
theorem t_5 (n:Nat) (a:P4) (g:Nat→P4) (tot:P4) (i:Int):proj tK (sexec Tryz.prog F4 40 (tR5 Tryz.f52) [] (thd 22 79 122 n a (muL g) tot i))=some ([],thd 22 79 122 n a (muL g) tot (IntKind.i64.wrap (i - 1))):=by kernel_rfl
def tX (P:Program) (fn:Func) (t22 t39 t66 n:Nat) (a:P4) (g:Nat→P4) (tot:P4) (i:Int):Act × Mem:=cQ P (FtX.tell [(12,false)]) 40 (cL (tLB fn)) (thd t22 t39 t66 n a (muL g) tot i)
theorem t_x (n:Nat) (a:P4) (g:Nat→P4) (tot:P4) (i:Int):kR (sexec Tryz.prog (FtX.tell [(12,false)]) 40 (cL (tLB Tryz.f52)) [] (thd 22 79 122 n a (muL g) tot i))=some ([decide (i≥0)=false],.exit 0):=by kernel_rfl
theorem t_z (n:Nat) (a:P4) (g:Nat→P4) (tot:P4) (i:Int):kR (sexec Tryz.prog F4 40 (tT Tryz.f52) [] (tX Tryz.prog Tryz.f52 22 79 122 n a g tot i))=some ([],.ret):=by kernel_rfl
theorem t_r (n:Nat) (a:P4) (g:Nat→P4) (tot:P4) (i:Int):sres Tryz.prog Tryz.f52 (cQ Tryz.prog F4 40 (tT Tryz.f52) (tX Tryz.prog Tryz.f52 22 79 122 n a g tot i))=some (pv tot):=by kernel_rfl
theorem t_d (n:Nat) (a:P4) (g:Nat→P4) (tot:P4) (i:Int):(cQ Tryz.prog F4 40 (tT Tryz.f52) (tX Tryz.prog Tryz.f52 22 79 122 n a g tot i)).1.defers = []:=by kernel_rfl
theorem t_m (n:Nat) (a:P4) (g:Nat→P4) (tot:P4) (i:Int):mw M0 (cQ Tryz.prog F4 40 (tT Tryz.f52) (tX Tryz.prog Tryz.f52 22 79 122 n a g tot i)).2=true:=by kernel_rfl
def nb (n:Nat) (i:Int):Int:=j8 (bl n) (0+i.toNat*1)
def bJ (tot q:P4):P4:=jS (p4 (pv (xM (p4 (pv tot))))) (p4 (pv q))
def tO (n:Nat) (tot q:P4) (i:Int) (d:Int) (x:List Prop):List Prop :=
 [IsP (pv tot),0≤i∧i<((32:Nat):Int),(bl n)[0+i.toNat*1]? = some (.int .u8 (nb n i))] ++ x ++ [0≤d∧d<((16:Nat):Int),IsP (pv (xM (p4 (pv tot))))∧IsP (pv q)]
theorem PL (n:Nat) (a:P4) (g:Nat→P4) (tot:P4) (i:Int):proj tK (sexec Tryz.prog (FtX.tellI [(20,0)]) 40 (tR6 Tryz.f52) [] (thd 22 79 122 n a (muL g) tot i))=some (tO n tot (g 0) i 0 [0≤(4:Int),Int.fdiv (nb n i) (2 ^ min (4:Int).toNat 8)=0],thd 22 79 122 n a (muL g) (bJ tot (g 0)) i):=by kernel_rfl
theorem OG (n:Nat) (a:P4) (g:Nat→P4) (tot:P4) (i:Int):proj tK (sexec Tryz.prog (FtX.tellI [(29,0)]) 40 (tR7 Tryz.f52) [] (thd 22 79 122 n a (muL g) tot i))=some (tO n tot (g 0) i 0 [bits .and .u8 (nb n i) 15=0],thd 22 79 122 n a (muL g) (bJ tot (g 0)) i):=by kernel_rfl
theorem O7 (n:Nat) (a:P4) (g:Nat→P4) (tot:P4) (i:Int):proj tK (sexec Tryz.prog (FtX.tellI [(20,1)]) 40 (tR6 Tryz.f52) [] (thd 22 79 122 n a (muL g) tot i))=some (tO n tot (g 1) i 1 [0≤(4:Int),Int.fdiv (nb n i) (2 ^ min (4:Int).toNat 8)=1],thd 22 79 122 n a (muL g) (bJ tot (g 1)) i):=by kernel_rfl
theorem Pc (n:Nat) (a:P4) (g:Nat→P4) (tot:P4) (i:Int):proj tK (sexec Tryz.prog (FtX.tellI [(29,1)]) 40 (tR7 Tryz.f52) [] (thd 22 79 122 n a (muL g) tot i))=some (tO n tot (g 1) i 1 [bits .and .u8 (nb n i) 15=1],thd 22 79 122 n a (muL g) (bJ tot (g 1)) i):=by kernel_rfl
theorem Pp (n:Nat) (a:P4) (g:Nat→P4) (tot:P4) (i:Int):proj tK (sexec Tryz.prog (FtX.tellI [(20,2)]) 40 (tR6 Tryz.f52) [] (thd 22 79 122 n a (muL g) tot i))=some (tO n tot (g 2) i 2 [0≤(4:Int),Int.fdiv (nb n i) (2 ^ min (4:Int).toNat 8)=2],thd 22 79 122 n a (muL g) (bJ tot (g 2)) i):=by kernel_rfl
theorem PR (n:Nat) (a:P4) (g:Nat→P4) (tot:P4) (i:Int):proj tK (sexec Tryz.prog (FtX.tellI [(29,2)]) 40 (tR7 Tryz.f52) [] (thd 22 79 122 n a (muL g) tot i))=some (tO n tot (g 2) i 2 [bits .and .u8 (nb n i) 15=2],thd 22 79 122 n a (muL g) (bJ tot (g 2)) i):=by kernel_rfl
theorem Pn (n:Nat) (a:P4) (g:Nat→P4) (tot:P4) (i:Int):proj tK (sexec Tryz.prog (FtX.tellI [(20,3)]) 40 (tR6 Tryz.f52) [] (thd 22 79 122 n a (muL g) tot i))=some (tO n tot (g 3) i 3 [0≤(4:Int),Int.fdiv (nb n i) (2 ^ min (4:Int).toNat 8)=3],thd 22 79 122 n a (muL g) (bJ tot (g 3)) i):=by kernel_rfl
theorem Qk (n:Nat) (a:P4) (g:Nat→P4) (tot:P4) (i:Int):proj tK (sexec Tryz.prog (FtX.tellI [(29,3)]) 40 (tR7 Tryz.f52) [] (thd 22 79 122 n a (muL g) tot i))=some (tO n tot (g 3) i 3 [bits .and .u8 (nb n i) 15=3],thd 22 79 122 n a (muL g) (bJ tot (g 3)) i):=by kernel_rfl
theorem PF (n:Nat) (a:P4) (g:Nat→P4) (tot:P4) (i:Int):proj tK (sexec Tryz.prog (FtX.tellI [(20,4)]) 40 (tR6 Tryz.f52) [] (thd 22 79 122 n a (muL g) tot i))=some (tO n tot (g 4) i 4 [0≤(4:Int),Int.fdiv (nb n i) (2 ^ min (4:Int).toNat 8)=4],thd 22 79 122 n a (muL g) (bJ tot (g 4)) i):=by kernel_rfl
theorem OC (n:Nat) (a:P4) (g:Nat→P4) (tot:P4) (i:Int):proj tK (sexec Tryz.prog (FtX.tellI [(29,4)]) 40 (tR7 Tryz.f52) [] (thd 22 79 122 n a (muL g) tot i))=some (tO n tot (g 4) i 4 [bits .and .u8 (nb n i) 15=4],thd 22 79 122 n a (muL g) (bJ tot (g 4)) i):=by kernel_rfl
theorem Oz (n:Nat) (a:P4) (g:Nat→P4) (tot:P4) (i:Int):proj tK (sexec Tryz.prog (FtX.tellI [(20,5)]) 40 (tR6 Tryz.f52) [] (thd 22 79 122 n a (muL g) tot i))=some (tO n tot (g 5) i 5 [0≤(4:Int),Int.fdiv (nb n i) (2 ^ min (4:Int).toNat 8)=5],thd 22 79 122 n a (muL g) (bJ tot (g 5)) i):=by kernel_rfl
theorem OB (n:Nat) (a:P4) (g:Nat→P4) (tot:P4) (i:Int):proj tK (sexec Tryz.prog (FtX.tellI [(29,5)]) 40 (tR7 Tryz.f52) [] (thd 22 79 122 n a (muL g) tot i))=some (tO n tot (g 5) i 5 [bits .and .u8 (nb n i) 15=5],thd 22 79 122 n a (muL g) (bJ tot (g 5)) i):=by kernel_rfl
theorem Pu (n:Nat) (a:P4) (g:Nat→P4) (tot:P4) (i:Int):proj tK (sexec Tryz.prog (FtX.tellI [(20,6)]) 40 (tR6 Tryz.f52) [] (thd 22 79 122 n a (muL g) tot i))=some (tO n tot (g 6) i 6 [0≤(4:Int),Int.fdiv (nb n i) (2 ^ min (4:Int).toNat 8)=6],thd 22 79 122 n a (muL g) (bJ tot (g 6)) i):=by kernel_rfl
theorem OW (n:Nat) (a:P4) (g:Nat→P4) (tot:P4) (i:Int):proj tK (sexec Tryz.prog (FtX.tellI [(29,6)]) 40 (tR7 Tryz.f52) [] (thd 22 79 122 n a (muL g) tot i))=some (tO n tot (g 6) i 6 [bits .and .u8 (nb n i) 15=6],thd 22 79 122 n a (muL g) (bJ tot (g 6)) i):=by kernel_rfl
theorem Qe (n:Nat) (a:P4) (g:Nat→P4) (tot:P4) (i:Int):proj tK (sexec Tryz.prog (FtX.tellI [(20,7)]) 40 (tR6 Tryz.f52) [] (thd 22 79 122 n a (muL g) tot i))=some (tO n tot (g 7) i 7 [0≤(4:Int),Int.fdiv (nb n i) (2 ^ min (4:Int).toNat 8)=7],thd 22 79 122 n a (muL g) (bJ tot (g 7)) i):=by kernel_rfl
theorem Pr (n:Nat) (a:P4) (g:Nat→P4) (tot:P4) (i:Int):proj tK (sexec Tryz.prog (FtX.tellI [(29,7)]) 40 (tR7 Tryz.f52) [] (thd 22 79 122 n a (muL g) tot i))=some (tO n tot (g 7) i 7 [bits .and .u8 (nb n i) 15=7],thd 22 79 122 n a (muL g) (bJ tot (g 7)) i):=by kernel_rfl
theorem OA (n:Nat) (a:P4) (g:Nat→P4) (tot:P4) (i:Int):proj tK (sexec Tryz.prog (FtX.tellI [(20,8)]) 40 (tR6 Tryz.f52) [] (thd 22 79 122 n a (muL g) tot i))=some (tO n tot (g 8) i 8 [0≤(4:Int),Int.fdiv (nb n i) (2 ^ min (4:Int).toNat 8)=8],thd 22 79 122 n a (muL g) (bJ tot (g 8)) i):=by kernel_rfl
theorem Qg (n:Nat) (a:P4) (g:Nat→P4) (tot:P4) (i:Int):proj tK (sexec Tryz.prog (FtX.tellI [(29,8)]) 40 (tR7 Tryz.f52) [] (thd 22 79 122 n a (muL g) tot i))=some (tO n tot (g 8) i 8 [bits .and .u8 (nb n i) 15=8],thd 22 79 122 n a (muL g) (bJ tot (g 8)) i):=by kernel_rfl
theorem PX (n:Nat) (a:P4) (g:Nat→P4) (tot:P4) (i:Int):proj tK (sexec Tryz.prog (FtX.tellI [(20,9)]) 40 (tR6 Tryz.f52) [] (thd 22 79 122 n a (muL g) tot i))=some (tO n tot (g 9) i 9 [0≤(4:Int),Int.fdiv (nb n i) (2 ^ min (4:Int).toNat 8)=9],thd 22 79 122 n a (muL g) (bJ tot (g 9)) i):=by kernel_rfl
theorem PY (n:Nat) (a:P4) (g:Nat→P4) (tot:P4) (i:Int):proj tK (sexec Tryz.prog (FtX.tellI [(29,9)]) 40 (tR7 Tryz.f52) [] (thd 22 79 122 n a (muL g) tot i))=some (tO n tot (g 9) i 9 [bits .and .u8 (nb n i) 15=9],thd 22 79 122 n a (muL g) (bJ tot (g 9)) i):=by kernel_rfl
theorem ND (n:Nat) (a:P4) (g:Nat→P4) (tot:P4) (i:Int):proj tK (sexec Tryz.prog (FtX.tellI [(20,10)]) 40 (tR6 Tryz.f52) [] (thd 22 79 122 n a (muL g) tot i))=some (tO n tot (g 10) i 10 [0≤(4:Int),Int.fdiv (nb n i) (2 ^ min (4:Int).toNat 8)=10],thd 22 79 122 n a (muL g) (bJ tot (g 10)) i):=by kernel_rfl
theorem MN (n:Nat) (a:P4) (g:Nat→P4) (tot:P4) (i:Int):proj tK (sexec Tryz.prog (FtX.tellI [(29,10)]) 40 (tR7 Tryz.f52) [] (thd 22 79 122 n a (muL g) tot i))=some (tO n tot (g 10) i 10 [bits .and .u8 (nb n i) 15=10],thd 22 79 122 n a (muL g) (bJ tot (g 10)) i):=by kernel_rfl
theorem NB (n:Nat) (a:P4) (g:Nat→P4) (tot:P4) (i:Int):proj tK (sexec Tryz.prog (FtX.tellI [(20,11)]) 40 (tR6 Tryz.f52) [] (thd 22 79 122 n a (muL g) tot i))=some (tO n tot (g 11) i 11 [0≤(4:Int),Int.fdiv (nb n i) (2 ^ min (4:Int).toNat 8)=11],thd 22 79 122 n a (muL g) (bJ tot (g 11)) i):=by kernel_rfl
theorem NH (n:Nat) (a:P4) (g:Nat→P4) (tot:P4) (i:Int):proj tK (sexec Tryz.prog (FtX.tellI [(29,11)]) 40 (tR7 Tryz.f52) [] (thd 22 79 122 n a (muL g) tot i))=some (tO n tot (g 11) i 11 [bits .and .u8 (nb n i) 15=11],thd 22 79 122 n a (muL g) (bJ tot (g 11)) i):=by kernel_rfl
theorem Mj (n:Nat) (a:P4) (g:Nat→P4) (tot:P4) (i:Int):proj tK (sexec Tryz.prog (FtX.tellI [(20,12)]) 40 (tR6 Tryz.f52) [] (thd 22 79 122 n a (muL g) tot i))=some (tO n tot (g 12) i 12 [0≤(4:Int),Int.fdiv (nb n i) (2 ^ min (4:Int).toNat 8)=12],thd 22 79 122 n a (muL g) (bJ tot (g 12)) i):=by kernel_rfl
theorem Mx (n:Nat) (a:P4) (g:Nat→P4) (tot:P4) (i:Int):proj tK (sexec Tryz.prog (FtX.tellI [(29,12)]) 40 (tR7 Tryz.f52) [] (thd 22 79 122 n a (muL g) tot i))=some (tO n tot (g 12) i 12 [bits .and .u8 (nb n i) 15=12],thd 22 79 122 n a (muL g) (bJ tot (g 12)) i):=by kernel_rfl
theorem MF (n:Nat) (a:P4) (g:Nat→P4) (tot:P4) (i:Int):proj tK (sexec Tryz.prog (FtX.tellI [(20,13)]) 40 (tR6 Tryz.f52) [] (thd 22 79 122 n a (muL g) tot i))=some (tO n tot (g 13) i 13 [0≤(4:Int),Int.fdiv (nb n i) (2 ^ min (4:Int).toNat 8)=13],thd 22 79 122 n a (muL g) (bJ tot (g 13)) i):=by kernel_rfl
theorem Mc (n:Nat) (a:P4) (g:Nat→P4) (tot:P4) (i:Int):proj tK (sexec Tryz.prog (FtX.tellI [(29,13)]) 40 (tR7 Tryz.f52) [] (thd 22 79 122 n a (muL g) tot i))=some (tO n tot (g 13) i 13 [bits .and .u8 (nb n i) 15=13],thd 22 79 122 n a (muL g) (bJ tot (g 13)) i):=by kernel_rfl
theorem NU (n:Nat) (a:P4) (g:Nat→P4) (tot:P4) (i:Int):proj tK (sexec Tryz.prog (FtX.tellI [(20,14)]) 40 (tR6 Tryz.f52) [] (thd 22 79 122 n a (muL g) tot i))=some (tO n tot (g 14) i 14 [0≤(4:Int),Int.fdiv (nb n i) (2 ^ min (4:Int).toNat 8)=14],thd 22 79 122 n a (muL g) (bJ tot (g 14)) i):=by kernel_rfl
theorem Nd (n:Nat) (a:P4) (g:Nat→P4) (tot:P4) (i:Int):proj tK (sexec Tryz.prog (FtX.tellI [(29,14)]) 40 (tR7 Tryz.f52) [] (thd 22 79 122 n a (muL g) tot i))=some (tO n tot (g 14) i 14 [bits .and .u8 (nb n i) 15=14],thd 22 79 122 n a (muL g) (bJ tot (g 14)) i):=by kernel_rfl
theorem M9 (n:Nat) (a:P4) (g:Nat→P4) (tot:P4) (i:Int):proj tK (sexec Tryz.prog (FtX.tellI [(20,15)]) 40 (tR6 Tryz.f52) [] (thd 22 79 122 n a (muL g) tot i))=some (tO n tot (g 15) i 15 [0≤(4:Int),Int.fdiv (nb n i) (2 ^ min (4:Int).toNat 8)=15],thd 22 79 122 n a (muL g) (bJ tot (g 15)) i):=by kernel_rfl
theorem MJ (n:Nat) (a:P4) (g:Nat→P4) (tot:P4) (i:Int):proj tK (sexec Tryz.prog (FtX.tellI [(29,15)]) 40 (tR7 Tryz.f52) [] (thd 22 79 122 n a (muL g) tot i))=some (tO n tot (g 15) i 15 [bits .and .u8 (nb n i) 15=15],thd 22 79 122 n a (muL g) (bJ tot (g 15)) i):=by kernel_rfl
end Go.Proofs.YtajehiidpecknaaGreatDoor
namespace Go.Proofs.YtajehiidpecknaaGreatDoor
open Go Go.RowKit
def il (tot q:P4):P4:=jS (xM tot) q
theorem vt (t q:P4):(il t q).ok:=mV _ _
theorem uf {t q:P4} (ht:t.ok) (hq:q.ok):bJ t q=il t q:=by
 unfold bJ il
 rw [c9 ht,c9 (zC _),c9 hq]
def tmR (a:P4) (n:Nat):Nat→P4
 | 0=>iC
 | j+1=>il (il (tmR a n j) (muN a (n/256 ^ (31 - j) % 256/16))) (muN a (n/256 ^ (31 - j) % 256 % 16))
theorem DC (a:P4) (n:Nat) : ∀ j,(tmR a n j).ok
 | 0=>rY
 | j+1=>vt _ _
def dA (n:Nat) (a:P4):P4:=tmR a n 32
theorem jb (n:Nat) (a:P4):(dA n a).ok:=DC a n 32
theorem Gs (g:Nat→P4):(muL g).length=2048:=by kernel_rfl
theorem wK {l vs:List Value} (h:vs.length=l.length):pJ l 0 vs=vs:=by
 unfold pJ
 rw [List.take_zero,List.nil_append,Nat.zero_add,h,List.drop_length,List.append_nil]
theorem mD (x:Int) (h : -9223372036854775808≤x∧x<9223372036854775808):IntKind.i64.wrap x=x:=by
 simp [IntKind.wrap,IntKind.bits,IntKind.signed];omega
theorem Ju (n:Nat) {tot q:P4} (ht:tot.ok) (hq:q.ok) (k:Nat) (hk:k<32) (d:Nat) (hd:d<16) {x:List Prop} (hx : ∀ p ∈ x,p) : ∀ p ∈ tO n tot q (k:Int) (d:Int) x,p:=by
 intro p hp
 unfold tO at hp
 rcases List.mem_append.1 hp with hp | hp
 ·rcases List.mem_append.1 hp with hp | hp
  ·simp only [List.mem_cons,List.not_mem_nil,or_false] at hp
   rcases hp with rfl | rfl | rfl
   ·exact cm ht
   ·omega
   ·have hb:(bl n)[k]? = some (.int .u8 (by8 n k)):=by simp [bl,hk]
    have e:0+((k:Int)).toNat*1=k:=by simp
    unfold nb
    rw [e]
    unfold j8
    rw [hb]
  ·exact hx p hp
 ·simp only [List.mem_cons,List.not_mem_nil,or_false] at hp
  rcases hp with rfl | rfl
  ·omega
  ·rw [c9 ht];exact ⟨cm (zC _),cm hq⟩
theorem NQ (n k:Nat) (hk:k<32):nb n (k:Int)=((n/256 ^ k % 256:Nat):Int):=by
 have hb:(bl n)[k]? = some (.int .u8 (by8 n k)):=by simp [bl,hk]
 have e:0+((k:Int)).toNat*1=k:=by simp
 unfold nb
 rw [e]
 unfold j8
 rw [hb]
 rfl
theorem Mo (n:Nat) (a:P4) (g:Nat→P4) (tot:P4) (i:Int) : ∀ d:Nat,d<16→proj tK (sexec Tryz.prog (FtX.tellI [(20,(d:Int))]) 40 (tR6 Tryz.f52) [] (thd 22 79 122 n a (muL g) tot i))=some (tO n tot (g d) i d [0≤(4:Int),Int.fdiv (nb n i) (2 ^ min (4:Int).toNat 8)=d],thd 22 79 122 n a (muL g) (bJ tot (g d)) i)
 | 0,_=>PL n a g tot i
 | 1,_=>O7 n a g tot i
 | 2,_=>Pp n a g tot i
 | 3,_=>Pn n a g tot i
 | 4,_=>PF n a g tot i
 | 5,_=>Oz n a g tot i
 | 6,_=>Pu n a g tot i
 | 7,_=>Qe n a g tot i
 | 8,_=>OA n a g tot i
 | 9,_=>PX n a g tot i
 | 10,_=>ND n a g tot i
 | 11,_=>NB n a g tot i
 | 12,_=>Mj n a g tot i
 | 13,_=>MF n a g tot i
 | 14,_=>NU n a g tot i
 | 15,_=>M9 n a g tot i
 | d+16,h=>absurd h (by omega)
theorem Nj (n:Nat) (a:P4) (g:Nat→P4) (tot:P4) (i:Int) : ∀ d:Nat,d<16→proj tK (sexec Tryz.prog (FtX.tellI [(29,(d:Int))]) 40 (tR7 Tryz.f52) [] (thd 22 79 122 n a (muL g) tot i))=some (tO n tot (g d) i d [bits .and .u8 (nb n i) 15=d],thd 22 79 122 n a (muL g) (bJ tot (g d)) i)
 | 0,_=>OG n a g tot i
 | 1,_=>Pc n a g tot i
 | 2,_=>PR n a g tot i
 | 3,_=>Qk n a g tot i
 | 4,_=>OC n a g tot i
 | 5,_=>OB n a g tot i
 | 6,_=>OW n a g tot i
 | 7,_=>Pr n a g tot i
 | 8,_=>Qg n a g tot i
 | 9,_=>PY n a g tot i
 | 10,_=>MN n a g tot i
 | 11,_=>NH n a g tot i
 | 12,_=>Mx n a g tot i
 | 13,_=>Mc n a g tot i
 | 14,_=>Nd n a g tot i
 | 15,_=>MJ n a g tot i
 | d+16,h=>absurd h (by omega)
theorem NM (x:Nat) (h:x<256):bits .and .u8 (x:Int) 15=((x % 16:Nat):Int):=by
 have key : ∀ y:Fin 256,bits .and .u8 ((y.val:Nat):Int) 15=((y.val % 16:Nat):Int):=by decide +kernel
 exact key ⟨x,h⟩
theorem K0 (x:Nat):Int.fdiv (x:Int) (2 ^ min (4:Int).toNat 8)=((x/16:Nat):Int):=by
 show Int.fdiv (x:Int) (2 ^ 4)=_
 rw [Int.fdiv_eq_ediv_of_nonneg _ (by decide)]
 rfl
theorem LV (n:Nat) (a:P4) (g:Nat→P4) (T:P4) (i:Int):SW Tryz.prog gl4 (tT Tryz.f52) (tX Tryz.prog Tryz.f52 22 79 122 n a g T i) (fun e s=>(e = .normal∨e = .ret)∧s.1.defers = [] ∧ ∃ v,sres Tryz.prog Tryz.f52 s=some v∧(flat v=true∨v=undef)∧mw M0 s.2=true∧v=pv T):=by
 refine SW.run iI mixed 40 (dG (t_z n a g T i)) (by simp) ?_
 exact ⟨.inr rfl,t_d n a g T i,pv T,t_r n a g T i,.inl (bf T),t_m n a g T i,rfl⟩
set_option maxRecDepth 10000 in
theorem AG (n:Nat) (hn:n<RN) {a:P4} (la:a.ok) (w:World) (hw:Glo M0 w) :
  Calls Tryz.prog 52 #[bv n,pv a] w fun e w'=>e = .returned (pv (dA n a))∧Below w.heap.size w w':=by
 have hb:Tryz.f52.body=some (ag Tryz.f52):=by kernel_rfl
 refine (ki (M0:=M0) (gl:=gl4) (R:=fun u=>u=pv (dA n a)) (args:=[bv n,pv a]) aP (fun g hg => ?_) Tryz.func52 hb ?_ (by simp [aB,bf]) w hw).mono ?_
 ·have:mY M0 gl4=true:=by kernel_rfl
  exact List.all_eq_true.1 this g hg
 ·refine SW.seqC (by kernel_rfl) ?_
  refine SW.run iI mixed 20 (dG (t_1 n a)) (by simp) ?_
  show SW Tryz.prog gl4 (cR (ag Tryz.f52)) (ts1 Tryz.prog Tryz.f52 n a) _
  refine SW.seqC (by kernel_rfl) ?_
  refine SW.run iI mixed 20 (dG (t_2 n a)) (by
   intro p hp
   simp only [List.mem_cons,List.not_mem_nil,or_false] at hp
   rcases hp with rfl
   exact cm la) ?_
  show SW Tryz.prog gl4 (cR (cR (ag Tryz.f52))) (ts2 Tryz.prog Tryz.f52 n a) _
  refine SW.seqC (by kernel_rfl) ?_
  refine SW.run iI mixed 20 (dG (t_3 n a)) (by simp) ?_
  show SW Tryz.prog gl4 (cR (cR (cR (ag Tryz.f52)))) (ts3 Tryz.prog Tryz.f52 n a) _
  refine SW.seqC (by kernel_rfl) ?_
  refine SW.seqC (by kernel_rfl) ?_
  refine SW.run iI mixed 20 (dG (t_4 n a)) (by simp) ?_
  show SW Tryz.prog gl4 (cR (cL (cR (cR (cR (ag Tryz.f52)))))) (ts4 Tryz.prog Tryz.f52 n a) _
  refine SW.blockC (by kernel_rfl) ?_
  refine SW.loopC (by kernel_rfl) (fun k s=>k≤32∧tK s=thd 22 79 122 n a (muL (muN a)) (tmR a n (32 - k)) ((k:Int) - 1)) 32 ⟨Nat.le_refl _,?_⟩ ?_
  ·have e1:pJ (CQ Tryz.prog 122) 0 (muL (muN a))=muL (muN a):=wK ((Gs _).trans Bb.symm)
   have e2:tmR a n (32 - 32)=iC:=rfl
   have e3:((32:Nat):Int) - 1=31:=rfl
   rw [t_h,c9 la,e1,e2,e3]
  ·rintro k s ⟨hk,hs⟩
   refine SW.forget (a:=s.1) (m:=s.2) tF ?_
   show SW Tryz.prog gl4 (tLB Tryz.f52) (tK s) _
   rw [hs]
   refine SW.seqC (by kernel_rfl) ?_
   cases k with
   | zero =>
    refine SW.run (Cx.tell_ok tq _) mixed 40 (dG (t_x n a (muN a) _ _)) (by simp) ?_
    show SW Tryz.prog gl4 (tT Tryz.f52) (tX Tryz.prog Tryz.f52 22 79 122 n a (muN a) _ _) _
    exact LV n a (muN a) (tmR a n (32 - 0)) _
   | succ j =>
    have hj:j<32:=by omega
    have ei:((j+1:Nat):Int) - 1=(j:Int):=by omega
    rw [ei]
    have lt:=DC a n (32 - (j+1))
    obtain ⟨s1,h1,k1⟩:=bD (OS n a (muN a) (tmR a n (32 - (j+1))) (j:Int))
    refine SW.run (Cx.tell_ok tq _) mixed 40 h1 (by
     intro p hp
     simp only [List.mem_cons,List.not_mem_nil,or_false] at hp
     rcases hp with rfl
     simp) ?_
    show SW Tryz.prog gl4 (cR (tLB Tryz.f52)) s1 _
    refine SW.forget (a:=s1.1) (m:=s1.2) tF ?_
    show SW Tryz.prog gl4 (cR (tLB Tryz.f52)) (tK s1) _
    rw [k1]
    refine SW.seqC (by kernel_rfl) ?_
    refine SW.blockC (by kernel_rfl) ?_
    refine SW.seqC (by kernel_rfl) ?_
    have hB:n/256 ^ j % 256<256:=Nat.mod_lt _ (by decide)
    obtain ⟨B,hBe⟩ : ∃ B,B=n/256 ^ j % 256:=⟨_,rfl⟩
    rw [←hBe] at hB
    have hnb:nb n (j:Int)=(B:Int):=by rw [NQ n j hj,hBe]
    obtain ⟨s2,h2,k2⟩:=bD (Mo n a (muN a) (tmR a n (32 - (j+1))) (j:Int) (B/16) (by omega))
    refine SW.run (Cx.tellI_ok tq _) mixed 40 h2 (Ju n lt (kW a _) j hj (B/16) (by omega) (by
     intro p hp
     simp only [List.mem_cons,List.not_mem_nil,or_false] at hp
     rcases hp with rfl | rfl
     ·decide
     ·rw [hnb];exact K0 B)) ?_
    show SW Tryz.prog gl4 (tR7 Tryz.f52) s2 _
    refine SW.forget (a:=s2.1) (m:=s2.2) tF ?_
    show SW Tryz.prog gl4 (tR7 Tryz.f52) (tK s2) _
    rw [k2,uf lt (kW a _)]
    have lt2:=vt (tmR a n (32 - (j+1))) (muN a (B/16))
    obtain ⟨s3,h3,k3⟩:=bD (Nj n a (muN a) (il (tmR a n (32 - (j+1))) (muN a (B/16))) (j:Int) (B % 16) (by omega))
    refine SW.run (Cx.tellI_ok tq _) mixed 40 h3 (Ju n lt2 (kW a _) j hj (B % 16) (by omega) (by
     intro p hp
     simp only [List.mem_cons,List.not_mem_nil,or_false] at hp
     rcases hp with rfl
     rw [hnb];exact NM B hB)) ?_
    show SW Tryz.prog gl4 (tR5 Tryz.f52) s3 _
    refine SW.forget (a:=s3.1) (m:=s3.2) tF ?_
    show SW Tryz.prog gl4 (tR5 Tryz.f52) (tK s3) _
    rw [k3,uf lt2 (kW a _)]
    obtain ⟨s4,h4,k4⟩:=bD (t_5 n a (muN a) (il (il (tmR a n (32 - (j+1))) (muN a (B/16))) (muN a (B % 16))) (j:Int))
    refine SW.run iI mixed 40 h4 (by simp) ⟨j,by omega,by omega,?_⟩
    rw [k4,mD _ (by omega)]
    have e:32 - j=(32 - (j+1))+1:=by omega
    rw [e]
    show _=thd _ _ _ _ _ _ (il (il (tmR a n (32 - (j+1))) (muN a (n/256 ^ (31 - (32 - (j+1))) % 256/16))) (muN a (n/256 ^ (31 - (32 - (j+1))) % 256 % 16))) _
    rw [show 31 - (32 - (j+1))=j by omega,←hBe]
 ·rintro e w' ⟨v,rfl,rfl,hb⟩
  exact ⟨rfl,hb⟩
def gTim:List Value→Option (List Prop × Value)
 | [A,B]=>some ([IsB A∧IsP B],pv (dA (ai A) (p4 B)))
 | _=>none
theorem Il {X:Cx} (hX:X.Ok Tryz.prog) (hc:bk M0 X.gl=true):(X.var M0 52 gTim).Ok Tryz.prog:=by
 refine bO hX aP hc Tryz.func52 (by kernel_rfl) (by kernel_rfl) ?_
 intro args ps v ha hg hp
 unfold gTim at hg
 split at hg
 ·rename_i A B
  simp only [qG,qH] at hg
  obtain ⟨rfl,rfl⟩:=hg
  obtain ⟨hA,⟨hB,lB⟩⟩:=hp _ (YJ.2 rfl)
  refine ⟨.inl (bf _),fun w hw => ?_⟩
  have h:=AG (ai A) (aT hA) lB w hw
  rw [← (show A=bv (ai A) from hA),←hB] at h
  exact h
 ·simp at hg
def F5:Cx:=F4.var M0 52 gTim
theorem nM:F5.Ok Tryz.prog:=Il iI (by kernel_rfl)
end Go.Proofs.YtajehiidpecknaaGreatDoor
