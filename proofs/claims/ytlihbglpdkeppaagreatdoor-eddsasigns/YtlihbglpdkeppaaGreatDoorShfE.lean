/- SHA-512: putWord32, putWord64, bytes512. -/
import Derived.Test.YtlihbglpdkeppaaGreatDoorShfD
import Derived.Test.YtlihbglpdkeppaaGreatDoorMemI
import Derived.Lib.Mul64
set_option linter.unusedSimpArgs false
set_option linter.unusedVariables false
namespace Go.Proofs.YtlihbglpdkeppaaGreatDoor.Shf
open Go Go.RowKit
def b8 (x:Int) (d:Nat):Value := .int .u8 (IntKind.u8.wrap (Int.fdiv x (2 ^ d)))
def by32 (x:Int):List Value:=[b8 x 24,b8 x 16,b8 x 8,.int .u8 (IntKind.u8.wrap x)]
def P1:Cx:=Cx.none.terms.tell [(999999,true)]
theorem P1_ok:P1.Ok Tryz.prog:=Cx.tell_ok (Cx.terms_ok Cx.none_ok) _
theorem P1_gl:P1.gl = []:=by kernel_rfl
def pS (P:Program) (fn:Func) (l:List Value) (ty:TypeId) (o n k:Nat) (x:Int):Act × Mem:=runS P P1 40 (bodyOf fn) (sinit fn [slv 0 o n k,.int .u32 x],[some ⟨l,ty⟩])
def p1 (l:List Value) (o:Nat) (x:Int):List Value:=putL l o [b8 x 24]
def p2 (l:List Value) (o:Nat) (x:Int):List Value:=putL (p1 l o x) (o+1) [b8 x 16]
def p3 (l:List Value) (o:Nat) (x:Int):List Value:=putL (p2 l o x) (o+2) [b8 x 8]
def p4 (l:List Value) (o:Nat) (x:Int):List Value:=putL (p3 l o x) (o+3) [.int .u8 (IntKind.u8.wrap x)]
theorem p_e (l:List Value) (ty:TypeId) (o n k:Nat) (x:Int):sexec Tryz.prog P1 40 (bodyOf Tryz.f107) [] (sinit Tryz.f107 [slv 0 o n k,.int .u32 x],[some ⟨l,ty⟩]) =
  some ([(0:Int)≤24,(0:Int)≤16,(0:Int)≤8,(0:Int)≤0∧(0:Int)<(n:Int),1=1∧o+1≤l.length,(0:Int)≤1∧(1:Int)<(n:Int),1=1∧o+1+1≤(p1 l o x).length,(0:Int)≤2∧(2:Int)<(n:Int),1=1∧o+2+1≤(p2 l o x).length,(0:Int)≤3∧(3:Int)<(n:Int),1=1∧o+3+1≤(p3 l o x).length],.normal,pS Tryz.prog Tryz.f107 l ty o n k x):=by kernel_rfl
theorem p_r (l:List Value) (ty:TypeId) (o n k:Nat) (x:Int):sres Tryz.prog Tryz.f107 (pS Tryz.prog Tryz.f107 l ty o n k x)=some (.tuple #[]):=by kernel_rfl
theorem p_d (l:List Value) (ty:TypeId) (o n k:Nat) (x:Int):(pS Tryz.prog Tryz.f107 l ty o n k x).1.defers = []:=by kernel_rfl
theorem p_m (l:List Value) (ty:TypeId) (o n k:Nat) (x:Int):(pS Tryz.prog Tryz.f107 l ty o n k x).2 = [some ⟨p4 l o x,ty⟩]:=by kernel_rfl
theorem p_eq (l:List Value) (o:Nat) (x:Int) (h:o+4≤l.length):(p1 l o x).length=l.length∧(p2 l o x).length=l.length∧(p3 l o x).length=l.length∧p4 l o x=putL l o (by32 x):=by
 have e2:p2 l o x=putL l o [b8 x 24,b8 x 16]:=putL_putL l [b8 x 24] [b8 x 16] o (by simp;omega)
 have e3:p3 l o x=putL l o [b8 x 24,b8 x 16,b8 x 8]:=by unfold p3;rw [e2];exact putL_putL l [b8 x 24,b8 x 16] [b8 x 8] o (by simp;omega)
 have e4:p4 l o x=putL l o (by32 x):=by unfold p4;rw [e3];exact putL_putL l [b8 x 24,b8 x 16,b8 x 8] [.int .u8 (IntKind.u8.wrap x)] o (by simp;omega)
 refine ⟨putL_len _ _ _ (by simp;omega),?_,?_,e4⟩
 ·rw [e2];exact putL_len _ _ _ (by simp;omega)
 ·rw [e3];exact putL_len _ _ _ (by simp;omega)
def int1 (k:IntKind) (qs:List Value):Int :=
 match qs with
 | [.int _ x]=>x
 | _=>0
def Tp32 (l:List Value) (o n k:Nat) (qs:List Value):Prop:=qs = [.int .u32 (int1 .u32 qs)]∧4≤n∧o+4≤l.length
def Up32 (l:List Value) (o:Nat) (qs:List Value):List Value:=putL l o (by32 (int1 .u32 qs))
theorem gP32_ok {X:Cx} (hX:X.Ok Tryz.prog):(X.write 107 (gW1 Tp32 Up32)).Ok Tryz.prog:=by
 refine gW1_ok hX Tryz.func107 (by kernel_rfl) (show _=some (bodyOf Tryz.f107) from (by kernel_rfl)) ?_
 rintro l ty o n k qs hl hq ⟨hqs,hn,hlen⟩
 obtain ⟨l1,l2,l3,e4⟩:=p_eq l o (int1 .u32 qs) hlen
 refine ⟨putL_all _ _ _ _ hl rfl,?_⟩
 unfold Up32
 generalize hx:int1 .u32 qs=x at *
 subst hqs
 refine SW.runG P1_ok mixed P1_gl 40 (p_e l ty o n k x) ?_ ⟨.inl rfl,p_d l ty o n k x,_,[],p_r l ty o n k x,.inl rfl,?_,rfl⟩
 ·intro p hp
  simp only [List.mem_cons,List.not_mem_nil,or_false] at hp
  rw [l1,l2,l3] at hp
  rcases hp with rfl | rfl | rfl | rfl | rfl | rfl | rfl | rfl | rfl | rfl | rfl
  all_goals first | omega | exact ⟨by trivial,by omega⟩
 ·rw [p_m,e4];rfl
def hi32 (x:Int):Int:=IntKind.u32.wrap (Int.fdiv x (2 ^ 32))
def lo32 (x:Int):Int:=IntKind.u32.wrap x
def by64 (x:Int):List Value:=by32 (hi32 x) ++ by32 (lo32 x)
def P2:Cx:=(Cx.none.write 107 (gW1 Tp32 Up32)).terms
theorem P2_ok:P2.Ok Tryz.prog:=Cx.terms_ok (gP32_ok Cx.none_ok)
theorem P2_gl:P2.gl = []:=by kernel_rfl
def qS (P:Program) (fn:Func) (l:List Value) (ty:TypeId) (o n k:Nat) (x:Int):Act × Mem:=runS P P2 40 (bodyOf fn) (sinit fn [slv 0 o n (k+8),.int .u64 x],[some ⟨l,ty⟩])
theorem q_e (l:List Value) (ty:TypeId) (o n k:Nat) (x:Int):sexec Tryz.prog P2 40 (bodyOf Tryz.f74) [] (sinit Tryz.f74 [slv 0 o n (k+8),.int .u64 x],[some ⟨l,ty⟩]) =
  some ([(0:Int)≤4∧(4:Int)≤((k+8:Nat):Int),(0:Int)≤32,l.all flat1=true,Tp32 l o 4 (k+8) [.int .u32 (hi32 x)],(0:Int)≤8∧(8:Int)≤((k+8:Nat):Int),(0:Int)≤4∧(4:Int)≤((8:Nat):Int),(putL l o (by32 (hi32 x))).all flat1=true,Tp32 (putL l o (by32 (hi32 x))) (o+4) 4 (k+8 - 4) [.int .u32 (lo32 x)]],.normal,qS Tryz.prog Tryz.f74 l ty o n k x):=by kernel_rfl
theorem q_r (l:List Value) (ty:TypeId) (o n k:Nat) (x:Int):sres Tryz.prog Tryz.f74 (qS Tryz.prog Tryz.f74 l ty o n k x)=some (.tuple #[]):=by kernel_rfl
theorem q_d (l:List Value) (ty:TypeId) (o n k:Nat) (x:Int):(qS Tryz.prog Tryz.f74 l ty o n k x).1.defers = []:=by kernel_rfl
theorem q_m (l:List Value) (ty:TypeId) (o n k:Nat) (x:Int):(qS Tryz.prog Tryz.f74 l ty o n k x).2 = [some ⟨putL (putL l o (by32 (hi32 x))) (o+4) (by32 (lo32 x)),ty⟩]:=by kernel_rfl
def Tp64 (l:List Value) (o n k:Nat) (qs:List Value):Prop:=qs = [.int .u64 (int1 .u64 qs)]∧8≤k∧o+8≤l.length
def Up64 (l:List Value) (o:Nat) (qs:List Value):List Value:=putL l o (by64 (int1 .u64 qs))
theorem gP64_ok {X:Cx} (hX:X.Ok Tryz.prog):(X.write 74 (gW1 Tp64 Up64)).Ok Tryz.prog:=by
 refine gW1_ok hX Tryz.func74 (by kernel_rfl) (show _=some (bodyOf Tryz.f74) from (by kernel_rfl)) ?_
 rintro l ty o n k qs hl hq ⟨hqs,hk,hlen⟩
 obtain ⟨k,rfl⟩:=Nat.exists_eq_add_of_le' hk
 refine ⟨putL_all _ _ _ _ hl rfl,?_⟩
 unfold Up64
 generalize hx:int1 .u64 qs=x at *
 subst hqs
 have e:=putL_putL l (by32 (hi32 x)) (by32 (lo32 x)) o (by simp [by32];omega)
 refine SW.runG P2_ok mixed P2_gl 40 (q_e l ty o n k x) ?_ ⟨.inl rfl,q_d l ty o n k x,_,[],q_r l ty o n k x,.inl rfl,?_,rfl⟩
 ·intro p hp
  simp only [List.mem_cons,List.not_mem_nil,or_false] at hp
  rcases hp with rfl | rfl | rfl | rfl | rfl | rfl | rfl | rfl
  ·omega
  ·omega
  ·exact hl
  ·exact ⟨rfl,by decide,by omega⟩
  ·omega
  ·omega
  ·exact putL_all _ _ _ _ hl rfl
  ·exact ⟨rfl,by decide,by rw [putL_len _ _ _ (by simp [by32];omega)];omega⟩
 ·rw [q_m]
  have e':putL (putL l o (by32 (hi32 x))) (o+4) (by32 (lo32 x))=putL l o (by64 x):=e
  rw [e'];rfl
def P3:Cx:=Cx.none.write 74 (gW1 Tp64 Up64)
theorem P3_ok:P3.Ok Tryz.prog:=gP64_ok Cx.none_ok
theorem P3_gl:P3.gl = []:=by kernel_rfl
def byP (c:Code):List Code:=[cL c,cL (cR c)]
def byQ (c:Code):List Code:=[cL (cL (cR (cR c)))]
def byB (c:Code):Code:=cL (cL (cR (cL (cR (cR c)))))
def byE (c:Code):Code:=cR (cR (cR c))
theorem by_code:bodyOf Tryz.f75=seqs (byP (bodyOf Tryz.f75)) (.seq (seqs (byQ (bodyOf Tryz.f75)) (.block 0 (.loop (byB (bodyOf Tryz.f75))))) (byE (bodyOf Tryz.f75))):=by kernel_rfl
def z64:List Value:=List.replicate 64 (.int .u8 0)
def byF:List Nat:=[0,1,4,5] ++ (List.range 13).map (· + 8)
def byhd (s:S8) (i:Int) (q:List Value):Act × Mem :=
 (⟨#[poison,poison,ptr 1,ptr 2,poison,poison,aggS s,.int .i64 i] ++ Array.replicate 13 poison,[]⟩,[some ⟨rowS s,91⟩,some ⟨z64,26⟩,some ⟨q,26⟩])
def byK (s:Act × Mem):Act × Mem:=(forgetL s.1 byF,s.2)
def byS (P:Program) (fn:Func) (s:S8):Act × Mem:=runL P P3 40 (byP (bodyOf fn)) (sinit fn [aggS s],[])
theorem by_pre (s:S8):sexecL Tryz.prog P3 40 (byP (bodyOf Tryz.f75)) [] (sinit Tryz.f75 [aggS s],[])=some ([],byS Tryz.prog Tryz.f75 s):=by kernel_rfl
def byS1 (P:Program) (fn:Func) (s:S8):Act × Mem:=runL P P3 40 (byQ (bodyOf fn)) (byS P fn s)
theorem by_pre1 (s:S8):sexecL Tryz.prog P3 40 (byQ (bodyOf Tryz.f75)) [] (byS Tryz.prog Tryz.f75 s)=some ([],byS1 Tryz.prog Tryz.f75 s):=by kernel_rfl
theorem by_h0 (s:S8):byK (byS1 Tryz.prog Tryz.f75 s)=byhd s 0 z64:=by kernel_rfl
def wd (s:S8) (i:Nat):Int:=intL (rowS s) i
theorem by_round0 (s:S8) (q:List Value):proj byK (sexec Tryz.prog P3 40 (byB (bodyOf Tryz.f75)) [] (byhd s 0 q))=some ([q.all flat1=true,Tp64 q (8*0) 8 (64 - 8*0) [.int .u64 (wd s 0)]],byhd s 1 (putL q (8*0) (by64 (wd s 0)))):=by kernel_rfl
theorem by_round1 (s:S8) (q:List Value):proj byK (sexec Tryz.prog P3 40 (byB (bodyOf Tryz.f75)) [] (byhd s 1 q))=some ([q.all flat1=true,Tp64 q (8*1) 8 (64 - 8*1) [.int .u64 (wd s 1)]],byhd s 2 (putL q (8*1) (by64 (wd s 1)))):=by kernel_rfl
theorem by_round2 (s:S8) (q:List Value):proj byK (sexec Tryz.prog P3 40 (byB (bodyOf Tryz.f75)) [] (byhd s 2 q))=some ([q.all flat1=true,Tp64 q (8*2) 8 (64 - 8*2) [.int .u64 (wd s 2)]],byhd s 3 (putL q (8*2) (by64 (wd s 2)))):=by kernel_rfl
theorem by_round3 (s:S8) (q:List Value):proj byK (sexec Tryz.prog P3 40 (byB (bodyOf Tryz.f75)) [] (byhd s 3 q))=some ([q.all flat1=true,Tp64 q (8*3) 8 (64 - 8*3) [.int .u64 (wd s 3)]],byhd s 4 (putL q (8*3) (by64 (wd s 3)))):=by kernel_rfl
theorem by_round4 (s:S8) (q:List Value):proj byK (sexec Tryz.prog P3 40 (byB (bodyOf Tryz.f75)) [] (byhd s 4 q))=some ([q.all flat1=true,Tp64 q (8*4) 8 (64 - 8*4) [.int .u64 (wd s 4)]],byhd s 5 (putL q (8*4) (by64 (wd s 4)))):=by kernel_rfl
theorem by_round5 (s:S8) (q:List Value):proj byK (sexec Tryz.prog P3 40 (byB (bodyOf Tryz.f75)) [] (byhd s 5 q))=some ([q.all flat1=true,Tp64 q (8*5) 8 (64 - 8*5) [.int .u64 (wd s 5)]],byhd s 6 (putL q (8*5) (by64 (wd s 5)))):=by kernel_rfl
theorem by_round6 (s:S8) (q:List Value):proj byK (sexec Tryz.prog P3 40 (byB (bodyOf Tryz.f75)) [] (byhd s 6 q))=some ([q.all flat1=true,Tp64 q (8*6) 8 (64 - 8*6) [.int .u64 (wd s 6)]],byhd s 7 (putL q (8*6) (by64 (wd s 6)))):=by kernel_rfl
theorem by_round7 (s:S8) (q:List Value):proj byK (sexec Tryz.prog P3 40 (byB (bodyOf Tryz.f75)) [] (byhd s 7 q))=some ([q.all flat1=true,Tp64 q (8*7) 8 (64 - 8*7) [.int .u64 (wd s 7)]],byhd s 8 (putL q (8*7) (by64 (wd s 7)))):=by kernel_rfl
def byX (P:Program) (fn:Func) (s:S8) (q:List Value):Act × Mem:=runS P P3 40 (byB (bodyOf fn)) (byhd s 8 q)
theorem by_exit (s:S8) (q:List Value):sexec Tryz.prog P3 40 (byB (bodyOf Tryz.f75)) [] (byhd s 8 q)=some ([],.exit 0,byX Tryz.prog Tryz.f75 s q):=by kernel_rfl
def out64 (s:S8):List Value:=by64 s.a ++ (by64 s.b ++ (by64 s.c ++ (by64 s.d ++ (by64 s.e ++ (by64 s.f ++ (by64 s.g ++ by64 s.h))))))
def byZ (P:Program) (fn:Func) (s t:S8):Act × Mem:=runS P P3 40 (byE (bodyOf fn)) (byX P fn s (out64 t))
theorem by_end (s t:S8):sexec Tryz.prog P3 40 (byE (bodyOf Tryz.f75)) [] (byX Tryz.prog Tryz.f75 s (out64 t))=some ([],.ret,byZ Tryz.prog Tryz.f75 s t):=by kernel_rfl
theorem by_res (s t:S8):sres Tryz.prog Tryz.f75 (byZ Tryz.prog Tryz.f75 s t)=some (.agg (out64 t).toArray):=by kernel_rfl
theorem by_def (s t:S8):(byZ Tryz.prog Tryz.f75 s t).1.defers = []:=by kernel_rfl
def fil (s:S8) (i:Nat):List Value:=(out64 s).take (8*i) ++ List.replicate (64 - 8*i) (.int .u8 0)
theorem fil_put (s:S8) (i:Nat) (hi:i<8):putL (fil s i) (8*i) (by64 (wd s i))=fil s (i+1)∧(fil s i).all flat1=true∧(fil s i).length=64:=by
 have:i=0∨i=1∨i=2∨i=3∨i=4∨i=5∨i=6∨i=7:=by omega
 rcases this with rfl | rfl | rfl | rfl | rfl | rfl | rfl | rfl <;> exact ⟨by kernel_rfl,by kernel_rfl,by kernel_rfl⟩
theorem by_r (s:S8) (i:Nat) (hi:i<8) (Q:Exit→Act × Mem→Prop):SW Tryz.prog [] (byB (bodyOf Tryz.f75)) (byhd s (i:Int) (fil s i)) (thenS (fun z=>(forgetL z.1 byF,z.2)=byhd s ((i+1:Nat):Int) (fil s (i+1))) Q):=by
 obtain ⟨e1,e2,e3⟩:=fil_put s i hi
 have h:proj byK (sexec Tryz.prog P3 40 (byB (bodyOf Tryz.f75)) [] (byhd s (i:Int) (fil s i)))=some ([(fil s i).all flat1=true,Tp64 (fil s i) (8*i) 8 (64 - 8*i) [.int .u64 (wd s i)]],byhd s ((i+1:Nat):Int) (putL (fil s i) (8*i) (by64 (wd s i)))):=by
  have:i=0∨i=1∨i=2∨i=3∨i=4∨i=5∨i=6∨i=7:=by omega
  rcases this with rfl | rfl | rfl | rfl | rfl | rfl | rfl | rfl
  ·exact by_round0 s _
  ·exact by_round1 s _
  ·exact by_round2 s _
  ·exact by_round3 s _
  ·exact by_round4 s _
  ·exact by_round5 s _
  ·exact by_round6 s _
  ·exact by_round7 s _
 rw [e1] at h
 obtain ⟨z,hs,he⟩:=proj_some h
 refine SW.runG P3_ok mixed P3_gl 40 hs ?_ (thenS_norm he)
 intro p hp
 simp only [List.mem_cons,List.not_mem_nil,or_false] at hp
 rcases hp with rfl | rfl
 ·exact e2
 ·exact ⟨rfl,by omega,by omega⟩
theorem fil_0 (s:S8):fil s 0=z64:=by kernel_rfl
theorem fil_8 (s:S8):fil s 8=out64 s:=by kernel_rfl
theorem bytes_SW (s:S8):SW Tryz.prog [] (bodyOf Tryz.f75) (sinit Tryz.f75 [aggS s],[]) fun e z=>(e = .normal∨e = .ret)∧z.1.defers = [] ∧ ∃ v x,sres Tryz.prog Tryz.f75 z=some v∧(flat v=true∨v=undef)∧z.2 = [] ++ x∧v = .agg (out64 s).toArray:=by
 rw [by_code]
 refine SW.preG P3_ok mixed P3_gl rfl (by_pre s) (by simp) (SW.seq ?_)
 refine SW.preG P3_ok mixed P3_gl rfl (by_pre1 s) (by simp) (SW.block ?_)
 refine SW.loopK rfl byF (fun i=>byhd s (i:Int) (fil s i)) 0 8 ((by_h0 s).trans (by rw [fil_0];rfl)) (by decide) (fun i _ hi=>by_r s i hi _) ?_
 refine SW.runG P3_ok mixed P3_gl 40 (by_exit s _) (by simp) (thenS_exit (blockS_exit (thenS_norm ?_)))
 rw [fil_8]
 exact SW.runG P3_ok mixed P3_gl 40 (by_end s s) (by simp) ⟨.inr rfl,by_def s s,_,(byZ Tryz.prog Tryz.f75 s s).2,by_res s s,.inl (by kernel_rfl),(List.nil_append _).symm,rfl⟩
def gByt (args:List Value):Option (List Prop × Value) :=
 match args with
 | [.agg xs]=>some ([[Value.agg xs] = [aggS (s8of [.agg xs])]],.agg (out64 (s8of [.agg xs])).toArray)
 | _=>none
theorem gByt_ok {X:Cx} (hX:X.Ok Tryz.prog):(X.pure 75 gByt).Ok Tryz.prog:=by
 refine gBody_ok hX Tryz.func75 (by kernel_rfl) (by kernel_rfl) fun args ps v ha hg hp => ?_
 unfold gByt at hg
 split at hg
 ·rename_i xs
  simp only [Option.some.injEq,Prod.mk.injEq] at hg
  obtain ⟨rfl,rfl⟩:=hg
  have hxs:=hp _ (List.mem_singleton.2 rfl)
  refine ⟨.inl rfl,fun w => ?_⟩
  generalize s8of [.agg xs]=s at *
  cases hxs
  refine (calls_of_SW (m:=[]) (r:=fun _=>none) Tryz.func75 (by kernel_rfl) (bytes_SW s) (Rel.nil w) (by simp) (trL_flat ha)).mono ?_
  rintro e w' ⟨u,rfl,rfl,hb⟩
  exact ⟨rfl,hb⟩
 ·simp at hg
end Go.Proofs.YtlihbglpdkeppaaGreatDoor.Shf
namespace Go.Proofs.YtlihbglpdkeppaaGreatDoor.Shf
open Go Go.RowKit
theorem maskN (a:Nat) (ha:a<18446744073709551616):bits .and .u64 (a:Int) 4294967295=((a % 4294967296:Nat):Int):=by
 have h:=bits_and_u64_nat a 4294967295 ha (by omega)
 have e:a &&& 4294967295=a % 4294967296:=Nat.and_two_pow_sub_one_eq_mod a 32
 rw [e] at h
 exact h
def mHi (x:Int):Int:=IntKind.u64.wrap (IntKind.u64.wrap (IntKind.u64.wrap (Int.fdiv x (2 ^ 32)*0)+Int.fdiv (IntKind.u64.wrap (IntKind.u64.wrap (Int.fdiv x (2 ^ 32)*8)+Int.fdiv (IntKind.u64.wrap (bits .and .u64 x 4294967295*8)) (2 ^ 32))) (2 ^ 32))+Int.fdiv (IntKind.u64.wrap (bits .and .u64 (IntKind.u64.wrap (IntKind.u64.wrap (Int.fdiv x (2 ^ 32)*8)+Int.fdiv (IntKind.u64.wrap (bits .and .u64 x 4294967295*8)) (2 ^ 32))) 4294967295+IntKind.u64.wrap (bits .and .u64 x 4294967295*0))) (2 ^ 32))
theorem mul_run (x:Int):sfun Tryz.prog Cx.none 60 Tryz.f73 (bodyOf Tryz.f73) [.int .u64 x,.int .u64 8]=some ([],.tuple #[.int .u64 (mHi x),.int .u64 (IntKind.u64.wrap (x*8))]):=by kernel_rfl
theorem mHi_eq (n:Nat) (h:n<1152921504606846976):mHi (n:Int)=0∧IntKind.u64.wrap ((n:Int)*8)=((8*n:Nat):Int):=by
 have e1:Int.fdiv (n:Int) (2 ^ 32)=((n/4294967296:Nat):Int):=by rw [Int.fdiv_eq_ediv_of_nonneg _ (by decide)];omega
 have w : ∀ k:Nat,k<18446744073709551616→IntKind.u64.wrap (k:Int)=(k:Int):=fun k hk=>by rw [IntKind.wrap_u64];omega
 have d : ∀ k:Nat,Int.fdiv (k:Int) (2 ^ 32)=((k/4294967296:Nat):Int):=fun k=>by rw [Int.fdiv_eq_ediv_of_nonneg _ (by decide)];omega
 constructor
 ·unfold mHi
  rw [e1,maskN n (by omega)]
  have a1:((n % 4294967296:Nat):Int)*8=((n % 4294967296*8:Nat):Int):=by omega
  have a2:((n/4294967296:Nat):Int)*8=((n/4294967296*8:Nat):Int):=by omega
  rw [Int.mul_zero,Int.mul_zero,a1,a2,w _ (by omega),w _ (by omega),d]
  have a3:((n/4294967296*8:Nat):Int)+((n % 4294967296*8/4294967296:Nat):Int)=((n/4294967296*8+n % 4294967296*8/4294967296:Nat):Int):=by omega
  rw [a3,w _ (by omega),maskN _ (by omega),d,show (0:Int)=((0:Nat):Int) from rfl,w 0 (by omega)]
  have a4:(((n/4294967296*8+n % 4294967296*8/4294967296) % 4294967296:Nat):Int)+((0:Nat):Int)=(((n/4294967296*8+n % 4294967296*8/4294967296) % 4294967296:Nat):Int):=by omega
  rw [a4,w _ (by omega),d]
  have a5:(n/4294967296*8+n % 4294967296*8/4294967296)/4294967296=0:=by omega
  have a6:(n/4294967296*8+n % 4294967296*8/4294967296) % 4294967296/4294967296=0:=by omega
  rw [a5,a6]
  rfl
 ·rw [IntKind.wrap_u64];omega
def gMul8 (args:List Value):Option (List Prop × Value) :=
 match args with
 | [.int .u64 x,.int .u64 8]=>some ([0≤x∧x<1152921504606846976],.tuple #[.int .u64 0,.int .u64 (8*x)])
 | _=>none
theorem gMul8_ok {X:Cx} (hX:X.Ok Tryz.prog):(X.pure 73 gMul8).Ok Tryz.prog:=by
 refine gBody_ok hX Tryz.func73 (by kernel_rfl) (by kernel_rfl) fun args ps v ha hg hp => ?_
 unfold gMul8 at hg
 split at hg
 ·rename_i x
  simp only [Option.some.injEq,Prod.mk.injEq] at hg
  obtain ⟨rfl,rfl⟩:=hg
  obtain ⟨x0,x1⟩:=hp _ (List.mem_singleton.2 rfl)
  obtain ⟨n,rfl⟩:=Int.eq_ofNat_of_zero_le x0
  obtain ⟨e1,e2⟩:=mHi_eq n (by omega)
  refine ⟨.inl rfl,fun w => ?_⟩
  have run:=mul_run (n:Int)
  rw [e1,e2] at run
  have e3:(8:Int)*(n:Int)=((8*n:Nat):Int):=by omega
  rw [e3]
  exact sfun_calls Cx.none_ok mixed Tryz.func73 (by kernel_rfl) run (by simp) ha (.inl rfl) w
 ·simp at hg
end Go.Proofs.YtlihbglpdkeppaaGreatDoor.Shf
namespace Go.Proofs.YtlihbglpdkeppaaGreatDoor.Shf
open Go Go.RowKit
def G6 (M:S8→List Value→Nat→S8):Cx:=(((((Cx.none.glo gl5).read 72 (gRd M5 Tmx (Vmx M))).write 74 (gW1 Tp64 Up64)).pure 75 gByt).pure 73 gMul8)
theorem G6_ok:(G6 mixL).Ok Tryz.prog:=gMul8_ok (gByt_ok (gP64_ok (gMix_ok (Cx.glo_ok Cx.none_ok (by intro g hg;cases hg)) (by kernel_rfl))))
def N6 (M:S8→List Value→Nat→S8) (d:List (Nat × Bool)):Cx:=(G6 M).terms.tell d
theorem N6_ok (d:List (Nat × Bool)):(N6 mixL d).Ok Tryz.prog:=Cx.tell_ok (Cx.terms_ok G6_ok) d
theorem N6_gl (d:List (Nat × Bool)):(N6 mixL d).gl=gl5:=by kernel_rfl
def smP (c:Code):List Code:=[cL c,cL (cR c),cL (cR (cR c))]
def smB (c:Code):Code:=cL (cL (cL (cR (cR (cR c)))))
def smR (c:Code):Code:=cR (cR (cR (cR c)))
def smC (c:Code):List Code:=[cL (smR c),cL (cR (smR c)),cL (cR (cR (smR c)))]
def smE (c:Code):Code:=cR (cR (cR (smR c)))
theorem sm_code:bodyOf Tryz.f32=seqs (smP (bodyOf Tryz.f32)) (.seq (.block 0 (.loop (smB (bodyOf Tryz.f32)))) (seqs (smC (bodyOf Tryz.f32)) (smE (bodyOf Tryz.f32)))):=by kernel_rfl
def smF:List Nat:=[1] ++ (List.range 53).map (· + 5)
def smhd (l:List Value) (ty:BT) (o n k:Nat) (s:S8) (o' n' k':Nat):Act × Mem :=
 (⟨#[slv ng o n k,poison,ptr (ng+1),ptr (ng+2),slv ng o' n' k'] ++ Array.replicate 53 poison,[]⟩,M5 ++ [some ⟨l,ty⟩,some ⟨z64,26⟩,some ⟨rowS s,91⟩])
def smK (s:Act × Mem):Act × Mem:=(forgetL s.1 smF,s.2)
def s0H:S8:=⟨intL H512 0,intL H512 1,intL H512 2,intL H512 3,intL H512 4,intL H512 5,intL H512 6,intL H512 7⟩
def smS (P:Program) (M:S8→List Value→Nat→S8) (fn:Func) (l:List Value) (ty:BT) (o n k:Nat):Act × Mem:=runL P (N6 M []) 40 (smP (bodyOf fn)) (sinit fn [slv ng o n k],M5 ++ [some ⟨l,ty⟩])
theorem sm_pre (M:S8→List Value→Nat→S8) (l:List Value) (ty:BT) (o n k:Nat):sexecL Tryz.prog (N6 M []) 40 (smP (bodyOf Tryz.f32)) [] (sinit Tryz.f32 [slv ng o n k],M5 ++ [some ⟨l,ty⟩])=some ([],smS Tryz.prog M Tryz.f32 l ty o n k):=by kernel_rfl
theorem sm_h0 (M:S8→List Value→Nat→S8) (l:List Value) (ty:BT) (o n k:Nat):smK (smS Tryz.prog M Tryz.f32 l ty o n k)=smhd l ty o n k s0H o n k:=by kernel_rfl
def smT (l:List Value) (s:S8) (o' n' k':Nat):List Prop:=[decide ((n':Int)≥128)=true,(0:Int)≤128∧(128:Int)≤((k'+128:Nat):Int),l.all flatR=true,Tmx l o' 128 (k'+128) [aggS s],(0:Int)≤128∧(128:Int)≤(n':Int)]
def nxO (o' k':Nat):Nat:=if k'+128=128 then o' else o'+128*1
theorem sm_round (M:S8→List Value→Nat→S8) (l:List Value) (ty:BT) (o n k:Nat) (s:S8) (o' n' k':Nat):proj smK (sexec Tryz.prog (N6 M [(14,true)]) 40 (smB (bodyOf Tryz.f32)) [] (smhd l ty o n k s o' n' (k'+128))) =
  some (smT l s o' n' k',smhd l ty o n k (M s l o') (nxO o' k') (n' - 128) (k'+128 - 128)):=by kernel_rfl
def smX (P:Program) (M:S8→List Value→Nat→S8) (fn:Func) (l:List Value) (ty:BT) (o n k:Nat) (s:S8) (o' n' k':Nat):Act × Mem:=runS P (N6 M [(14,false)]) 40 (smB (bodyOf fn)) (smhd l ty o n k s o' n' k')
theorem sm_exit (M:S8→List Value→Nat→S8) (l:List Value) (ty:BT) (o n k:Nat) (s:S8) (o' n' k':Nat):sexec Tryz.prog (N6 M [(14,false)]) 40 (smB (bodyOf Tryz.f32)) [] (smhd l ty o n k s o' n' k')=some ([decide ((n':Int)≥128)=false],.exit 0,smX Tryz.prog M Tryz.f32 l ty o n k s o' n' k'):=by kernel_rfl
def z256:List Value:=List.replicate 256 (.int .u8 0)
def cpy (l:List Value) (o' n':Nat):List Value:=setL z256 0 ((l.drop o').take (Nat.min n' 256))
def held (n':Nat):Int:=((Nat.min n' 256:Nat):Int)
def smU (P:Program) (M:S8→List Value→Nat→S8) (fn:Func) (l:List Value) (ty:BT) (o n k:Nat) (s:S8) (o' n' k':Nat):Act × Mem:=runL P (N6 M [(999999,true)]) 40 (smC (bodyOf fn)) (smX P M fn l ty o n k s o' n' k')
def smUT (l:List Value) (o' n':Nat):List Prop:=[0+Nat.min n' 256≤z256.length∧o'+Nat.min n' 256≤l.length,0≤held n'∧held n'<((256:Nat):Int),1=1∧at0 (held n')+1≤(cpy l o' n').length]
theorem sm_mid (M:S8→List Value→Nat→S8) (l:List Value) (ty:BT) (o n k:Nat) (s:S8) (o' n' k':Nat):sexecL Tryz.prog (N6 M [(999999,true)]) 40 (smC (bodyOf Tryz.f32)) [] (smX Tryz.prog M Tryz.f32 l ty o n k s o' n' k')=some (smUT l o' n',smU Tryz.prog M Tryz.f32 l ty o n k s o' n' k'):=by kernel_rfl
def suF:List Nat:=[1,4] ++ (List.range 51).map (· + 7)
def suhd (l:List Value) (ty:BT) (o n k:Nat) (s:S8) (q:List Value) (h:Int):Act × Mem :=
 (⟨#[slv ng o n k,poison,ptr (ng+1),ptr (ng+2),poison,ptr (ng+3),.int .i64 h] ++ Array.replicate 51 poison,[]⟩,M5 ++ [some ⟨l,ty⟩,some ⟨z64,26⟩,some ⟨rowS s,91⟩,some ⟨q,93⟩])
def suK (s:Act × Mem):Act × Mem:=(forgetL s.1 suF,s.2)
theorem sm_h2 (M:S8→List Value→Nat→S8) (l:List Value) (ty:BT) (o n k:Nat) (s:S8) (o' n' k':Nat):suK (smU Tryz.prog M Tryz.f32 l ty o n k s o' n' k')=suhd l ty o n k s (putL (cpy l o' n') (at0 (held n')) [.int .u8 128]) (held n'):=by kernel_rfl
def bdT (lo hi cap:Nat):List Prop:=[(0:Int)≤(hi:Int)∧(hi:Int)≤(cap:Int),(0:Int)≤(lo:Int)∧(lo:Int)≤(hi:Int)]
def ln (n:Nat):Int:=IntKind.u64.wrap (n:Int)
def qA (q:List Value) (e:Nat):List Value:=putL q (e - 16) (by64 0)
def qB (q:List Value) (e n:Nat):List Value:=putL (qA q e) (e - 8) (by64 (8*ln n))
def suT (q:List Value) (e n:Nat) (s:S8):List Prop:=[0≤ln n∧ln n<1152921504606846976] ++ bdT (e - 16) (e - 8) 256 ++ [q.all flat1=true,Tp64 q (e - 16) 8 (256 - (e - 16)) [.int .u64 0]] ++ bdT (e - 8) e 256 ++ [(qA q e).all flat1=true,Tp64 (qA q e) (e - 8) 8 (256 - (e - 8)) [.int .u64 (8*ln n)]] ++ [(0:Int)≤128∧(128:Int)≤((256:Nat):Int),(qB q e n).all flatR=true,Tmx (qB q e n) 0 128 256 [aggS s]]
def suZ (P:Program) (M:S8→List Value→Nat→S8) (b:Bool) (fn:Func) (l:List Value) (ty:BT) (o n k:Nat) (s:S8) (q:List Value) (h:Int):Act × Mem:=runS P (N6 M [(27,b)]) 60 (smE (bodyOf fn)) (suhd l ty o n k s q h)
def oneS (s:S8):Prop:=[aggS s] = [aggS (s8of [aggS s])]
theorem su_f (M:S8→List Value→Nat→S8) (l:List Value) (ty:BT) (o n k:Nat) (s:S8) (q:List Value) (h:Int):sexec Tryz.prog (N6 M [(27,false)]) 60 (smE (bodyOf Tryz.f32)) [] (suhd l ty o n k s q h)=some ([decide (h≥112)=false] ++ suT q 128 n s ++ [oneS (M s (qB q 128 n) 0)],.ret,suZ Tryz.prog M false Tryz.f32 l ty o n k s q h):=by kernel_rfl
theorem su_t (M:S8→List Value→Nat→S8) (l:List Value) (ty:BT) (o n k:Nat) (s:S8) (q:List Value) (h:Int):sexec Tryz.prog (N6 M [(27,true)]) 60 (smE (bodyOf Tryz.f32)) [] (suhd l ty o n k s q h)=some ([decide (h≥112)=true] ++ suT q 256 n s ++ [(0:Int)≤128∧(128:Int)≤((256:Nat):Int),(qB q 256 n).all flatR=true,Tmx (qB q 256 n) 128 128 (256 - 128) [aggS (M s (qB q 256 n) 0)],oneS (M (M s (qB q 256 n) 0) (qB q 256 n) 128)],.ret,suZ Tryz.prog M true Tryz.f32 l ty o n k s q h):=by kernel_rfl
theorem su_fr (M:S8→List Value→Nat→S8) (l:List Value) (ty:BT) (o n k:Nat) (s:S8) (q:List Value) (h:Int):sres Tryz.prog Tryz.f32 (suZ Tryz.prog M false Tryz.f32 l ty o n k s q h)=some (.agg (out64 (M s (qB q 128 n) 0)).toArray):=by kernel_rfl
theorem su_tr (M:S8→List Value→Nat→S8) (l:List Value) (ty:BT) (o n k:Nat) (s:S8) (q:List Value) (h:Int):sres Tryz.prog Tryz.f32 (suZ Tryz.prog M true Tryz.f32 l ty o n k s q h)=some (.agg (out64 (M (M s (qB q 256 n) 0) (qB q 256 n) 128)).toArray):=by kernel_rfl
theorem su_fd (M:S8→List Value→Nat→S8) (l:List Value) (ty:BT) (o n k:Nat) (s:S8) (q:List Value) (h:Int):(suZ Tryz.prog M false Tryz.f32 l ty o n k s q h).1.defers = []:=by kernel_rfl
theorem su_td (M:S8→List Value→Nat→S8) (l:List Value) (ty:BT) (o n k:Nat) (s:S8) (q:List Value) (h:Int):(suZ Tryz.prog M true Tryz.f32 l ty o n k s q h).1.defers = []:=by kernel_rfl
theorem su_fm (M:S8→List Value→Nat→S8) (l:List Value) (ty:BT) (o n k:Nat) (s:S8) (q:List Value) (h:Int):(suZ Tryz.prog M false Tryz.f32 l ty o n k s q h).2=(M5 ++ [some ⟨l,ty⟩]) ++ (suZ Tryz.prog M false Tryz.f32 l ty o n k s q h).2.drop (ng+1):=by kernel_rfl
theorem su_tm (M:S8→List Value→Nat→S8) (l:List Value) (ty:BT) (o n k:Nat) (s:S8) (q:List Value) (h:Int):(suZ Tryz.prog M true Tryz.f32 l ty o n k s q h).2=(M5 ++ [some ⟨l,ty⟩]) ++ (suZ Tryz.prog M true Tryz.f32 l ty o n k s q h).2.drop (ng+1):=by kernel_rfl
end Go.Proofs.YtlihbglpdkeppaaGreatDoor.Shf
