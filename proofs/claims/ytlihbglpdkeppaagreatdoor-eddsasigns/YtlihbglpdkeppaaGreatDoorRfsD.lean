/- The reference's Sum512: its runs. -/
import Derived.Test.YtlihbglpdkeppaaGreatDoorRfsA
import Derived.Test.YtlihbglpdkeppaaGreatDoorMemN
set_option linter.unusedSimpArgs false
set_option linter.unusedVariables false
namespace Go.Proofs.YtlihbglpdkeppaaGreatDoor.Shf
open Go Go.RowKit
def gRotQ (args:List Value):Option (List Prop × Value) :=
 match args with
 | [.int .u64 x,.int .u64 k]=>if rotK.contains k then some ([],.int .u64 (rotP k.toNat x)) else none
 | _=>none
theorem rotq1 (x:Int):sfun Tryz.prog Cx.none 30 Tryz.f85 (bodyOf Tryz.f85) [.int .u64 x,.int .u64 1]=some ([],.int .u64 (rotR 1 x)):=by kernel_rfl
theorem rotq8 (x:Int):sfun Tryz.prog Cx.none 30 Tryz.f85 (bodyOf Tryz.f85) [.int .u64 x,.int .u64 8]=some ([],.int .u64 (rotR 8 x)):=by kernel_rfl
theorem rotq14 (x:Int):sfun Tryz.prog Cx.none 30 Tryz.f85 (bodyOf Tryz.f85) [.int .u64 x,.int .u64 14]=some ([],.int .u64 (rotR 14 x)):=by kernel_rfl
theorem rotq18 (x:Int):sfun Tryz.prog Cx.none 30 Tryz.f85 (bodyOf Tryz.f85) [.int .u64 x,.int .u64 18]=some ([],.int .u64 (rotR 18 x)):=by kernel_rfl
theorem rotq19 (x:Int):sfun Tryz.prog Cx.none 30 Tryz.f85 (bodyOf Tryz.f85) [.int .u64 x,.int .u64 19]=some ([],.int .u64 (rotR 19 x)):=by kernel_rfl
theorem rotq28 (x:Int):sfun Tryz.prog Cx.none 30 Tryz.f85 (bodyOf Tryz.f85) [.int .u64 x,.int .u64 28]=some ([],.int .u64 (rotR 28 x)):=by kernel_rfl
theorem rotq34 (x:Int):sfun Tryz.prog Cx.none 30 Tryz.f85 (bodyOf Tryz.f85) [.int .u64 x,.int .u64 34]=some ([],.int .u64 (rotR 34 x)):=by kernel_rfl
theorem rotq39 (x:Int):sfun Tryz.prog Cx.none 30 Tryz.f85 (bodyOf Tryz.f85) [.int .u64 x,.int .u64 39]=some ([],.int .u64 (rotR 39 x)):=by kernel_rfl
theorem rotq41 (x:Int):sfun Tryz.prog Cx.none 30 Tryz.f85 (bodyOf Tryz.f85) [.int .u64 x,.int .u64 41]=some ([],.int .u64 (rotR 41 x)):=by kernel_rfl
theorem rotq61 (x:Int):sfun Tryz.prog Cx.none 30 Tryz.f85 (bodyOf Tryz.f85) [.int .u64 x,.int .u64 61]=some ([],.int .u64 (rotR 61 x)):=by kernel_rfl
theorem gRotQ_ok {X:Cx} (hX:X.Ok Tryz.prog):(X.pure 85 gRotQ).Ok Tryz.prog:=by
 refine gBody_ok hX Tryz.func85 (by kernel_rfl) (by kernel_rfl) fun args ps v ha hg hp => ?_
 unfold gRotQ at hg
 split at hg
 ·rename_i x k
  split at hg
  ·rename_i hk
   simp only [Option.some.injEq,Prod.mk.injEq] at hg
   obtain ⟨rfl,rfl⟩:=hg
   refine ⟨.inl rfl,fun w => ?_⟩
   have run:sfun Tryz.prog Cx.none 30 Tryz.f85 (bodyOf Tryz.f85) [.int .u64 x,.int .u64 k]=some ([],.int .u64 (rotP k.toNat x)):=by
    rw [←rotR_eq]
    rcases rotK_mem hk with rfl | rfl | rfl | rfl | rfl | rfl | rfl | rfl | rfl | rfl
    ·exact rotq1 x
    ·exact rotq8 x
    ·exact rotq14 x
    ·exact rotq18 x
    ·exact rotq19 x
    ·exact rotq28 x
    ·exact rotq34 x
    ·exact rotq39 x
    ·exact rotq41 x
    ·exact rotq61 x
   exact sfun_calls Cx.none_ok mixed Tryz.func85 (by kernel_rfl) run (by simp) ha (.inl rfl) w
  ·simp at hg
 ·simp at hg
def gK5:List Value→Option (List Prop × Value)
 | []=>some ([],.agg K512.toArray)
 | _=>none
theorem k5_run:sfun Tryz.prog Cx.none 30 Tryz.f83 (bodyOf Tryz.f83) []=some ([],.agg K512.toArray):=by kernel_rfl
theorem gK5_ok {X:Cx} (hX:X.Ok Tryz.prog):(X.pure 83 gK5).Ok Tryz.prog:=by
 refine gBody_ok hX Tryz.func83 (by kernel_rfl) (by kernel_rfl) fun args ps v ha hg hp => ?_
 unfold gK5 at hg
 split at hg
 ·simp only [Option.some.injEq,Prod.mk.injEq] at hg
  obtain ⟨rfl,rfl⟩:=hg
  exact ⟨.inl (by kernel_rfl),fun w=>sfun_calls Cx.none_ok mixed Tryz.func83 (by kernel_rfl) k5_run (by simp) ha (.inl (by kernel_rfl)) w⟩
 ·simp at hg
def Q0:Cx:=(Cx.none.pure 85 gRotQ).pure 83 gK5
theorem Q0_ok:Q0.Ok Tryz.prog:=gK5_ok (gRotQ_ok Cx.none_ok)
theorem Q0_gl:Q0.gl = []:=by kernel_rfl
def Qt (d:List (Nat × Bool)):Cx:=Q0.terms.tell d
theorem Qt_ok (d:List (Nat × Bool)):(Qt d).Ok Tryz.prog:=Cx.tell_ok (Cx.terms_ok Q0_ok) d
theorem Qt_gl (d:List (Nat × Bool)):(Qt d).gl = []:=by kernel_rfl
def mkA (l:List (Nat × Value)):Act:=⟨l.foldl (fun a p=>a.setIfInBounds p.1 p.2) (Array.replicate 224 poison),[]⟩
def rest (l:List Nat):List Nat:=(List.range 224).filter fun i => !l.contains i
def rsM (h:S8) (q:List Value):Mem:=[some ⟨z64,26⟩,some ⟨rowS h,91⟩,some ⟨K512,104⟩,some ⟨q,⟨5,(0,0)⟩⟩]
def base (n cap:Nat) (a:Int):List (Nat × Value):=[(2,ptr 0),(3,ptr 1),(4,ptr 2),(5,.slice (some ⟨3,0,none⟩) n cap),(6,.int .i64 a)]
def hd0 (n cap:Nat) (q:List Value) (a:Int) (h:S8):Act × Mem:=(mkA (base n cap a),rsM h q)
def f0:List Nat:=rest [2,3,4,5,6]
def wB (ws:List Value):Option Blk:=some ⟨ws,104⟩
def hd2 (n cap:Nat) (q:List Value) (a:Int) (h:S8) (ws:List Value) (t:Int):Act × Mem:=(mkA (base n cap a ++ [(7,ptr 4),(32,.int .i64 t)]),rsM h q ++ [wB ws])
def f2:List Nat:=rest [2,3,4,5,6,7,32]
def hd4 (n cap:Nat) (q:List Value) (a:Int) (h:S8) (ws:List Value) (t i:Int):Act × Mem:=(mkA (base n cap a ++ [(7,ptr 4),(8,.int .i64 t),(32,.int .i64 t),(35,.int .i64 i)]),rsM h q ++ [wB ws])
def f4:List Nat:=rest [2,3,4,5,6,7,8,32,35]
def hd6 (n cap:Nat) (q:List Value) (a:Int) (h:S8) (ws:List Value) (t:Int):Act × Mem:=(mkA (base n cap a ++ [(7,ptr 4),(10,.int .i64 t)]),rsM h q ++ [wB ws])
def f6:List Nat:=rest [2,3,4,5,6,7,10]
def hd8 (n cap:Nat) (q:List Value) (a:Int) (h:S8) (ws:List Value) (s:S8) (t:Int):Act × Mem:=(mkA (base n cap a ++ [(7,ptr 4),(13,ptr 5),(111,.int .i64 t)]),rsM h q ++ [wB ws,some ⟨rowS s,91⟩])
def f8:List Nat:=rest [2,3,4,5,6,7,13,111]
def hdE (n cap:Nat) (q:List Value) (a:Int) (h:S8) (out:List Value) (i:Int):Act × Mem:=(mkA (base n cap a ++ [(20,ptr 4),(206,.int .i64 i)]),rsM h q ++ [some ⟨out,26⟩])
def fE:List Nat:=rest [2,3,4,5,6,20,206]
def kp (l:List Nat) (s:Act × Mem):Act × Mem:=(forgetL s.1 l,s.2)
def m0 (c:Code):List Code:=[cL c,cL (cR c),cL (cR (cR c))]
def m3 (c:Code):Code:=cL (cR (cR (cR c)))
def m4 (c:Code):Code:=cL (cL (cR (cR (cR (cR c)))))
def mL (c:Code):Code:=cL (cL (cR (cL (cR (cR (cR (cR c)))))))
def m5 (c:Code):Code:=cL (mL c)
def mI (c:Code):Code:=cL (cL (cR (mL c)))
def m6 (c:Code):Code:=cR (cR (mL c))
def m7 (c:Code):Code:=cL (mI c)
def m8c (c:Code):Code:=cL (cL (cR (mI c)))
def mA (c:Code):Code:=cL (cL (cR (cL (cR (mI c)))))
def mA1 (c:Code):List Code:=[cL (mA c),cL (cR (mA c))]
def mA2 (c:Code):Code:=cL (cL (cL (cR (cR (mA c)))))
def m11 (c:Code):Code:=cL (cR (cL (cL (cR (cR (mA c))))))
def mB (c:Code):Code:=cL (cL (cR (cR (cL (cL (cR (cR (mA c))))))))
def m16 (c:Code):Code:=cR (cR (cR (mA c)))
def m17 (c:Code):Code:=cL (cL (cR (cR (mI c))))
def mC (c:Code):Code:=cL (cL (cR (cL (cR (cR (mI c))))))
def m23 (c:Code):Code:=cL (cR (cR (cR (mI c))))
def m24 (c:Code):Code:=cL (cL (cR (cR (cR (cR (mI c))))))
def mD (c:Code):Code:=cL (cL (cR (cL (cR (cR (cR (cR (mI c))))))))
def m32 (c:Code):Code:=cR (cR (cR (cR (cR (mI c)))))
def mE (c:Code):Code:=cR (cR (cR (cR (cR c))))
def m37 (c:Code):Code:=cL (mE c)
def m38 (c:Code):Code:=cL (cL (cR (mE c)))
def mF (c:Code):Code:=cL (cL (cR (cL (cR (mE c)))))
def m43 (c:Code):Code:=cR (cR (mE c))
theorem rs_code:bodyOf Tryz.f36=seqs (m0 (bodyOf Tryz.f36)) (.seq (m3 (bodyOf Tryz.f36)) (.seq (.seq (m4 (bodyOf Tryz.f36)) (.block 0 (.loop (mL (bodyOf Tryz.f36))))) (.seq (m37 (bodyOf Tryz.f36)) (.seq (.seq (m38 (bodyOf Tryz.f36)) (.block 12 (.loop (mF (bodyOf Tryz.f36))))) (m43 (bodyOf Tryz.f36)))))):=by kernel_rfl
theorem rs_L:mL (bodyOf Tryz.f36) = .seq (m5 (bodyOf Tryz.f36)) (.seq (.block 1 (.seq (m7 (bodyOf Tryz.f36)) (.seq (.seq (m8c (bodyOf Tryz.f36)) (.block 2 (.loop (mA (bodyOf Tryz.f36))))) (.seq (.seq (m17 (bodyOf Tryz.f36)) (.block 6 (.loop (mC (bodyOf Tryz.f36))))) (.seq (m23 (bodyOf Tryz.f36)) (.seq (.seq (m24 (bodyOf Tryz.f36)) (.block 8 (.loop (mD (bodyOf Tryz.f36))))) (m32 (bodyOf Tryz.f36)))))))) (m6 (bodyOf Tryz.f36))):=by kernel_rfl
theorem rs_A:mA (bodyOf Tryz.f36)=seqs (mA1 (bodyOf Tryz.f36)) (.seq (.block 3 (.seq (mA2 (bodyOf Tryz.f36)) (.seq (m11 (bodyOf Tryz.f36)) (.block 4 (.loop (mB (bodyOf Tryz.f36))))))) (m16 (bodyOf Tryz.f36))):=by kernel_rfl
def rs0 (fn:Func) (v:Sv):Act × Mem:=(sinit fn [raw v.val],[])
def rs1 (P:Program) (fn:Func) (v:Sv):Act × Mem:=runL P Q0 30 (m0 (bodyOf fn)) (rs0 fn v)
theorem rs_1 (v:Sv):sexecL Tryz.prog Q0 30 (m0 (bodyOf Tryz.f36)) [] (rs0 Tryz.f36 v)=some ([],rs1 Tryz.prog Tryz.f36 v):=by kernel_rfl
def rs2 (P:Program) (fn:Func) (v:Sv):Act × Mem:=ahead P Q0 (m3 (bodyOf fn)) [0] (rs1 P fn v)
theorem rs_2 (v:Sv):sseq Tryz.prog Q0 (rOps (m3 (bodyOf Tryz.f36))) (rs1 Tryz.prog Tryz.f36 v).2.length [0] [] ((rs1 Tryz.prog Tryz.f36 v).1,(rs1 Tryz.prog Tryz.f36 v).2 ++ List.replicate ((rOps (m3 (bodyOf Tryz.f36))).toList.filter makes).length none)=some ([],rs2 Tryz.prog Tryz.f36 v):=by kernel_rfl
theorem rs_2o (v:Sv):okX [] (rs2 Tryz.prog Tryz.f36 v).1.eval (.tmp 24)=true:=by kernel_rfl
theorem rs_2e (v:Sv):(rs2 Tryz.prog Tryz.f36 v).1.eval (.tmp 24)=raw v.val:=by kernel_rfl
def rsB:Mem:=[some ⟨z64,26⟩,some ⟨H512,91⟩,some ⟨K512,104⟩]
theorem rs_2m (v:Sv):(rs2 Tryz.prog Tryz.f36 v).2=rsB:=by kernel_rfl
def rs3 (P:Program) (fn:Func) (v:Sv) (n cap:Nat) (q:List Value):Act × Mem:=seqS P Q0 (rOps (m3 (bodyOf fn))) 3 [2] ((rs2 P fn v).1.put (some 25) (.slice (some ⟨3,0,none⟩) n cap),rsB ++ [some ⟨q,⟨5,(0,0)⟩⟩])
theorem rs_3 (v:Sv) (n cap:Nat) (q:List Value):sseq Tryz.prog Q0 (rOps (m3 (bodyOf Tryz.f36))) 3 [2] [] ((rs2 Tryz.prog Tryz.f36 v).1.put (some 25) (.slice (some ⟨3,0,none⟩) n cap),rsB ++ [some ⟨q,⟨5,(0,0)⟩⟩])=some ([],rs3 Tryz.prog Tryz.f36 v n cap q):=by kernel_rfl
def rs4 (P:Program) (fn:Func) (v:Sv) (n cap:Nat) (q:List Value):Act × Mem:=runL P Q0 20 [m4 (bodyOf fn)] (rs3 P fn v n cap q)
theorem rs_4 (v:Sv) (n cap:Nat) (q:List Value):sexecL Tryz.prog Q0 20 [m4 (bodyOf Tryz.f36)] [] (rs3 Tryz.prog Tryz.f36 v n cap q)=some ([],rs4 Tryz.prog Tryz.f36 v n cap q):=by kernel_rfl
theorem rs_4k (v:Sv) (n cap:Nat) (q:List Value):kp f0 (rs4 Tryz.prog Tryz.f36 v n cap q)=hd0 n cap q 0 s0H:=by kernel_rfl
theorem rs_5 (n cap:Nat) (q:List Value) (a:Int) (h:S8):proj (kp f0) (sexec Tryz.prog (Qt [(29,true)]) 30 (m5 (bodyOf Tryz.f36)) [] (hd0 n cap q a h))=some ([decide (a<(n:Int))=true],hd0 n cap q a h):=by kernel_rfl
def rsX (P:Program) (fn:Func) (n cap:Nat) (q:List Value) (a:Int) (h:S8):Act × Mem:=runS P (Qt [(29,false)]) 30 (mL (bodyOf fn)) (hd0 n cap q a h)
theorem rs_x (n cap:Nat) (q:List Value) (a:Int) (h:S8):sexec Tryz.prog (Qt [(29,false)]) 30 (mL (bodyOf Tryz.f36)) [] (hd0 n cap q a h)=some ([decide (a<(n:Int))=false],.exit 0,rsX Tryz.prog Tryz.f36 n cap q a h):=by kernel_rfl
theorem rs_xk (n cap:Nat) (q:List Value) (a:Int) (h:S8):kp f0 (rsX Tryz.prog Tryz.f36 n cap q a h)=hd0 n cap q a h:=by kernel_rfl
def rs7 (P:Program) (fn:Func) (n cap:Nat) (q:List Value) (a:Int) (h:S8):Act × Mem:=runL P Q0 30 [m7 (bodyOf fn)] (hd0 n cap q a h)
theorem rs_7 (n cap:Nat) (q:List Value) (a:Int) (h:S8):sexecL Tryz.prog Q0 30 [m7 (bodyOf Tryz.f36)] [] (hd0 n cap q a h)=some ([],rs7 Tryz.prog Tryz.f36 n cap q a h):=by kernel_rfl
def rs8 (P:Program) (fn:Func) (n cap:Nat) (q:List Value) (a:Int) (h:S8):Act × Mem:=runL P Q0 30 [m8c (bodyOf fn)] (rs7 P fn n cap q a h)
theorem rs_8 (n cap:Nat) (q:List Value) (a:Int) (h:S8):sexecL Tryz.prog Q0 30 [m8c (bodyOf Tryz.f36)] [] (rs7 Tryz.prog Tryz.f36 n cap q a h)=some ([],rs8 Tryz.prog Tryz.f36 n cap q a h):=by kernel_rfl
theorem rs_8k (n cap:Nat) (q:List Value) (a:Int) (h:S8):kp f2 (rs8 Tryz.prog Tryz.f36 n cap q a h)=hd2 n cap q a h z80 0:=by kernel_rfl
def rsA1 (P:Program) (fn:Func) (n cap:Nat) (q:List Value) (a:Int) (h:S8) (ws:List Value) (t:Int):Act × Mem:=runL P (Qt [(33,true)]) 30 (mA1 (bodyOf fn)) (hd2 n cap q a h ws t)
theorem rs_A1 (n cap:Nat) (q:List Value) (a:Int) (h:S8) (ws:List Value) (t:Int):sexecL Tryz.prog (Qt [(33,true)]) 30 (mA1 (bodyOf Tryz.f36)) [] (hd2 n cap q a h ws t)=some ([decide (t<16)=true],rsA1 Tryz.prog Tryz.f36 n cap q a h ws t):=by kernel_rfl
def rsA2 (P:Program) (fn:Func) (n cap:Nat) (q:List Value) (a:Int) (h:S8) (ws:List Value) (t:Int):Act × Mem:=runL P (Qt []) 30 [mA2 (bodyOf fn),m11 (bodyOf fn)] (rsA1 P fn n cap q a h ws t)
theorem rs_A2 (n cap:Nat) (q:List Value) (a:Int) (h:S8) (ws:List Value) (t:Int):sexecL Tryz.prog (Qt []) 30 [mA2 (bodyOf Tryz.f36),m11 (bodyOf Tryz.f36)] [] (rsA1 Tryz.prog Tryz.f36 n cap q a h ws t)=some ([],rsA2 Tryz.prog Tryz.f36 n cap q a h ws t):=by kernel_rfl
theorem rs_A2k (n cap:Nat) (q:List Value) (a:Int) (h:S8) (ws:List Value) (t:Int):kp f4 (rsA2 Tryz.prog Tryz.f36 n cap q a h ws t)=hd4 n cap q a h ws t 0:=by kernel_rfl
def rsAX (P:Program) (fn:Func) (n cap:Nat) (q:List Value) (a:Int) (h:S8) (ws:List Value) (t:Int):Act × Mem:=runS P (Qt [(33,false)]) 30 (mA (bodyOf fn)) (hd2 n cap q a h ws t)
theorem rs_AX (n cap:Nat) (q:List Value) (a:Int) (h:S8) (ws:List Value) (t:Int):sexec Tryz.prog (Qt [(33,false)]) 30 (mA (bodyOf Tryz.f36)) [] (hd2 n cap q a h ws t)=some ([decide (t<16)=false],.exit 2,rsAX Tryz.prog Tryz.f36 n cap q a h ws t):=by kernel_rfl
theorem rs_AXk (n cap:Nat) (q:List Value) (a:Int) (h:S8) (ws:List Value) (t:Int):kp f2 (rsAX Tryz.prog Tryz.f36 n cap q a h ws t)=hd2 n cap q a h ws t:=by kernel_rfl
def ixB (a t i:Int):Int:=IntKind.i64.wrap (IntKind.i64.wrap (a+IntKind.i64.wrap (8*t))+i)
def rsBT (n:Nat) (q ws:List Value) (a t i:Int):List Prop:=[decide (i<8)=true,0≤t∧t<((80:Nat):Int),ws[at0 t]? = some (.int .u64 (intL ws (at0 t))),(0:Int)≤8,0≤ixB a t i∧ixB a t i<(n:Int),q[at0 (ixB a t i)]? = some (.int .u8 (intL q (at0 (ixB a t i)))),0≤t∧t<((80:Nat):Int),1=1∧at0 t+1≤ws.length]
theorem rs_B (n cap:Nat) (q:List Value) (a:Int) (h:S8) (ws:List Value) (t i:Int):proj (kp f4) (sexec Tryz.prog (Qt [(36,true),(999999,true)]) 30 (mB (bodyOf Tryz.f36)) [] (hd4 n cap q a h ws t i))=some (rsBT n q ws a t i,hd4 n cap q a h (putL ws (at0 t) [.int .u64 (sh8 (intL ws (at0 t)) (intL q (at0 (ixB a t i))))]) t (IntKind.i64.wrap (i+1))):=by kernel_rfl
def rsBX (P:Program) (fn:Func) (n cap:Nat) (q:List Value) (a:Int) (h:S8) (ws:List Value) (t i:Int):Act × Mem:=runS P (Qt [(36,false)]) 30 (mB (bodyOf fn)) (hd4 n cap q a h ws t i)
theorem rs_BX (n cap:Nat) (q:List Value) (a:Int) (h:S8) (ws:List Value) (t i:Int):sexec Tryz.prog (Qt [(36,false)]) 30 (mB (bodyOf Tryz.f36)) [] (hd4 n cap q a h ws t i)=some ([decide (i<8)=false],.exit 4,rsBX Tryz.prog Tryz.f36 n cap q a h ws t i):=by kernel_rfl
theorem rs_BXk (n cap:Nat) (q:List Value) (a:Int) (h:S8) (ws:List Value) (t i:Int):kp f2 (rsBX Tryz.prog Tryz.f36 n cap q a h ws t i)=hd2 n cap q a h ws t:=by kernel_rfl
theorem rs_16 (n cap:Nat) (q:List Value) (a:Int) (h:S8) (ws:List Value) (t:Int):proj (kp f2) (sexec Tryz.prog (Qt []) 30 (m16 (bodyOf Tryz.f36)) [] (hd2 n cap q a h ws t))=some ([],hd2 n cap q a h ws (IntKind.i64.wrap (t+1))):=by kernel_rfl
def rs17 (P:Program) (fn:Func) (n cap:Nat) (q:List Value) (a:Int) (h:S8) (ws:List Value) (t:Int):Act × Mem:=runL P Q0 30 [m17 (bodyOf fn)] (hd2 n cap q a h ws t)
theorem rs_17 (n cap:Nat) (q:List Value) (a:Int) (h:S8) (ws:List Value) (t:Int):sexecL Tryz.prog Q0 30 [m17 (bodyOf Tryz.f36)] [] (hd2 n cap q a h ws t)=some ([],rs17 Tryz.prog Tryz.f36 n cap q a h ws t):=by kernel_rfl
theorem rs_17k (n cap:Nat) (q:List Value) (a:Int) (h:S8) (ws:List Value) (t:Int):kp f6 (rs17 Tryz.prog Tryz.f36 n cap q a h ws t)=hd6 n cap q a h ws 16:=by kernel_rfl
def ldW (ws:List Value) (t d:Int):List Prop:=[0≤ix t d∧ix t d<((80:Nat):Int),ws[at0 (ix t d)]? = some (.int .u64 (intL ws (at0 (ix t d))))]
def rsCT (ws:List Value) (t:Int):List Prop:=[decide (t<80)=true] ++ ldW ws t 2 ++ ldW ws t 2 ++ ldW ws t 2 ++ [(0:Int)≤6] ++ ldW ws t 15 ++ ldW ws t 15 ++ ldW ws t 15 ++ [(0:Int)≤7] ++ ldW ws t 7 ++ ldW ws t 16 ++ [0≤t∧t<((80:Nat):Int),1=1∧at0 t+1≤ws.length]
theorem rs_C (n cap:Nat) (q:List Value) (a:Int) (h:S8) (ws:List Value) (t:Int):proj (kp f6) (sexec Tryz.prog (Qt [(58,true),(999999,true)]) 40 (mC (bodyOf Tryz.f36)) [] (hd6 n cap q a h ws t))=some (rsCT ws t,hd6 n cap q a h (putL ws (at0 t) [.int .u64 (nw ws t)]) (IntKind.i64.wrap (t+1))):=by kernel_rfl
def rsCX (P:Program) (fn:Func) (n cap:Nat) (q:List Value) (a:Int) (h:S8) (ws:List Value) (t:Int):Act × Mem:=runS P (Qt [(58,false)]) 40 (mC (bodyOf fn)) (hd6 n cap q a h ws t)
theorem rs_CX (n cap:Nat) (q:List Value) (a:Int) (h:S8) (ws:List Value) (t:Int):sexec Tryz.prog (Qt [(58,false)]) 40 (mC (bodyOf Tryz.f36)) [] (hd6 n cap q a h ws t)=some ([decide (t<80)=false],.exit 6,rsCX Tryz.prog Tryz.f36 n cap q a h ws t):=by kernel_rfl
theorem rs_CXk (n cap:Nat) (q:List Value) (a:Int) (h:S8) (ws:List Value) (t:Int):kp f6 (rsCX Tryz.prog Tryz.f36 n cap q a h ws t)=hd6 n cap q a h ws t:=by kernel_rfl
def rs23 (P:Program) (fn:Func) (n cap:Nat) (q:List Value) (a:Int) (h:S8) (ws:List Value) (t:Int):Act × Mem:=runL P Q0 30 [m23 (bodyOf fn)] (hd6 n cap q a h ws t)
theorem rs_23 (n cap:Nat) (q:List Value) (a:Int) (h:S8) (ws:List Value) (t:Int):sexecL Tryz.prog Q0 30 [m23 (bodyOf Tryz.f36)] [] (hd6 n cap q a h ws t)=some ([],rs23 Tryz.prog Tryz.f36 n cap q a h ws t):=by kernel_rfl
def rs24 (P:Program) (fn:Func) (n cap:Nat) (q:List Value) (a:Int) (h:S8) (ws:List Value) (t:Int):Act × Mem:=runL P Q0 30 [m24 (bodyOf fn)] (rs23 P fn n cap q a h ws t)
theorem rs_24 (n cap:Nat) (q:List Value) (a:Int) (h:S8) (ws:List Value) (t:Int):sexecL Tryz.prog Q0 30 [m24 (bodyOf Tryz.f36)] [] (rs23 Tryz.prog Tryz.f36 n cap q a h ws t)=some ([],rs24 Tryz.prog Tryz.f36 n cap q a h ws t):=by kernel_rfl
theorem rs_24k (n cap:Nat) (q:List Value) (a:Int) (h:S8) (ws:List Value) (t:Int):kp f8 (rs24 Tryz.prog Tryz.f36 n cap q a h ws t)=hd8 n cap q a h ws h 0:=by kernel_rfl
def ld8 (s:S8) (i:Nat):List Prop:=[(0:Int)≤(i:Int)∧(i:Int)<((8:Nat):Int),(rowS s)[i]? = some (.int .u64 (intL (rowS s) i))]
def rsDT (ws:List Value) (s:S8) (t:Int):List Prop:=[decide (t<80)=true] ++ ([4,0,7,5,6].flatMap (ld8 s)) ++ [0≤t∧t<((80:Nat):Int),K512[at0 t]? = some (.int .u64 (intL K512 (at0 t))),0≤t∧t<((80:Nat):Int),ws[at0 t]? = some (.int .u64 (intL ws (at0 t)))] ++ ([1,2,1,2,0,1,2,3,4,5,6].flatMap (ld8 s))
theorem rs_D (n cap:Nat) (q:List Value) (a:Int) (h:S8) (ws:List Value) (s:S8) (t:Int):proj (kp f8) (sexec Tryz.prog (Qt [(112,true)]) 40 (mD (bodyOf Tryz.f36)) [] (hd8 n cap q a h ws s t))=some (rsDT ws s t,hd8 n cap q a h ws (rnd s (intL K512 (at0 t)) (intL ws (at0 t))) (IntKind.i64.wrap (t+1))):=by kernel_rfl
def rsDX (P:Program) (fn:Func) (n cap:Nat) (q:List Value) (a:Int) (h:S8) (ws:List Value) (s:S8) (t:Int):Act × Mem:=runS P (Qt [(112,false)]) 40 (mD (bodyOf fn)) (hd8 n cap q a h ws s t)
theorem rs_DX (n cap:Nat) (q:List Value) (a:Int) (h:S8) (ws:List Value) (s:S8) (t:Int):sexec Tryz.prog (Qt [(112,false)]) 40 (mD (bodyOf Tryz.f36)) [] (hd8 n cap q a h ws s t)=some ([decide (t<80)=false],.exit 8,rsDX Tryz.prog Tryz.f36 n cap q a h ws s t):=by kernel_rfl
theorem rs_DXk (n cap:Nat) (q:List Value) (a:Int) (h:S8) (ws:List Value) (s:S8) (t:Int):kp f8 (rsDX Tryz.prog Tryz.f36 n cap q a h ws s t)=hd8 n cap q a h ws s t:=by kernel_rfl
def rs32 (P:Program) (fn:Func) (n cap:Nat) (q:List Value) (a:Int) (h:S8) (ws:List Value) (s:S8) (t:Int):Act × Mem:=runS P Q0 60 (m32 (bodyOf fn)) (hd8 n cap q a h ws s t)
theorem rs_32 (n cap:Nat) (q:List Value) (a:Int) (h:S8) (ws:List Value) (s:S8) (t:Int):sexec Tryz.prog Q0 60 (m32 (bodyOf Tryz.f36)) [] (hd8 n cap q a h ws s t)=some ([],.normal,rs32 Tryz.prog Tryz.f36 n cap q a h ws s t):=by kernel_rfl
def rs6 (P:Program) (fn:Func) (n cap:Nat) (q:List Value) (a:Int) (h:S8) (ws:List Value) (s:S8) (t:Int):Act × Mem:=runS P Q0 30 (m6 (bodyOf fn)) (rs32 P fn n cap q a h ws s t)
theorem rs_6 (n cap:Nat) (q:List Value) (a:Int) (h:S8) (ws:List Value) (s:S8) (t:Int):sexec Tryz.prog Q0 30 (m6 (bodyOf Tryz.f36)) [] (rs32 Tryz.prog Tryz.f36 n cap q a h ws s t)=some ([],.normal,rs6 Tryz.prog Tryz.f36 n cap q a h ws s t):=by kernel_rfl
theorem rs_6k (n cap:Nat) (q:List Value) (a:Int) (h:S8) (ws:List Value) (s:S8) (t:Int):(forgetL (rs6 Tryz.prog Tryz.f36 n cap q a h ws s t).1 f0,(rs6 Tryz.prog Tryz.f36 n cap q a h ws s t).2.take 4)=hd0 n cap q (IntKind.i64.wrap (a+128)) (addS h s):=by kernel_rfl
def rs37 (P:Program) (fn:Func) (n cap:Nat) (q:List Value) (a:Int) (h:S8):Act × Mem:=runL P Q0 30 [m37 (bodyOf fn)] (hd0 n cap q a h)
theorem rs_37 (n cap:Nat) (q:List Value) (a:Int) (h:S8):sexecL Tryz.prog Q0 30 [m37 (bodyOf Tryz.f36)] [] (hd0 n cap q a h)=some ([],rs37 Tryz.prog Tryz.f36 n cap q a h):=by kernel_rfl
def rs38 (P:Program) (fn:Func) (n cap:Nat) (q:List Value) (a:Int) (h:S8):Act × Mem:=runL P Q0 30 [m38 (bodyOf fn)] (rs37 P fn n cap q a h)
theorem rs_38 (n cap:Nat) (q:List Value) (a:Int) (h:S8):sexecL Tryz.prog Q0 30 [m38 (bodyOf Tryz.f36)] [] (rs37 Tryz.prog Tryz.f36 n cap q a h)=some ([],rs38 Tryz.prog Tryz.f36 n cap q a h):=by kernel_rfl
theorem rs_38k (n cap:Nat) (q:List Value) (a:Int) (h:S8):kp fE (rs38 Tryz.prog Tryz.f36 n cap q a h)=hdE n cap q a h z64 0:=by kernel_rfl
def d8 (i:Int):Int:=IntKind.i64.wrap (Int.tdiv i 8)
def s8 (i:Int):Int:=IntKind.u64.wrap (IntKind.i64.wrap (56 - IntKind.i64.wrap (8*Int.tmod i 8)))
def oB (h:S8) (i:Int):Int:=IntKind.u8.wrap (Int.fdiv (intL (rowS h) (at0 (d8 i))) (2 ^ min (s8 i).toNat 64))
def rsFT (h:S8) (out:List Value) (i:Int):List Prop:=[decide (i<64)=true,0≤d8 i∧d8 i<((8:Nat):Int),(rowS h)[at0 (d8 i)]? = some (.int .u64 (intL (rowS h) (at0 (d8 i)))),0≤s8 i,0≤i∧i<((64:Nat):Int),1=1∧at0 i+1≤out.length]
theorem rs_F (n cap:Nat) (q:List Value) (a:Int) (h:S8) (out:List Value) (i:Int):proj (kp fE) (sexec Tryz.prog (Qt [(207,true),(999999,true)]) 40 (mF (bodyOf Tryz.f36)) [] (hdE n cap q a h out i))=some (rsFT h out i,hdE n cap q a h (putL out (at0 i) [.int .u8 (oB h i)]) (IntKind.i64.wrap (i+1))):=by kernel_rfl
def rsFX (P:Program) (fn:Func) (n cap:Nat) (q:List Value) (a:Int) (h:S8) (out:List Value) (i:Int):Act × Mem:=runS P (Qt [(207,false)]) 40 (mF (bodyOf fn)) (hdE n cap q a h out i)
theorem rs_FX (n cap:Nat) (q:List Value) (a:Int) (h:S8) (out:List Value) (i:Int):sexec Tryz.prog (Qt [(207,false)]) 40 (mF (bodyOf Tryz.f36)) [] (hdE n cap q a h out i)=some ([decide (i<64)=false],.exit 12,rsFX Tryz.prog Tryz.f36 n cap q a h out i):=by kernel_rfl
theorem rs_FXk (n cap:Nat) (q:List Value) (a:Int) (h:S8) (out:List Value) (i:Int):kp fE (rsFX Tryz.prog Tryz.f36 n cap q a h out i)=hdE n cap q a h out i:=by kernel_rfl
def rsZ (P:Program) (fn:Func) (n cap:Nat) (q:List Value) (a:Int) (h:S8) (g:S8) (i:Int):Act × Mem:=runS P Q0 40 (m43 (bodyOf fn)) (hdE n cap q a h (out64 g) i)
theorem rs_Z (n cap:Nat) (q:List Value) (a:Int) (h:S8) (g:S8) (i:Int):sexec Tryz.prog Q0 40 (m43 (bodyOf Tryz.f36)) [] (hdE n cap q a h (out64 g) i)=some ([],.ret,rsZ Tryz.prog Tryz.f36 n cap q a h g i):=by kernel_rfl
theorem rs_Zr (n cap:Nat) (q:List Value) (a:Int) (h:S8) (g:S8) (i:Int):sres Tryz.prog Tryz.f36 (rsZ Tryz.prog Tryz.f36 n cap q a h g i)=some (.agg (out64 g).toArray):=by kernel_rfl
theorem rs_Zd (n cap:Nat) (q:List Value) (a:Int) (h:S8) (g:S8) (i:Int):(rsZ Tryz.prog Tryz.f36 n cap q a h g i).1.defers = []:=by kernel_rfl
end Go.Proofs.YtlihbglpdkeppaaGreatDoor.Shf
namespace Go.Proofs.YtlihbglpdkeppaaGreatDoor.Shf
open Go Go.RowKit
variable {H:Ren→World→Prop} {Q:Exit→Act × Mem→Prop}
theorem cells_zero (x:List Int) (m:Nat):cells x (m+1)=cells (x ++ [0]) m:=by
 unfold cells
 rw [List.replicate_succ,List.map_append]
 simp
theorem cells_put2 (x:List Int) (c v:Int) (m:Nat):putL (cells (x ++ [c]) m) x.length [.int .u64 v]=cells (x ++ [v]) m:=by
 unfold putL cells
 have h1:((x ++ [c]).map (Value.int .u64) ++ List.replicate m (Value.int .u64 0)).take x.length=x.map (Value.int .u64):=by
  rw [List.map_append,List.append_assoc];exact List.take_left' (by simp)
 have h2:((x ++ [c]).map (Value.int .u64) ++ List.replicate m (Value.int .u64 0)).drop (x.length+1)=List.replicate m (Value.int .u64 0):=List.drop_left' (by simp)
 rw [List.length_singleton,h1,h2]
 simp
theorem cells_last (x:List Int) (c:Int) (m:Nat):intL (cells (x ++ [c]) m) x.length=c∧(cells (x ++ [c]) m)[x.length]? = some (.int .u64 c):=by
 obtain ⟨h1,h2⟩:=cells_get (x ++ [c]) m x.length (by simp)
 have e:(x ++ [c]).getD x.length 0=c:=by simp [List.getD_eq_getElem?_getD]
 rw [e] at h1
 exact ⟨h1,by rw [h2,h1]⟩
def bW (y:Nat→Int) (t:Nat):List Int:=(List.range t).map fun j=>W64b fun u=>y (8*j+u)
theorem bW_len (y:Nat→Int) (t:Nat):(bW y t).length=t:=by simp [bW]
theorem bW_succ (y:Nat→Int) (t:Nat):bW y (t+1)=bW y t ++ [W64b fun u=>y (8*t+u)]:=by simp [bW,List.range_succ]
structure Bts (q:List Value) (n:Nat) (p:Nat→Int):Prop where
 get : ∀ i,i<n→q[i]? = some (.int .u8 (p i))
 rng : ∀ i,i<n→0≤p i∧p i<256
theorem Bts.int {q:List Value} {n:Nat} {p:Nat→Int} (h:Bts q n p) {i:Nat} (hi:i<n):intL q i=p i:=by unfold intL;rw [h.get i hi]
theorem ixB_nat {j t i:Nat} (hj:j<1099511627776) (ht:t<16) (hi:i<8):ixB ((128*j:Nat):Int) (t:Int) (i:Int)=((128*j+(8*t+i):Nat):Int):=by
 unfold ixB
 rw [wrap_i64 (i:=8*(t:Int)) (by omega) (by omega),wrap_i64 (i:=((128*j:Nat):Int)+8*(t:Int)) (by omega) (by omega),wrap_i64 (by omega) (by omega)]
 omega
abbrev In (H:Ren→World→Prop) (t s:Act × Mem):Prop:=Into H Tryz.prog [] t s
theorem rs_b {n cap:Nat} {q:List Value} {p:Nat→Int} (hq:Bts q n p) {j:Nat} (hj:128*(j+1)≤n) (hjs:j<1099511627776) (h:S8) {t:Nat} (ht:t<16) (i:Nat) (hi:i<8) {s:Act × Mem}
  (hin:In H (hd4 n cap q ((128*j:Nat):Int) h (cells (bW (fun u=>p (128*j+u)) t ++ [wS (fun u=>p (128*j+(8*t+u))) i]) (79 - t)) (t:Int) (i:Int)) s) :
  SWn H Tryz.prog [] (mB (bodyOf Tryz.f36)) s (thenS (fun s'=>In H (hd4 n cap q ((128*j:Nat):Int) h (cells (bW (fun u=>p (128*j+u)) t ++ [wS (fun u=>p (128*j+(8*t+u))) (i+1)]) (79 - t)) (t:Int) ((i+1:Nat):Int)) s') Q):=by
 refine hin _ _ ?_
 have hx:=bW_len (fun u=>p (128*j+u)) t
 obtain ⟨c1,c2⟩:=cells_last (bW (fun u=>p (128*j+u)) t) (wS (fun u=>p (128*j+(8*t+u))) i) (79 - t)
 have c3:=cells_put2 (bW (fun u=>p (128*j+u)) t) (wS (fun u=>p (128*j+(8*t+u))) i) (wS (fun u=>p (128*j+(8*t+u))) (i+1)) (79 - t)
 have c4:=cells_len (bW (fun u=>p (128*j+u)) t ++ [wS (fun u=>p (128*j+(8*t+u))) i]) (79 - t)
 rw [List.length_append,hx,List.length_singleton] at c4
 rw [hx] at c1 c2 c3
 have ei:=ixB_nat hjs ht hi
 have hg:=hq.get (128*j+(8*t+i)) (by omega)
 have hv:=hq.int (i:=128*j+(8*t+i)) (by omega)
 obtain ⟨z,hz,he⟩:=proj_some (rs_B n cap q ((128*j:Nat):Int) h (cells (bW (fun u=>p (128*j+u)) t ++ [wS (fun u=>p (128*j+(8*t+u))) i]) (79 - t)) (t:Int) (i:Int))
 refine SWn.runG (Qt_ok _) mixed (Qt_gl _) 30 hz (fun pp hp => ?_) (thenS_norm (forget_into f4 ?_))
 ·unfold rsBT at hp
  rw [ei,at0_nat,at0_nat,c1,hv,c4] at hp
  simp only [List.mem_cons,List.not_mem_nil,or_false] at hp
  rcases hp with rfl | rfl | rfl | rfl | rfl | rfl | rfl | rfl
  ·exact decide_eq_true (by omega)
  ·omega
  ·exact c2
  ·omega
  ·omega
  ·exact hg
  ·omega
  ·exact ⟨by trivial,by omega⟩
 ·refine Eq.trans he ?_
  rw [ei,at0_nat,at0_nat,c1,hv,wrap_i64 (by omega) (by omega)]
  have e:sh8 (wS (fun u=>p (128*j+(8*t+u))) i) (p (128*j+(8*t+i)))=wS (fun u=>p (128*j+(8*t+u))) (i+1):=rfl
  rw [e,c3]
  rfl
theorem rs_a {n cap:Nat} {q:List Value} {p:Nat→Int} (hq:Bts q n p) {j:Nat} (hj:128*(j+1)≤n) (hjs:j<1099511627776) (h:S8) (t:Nat) (ht:t<16) {s:Act × Mem}
  (hin:In H (hd2 n cap q ((128*j:Nat):Int) h (cells (bW (fun u=>p (128*j+u)) t) (80 - t)) (t:Int)) s) :
  SWn H Tryz.prog [] (mA (bodyOf Tryz.f36)) s (thenS (fun s'=>In H (hd2 n cap q ((128*j:Nat):Int) h (cells (bW (fun u=>p (128*j+u)) (t+1)) (80 - (t+1))) ((t+1:Nat):Int)) s') Q):=by
 refine hin _ _ ?_
 rw [rs_A]
 refine SWn.preG (Qt_ok _) mixed (Qt_gl _) rfl (rs_A1 n cap q _ h _ (t:Int)) (fun pp hp=>by rw [List.mem_singleton.1 hp];exact decide_eq_true (by omega)) (SWn.seq (SWn.block ?_))
 refine SWn.preG (Qt_ok _) mixed (Qt_gl _) (cs:=[mA2 (bodyOf Tryz.f36),m11 (bodyOf Tryz.f36)]) rfl (rs_A2 n cap q _ h _ (t:Int)) (by simp) (SWn.block ?_)
 have e0:cells (bW (fun u=>p (128*j+u)) t) (80 - t)=cells (bW (fun u=>p (128*j+u)) t ++ [wS (fun u=>p (128*j+(8*t+u))) 0]) (79 - t):=by
  rw [show 80 - t=(79 - t)+1 by omega,cells_zero];rfl
 have i0:In H (hd4 n cap q ((128*j:Nat):Int) h (cells (bW (fun u=>p (128*j+u)) t ++ [wS (fun u=>p (128*j+(8*t+u))) 0]) (79 - t)) (t:Int) ((0:Nat):Int)) (rsA2 Tryz.prog Tryz.f36 n cap q ((128*j:Nat):Int) h (cells (bW (fun u=>p (128*j+u)) t) (80 - t)) (t:Int)):=by
  rw [←e0]
  exact forget_into f4 (rs_A2k n cap q _ h _ (t:Int))
 refine SWn.loopK rfl (fun i s=>In H (hd4 n cap q ((128*j:Nat):Int) h (cells (bW (fun u=>p (128*j+u)) t ++ [wS (fun u=>p (128*j+(8*t+u))) i]) (79 - t)) (t:Int) (i:Int)) s) 0 8 i0 (by omega) (fun i s _ hi hin=>rs_b hq hj hjs h ht i hi hin) (fun s hin => ?_)
 have ew:wS (fun u=>p (128*j+(8*t+u))) 8=W64b fun u=>p (128*j+(8*t+u)):=wS_eq fun u hu=>hq.rng _ (by omega)
 rw [ew] at hin
 refine hin _ _ (SWn.runG (Qt_ok _) mixed (Qt_gl _) 30 (rs_BX n cap q _ h _ (t:Int) ((8:Nat):Int)) (fun pp hp=>by rw [List.mem_singleton.1 hp];rfl) (thenS_exit (blockS_exit ?_)))
 refine forget_into f2 (rs_BXk n cap q _ h _ (t:Int) ((8:Nat):Int)) _ _ ?_
 obtain ⟨z,hz,he⟩:=proj_some (rs_16 n cap q ((128*j:Nat):Int) h (cells (bW (fun u=>p (128*j+u)) t ++ [W64b fun u=>p (128*j+(8*t+u))]) (79 - t)) (t:Int))
 refine SWn.runG (Qt_ok _) mixed (Qt_gl _) 30 hz (by simp) (thenS_norm (forget_into f2 ?_))
 rw [bW_succ,show 80 - (t+1)=79 - t by omega]
 rw [wrap_i64 (by omega) (by omega)] at he
 exact he
theorem rs_c {n cap:Nat} {q:List Value} (a:Int) (h:S8) {x:List Int} (hx0:x.length=16) (k:Nat) (hk:k<64) {s:Act × Mem}
  (hin:In H (hd6 n cap q a h (cells (wl x k) (64 - k)) ((16+k:Nat):Int)) s) :
  SWn H Tryz.prog [] (mC (bodyOf Tryz.f36)) s (thenS (fun s'=>In H (hd6 n cap q a h (cells (wl x (k+1)) (64 - (k+1))) ((16+(k+1):Nat):Int)) s') Q):=by
 refine hin _ _ ?_
 have hx:(wl x k).length=16+k:=by rw [wl_len,hx0]
 obtain ⟨h1,h2⟩:=sc_terms hx hk
 obtain ⟨z,hz,he⟩:=proj_some (rs_C n cap q a h (cells (wl x k) (64 - k)) ((16+k:Nat):Int))
 refine SWn.runG (Qt_ok _) mixed (Qt_gl _) 40 hz (fun pp hp => ?_) (thenS_norm (forget_into f6 ?_))
 ·have hm:pp ∈ scT (cells (wl x k) (64 - k)) ((16+k:Nat):Int)∨pp=((0:Int)≤6)∨pp=((0:Int)≤7):=by
   unfold rsCT ldW at hp
   unfold scT
   simp only [List.cons_append,List.nil_append,List.mem_cons,List.not_mem_nil,or_false] at hp
   simp only [List.flatMap_cons,List.flatMap_nil,List.cons_append,List.nil_append,List.append_nil,List.mem_cons,List.not_mem_nil,or_false]
   rcases hp with e | e | e | e | e | e | e | e | e | e | e | e | e | e | e | e | e | e | e | e | e <;> simp only [e,true_or,or_true]
  rcases hm with hm | rfl | rfl
  ·exact h1 pp hm
  ·decide
  ·decide
 ·refine Eq.trans he ?_
  have e:=cells_put (wl x k) (64 - (k+1)) (nxt (wl x k))
  rw [hx] at e
  rw [h2,at0_nat,wrap_i64 (by omega) (by omega),show ((16+k:Nat):Int)+1=((16+(k+1):Nat):Int) by omega,show 64 - k=(64 - (k+1))+1 by omega,e]
  rfl
theorem ld8_ok (s:S8) {i:Nat} (hi:i<8) : ∀ p ∈ ld8 s i,p:=by
 intro p hp
 simp only [ld8,List.mem_cons,List.not_mem_nil,or_false] at hp
 rcases hp with rfl | rfl
 ·omega
 ·have:i=0∨i=1∨i=2∨i=3∨i=4∨i=5∨i=6∨i=7:=by omega
  rcases this with rfl | rfl | rfl | rfl | rfl | rfl | rfl | rfl <;> rfl
theorem ld8_all (s:S8) (l:List Nat) (hl : ∀ i ∈ l,i<8) : ∀ p ∈ l.flatMap (ld8 s),p:=by
 intro p hp
 obtain ⟨i,hi,hp⟩:=List.mem_flatMap.1 hp
 exact ld8_ok s (hl i hi) p hp
theorem rs_d {n cap:Nat} {q:List Value} (a:Int) (h:S8) (x:Nat→Int) (t:Nat) (ht:t<80) {s:Act × Mem}
  (hin:In H (hd8 n cap q a h (row80 x) (rs h x t) (t:Int)) s) :
  SWn H Tryz.prog [] (mD (bodyOf Tryz.f36)) s (thenS (fun s'=>In H (hd8 n cap q a h (row80 x) (rs h x (t+1)) ((t+1:Nat):Int)) s') Q):=by
 refine hin _ _ ?_
 obtain ⟨k1,k2⟩:=K512_at ht
 obtain ⟨r1,r2⟩:=row80_at x ht
 obtain ⟨z,hz,he⟩:=proj_some (rs_D n cap q a h (row80 x) (rs h x t) (t:Int))
 refine SWn.runG (Qt_ok _) mixed (Qt_gl _) 40 hz (fun pp hp => ?_) (thenS_norm (forget_into f8 ?_))
 ·unfold rsDT at hp
  rw [at0_nat] at hp
  simp only [List.mem_append] at hp
  rcases hp with ((hp | hp) | hp) | hp
  ·rw [List.mem_singleton.1 hp];exact decide_eq_true (by omega)
  ·exact ld8_all _ [4,0,7,5,6] (by decide) pp hp
  ·simp only [List.mem_cons,List.not_mem_nil,or_false] at hp
   rcases hp with rfl | rfl | rfl | rfl
   ·omega
   ·exact k1
   ·omega
   ·exact r1
  ·exact ld8_all _ [1,2,1,2,0,1,2,3,4,5,6] (by decide) pp hp
 ·refine Eq.trans he ?_
  rw [at0_nat,wrap_i64 (by omega) (by omega),k2,r2]
  rfl
theorem rsM_R (h:S8) {q:List Value} (hq:q.all flat1=true):memR (rsM h q)=true:=by
 have:rsM h q = [some ⟨z64,26⟩,some ⟨rowS h,91⟩,some ⟨K512,104⟩] ++ [some ⟨q,⟨5,(0,0)⟩⟩]:=rfl
 rw [this]
 exact memR_app (by kernel_rfl) (memR_one (flatR_of hq))
theorem hd0_fix (n cap:Nat) (q:List Value) (a:Int) (h:S8):fixA (hd0 n cap q a h).2 4 (hd0 n cap q a h).1=true:=by kernel_rfl
theorem rs_blk (hlow : ∀ r₀ w₀,H r₀ w₀→Low 0 r₀) {n cap:Nat} {q:List Value} (hqf:q.all flat1=true) {p:Nat→Int} (hq:Bts q n p) (j:Nat) (hj:128*(j+1)≤n) (hjs:j<1099511627776) {s:Act × Mem}
  (hin:In H (hd0 n cap q ((128*j:Nat):Int) (blk p j)) s) :
  SWn H Tryz.prog [] (mL (bodyOf Tryz.f36)) s (thenS (fun s'=>In H (hd0 n cap q ((128*(j+1):Nat):Int) (blk p (j+1))) s') Q):=by
 refine hin _ _ ?_
 rw [rs_L]
 generalize hh:blk p j=h at *
 obtain ⟨z,hz,he⟩:=proj_some (rs_5 n cap q ((128*j:Nat):Int) h)
 refine SWn.seq (SWn.runG (Qt_ok _) mixed (Qt_gl _) 30 hz (fun pp hp=>by rw [List.mem_singleton.1 hp];exact decide_eq_true (by omega)) (thenS_norm ?_))
 refine forget_into f0 he _ _ (SWn.seq (SWn.block ?_))
 refine SWn.preG Q0_ok mixed Q0_gl (cs:=[m7 (bodyOf Tryz.f36)]) rfl (rs_7 n cap q _ h) (by simp) (SWn.seq ?_)
 refine SWn.preG Q0_ok mixed Q0_gl (cs:=[m8c (bodyOf Tryz.f36)]) rfl (rs_8 n cap q _ h) (by simp) (SWn.block ?_)
 have i0:In H (hd2 n cap q ((128*j:Nat):Int) h (cells (bW (fun u=>p (128*j+u)) 0) (80 - 0)) ((0:Nat):Int)) (rs8 Tryz.prog Tryz.f36 n cap q ((128*j:Nat):Int) h):=by
  have e:cells (bW (fun u=>p (128*j+u)) 0) (80 - 0)=z80:=by simp [cells,bW,z80]
  rw [e]
  exact forget_into f2 (rs_8k n cap q _ h)
 refine SWn.loopK rfl (fun t s=>In H (hd2 n cap q ((128*j:Nat):Int) h (cells (bW (fun u=>p (128*j+u)) t) (80 - t)) (t:Int)) s) 0 16 i0 (by omega) (fun t s _ ht hin=>rs_a hq hj hjs h t ht hin) (fun s hin => ?_)
 clear i0
 generalize hx:bW (fun u=>p (128*j+u)) 16=x at *
 have hxl:x.length=16:=by rw [←hx,bW_len]
 refine hin _ _ (SWn.runG (Qt_ok _) mixed (Qt_gl _) 30 (rs_AX n cap q _ h _ ((16:Nat):Int)) (fun pp hp=>by rw [List.mem_singleton.1 hp];rfl) (thenS_exit (blockS_exit (thenS_norm ?_))))
 refine forget_into f2 (rs_AXk n cap q _ h _ ((16:Nat):Int)) _ _ (SWn.seq ?_)
 refine SWn.preG Q0_ok mixed Q0_gl (cs:=[m17 (bodyOf Tryz.f36)]) rfl (rs_17 n cap q _ h _ ((16:Nat):Int)) (by simp) (SWn.block ?_)
 have i1:In H (hd6 n cap q ((128*j:Nat):Int) h (cells (wl x 0) (64 - 0)) ((16+0:Nat):Int)) (rs17 Tryz.prog Tryz.f36 n cap q ((128*j:Nat):Int) h (cells x (80 - 16)) ((16:Nat):Int)):=forget_into f6 (rs_17k n cap q _ h _ ((16:Nat):Int))
 refine SWn.loopK rfl (fun k s=>In H (hd6 n cap q ((128*j:Nat):Int) h (cells (wl x k) (64 - k)) ((16+k:Nat):Int)) s) 0 64 i1 (by omega) (fun k s _ hk hin=>rs_c _ h hxl k hk hin) (fun s hin => ?_)
 clear i1
 have hw80:(wl x 64).length=80:=by rw [wl_len,hxl]
 have hrow:cells (wl x 64) (64 - 64)=row80 (Wb fun u=>p (128*j+u)):=by
  rw [show 64 - 64=0 by omega,cells_row hw80,←hx];rfl
 rw [hrow] at hin
 generalize hX:Wb (fun u=>p (128*j+u))=X at *
 refine hin _ _ (SWn.runG (Qt_ok _) mixed (Qt_gl _) 40 (rs_CX n cap q _ h _ ((16+64:Nat):Int)) (fun pp hp=>by rw [List.mem_singleton.1 hp];rfl) (thenS_exit (blockS_exit (thenS_norm ?_))))
 refine forget_into f6 (rs_CXk n cap q _ h _ ((16+64:Nat):Int)) _ _ ?_
 refine SWn.preG Q0_ok mixed Q0_gl (cs:=[m23 (bodyOf Tryz.f36)]) rfl (rs_23 n cap q _ h _ ((16+64:Nat):Int)) (by simp) (SWn.seq ?_)
 refine SWn.preG Q0_ok mixed Q0_gl (cs:=[m24 (bodyOf Tryz.f36)]) rfl (rs_24 n cap q _ h _ ((16+64:Nat):Int)) (by simp) (SWn.block ?_)
 have i2:In H (hd8 n cap q ((128*j:Nat):Int) h (row80 X) (rs h X 0) ((0:Nat):Int)) (rs24 Tryz.prog Tryz.f36 n cap q ((128*j:Nat):Int) h (row80 X) ((16+64:Nat):Int)):=forget_into f8 (rs_24k n cap q _ h _ ((16+64:Nat):Int))
 refine SWn.loopK rfl (fun t s=>In H (hd8 n cap q ((128*j:Nat):Int) h (row80 X) (rs h X t) (t:Int)) s) 0 80 i2 (by omega) (fun t s _ ht hin=>rs_d _ h X t ht hin) (fun s hin => ?_)
 clear i2
 generalize hR:rs h X 80=R at *
 refine hin _ _ (SWn.runG (Qt_ok _) mixed (Qt_gl _) 40 (rs_DX n cap q _ h _ R ((80:Nat):Int)) (fun pp hp=>by rw [List.mem_singleton.1 hp];rfl) (thenS_exit (blockS_exit (thenS_norm ?_))))
 refine forget_into f8 (rs_DXk n cap q _ h _ R ((80:Nat):Int)) _ _ ?_
 refine SWn.runG Q0_ok mixed Q0_gl 60 (rs_32 n cap q _ h _ R ((80:Nat):Int)) (by simp) ?_
 refine SWn.runG Q0_ok mixed Q0_gl 30 (rs_6 n cap q _ h _ R ((80:Nat):Int)) (by simp) (thenS_norm ?_)
 have hk:=rs_6k n cap q ((128*j:Nat):Int) h (row80 X) R ((80:Nat):Int)
 have ea:IntKind.i64.wrap (((128*j:Nat):Int)+128)=((128*(j+1):Nat):Int):=by rw [wrap_i64 (by omega) (by omega)];omega
 have eb:addS h R=blk p (j+1):=by
  simp only [blk]
  rw [hh,←hR,←hX];rfl
 rw [ea,eb] at hk
 intro c Q' hq'
 refine SWn.trimK (n0:=0) 4 f0 hk hlow (by omega) (rsM_R _ hqf) (hd0_fix n cap q _ _) (fun g hg=>by cases hg) hq'
end Go.Proofs.YtlihbglpdkeppaaGreatDoor.Shf
