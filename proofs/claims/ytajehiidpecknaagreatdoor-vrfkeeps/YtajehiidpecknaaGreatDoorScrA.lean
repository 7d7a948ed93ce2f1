/- The scalar reference: order, bytesOf, less, below, plus, mod. -/
import Derived.Test.YtajehiidpecknaaGreatDoorScpB
set_option linter.all false
namespace Go.Proofs.YtajehiidpecknaaGreatDoor.Sc
open Go Go.RowKit
open Go Go.RowKit
def Mm (a0 a1 a2 a3 b0 b1 b2 b3:Int):List Prop:=[Word a0∧Word b0∧Bit (0),
  Word a1∧Word b1∧Bit ((bor a0 (b0+0))),
  Word a2∧Word b2∧Bit ((bor a1 (b1+(bor a0 (b0+0))))),
  Word a3∧Word b3∧Bit ((bor a2 (b2+(bor a1 (b1+(bor a0 (b0+0)))))))]
def I6 (a0 a1 a2 a3 b0 b1 b2 b3:Int):Value := .agg #[.int .u64 ((a0 - b0 - 0) % 18446744073709551616),.int .u64 ((a1 - b1 - (bor a0 (b0+0))) % 18446744073709551616),.int .u64 ((a2 - b2 - (bor a1 (b1+(bor a0 (b0+0))))) % 18446744073709551616),.int .u64 ((a3 - b3 - (bor a2 (b2+(bor a1 (b1+(bor a0 (b0+0))))))) % 18446744073709551616)]
def Mi (fn:Func):Prop := ∀ a0 a1 a2 a3 b0 b1 b2 b3:Int,sfun Tryz.prog X0 60 fn (ai fn) [.agg #[.int .u64 a0,.int .u64 a1,.int .u64 a2,.int .u64 a3],.agg #[.int .u64 b0,.int .u64 b1,.int .u64 b2,.int .u64 b3]]=some (Mm a0 a1 a2 a3 b0 b1 b2 b3,I6 a0 a1 a2 a3 b0 b1 b2 b3)
theorem AW {f:FuncId} {fn:Func} (hf:Tryz.prog.funcs[f]? = some fn) (hb:fn.body=some (ai fn)) (run:Mi fn) {a b:Nat} (lA:a<RN) (lB:b<RN) (w:World):Calls Tryz.prog f #[nv a,nv b] w fun e w'=>e = .returned (nv ((a+RN - b) % RN))∧Below w.heap.size w w':=by
 have k:=j7 (lw a 0) (lw a 1) (lw a 2) (lw a 3) (lw b 0) (lw b 1) (lw b 2) (lw b 3) (ag _ _) (ag _ _) (ag _ _) (ag _ _) (ag _ _) (ag _ _) (ag _ _) (ag _ _) a b lA lB (by rw [aN,Nat.mod_eq_of_lt lA]) (by rw [aN,Nat.mod_eq_of_lt lB])
 have h:=aA eS mixed hf hb (run (lw a 0) (lw a 1) (lw a 2) (lw a 3) (lw b 0) (lw b 1) (lw b 2) (lw b 3)) k.1 rfl (.inl rfl) w
 have k2:=k.2
 simp only [Value.tuple.injEq,Array.mk.injEq,List.cons.injEq] at k2
 unfold I6 at h
 rw [k2.1] at h
 exact h
def dM (P:Program) (X:Cx) (n:Nat) (c:Code) (s:Act × Mem):Act × Mem :=
 match sexec P X n c [] s with
 | some (_,_,s')=>s'
 | none=>s
def bLB (fn:Func):Code:=cL (cL (cR (cL (cR (ai fn)))))
def bs1 (P:Program) (fn:Func) (a b:Nat):Act × Mem:=dM P X0 20 (cL (ai fn)) (cJ fn [nv a,nv b],[])
def bst (P:Program) (fn:Func) (a b:Nat):Nat→Act × Mem
 | 0=>dM P X0 20 (cL (cL (cR (ai fn)))) (bs1 P fn a b)
 | j+1=>dM P (X0.tell [(16,false)]) 30 (bLB fn) (bst P fn a b j)
def bsR (P:Program) (fn:Func) (a b j:Nat):Act × Mem:=dM P (X0.tell [(16,true)]) 30 (bLB fn) (bst P fn a b j)
def CG (P:Program) (fn:Func) (a b:Nat):Act × Mem:=dM P X0 30 (bLB fn) (bst P fn a b 4)
def GQ (P:Program) (fn:Func) (a b:Nat):Act × Mem:=dM P X0 30 (cR (cR (ai fn))) (CG P fn a b)
def Aa (P:Program) (fn:Func) (m:Mem) (R:Value→Prop):Exit→Act × Mem→Prop:=fun e s=>(e = .normal∨e = .ret)∧s.1.defers = [] ∧ ∃ v x,sres P fn s=some v∧(flat v=true∨v=undef)∧s.2=m ++ x∧R v
structure BelR (fn:Func):Prop where
 e1 : ∀ a b:Nat,sexec Tryz.prog X0 20 (cL (ai fn)) [] (cJ fn [nv a,nv b],[])=some ([],.normal,bs1 Tryz.prog fn a b)
 e2 : ∀ a b:Nat,sexec Tryz.prog X0 20 (cL (cL (cR (ai fn)))) [] (bs1 Tryz.prog fn a b)=some ([],.normal,bst Tryz.prog fn a b 0)
 f0 : ∀ a b:Nat,sexec Tryz.prog (X0.tell [(16,false)]) 30 (bLB fn) [] (bst Tryz.prog fn a b 0)=some ([(lw a 3 != lw b 3)=false],.normal,bst Tryz.prog fn a b 1)
 t0 : ∀ a b:Nat,sexec Tryz.prog (X0.tell [(16,true)]) 30 (bLB fn) [] (bst Tryz.prog fn a b 0)=some ([(lw a 3 != lw b 3)=true],.ret,bsR Tryz.prog fn a b 0)
 r0 : ∀ a b:Nat,sres Tryz.prog fn (bsR Tryz.prog fn a b 0)=some (.bool (decide (lw a 3<lw b 3)))∧(bsR Tryz.prog fn a b 0).1.defers = []
 f1 : ∀ a b:Nat,sexec Tryz.prog (X0.tell [(16,false)]) 30 (bLB fn) [] (bst Tryz.prog fn a b 1)=some ([(lw a 2 != lw b 2)=false],.normal,bst Tryz.prog fn a b 2)
 t1 : ∀ a b:Nat,sexec Tryz.prog (X0.tell [(16,true)]) 30 (bLB fn) [] (bst Tryz.prog fn a b 1)=some ([(lw a 2 != lw b 2)=true],.ret,bsR Tryz.prog fn a b 1)
 r1 : ∀ a b:Nat,sres Tryz.prog fn (bsR Tryz.prog fn a b 1)=some (.bool (decide (lw a 2<lw b 2)))∧(bsR Tryz.prog fn a b 1).1.defers = []
 f2 : ∀ a b:Nat,sexec Tryz.prog (X0.tell [(16,false)]) 30 (bLB fn) [] (bst Tryz.prog fn a b 2)=some ([(lw a 1 != lw b 1)=false],.normal,bst Tryz.prog fn a b 3)
 t2 : ∀ a b:Nat,sexec Tryz.prog (X0.tell [(16,true)]) 30 (bLB fn) [] (bst Tryz.prog fn a b 2)=some ([(lw a 1 != lw b 1)=true],.ret,bsR Tryz.prog fn a b 2)
 r2 : ∀ a b:Nat,sres Tryz.prog fn (bsR Tryz.prog fn a b 2)=some (.bool (decide (lw a 1<lw b 1)))∧(bsR Tryz.prog fn a b 2).1.defers = []
 f3 : ∀ a b:Nat,sexec Tryz.prog (X0.tell [(16,false)]) 30 (bLB fn) [] (bst Tryz.prog fn a b 3)=some ([(lw a 0 != lw b 0)=false],.normal,bst Tryz.prog fn a b 4)
 t3 : ∀ a b:Nat,sexec Tryz.prog (X0.tell [(16,true)]) 30 (bLB fn) [] (bst Tryz.prog fn a b 3)=some ([(lw a 0 != lw b 0)=true],.ret,bsR Tryz.prog fn a b 3)
 r3 : ∀ a b:Nat,sres Tryz.prog fn (bsR Tryz.prog fn a b 3)=some (.bool (decide (lw a 0<lw b 0)))∧(bsR Tryz.prog fn a b 3).1.defers = []
 x : ∀ a b:Nat,sexec Tryz.prog X0 30 (bLB fn) [] (bst Tryz.prog fn a b 4)=some ([],.exit 0,CG Tryz.prog fn a b)
 z : ∀ a b:Nat,sexec Tryz.prog X0 30 (cR (cR (ai fn))) [] (CG Tryz.prog fn a b)=some ([],.ret,GQ Tryz.prog fn a b)
 zr : ∀ a b:Nat,sres Tryz.prog fn (GQ Tryz.prog fn a b)=some (.bool false)∧(GQ Tryz.prog fn a b).1.defers = []
 k1:cI (cR (cL (cR (ai fn))))=0
 s1:ai fn = .seq (cL (ai fn)) (cR (ai fn))
 s2:cR (ai fn) = .seq (cL (cR (ai fn))) (cR (cR (ai fn)))
 s3:cL (cR (ai fn)) = .seq (cL (cL (cR (ai fn)))) (cR (cL (cR (ai fn))))
 s4:cR (cL (cR (ai fn))) = .block (cI (cR (cL (cR (ai fn))))) (cL (cR (cL (cR (ai fn)))))
 s5:cL (cR (cL (cR (ai fn)))) = .loop (cL (cL (cR (cL (cR (ai fn))))))
theorem yL (a b:Nat) (ha:a<RN) (hb:b<RN):decide (a<b)=decide (lw a 3<lw b 3∨(lw a 3=lw b 3∧(lw a 2<lw b 2∨(lw a 2=lw b 2∧(lw a 1<lw b 1∨(lw a 1=lw b 1∧lw a 0<lw b 0)))))):=by
 have hs:=aN a
 have ht:=aN b
 rw [Nat.mod_eq_of_lt ha] at hs
 rw [Nat.mod_eq_of_lt hb] at ht
 obtain ⟨p0,q0⟩:=ag a 0;obtain ⟨p1,q1⟩:=ag a 1;obtain ⟨p2,q2⟩:=ag a 2;obtain ⟨p3,q3⟩:=ag a 3
 obtain ⟨u0,v0⟩:=ag b 0;obtain ⟨u1,v1⟩:=ag b 1;obtain ⟨u2,v2⟩:=ag b 2;obtain ⟨u3,v3⟩:=ag b 3
 generalize lw a 0=a0 at *;generalize lw a 1=a1 at *;generalize lw a 2=a2 at *;generalize lw a 3=a3 at *
 generalize lw b 0=b0 at *;generalize lw b 1=b1 at *;generalize lw b 2=b2 at *;generalize lw b 3=b3 at *
 rw [decide_eq_decide]
 by_cases h3:a3=b3
 ·by_cases h2:a2=b2
  ·by_cases h1:a1=b1
   ·subst h1;subst h2;subst h3;omega
   ·subst h2;subst h3;omega
  ·subst h3;omega
 ·omega
theorem zW {fn:Func} (H:BelR fn) (a b:Nat) (ha:a<RN) (hb:b<RN):SW Tryz.prog [] (ai fn) (cJ fn [nv a,nv b],[]) (Aa Tryz.prog fn [] fun v=>v = .bool (decide (a<b))):=by
 have hn:=yL a b ha hb
 refine SW.seqC H.s1 (SW.run eS mixed 20 (H.e1 a b) (by simp) ?_)
 show SW Tryz.prog [] (cR (ai fn)) (bs1 Tryz.prog fn a b) (Aa Tryz.prog fn [] fun v=>v = .bool (decide (a<b)))
 refine SW.seqC H.s2 (SW.seqC H.s3 (SW.run eS mixed 20 (H.e2 a b) (by simp) ?_))
 show SW Tryz.prog [] (cR (cL (cR (ai fn)))) (bst Tryz.prog fn a b 0) (thenS (fun s'=>SW Tryz.prog [] (cR (cR (ai fn))) s' (Aa Tryz.prog fn [] fun v=>v = .bool (decide (a<b)))) (Aa Tryz.prog fn [] fun v=>v = .bool (decide (a<b))))
 refine SW.blockC H.s4 ?_
 rw [H.k1]
 refine SW.loopC H.s5 (fun n s => ∃ j,n+j=4∧s=bst Tryz.prog fn a b j ∧ ∀ i,4 - j≤i→i<4→lw a i=lw b i) 4 ⟨0,rfl,rfl,fun i h1 h2=>by omega⟩ ?_
 rintro n s ⟨j,hj,rfl,heq⟩
 show SW Tryz.prog [] (bLB fn) (bst Tryz.prog fn a b j) _
 have hjj:j=0∨j=1∨j=2∨j=3∨j=4:=by omega
 rcases hjj with rfl | rfl | rfl | rfl | rfl
 ·skip
  by_cases h:lw a 3=lw b 3
  ·refine SW.run (Cx.tell_ok eS _) mixed 30 (H.f0 a b) (by simp [h]) ⟨n - 1,by omega,1,by omega,rfl,fun i h1 h2 => ?_⟩
   rcases Nat.lt_or_ge i 4 with h3 | h3
   ·obtain rfl:i=3:=by omega
    exact h
   ·exact heq i (by omega) h2
  ·refine SW.run (Cx.tell_ok eS _) mixed 30 (H.t0 a b) (by simp [h]) ⟨.inr rfl,(H.r0 a b).2,_,_,(H.r0 a b).1,.inl rfl,(List.nil_append _).symm,?_⟩
   rw [hn]
   congr 1
   rw [decide_eq_decide]
   omega
 ·have e3:=heq 3 (by omega) (by omega);
  by_cases h:lw a 2=lw b 2
  ·refine SW.run (Cx.tell_ok eS _) mixed 30 (H.f1 a b) (by simp [h]) ⟨n - 1,by omega,2,by omega,rfl,fun i h1 h2 => ?_⟩
   rcases Nat.lt_or_ge i 3 with h3 | h3
   ·obtain rfl:i=2:=by omega
    exact h
   ·exact heq i (by omega) h2
  ·refine SW.run (Cx.tell_ok eS _) mixed 30 (H.t1 a b) (by simp [h]) ⟨.inr rfl,(H.r1 a b).2,_,_,(H.r1 a b).1,.inl rfl,(List.nil_append _).symm,?_⟩
   rw [hn]
   congr 1
   rw [decide_eq_decide]
   omega
 ·have e2:=heq 2 (by omega) (by omega);have e3:=heq 3 (by omega) (by omega);
  by_cases h:lw a 1=lw b 1
  ·refine SW.run (Cx.tell_ok eS _) mixed 30 (H.f2 a b) (by simp [h]) ⟨n - 1,by omega,3,by omega,rfl,fun i h1 h2 => ?_⟩
   rcases Nat.lt_or_ge i 2 with h3 | h3
   ·obtain rfl:i=1:=by omega
    exact h
   ·exact heq i (by omega) h2
  ·refine SW.run (Cx.tell_ok eS _) mixed 30 (H.t2 a b) (by simp [h]) ⟨.inr rfl,(H.r2 a b).2,_,_,(H.r2 a b).1,.inl rfl,(List.nil_append _).symm,?_⟩
   rw [hn]
   congr 1
   rw [decide_eq_decide]
   omega
 ·have e1:=heq 1 (by omega) (by omega);have e2:=heq 2 (by omega) (by omega);have e3:=heq 3 (by omega) (by omega);
  by_cases h:lw a 0=lw b 0
  ·refine SW.run (Cx.tell_ok eS _) mixed 30 (H.f3 a b) (by simp [h]) ⟨n - 1,by omega,4,by omega,rfl,fun i h1 h2 => ?_⟩
   rcases Nat.lt_or_ge i 1 with h3 | h3
   ·obtain rfl:i=0:=by omega
    exact h
   ·exact heq i (by omega) h2
  ·refine SW.run (Cx.tell_ok eS _) mixed 30 (H.t3 a b) (by simp [h]) ⟨.inr rfl,(H.r3 a b).2,_,_,(H.r3 a b).1,.inl rfl,(List.nil_append _).symm,?_⟩
   rw [hn]
   congr 1
   rw [decide_eq_decide]
   omega
 ·have e0:=heq 0 (by omega) (by omega);have e1:=heq 1 (by omega) (by omega);have e2:=heq 2 (by omega) (by omega);have e3:=heq 3 (by omega) (by omega)
  refine SW.run eS mixed 30 (H.x a b) (by simp) ?_
  show SW Tryz.prog [] (cR (cR (ai fn))) (CG Tryz.prog fn a b) (Aa Tryz.prog fn [] fun v=>v = .bool (decide (a<b)))
  refine SW.run eS mixed 30 (H.z a b) (by simp) ⟨.inr rfl,(H.zr a b).2,_,_,(H.zr a b).1,.inl rfl,(List.nil_append _).symm,?_⟩
  rw [hn]
  have : ¬ (lw a 3<lw b 3∨(lw a 3=lw b 3∧(lw a 2<lw b 2∨(lw a 2=lw b 2∧(lw a 1<lw b 1∨(lw a 1=lw b 1∧lw a 0<lw b 0)))))):=by omega
  rw [decide_eq_false this]
theorem xV {f:FuncId} {fn:Func} (hf:Tryz.prog.funcs[f]? = some fn) (hb:fn.body=some (ai fn)) (H:BelR fn) {a b:Nat} (lA:a<RN) (lB:b<RN) (w:World):Calls Tryz.prog f #[nv a,nv b] w fun e w'=>e = .returned (.bool (decide (a<b)))∧Below w.heap.size w w':=by
 refine (dF (R:=fun v=>v = .bool (decide (a<b))) hf hb (zW H a b lA lB) (Rel.nil w) (by simp) (eh (args:=[nv a,nv b]) rfl)).mono ?_
 rintro e w' ⟨v,rfl,rfl,hb⟩
 exact ⟨rfl,hb⟩
open Go Go.RowKit
end Go.Proofs.YtajehiidpecknaaGreatDoor.Sc
namespace Go.Proofs.YtajehiidpecknaaGreatDoor.Sc
open Go Go.RowKit
open Go Go.RowKit
def fin (o c:Nat):Nat:=(num (nv o)+num (nv (bsum (bl c) % LN))) % LN
end Go.Proofs.YtajehiidpecknaaGreatDoor.Sc
