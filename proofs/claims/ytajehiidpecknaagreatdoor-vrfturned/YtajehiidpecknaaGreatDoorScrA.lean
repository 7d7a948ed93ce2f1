import Derived.Test.YtajehiidpecknaaGreatDoorScpB
set_option linter.all false
namespace Go.Proofs.YtajehiidpecknaaGreatDoor.Sc
open Go Go.RowKit
open Go Go.RowKit
theorem Bi {X:Cx} (hX:X.Ok Tryz.prog):(X.pure 76 lO).Ok Tryz.prog:=by
 refine aA hX Tryz.func76 (by kernel_rfl) (by kernel_rfl) ?_
 intro args ps v ha hg hp
 unfold lO at hg
 split at hg
 ·simp only [qG,qH] at hg
  obtain ⟨rfl,rfl⟩:=hg
  have hr:sfun Tryz.prog X0 60 Tryz.f76 (ag Tryz.f76) []=some ([],nv LN):=by kernel_rfl
  exact ⟨.inl rfl,aq dL mixed Tryz.func76 (by kernel_rfl) hr (by simp) rfl (.inl rfl)⟩
 ·simp at hg
def KW (n:Nat):Value := .agg ((List.range 32).map fun i => .int .u8 (IntKind.u8.wrap (Int.fdiv (lw n (i/8)) (2 ^ (8*(i % 8)))))).toArray
theorem yX (a:Nat):KW a=bv a:=by
 have e:((List.range 32).map fun i=>Value.int .u8 (IntKind.u8.wrap (Int.fdiv (lw a (i/8)) (2 ^ (8*(i % 8))))))=bl a:=List.map_congr_left fun i _=>by rw [mS]
 unfold KW
 rw [e];rfl
theorem AR {X:Cx} (hX:X.Ok Tryz.prog):(X.pure 69 kQ).Ok Tryz.prog:=by
 refine aA hX Tryz.func69 (by kernel_rfl) (by kernel_rfl) ?_
 intro args ps v ha hg hp
 unfold kQ at hg
 split at hg
 ·rename_i A
  simp only [qG,qH] at hg
  obtain ⟨rfl,rfl⟩:=hg
  have hA:=hp _ (YJ.2 rfl)
  refine ⟨.inl (aB _),fun w => ?_⟩
  have lA:=aX hA
  rw [hA,ak lA]
  generalize num A=a at *
  have h:=aq dL mixed Tryz.func69 (by kernel_rfl) (show sfun Tryz.prog X0 200 Tryz.f69 (ag Tryz.f69) [nv a]=some ([],KW a) by kernel_rfl) (by simp) rfl (.inl (by rw [yX];exact aB _)) w
  rw [yX] at h
  exact h
 ·simp at hg
def P5 (a0 a1 a2 a3 b0 b1 b2 b3:Int):List Prop:=[Word a0∧Word b0∧Bit (0),
  Word a1∧Word b1∧Bit ((bor a0 (b0+0))),
  Word a2∧Word b2∧Bit ((bor a1 (b1+(bor a0 (b0+0))))),
  Word a3∧Word b3∧Bit ((bor a2 (b2+(bor a1 (b1+(bor a0 (b0+0)))))))]
def NO (a0 a1 a2 a3 b0 b1 b2 b3:Int):Value := .agg #[.int .u64 ((a0 - b0 - 0) % 18446744073709551616),.int .u64 ((a1 - b1 - (bor a0 (b0+0))) % 18446744073709551616),.int .u64 ((a2 - b2 - (bor a1 (b1+(bor a0 (b0+0))))) % 18446744073709551616),.int .u64 ((a3 - b3 - (bor a2 (b2+(bor a1 (b1+(bor a0 (b0+0))))))) % 18446744073709551616)]
def PU (fn:Func):Prop := ∀ a0 a1 a2 a3 b0 b1 b2 b3:Int,sfun Tryz.prog X0 60 fn (ag fn) [.agg #[.int .u64 a0,.int .u64 a1,.int .u64 a2,.int .u64 a3],.agg #[.int .u64 b0,.int .u64 b1,.int .u64 b2,.int .u64 b3]]=some (P5 a0 a1 a2 a3 b0 b1 b2 b3,NO a0 a1 a2 a3 b0 b1 b2 b3)
theorem ve {f:FuncId} {fn:Func} (hf:Tryz.prog.funcs[f]? = some fn) (hb:fn.body=some (ag fn)) (run:PU fn) {a b:Nat} (lA:a<RN) (lB:b<RN) (w:World):Calls Tryz.prog f #[nv a,nv b] w fun e w'=>e = .returned (nv ((a+RN - b) % RN))∧Below w.heap.size w w':=by
 have k:=kS (lw a 0) (lw a 1) (lw a 2) (lw a 3) (lw b 0) (lw b 1) (lw b 2) (lw b 3) (ah _ _) (ah _ _) (ah _ _) (ah _ _) (ah _ _) (ah _ _) (ah _ _) (ah _ _) a b lA lB (by rw [aQ,YK lA]) (by rw [aQ,YK lB])
 have h:=aq dL mixed hf hb (run (lw a 0) (lw a 1) (lw a 2) (lw a 3) (lw b 0) (lw b 1) (lw b 2) (lw b 3)) k.1 rfl (.inl rfl) w
 have k2:=k.2
 simp only [Value.tuple.injEq,Array.mk.injEq,List.cons.injEq] at k2
 unfold NO at h
 rw [k2.1] at h
 exact h
def gLess:List Value→Option (List Prop × Value)
 | [A,B]=>some ([IsN A∧IsN B],nv ((num A+RN - num B) % RN))
 | _=>none
theorem DR {X:Cx} (hX:X.Ok Tryz.prog):(X.pure 109 gLess).Ok Tryz.prog:=by
 refine aA hX Tryz.func109 (by kernel_rfl) (by kernel_rfl) ?_
 intro args ps v ha hg hp
 unfold gLess at hg
 split at hg
 ·rename_i A B
  simp only [qG,qH] at hg
  obtain ⟨rfl,rfl⟩:=hg
  obtain ⟨hA,hB⟩:=hp _ (YJ.2 rfl)
  refine ⟨.inl rfl,fun w => ?_⟩
  have h:=ve Tryz.func109 (by kernel_rfl) (fun _ _ _ _ _ _ _ _=>by kernel_rfl) (aX hA) (aX hB) w
  rw [←hA,←hB] at h
  exact h
 ·simp at hg
def cQ (P:Program) (X:Cx) (n:Nat) (c:Code) (s:Act × Mem):Act × Mem :=
 match sexec P X n c [] s with
 | some (_,_,s')=>s'
 | none=>s
def bLB (fn:Func):Code:=cL (cL (cR (cL (cR (ag fn)))))
def bs1 (P:Program) (fn:Func) (a b:Nat):Act × Mem:=cQ P X0 20 (cL (ag fn)) (bS fn [nv a,nv b],[])
def bst (P:Program) (fn:Func) (a b:Nat):Nat→Act × Mem
 | 0=>cQ P X0 20 (cL (cL (cR (ag fn)))) (bs1 P fn a b)
 | j+1=>cQ P (X0.tell [(16,false)]) 30 (bLB fn) (bst P fn a b j)
def bsR (P:Program) (fn:Func) (a b j:Nat):Act × Mem:=cQ P (X0.tell [(16,true)]) 30 (bLB fn) (bst P fn a b j)
def FB (P:Program) (fn:Func) (a b:Nat):Act × Mem:=cQ P X0 30 (bLB fn) (bst P fn a b 4)
def K1 (P:Program) (fn:Func) (a b:Nat):Act × Mem:=cQ P X0 30 (cR (cR (ag fn))) (FB P fn a b)
def xE (P:Program) (fn:Func) (m:Mem) (R:Value→Prop):Exit→Act × Mem→Prop:=fun e s=>(e = .normal∨e = .ret)∧s.1.defers = [] ∧ ∃ v x,sres P fn s=some v∧(flat v=true∨v=undef)∧s.2=m ++ x∧R v
structure BelR (fn:Func):Prop where
 e1 : ∀ a b:Nat,sexec Tryz.prog X0 20 (cL (ag fn)) [] (bS fn [nv a,nv b],[])=some ([],.normal,bs1 Tryz.prog fn a b)
 e2 : ∀ a b:Nat,sexec Tryz.prog X0 20 (cL (cL (cR (ag fn)))) [] (bs1 Tryz.prog fn a b)=some ([],.normal,bst Tryz.prog fn a b 0)
 f0 : ∀ a b:Nat,sexec Tryz.prog (X0.tell [(16,false)]) 30 (bLB fn) [] (bst Tryz.prog fn a b 0)=some ([(lw a 3 != lw b 3)=false],.normal,bst Tryz.prog fn a b 1)
 t0 : ∀ a b:Nat,sexec Tryz.prog (X0.tell [(16,true)]) 30 (bLB fn) [] (bst Tryz.prog fn a b 0)=some ([(lw a 3 != lw b 3)=true],.ret,bsR Tryz.prog fn a b 0)
 r0 : ∀ a b:Nat,sres Tryz.prog fn (bsR Tryz.prog fn a b 0)=some (.bool (decide (lw a 3<lw b 3)))∧(bsR Tryz.prog fn a b 0).1.defers = []
 f1 : ∀ a b:Nat,sexec Tryz.prog (X0.tell [(16,false)]) 30 (bLB fn) [] (bst Tryz.prog fn a b 1)=some ([(lw a 2 != lw b 2)=false],.normal,bst Tryz.prog fn a b 2)
 t1 : ∀ a b:Nat,sexec Tryz.prog (X0.tell [(16,true)]) 30 (bLB fn) [] (bst Tryz.prog fn a b 1)=some ([(lw a 2 != lw b 2)=true],.ret,bsR Tryz.prog fn a b 1)
 r1 : ∀ a b:Nat,sres Tryz.prog fn (bsR Tryz.prog fn a b 1)=some (.bool (decide (lw a 2<lw b 2)))∧(bsR Tryz.prog fn a b 1).1.defers = []
 f2 : ∀ a b:Nat,sexec Tryz.prog (X0.tell [(16,false)]) 30 (bLB fn) [] (bst Tryz.prog fn a b 2)=some ([(lw a 1 != lw b 1)=false],.normal,bst Tryz.prog fn a b 3)
 t2 : ∀ a b:Nat,sexec Tryz.prog (X0.tell [(16,true)]) 30 (bLB fn) [] (bst Tryz.prog fn a b 2)=some ([(lw a 1 != lw b 1)=true],.ret,bsR Tryz.prog fn a b 2)
 r2 : ∀ a b:Nat,sres Tryz.prog fn (bsR Tryz.prog fn a b 2)=some (.bool (decide (lw a 1<lw b 1)))∧(bsR Tryz.prog fn a b 2).1.defers = []
 f3 : ∀ a b:Nat,sexec Tryz.prog (X0.tell [(16,false)]) 30 (bLB fn) [] (bst Tryz.prog fn a b 3)=some ([(lw a 0 != lw b 0)=false],.normal,bst Tryz.prog fn a b 4)
 t3 : ∀ a b:Nat,sexec Tryz.prog (X0.tell [(16,true)]) 30 (bLB fn) [] (bst Tryz.prog fn a b 3)=some ([(lw a 0 != lw b 0)=true],.ret,bsR Tryz.prog fn a b 3)
 r3 : ∀ a b:Nat,sres Tryz.prog fn (bsR Tryz.prog fn a b 3)=some (.bool (decide (lw a 0<lw b 0)))∧(bsR Tryz.prog fn a b 3).1.defers = []
 x : ∀ a b:Nat,sexec Tryz.prog X0 30 (bLB fn) [] (bst Tryz.prog fn a b 4)=some ([],.exit 0,FB Tryz.prog fn a b)
 z : ∀ a b:Nat,sexec Tryz.prog X0 30 (cR (cR (ag fn))) [] (FB Tryz.prog fn a b)=some ([],.ret,K1 Tryz.prog fn a b)
 zr : ∀ a b:Nat,sres Tryz.prog fn (K1 Tryz.prog fn a b)=some (.bool false)∧(K1 Tryz.prog fn a b).1.defers = []
 k1:cI (cR (cL (cR (ag fn))))=0
 s1:ag fn = .seq (cL (ag fn)) (cR (ag fn))
 s2:cR (ag fn) = .seq (cL (cR (ag fn))) (cR (cR (ag fn)))
 s3:cL (cR (ag fn)) = .seq (cL (cL (cR (ag fn)))) (cR (cL (cR (ag fn))))
 s4:cR (cL (cR (ag fn))) = .block (cI (cR (cL (cR (ag fn))))) (cL (cR (cL (cR (ag fn)))))
 s5:cL (cR (cL (cR (ag fn)))) = .loop (cL (cL (cR (cL (cR (ag fn))))))
theorem Aq (a b:Nat) (ha:a<RN) (hb:b<RN):decide (a<b)=decide (lw a 3<lw b 3∨(lw a 3=lw b 3∧(lw a 2<lw b 2∨(lw a 2=lw b 2∧(lw a 1<lw b 1∨(lw a 1=lw b 1∧lw a 0<lw b 0)))))):=by
 have hs:=aQ a
 have ht:=aQ b
 rw [YK ha] at hs
 rw [YK hb] at ht
 obtain ⟨p0,q0⟩:=ah a 0;obtain ⟨p1,q1⟩:=ah a 1;obtain ⟨p2,q2⟩:=ah a 2;obtain ⟨p3,q3⟩:=ah a 3
 obtain ⟨u0,v0⟩:=ah b 0;obtain ⟨u1,v1⟩:=ah b 1;obtain ⟨u2,v2⟩:=ah b 2;obtain ⟨u3,v3⟩:=ah b 3
 generalize lw a 0=a0 at *;generalize lw a 1=a1 at *;generalize lw a 2=a2 at *;generalize lw a 3=a3 at *
 generalize lw b 0=b0 at *;generalize lw b 1=b1 at *;generalize lw b 2=b2 at *;generalize lw b 3=b3 at *
 rw [decide_eq_decide]
 by_cases h3:a3=b3
 ·by_cases h2:a2=b2
  ·by_cases h1:a1=b1
   ·subst h1;subst h2;subst h3;omega
   ·subst h2;subst h3;omega
  ·subst h3;omega
 ·omega
theorem Eg {fn:Func} (H:BelR fn) (a b:Nat) (ha:a<RN) (hb:b<RN):SW Tryz.prog [] (ag fn) (bS fn [nv a,nv b],[]) (xE Tryz.prog fn [] fun v=>v = .bool (decide (a<b))):=by
 have hn:=Aq a b ha hb
 refine SW.seqC H.s1 (SW.run dL mixed 20 (H.e1 a b) (by simp) ?_)
 show SW Tryz.prog [] (cR (ag fn)) (bs1 Tryz.prog fn a b) (xE Tryz.prog fn [] fun v=>v = .bool (decide (a<b)))
 refine SW.seqC H.s2 (SW.seqC H.s3 (SW.run dL mixed 20 (H.e2 a b) (by simp) ?_))
 show SW Tryz.prog [] (cR (cL (cR (ag fn)))) (bst Tryz.prog fn a b 0) (thenS (fun s'=>SW Tryz.prog [] (cR (cR (ag fn))) s' (xE Tryz.prog fn [] fun v=>v = .bool (decide (a<b)))) (xE Tryz.prog fn [] fun v=>v = .bool (decide (a<b))))
 refine SW.blockC H.s4 ?_
 rw [H.k1]
 refine SW.loopC H.s5 (fun n s => ∃ j,n+j=4∧s=bst Tryz.prog fn a b j ∧ ∀ i,4 - j≤i→i<4→lw a i=lw b i) 4 ⟨0,rfl,rfl,fun i h1 h2=>by omega⟩ ?_
 rintro n s ⟨j,hj,rfl,heq⟩
 show SW Tryz.prog [] (bLB fn) (bst Tryz.prog fn a b j) _
 have hjj:j=0∨j=1∨j=2∨j=3∨j=4:=by omega
 rcases hjj with rfl | rfl | rfl | rfl | rfl
 ·skip
  by_cases h:lw a 3=lw b 3
  ·refine SW.run (Cx.tell_ok dL _) mixed 30 (H.f0 a b) (by simp [h]) ⟨n - 1,by omega,1,by omega,rfl,fun i h1 h2 => ?_⟩
   rcases Nat.lt_or_ge i 4 with h3 | h3
   ·obtain rfl:i=3:=by omega
    exact h
   ·exact heq i (by omega) h2
  ·refine SW.run (Cx.tell_ok dL _) mixed 30 (H.t0 a b) (by simp [h]) ⟨.inr rfl,(H.r0 a b).2,_,_,(H.r0 a b).1,.inl rfl,(List.nil_append _).symm,?_⟩
   rw [hn]
   congr 1
   rw [decide_eq_decide]
   omega
 ·have e3:=heq 3 (by omega) (by omega);
  by_cases h:lw a 2=lw b 2
  ·refine SW.run (Cx.tell_ok dL _) mixed 30 (H.f1 a b) (by simp [h]) ⟨n - 1,by omega,2,by omega,rfl,fun i h1 h2 => ?_⟩
   rcases Nat.lt_or_ge i 3 with h3 | h3
   ·obtain rfl:i=2:=by omega
    exact h
   ·exact heq i (by omega) h2
  ·refine SW.run (Cx.tell_ok dL _) mixed 30 (H.t1 a b) (by simp [h]) ⟨.inr rfl,(H.r1 a b).2,_,_,(H.r1 a b).1,.inl rfl,(List.nil_append _).symm,?_⟩
   rw [hn]
   congr 1
   rw [decide_eq_decide]
   omega
 ·have e2:=heq 2 (by omega) (by omega);have e3:=heq 3 (by omega) (by omega);
  by_cases h:lw a 1=lw b 1
  ·refine SW.run (Cx.tell_ok dL _) mixed 30 (H.f2 a b) (by simp [h]) ⟨n - 1,by omega,3,by omega,rfl,fun i h1 h2 => ?_⟩
   rcases Nat.lt_or_ge i 2 with h3 | h3
   ·obtain rfl:i=1:=by omega
    exact h
   ·exact heq i (by omega) h2
  ·refine SW.run (Cx.tell_ok dL _) mixed 30 (H.t2 a b) (by simp [h]) ⟨.inr rfl,(H.r2 a b).2,_,_,(H.r2 a b).1,.inl rfl,(List.nil_append _).symm,?_⟩
   rw [hn]
   congr 1
   rw [decide_eq_decide]
   omega
 ·have e1:=heq 1 (by omega) (by omega);have e2:=heq 2 (by omega) (by omega);have e3:=heq 3 (by omega) (by omega);
  by_cases h:lw a 0=lw b 0
  ·refine SW.run (Cx.tell_ok dL _) mixed 30 (H.f3 a b) (by simp [h]) ⟨n - 1,by omega,4,by omega,rfl,fun i h1 h2 => ?_⟩
   rcases Nat.lt_or_ge i 1 with h3 | h3
   ·obtain rfl:i=0:=by omega
    exact h
   ·exact heq i (by omega) h2
  ·refine SW.run (Cx.tell_ok dL _) mixed 30 (H.t3 a b) (by simp [h]) ⟨.inr rfl,(H.r3 a b).2,_,_,(H.r3 a b).1,.inl rfl,(List.nil_append _).symm,?_⟩
   rw [hn]
   congr 1
   rw [decide_eq_decide]
   omega
 ·have e0:=heq 0 (by omega) (by omega);have e1:=heq 1 (by omega) (by omega);have e2:=heq 2 (by omega) (by omega);have e3:=heq 3 (by omega) (by omega)
  refine SW.run dL mixed 30 (H.x a b) (by simp) ?_
  show SW Tryz.prog [] (cR (cR (ag fn))) (FB Tryz.prog fn a b) (xE Tryz.prog fn [] fun v=>v = .bool (decide (a<b)))
  refine SW.run dL mixed 30 (H.z a b) (by simp) ⟨.inr rfl,(H.zr a b).2,_,_,(H.zr a b).1,.inl rfl,(List.nil_append _).symm,?_⟩
  rw [hn]
  have : ¬ (lw a 3<lw b 3∨(lw a 3=lw b 3∧(lw a 2<lw b 2∨(lw a 2=lw b 2∧(lw a 1<lw b 1∨(lw a 1=lw b 1∧lw a 0<lw b 0)))))):=by omega
  rw [decide_eq_false this]
def xk:List Value→Option (List Prop × Value)
 | [A,B]=>some ([IsN A∧IsN B],.bool (decide (num A<num B)))
 | _=>none
theorem qR {f:FuncId} {fn:Func} (hf:Tryz.prog.funcs[f]? = some fn) (hb:fn.body=some (ag fn)) (H:BelR fn) {a b:Nat} (lA:a<RN) (lB:b<RN) (w:World):Calls Tryz.prog f #[nv a,nv b] w fun e w'=>e = .returned (.bool (decide (a<b)))∧Below w.heap.size w w':=by
 refine (cD (R:=fun v=>v = .bool (decide (a<b))) hf hb (Eg H a b lA lB) (Rel.nil w) (by simp) (ej (args:=[nv a,nv b]) rfl)).mono ?_
 rintro e w' ⟨v,rfl,rfl,hb⟩
 exact ⟨rfl,hb⟩
theorem Mu:BelR Tryz.f74:=by constructor <;> (intros;first | kernel_rfl | exact ⟨by kernel_rfl,by kernel_rfl⟩)
theorem Ax {X:Cx} (hX:X.Ok Tryz.prog):(X.pure 74 xk).Ok Tryz.prog:=by
 refine aA hX Tryz.func74 (by kernel_rfl) (by kernel_rfl) ?_
 intro args ps v ha hg hp
 unfold xk at hg
 split at hg
 ·rename_i A B
  simp only [qG,qH] at hg
  obtain ⟨rfl,rfl⟩:=hg
  obtain ⟨hA,hB⟩:=hp _ (YJ.2 rfl)
  refine ⟨.inl rfl,fun w => ?_⟩
  have h:=qR Tryz.func74 (by kernel_rfl) Mu (aX hA) (aX hB) w
  rw [←hA,←hB] at h
  exact h
 ·simp at hg
def Z0:Cx:=(((X0.pure 76 lO).pure 69 kQ).pure 109 gLess).pure 74 xk
theorem Ez:Z0.Ok Tryz.prog:=Ax (DR (AR (Bi dL)))
def mr (a0 a1 a2 a3 b0 b1 b2 b3:Int):Value:=(.agg #[.int .u64 ((a0+b0+0) % 18446744073709551616),.int .u64 ((a1+b1+((a0+b0+0)/18446744073709551616)) % 18446744073709551616),.int .u64 ((a2+b2+((a1+b1+((a0+b0+0)/18446744073709551616))/18446744073709551616)) % 18446744073709551616),.int .u64 ((a3+b3+((a2+b2+((a1+b1+((a0+b0+0)/18446744073709551616))/18446744073709551616))/18446744073709551616)) % 18446744073709551616)])
def Ed (a0 a1 a2 a3 b0 b1 b2 b3:Int):List Prop:=[Word a0∧Word b0∧Bit (0),
  Word a1∧Word b1∧Bit (((a0+b0+0)/18446744073709551616)),
  Word a2∧Word b2∧Bit (((a1+b1+((a0+b0+0)/18446744073709551616))/18446744073709551616)),
  Word a3∧Word b3∧Bit (((a2+b2+((a1+b1+((a0+b0+0)/18446744073709551616))/18446744073709551616))/18446744073709551616))]
theorem wa (a0 a1 a2 a3 b0 b1 b2 b3:Int):sfun Tryz.prog (Z0.tell [(28,false)]) 60 Tryz.f68 (ag Tryz.f68) [.agg #[.int .u64 a0,.int .u64 a1,.int .u64 a2,.int .u64 a3],.agg #[.int .u64 b0,.int .u64 b1,.int .u64 b2,.int .u64 b3]]=some (Ed a0 a1 a2 a3 b0 b1 b2 b3 ++ [IsN (mr a0 a1 a2 a3 b0 b1 b2 b3)∧IsN (nv LN),(!decide (num (mr a0 a1 a2 a3 b0 b1 b2 b3)<num (nv LN)))=false],mr a0 a1 a2 a3 b0 b1 b2 b3):=by kernel_rfl
theorem wL (a0 a1 a2 a3 b0 b1 b2 b3:Int):sfun Tryz.prog (Z0.tell [(28,true)]) 60 Tryz.f68 (ag Tryz.f68) [.agg #[.int .u64 a0,.int .u64 a1,.int .u64 a2,.int .u64 a3],.agg #[.int .u64 b0,.int .u64 b1,.int .u64 b2,.int .u64 b3]]=some (Ed a0 a1 a2 a3 b0 b1 b2 b3 ++ [IsN (mr a0 a1 a2 a3 b0 b1 b2 b3)∧IsN (nv LN),(!decide (num (mr a0 a1 a2 a3 b0 b1 b2 b3)<num (nv LN)))=true,IsN (mr a0 a1 a2 a3 b0 b1 b2 b3)∧IsN (nv LN)],nv ((num (mr a0 a1 a2 a3 b0 b1 b2 b3)+RN - num (nv LN)) % RN)):=by kernel_rfl
def okL (A:Value):Prop:=IsN A∧num A<LN
def gPl:List Value→Option (List Prop × Value)
 | [A,B]=>some ([okL A∧okL B],nv ((num A+num B) % LN))
 | _=>none
theorem JU {X:Cx} (hX:X.Ok Tryz.prog):(X.pure 68 gPl).Ok Tryz.prog:=by
 refine aA hX Tryz.func68 (by kernel_rfl) (by kernel_rfl) ?_
 intro args ps v ha hg hp
 unfold gPl at hg
 split at hg
 ·rename_i A B
  simp only [qG,qH] at hg
  obtain ⟨rfl,rfl⟩:=hg
  obtain ⟨⟨hA,cA⟩,hB,cB⟩:=hp _ (YJ.2 rfl)
  refine ⟨.inl rfl,fun w => ?_⟩
  have lA:=aX hA
  have lB:=aX hB
  rw [hA,hB,ak lA,ak lB]
  clear hp ha hA hB
  generalize num A=a at *
  generalize num B=b at *
  have k:=kO (lw a 0) (lw a 1) (lw a 2) (lw a 3) (lw b 0) (lw b 1) (lw b 2) (lw b 3) (ah _ _) (ah _ _) (ah _ _) (ah _ _) (ah _ _) (ah _ _) (ah _ _) (ah _ _) a b (by rw [aQ,YK lA]) (by rw [aQ,YK lB])
  have k1 : ∀ p ∈ Ed (lw a 0) (lw a 1) (lw a 2) (lw a 3) (lw b 0) (lw b 1) (lw b 2) (lw b 3),p:=k.1
  have k2:=k.2
  simp only [Value.tuple.injEq,Array.mk.injEq,List.cons.injEq] at k2
  have k3:mr (lw a 0) (lw a 1) (lw a 2) (lw a 3) (lw b 0) (lw b 1) (lw b 2) (lw b 3)=nv ((a+b) % RN):=k2.1
  have hlt:a+b<RN:=by simp only [LN,RN] at *;omega
  rw [YK hlt] at k3
  have hnum:num (mr (lw a 0) (lw a 1) (lw a 2) (lw a 3) (lw b 0) (lw b 1) (lw b 2) (lw b 3))=a+b:=by rw [k3,ak hlt]
  by_cases hc:a+b<LN
  ·have h:=aq (Cx.tell_ok Ez _) mixed Tryz.func68 (by kernel_rfl) (wa (lw a 0) (lw a 1) (lw a 2) (lw a 3) (lw b 0) (lw b 1) (lw b 2) (lw b 3)) (by
    intro p hp
    rcases List.mem_append.1 hp with hp | hp
    ·exact k1 p hp
    ·simp only [List.mem_cons,List.not_mem_nil,or_false] at hp
     rcases hp with rfl | rfl
     ·exact ⟨by rw [k3];exact aI _,aI _⟩
     ·rw [hnum,ak (n:=LN) (by decide),decide_eq_true hc];rfl) rfl (.inl (by rw [k3];rfl)) w
   rw [k3] at h
   rw [YK hc]
   exact h
  ·have h:=aq (Cx.tell_ok Ez _) mixed Tryz.func68 (by kernel_rfl) (wL (lw a 0) (lw a 1) (lw a 2) (lw a 3) (lw b 0) (lw b 1) (lw b 2) (lw b 3)) (by
    intro p hp
    rcases List.mem_append.1 hp with hp | hp
    ·exact k1 p hp
    ·simp only [List.mem_cons,List.not_mem_nil,or_false] at hp
     rcases hp with rfl | rfl | rfl
     ·exact ⟨by rw [k3];exact aI _,aI _⟩
     ·rw [hnum,ak (n:=LN) (by decide),decide_eq_false hc];rfl
     ·exact ⟨by rw [k3];exact aI _,aI _⟩) rfl (.inl rfl) w
   rw [hnum,ak (n:=LN) (by decide)] at h
   have e:(a+b+RN - LN) % RN=(a+b) % LN:=by simp only [LN,RN] at *;omega
   rw [e] at h
   exact h
 ·simp at hg
def Z1:Cx:=Z0.pure 68 gPl
theorem oS:Z1.Ok Tryz.prog:=JU Ez
open Go Go.RowKit
theorem vR {P:Program} {X:Cx} (hX:X.Ok P) (hm:P.follows .mixedOrders=true) {n:Nat} {f:FuncId} {fn:Func} {c:Code} (hf:P.funcs[f]? = some fn) (hb:fn.body=some c) {args:List Value} {m x:Mem} {ps:List Prop} {s:Act × Mem} {v:Value}
  (h:sexec P X n c [] (bS fn args,m)=some (ps,.ret,s)) (hp : ∀ p ∈ ps,p) (hd:s.1.defers = []) (hr:sres P fn s=some v) (hv:flat v=true∨v=undef) (hx:s.2=m ++ x) {r:Ren} {w:World} {args':List Value} (hR:Rel r m w) (hgl : ∀ g ∈ X.gl,r g=some g) (ha:trL (tr r) args=some args') :
  Calls P f args'.toArray w fun e w'=>e = .returned v∧Below w.heap.size w w':=by
 refine (cD (R:=fun u=>u=v) hf hb (SW.run hX hm n h hp ⟨.inr rfl,hd,v,x,hr,hv,hx,rfl⟩) hR hgl ha).mono ?_
 rintro e w' ⟨u,rfl,rfl,hb⟩
 exact ⟨rfl,hb⟩
def slA (b M cap:Nat):Value := .slice (some ⟨b,0,none⟩) M cap
def fS (P:Program) (fn:Func) (n cap:Nat) (ty:BT):Act × Mem:=cQ P Z1 200 (ag fn) (bS fn [slA 0 32 cap],[some ⟨blm 32 n,ty⟩])
theorem f_e (n cap:Nat) (ty:BT):sexec Tryz.prog Z1 200 (ag Tryz.f75) [] (bS Tryz.f75 [slA 0 32 cap],[some ⟨blm 32 n,ty⟩])=some ([],.ret,fS Tryz.prog Tryz.f75 n cap ty):=by kernel_rfl
theorem f_r (n cap:Nat) (ty:BT):sres Tryz.prog Tryz.f75 (fS Tryz.prog Tryz.f75 n cap ty)=some (.agg #[.int .u64 (orf n 0 8),.int .u64 (orf n 1 8),.int .u64 (orf n 2 8),.int .u64 (orf n 3 8)]):=by kernel_rfl
theorem f_d (n cap:Nat) (ty:BT):(fS Tryz.prog Tryz.f75 n cap ty).1.defers = []:=by kernel_rfl
theorem f_x (n cap:Nat) (ty:BT):(fS Tryz.prog Tryz.f75 n cap ty).2 = [some ⟨blm 32 n,ty⟩] ++ (fS Tryz.prog Tryz.f75 n cap ty).2.drop 1:=by kernel_rfl
def bytesAt (M:Nat) (v:Value) (m:Mem):Option Nat :=
 match v with
 | .slice (some ⟨b,0,none⟩) k _=>if k=M then (bn m b).map fun B=>bsum B.cells else none
 | _=>none
def bytesOK (M:Nat) (v:Value) (m:Mem):Prop :=
 match v with
 | .slice (some ⟨b,0,none⟩) _ _=>match bn m b with
  | some B=>B.cells=blm M (bsum B.cells)
  | none=>False
 | _=>False
theorem kE {M:Nat} {v:Value} {m:Mem} {i:Nat} {B:Blk} (hi:m[i]? = some none) {n:Nat} (h:bytesAt M v m=some n):bytesAt M v (m.set i (some B))=some n∧bytesOK M v (m.set i (some B))=bytesOK M v m:=by
 unfold bytesAt at h ⊢
 unfold bytesOK
 split at h
 ·rename_i b k c
  split at h
  ·rename_i hk
   cases hb:bn m b with
   | none=>simp [hb] at h
   | some B' =>
    have e:=dP (m:=m) (i:=i) (x:=some B) (tD hi hb)
    simp only [hk,if_true,e]
    rw [hb] at h ⊢
    exact ⟨h,rfl⟩
  ·simp at h
 ·simp at h
theorem nw {M:Nat} {v:Value} {m:Mem} {n:Nat} (h:bytesAt M v m=some n) (ho:bytesOK M v m) {r:Ren} {w:World} (hR:Rel r m w) {v':Value} (ht:tr r v=some v') :
  ∃ (cap:Nat) (ty:BT) (c:Nat),n<256 ^ M∧Rel (fun k=>if k=0 then some c else none) [some ⟨blm M n,ty⟩] w∧tr (fun k=>if k=0 then some c else none) (slA 0 M cap)=some v':=by
 unfold bytesAt at h
 unfold bytesOK at ho
 split at h
 ·rename_i b k cap
  split at h
  ·rename_i hk
   subst hk
   obtain ⟨c,hc,rfl⟩:=eD ht
   cases hb:bn m b with
   | none=>simp [hb] at h
   | some B =>
    simp only [hb,YO,qG] at h ho
    subst h
    obtain ⟨c',cs,p1,p2,p3⟩:=hR.cells b B hb
    rw [hc] at p1;cases p1
    have hfl:B.cells.all flat1=true:=by rw [ho];simp [blm,flat1]
    have hone:=hR.one hb hc p2 hfl
    have hB:B=⟨blm k (bsum B.cells),B.ty⟩:=by rw [←ho]
    refine ⟨cap,B.ty,c,?_,by rw [←hB];exact hone,cV (by simp)⟩
    have e:=congrArg bsum ho
    rw [kf] at e
    rw [e];exact Nat.mod_lt _ (Nat.pow_pos (by decide))
  ·simp at h
 ·simp at h
def gFrom (args:List Value) (m:Mem):Option (List Prop × Value) :=
 match args with
 | [v]=>match bytesAt 32 v m with
  | some n=>some ([bytesOK 32 v m],nv n)
  | none=>none
 | _=>none
theorem EY {X:Cx} (hX:X.Ok Tryz.prog):(X.read 75 gFrom).Ok Tryz.prog:=by
 refine Cx.read_ok hX ?_ ?_
 ·intro args m ps v hg hp r w args' hR hgl ha
  unfold gFrom at hg
  split at hg
  ·rename_i a
   split at hg
   ·rename_i n hn
    simp only [qG,qH] at hg
    obtain ⟨rfl,rfl⟩:=hg
    have ho:=hp _ (YJ.2 rfl)
    obtain ⟨a',q,h1,h2,rfl⟩:=bZ ha
    simp only [trL,qG] at h2;subst h2
    obtain ⟨cap,ty,c,hlt,hone,htr⟩:=nw hn ho hR h1
    refine fk Tryz.func75 (by kernel_rfl) (show _=some (ag Tryz.f75) from (by kernel_rfl)) ?_
    refine (vR oS mixed Tryz.func75 (show _=some (ag Tryz.f75) from (by kernel_rfl)) (f_e n cap ty) (by simp) (f_d n cap ty) (f_r n cap ty) (.inl rfl) (f_x n cap ty) hone (fun _ h=>absurd h List.not_mem_nil) (cO htr rfl)).mono ?_
    rintro e w' ⟨rfl,hb⟩
    refine ⟨_,rfl,?_,hb⟩
    rw [iW,iW,iW,iW]
    exact cd r _ rfl
   ·simp at hg
  ·simp at hg
 ·intro args m q i B hi hg
  unfold gFrom at hg ⊢
  split at hg
  ·rename_i a
   split at hg
   ·rename_i n hn
    obtain ⟨e1,e2⟩:=kE (B:=B) hi hn
    simp only [e1,e2];exact hg
   ·simp at hg
  ·simp at hg
def mhd (ty41 M n cap:Nat) (ty:BT) (i:Int) (o:Nat):Act × Mem :=
 (⟨#[slA 0 M cap,cT,.pointer (some ⟨1,0,none⟩),.pointer (some ⟨2,0,none⟩),.int .i64 i] ++ Array.replicate 26 cT,[]⟩,[some ⟨blm M n,ty⟩,some ⟨z4.toList,ty41⟩,some ⟨(na o).toList,ty41⟩])
def mF:List Nat:=[1,5,6,7,8,9,10,11,12,13,14,15,16,17,18,19,20,21,22,23,24,25,26,27,28,29,30]
def mK (s:Act × Mem):Act × Mem:=(forgetL s.1 mF,s.2)
def mLB (fn:Func):Code:=cL (cL (cR (cL (cR (cR (ag fn))))))
def Zt (dec:List (Nat × Bool)):Cx:=Z1.terms.tell dec
theorem BR (dec:List (Nat × Bool)):(Zt dec).Ok Tryz.prog:=Cx.tell_ok (Cx.terms_ok oS) dec
def proj (K:Act × Mem→Act × Mem) (r:Option (List Prop × Exit × Act × Mem)):Option (List Prop × Act × Mem) :=
 match r with
 | some (ps,.normal,s)=>some (ps,K s)
 | _=>none
theorem bD {K:Act × Mem→Act × Mem} {r:Option (List Prop × Exit × Act × Mem)} {ps:List Prop} {t:Act × Mem} (h:proj K r=some (ps,t)) : ∃ s,r=some (ps,.normal,s)∧K s=t:=by
 unfold proj at h
 split at h
 ·rename_i qs s
  simp only [qG,qH] at h
  obtain ⟨rfl,h2⟩:=h
  exact ⟨s,rfl,h2⟩
 ·simp at h
def ms1 (P:Program) (fn:Func) (M n cap:Nat) (ty:BT):Act × Mem:=cQ P Z1 20 (cL (ag fn)) (bS fn [slA 0 M cap],[some ⟨blm M n,ty⟩])
def ms2 (P:Program) (fn:Func) (M n cap:Nat) (ty:BT):Act × Mem:=cQ P Z1 20 (cL (cR (ag fn))) (ms1 P fn M n cap ty)
def ms3 (P:Program) (fn:Func) (M n cap:Nat) (ty:BT):Act × Mem:=cQ P Z1 20 (cL (cL (cR (cR (ag fn))))) (ms2 P fn M n cap ty)
def qI (i:Int):Int:=IntKind.i64.wrap (Int.tdiv i 8)
def uI (i:Int):Int:=IntKind.u64.wrap (Int.tmod i 8)
def xI (M n:Nat) (i:Int):Int:=j8 (blm M n) (0+(qI i).toNat*1)
def btI (M n:Nat) (i:Int):Int:=bits .and .u8 (Int.fdiv (xI M n i) (2 ^ min (uI i).toNat 8)) 1
def mO (M n:Nat) (i:Int):List Prop:=[0≤qI i∧qI i<(M:Int),(blm M n)[0+(qI i).toNat*1]? = some (.int .u8 (xI M n i)),0≤uI i]
def dbl (o:Nat):Nat:=(num (nv o)+num (nv o)) % LN
def inc (o:Nat):Nat:=(num (nv (dbl o))+num (nv 1)) % LN
def dn (i:Int):Int:=IntKind.i64.wrap (i - 1)
def mX (P:Program) (fn:Func) (ty41 M n cap:Nat) (ty:BT) (i:Int) (o:Nat):Act × Mem:=cQ P (Zt [(10,false)]) 40 (mLB fn) (mhd ty41 M n cap ty i o)
def mZ (P:Program) (fn:Func) (ty41 M n cap:Nat) (ty:BT) (i:Int) (o:Nat):Act × Mem:=cQ P Z1 40 (cR (cR (cR (ag fn)))) (mX P fn ty41 M n cap ty i o)
theorem Pd (M n cap:Nat) (ty:BT):sexec Tryz.prog Z1 20 (cL (ag Tryz.f67)) [] (bS Tryz.f67 [slA 0 M cap],[some ⟨blm M n,ty⟩])=some ([],.normal,ms1 Tryz.prog Tryz.f67 M n cap ty):=by kernel_rfl
theorem OK (M n cap:Nat) (ty:BT):sexec Tryz.prog Z1 20 (cL (cR (ag Tryz.f67))) [] (ms1 Tryz.prog Tryz.f67 M n cap ty)=some ([],.normal,ms2 Tryz.prog Tryz.f67 M n cap ty):=by kernel_rfl
theorem Qn (M n cap:Nat) (ty:BT):sexec Tryz.prog Z1 20 (cL (cL (cR (cR (ag Tryz.f67))))) [] (ms2 Tryz.prog Tryz.f67 M n cap ty)=some ([],.normal,ms3 Tryz.prog Tryz.f67 M n cap ty):=by kernel_rfl
theorem m_h (M n cap:Nat) (ty:BT):mK (ms3 Tryz.prog Tryz.f67 M n cap ty)=mhd 97 M n cap ty (IntKind.i64.wrap (IntKind.i64.wrap (8*(M:Int)) - 1)) 0:=by kernel_rfl
theorem m_t (M n cap:Nat) (ty:BT) (i:Int) (o:Nat):proj mK (sexec Tryz.prog (Zt [(10,true),(26,true)]) 40 (mLB Tryz.f67) [] (mhd 97 M n cap ty i o))=some ([decide (i≥0)=true,okL (nv o)∧okL (nv o)] ++ mO M n i ++ [(btI M n i == 1)=true,okL (nv (dbl o))∧okL (nv 1)],mhd 97 M n cap ty (dn i) (inc o)):=by kernel_rfl
theorem m_f (M n cap:Nat) (ty:BT) (i:Int) (o:Nat):proj mK (sexec Tryz.prog (Zt [(10,true),(26,false)]) 40 (mLB Tryz.f67) [] (mhd 97 M n cap ty i o))=some ([decide (i≥0)=true,okL (nv o)∧okL (nv o)] ++ mO M n i ++ [(btI M n i == 1)=false],mhd 97 M n cap ty (dn i) (dbl o)):=by kernel_rfl
theorem m_x (M n cap:Nat) (ty:BT) (i:Int) (o:Nat):sexec Tryz.prog (Zt [(10,false)]) 40 (mLB Tryz.f67) [] (mhd 97 M n cap ty i o)=some ([decide (i≥0)=false],.exit 0,mX Tryz.prog Tryz.f67 97 M n cap ty i o):=by kernel_rfl
theorem m_z (M n cap:Nat) (ty:BT) (i:Int) (o:Nat):sexec Tryz.prog Z1 40 (cR (cR (cR (ag Tryz.f67)))) [] (mX Tryz.prog Tryz.f67 97 M n cap ty i o)=some ([],.ret,mZ Tryz.prog Tryz.f67 97 M n cap ty i o):=by kernel_rfl
theorem m_r (M n cap:Nat) (ty:BT) (i:Int) (o:Nat):sres Tryz.prog Tryz.f67 (mZ Tryz.prog Tryz.f67 97 M n cap ty i o)=some (nv o):=by kernel_rfl
theorem m_d (M n cap:Nat) (ty:BT) (i:Int) (o:Nat):(mZ Tryz.prog Tryz.f67 97 M n cap ty i o).1.defers = []:=by kernel_rfl
theorem m_m (M n cap:Nat) (ty:BT) (i:Int) (o:Nat):(mZ Tryz.prog Tryz.f67 97 M n cap ty i o).2 = [some ⟨blm M n,ty⟩] ++ (mZ Tryz.prog Tryz.f67 97 M n cap ty i o).2.drop 1:=by kernel_rfl
theorem wrap64 (x:Int) (h0 : -9223372036854775808≤x) (h1:x<9223372036854775808):IntKind.i64.wrap x=x:=by
 have e:IntKind.i64.wrap x=if x % 18446744073709551616≥9223372036854775808 then x % 18446744073709551616 - 18446744073709551616 else x % 18446744073709551616:=by
  simp [IntKind.wrap,IntKind.bits,IntKind.signed]
 rw [e]
 split <;> omega
theorem yr (x:Int) (h0:0≤x) (h1:x<18446744073709551616):IntKind.u64.wrap x=x:=by rw [IntKind.wrap_u64];omega
theorem LD (x:Nat) (hx:x<256):bits .and .u8 (x:Int) 1=((x % 2:Nat):Int):=by
 have h : ∀ y:Fin 256,bits .and .u8 (y.val:Int) 1=((y.val % 2:Nat):Int):=by decide +kernel
 exact h ⟨x,hx⟩
theorem Nq (M n j:Nat) (hj:j<8*M) (hM:M≤1000):(∀ p ∈ mO M n (j:Int),p)∧btI M n (j:Int)=((n/2 ^ j % 2:Nat):Int):=by
 have hq:qI (j:Int)=((j/8:Nat):Int):=by
  unfold qI
  rw [Int.tdiv_eq_ediv_of_nonneg (by omega),wrap64 _ (by omega) (by omega)]
  omega
 have hu:uI (j:Int)=((j % 8:Nat):Int):=by
  unfold uI
  rw [Int.tmod_eq_emod_of_nonneg (by omega),yr _ (by omega) (by omega)]
  omega
 have hidx:0+(qI (j:Int)).toNat*1=j/8:=by rw [hq];omega
 have hget:(blm M n)[j/8]? = some (.int .u8 (by8 n (j/8))):=by
  have:j/8<M:=by omega
  simp [blm,this]
 have hx:xI M n (j:Int)=by8 n (j/8):=by unfold xI j8;rw [hidx,hget]
 refine ⟨?_,?_⟩
 ·intro p hp
  simp only [mO,List.mem_cons,List.not_mem_nil,or_false] at hp
  rcases hp with rfl | rfl | rfl
  ·rw [hq];omega
  ·rw [hx,hidx];exact hget
  ·rw [hu];omega
 ·unfold btI
  rw [hx,hu,Int.toNat_natCast,Nat.min_eq_left (by omega)]
  unfold by8
  rw [eB,LD _ (by
   have:n/256 ^ (j/8) % 256<256:=Nat.mod_lt _ (by decide)
   exact Nat.lt_of_le_of_lt (Nat.div_le_self _ _) this)]
  congr 1
  have e:(2:Nat) ^ j=256 ^ (j/8)*2 ^ (j % 8):=by
   rw [show (256:Nat)=2 ^ 8 from rfl,←Nat.pow_mul,←Nat.pow_add,Nat.div_add_mod]
  rw [e,←YL]
  generalize n/256 ^ (j/8)=y
  have h8:j % 8<8:=Nat.mod_lt _ (by decide)
  have e2:(256:Nat)=2 ^ (j % 8)*(2*2 ^ (7 - j % 8)):=by
   rw [←Nat.pow_succ',←Nat.pow_add,show j % 8+(7 - j % 8).succ=8 by omega]
  rw [e2,Nat.mod_mul_right_div_self,Nat.mod_mul_right_mod]
theorem dz {o:Nat} (h:o<LN):okL (nv o):=⟨aI _,by rw [ak (cC h)];exact h⟩
theorem tu {o:Nat} (h:o<LN):dbl o=(o+o) % LN:=by unfold dbl;rw [ak (cC h)]
theorem JW {o:Nat} (h:o<LN):inc o=(o+o+1) % LN:=by
 have h2:dbl o<LN:=Nat.mod_lt _ (by decide)
 unfold inc
 rw [ak (cC h2),ak (n:=1) (by decide),tu h,Nat.mod_add_mod]
theorem rF (n j:Nat):n/2 ^ j=n/2 ^ (j+1)+n/2 ^ (j+1)+n/2 ^ j % 2:=by
 rw [Nat.pow_succ,←YL];omega
theorem vC (n j b:Nat) (h:n/2 ^ j % 2=b):(n/2 ^ (j+1) % LN+n/2 ^ (j+1) % LN+b) % LN=n/2 ^ j % LN:=by
 rw [rF n j,h]
 generalize n/2 ^ (j+1)=y
 rw [Nat.add_mod (y % LN+y % LN) b,←Nat.add_mod y y,←Nat.add_mod]
theorem K6 (M n cap:Nat) (ty:BT) (hM:M≤1000) (hn:n<256 ^ M):SW Tryz.prog [] (ag Tryz.f67) (bS Tryz.f67 [slA 0 M cap],[some ⟨blm M n,ty⟩]) (xE Tryz.prog Tryz.f67 [some ⟨blm M n,ty⟩] fun v=>v=nv (n % LN)):=by
 refine SW.seqC (by kernel_rfl) (SW.run oS mixed 20 (Pd M n cap ty) (by simp) ?_)
 refine SW.seqC (by kernel_rfl) (SW.run oS mixed 20 (OK M n cap ty) (by simp) ?_)
 refine SW.seqC (by kernel_rfl) (SW.seqC (by kernel_rfl) (SW.run oS mixed 20 (Qn M n cap ty) (by simp) ?_))
 show SW Tryz.prog [] (cR (cL (cR (cR (ag Tryz.f67))))) (ms3 Tryz.prog Tryz.f67 M n cap ty) (thenS (fun s'=>SW Tryz.prog [] (cR (cR (cR (ag Tryz.f67)))) s' _) _)
 refine SW.blockC (by kernel_rfl) ?_
 have hci:cI (cR (cL (cR (cR (ag Tryz.f67)))))=0:=by kernel_rfl
 rw [hci]
 refine SW.loopC (by kernel_rfl) (fun k s=>k≤8*M∧mK s=mhd 97 M n cap ty ((k:Int) - 1) (n/2 ^ k % LN)) (8*M) ⟨Nat.le_refl _,?_⟩ ?_
 ·rw [m_h]
  have e1:IntKind.i64.wrap (IntKind.i64.wrap (8*(M:Int)) - 1)=((8*M:Nat):Int) - 1:=by
   rw [wrap64 (8*(M:Int)) (by omega) (by omega),wrap64 _ (by omega) (by omega)];omega
  have e2:n/2 ^ (8*M) % LN=0:=by
   rw [Nat.pow_mul,Nat.div_eq_of_lt hn];rfl
  rw [e1,e2]
 ·rintro k s ⟨hk,hs⟩
  refine SW.forget (a:=s.1) (m:=s.2) mF ?_
  show SW Tryz.prog [] (mLB Tryz.f67) (mK s) _
  rw [hs]
  have ho:n/2 ^ k % LN<LN:=Nat.mod_lt _ (by decide)
  cases k with
  | zero =>
   refine SW.run (BR _) mixed 40 (m_x M n cap ty _ _) (by simp) ?_
   show SW Tryz.prog [] (cR (cR (cR (ag Tryz.f67)))) _ _
   refine SW.run oS mixed 40 (m_z M n cap ty _ _) (by simp) ⟨.inr rfl,m_d _ _ _ _ _ _,_,_,m_r _ _ _ _ _ _,.inl rfl,m_m _ _ _ _ _ _,?_⟩
   simp
  | succ j =>
   have hi:((j+1:Nat):Int) - 1=(j:Int):=by omega
   rw [hi]
   obtain ⟨hO,hb⟩:=Nq M n j (by omega) hM
   have hdn:dn (j:Int)=(j:Int) - 1:=by unfold dn;exact wrap64 _ (by omega) (by omega)
   have hge:decide ((j:Int)≥0)=true:=decide_eq_true (by omega)
   have hd:dbl (n/2 ^ (j+1) % LN)<LN:=Nat.mod_lt _ (by decide)
   by_cases hbit:n/2 ^ j % 2=1
   ·obtain ⟨s',h1,h2⟩:=bD (m_t M n cap ty (j:Int) (n/2 ^ (j+1) % LN))
    refine SW.run (BR _) mixed 40 h1 ?_ ⟨j,by omega,by omega,?_⟩
    ·intro p hp
     rcases List.mem_append.1 hp with hp | hp
     ·rcases List.mem_append.1 hp with hp | hp
      ·simp only [List.mem_cons,List.not_mem_nil,or_false] at hp
       rcases hp with rfl | rfl
       ·exact hge
       ·exact ⟨dz ho,dz ho⟩
      ·exact hO p hp
     ·simp only [List.mem_cons,List.not_mem_nil,or_false] at hp
      rcases hp with rfl | rfl
      ·rw [hb,hbit];rfl
      ·exact ⟨dz hd,dz (by decide)⟩
    ·rw [h2,hdn,JW ho,vC n j 1 hbit]
   ·have hbit0:n/2 ^ j % 2=0:=by omega
    obtain ⟨s',h1,h2⟩:=bD (m_f M n cap ty (j:Int) (n/2 ^ (j+1) % LN))
    refine SW.run (BR _) mixed 40 h1 ?_ ⟨j,by omega,by omega,?_⟩
    ·intro p hp
     rcases List.mem_append.1 hp with hp | hp
     ·rcases List.mem_append.1 hp with hp | hp
      ·simp only [List.mem_cons,List.not_mem_nil,or_false] at hp
       rcases hp with rfl | rfl
       ·exact hge
       ·exact ⟨dz ho,dz ho⟩
      ·exact hO p hp
     ·simp only [List.mem_cons,List.not_mem_nil,or_false] at hp
      rcases hp with rfl
      rw [hb,hbit0];rfl
    ·have:=vC n j 0 hbit0
     rw [Nat.add_zero] at this
     rw [h2,hdn,tu ho,this]
def gModR (args:List Value) (m:Mem):Option (List Prop × Value) :=
 match args with
 | [.slice p k c]=>match bytesAt k (.slice p k c) m with
  | some n=>some ([k≤1000∧bytesOK k (.slice p k c) m],nv (n % LN))
  | none=>none
 | _=>none
theorem DG {X:Cx} (hX:X.Ok Tryz.prog):(X.read 67 gModR).Ok Tryz.prog:=by
 refine Cx.read_ok hX ?_ ?_
 ·intro args m ps v hg hp r w args' hR hgl ha
  unfold gModR at hg
  split at hg
  ·rename_i p k cc
   split at hg
   ·rename_i n hn
    simp only [qG,qH] at hg
    obtain ⟨rfl,rfl⟩:=hg
    obtain ⟨hk,ho⟩:=hp _ (YJ.2 rfl)
    obtain ⟨a',q,h1,h2,rfl⟩:=bZ ha
    simp only [trL,qG] at h2;subst h2
    obtain ⟨cap,ty,c,hlt,hone,htr⟩:=nw hn ho hR h1
    refine fk Tryz.func67 (by kernel_rfl) (show _=some (ag Tryz.f67) from (by kernel_rfl)) ?_
    refine (cD (R:=fun v=>v=nv (n % LN)) Tryz.func67 (show _=some (ag Tryz.f67) from (by kernel_rfl)) (K6 k n cap ty hk hlt) hone (fun _ h=>absurd h List.not_mem_nil) (cO htr rfl)).mono ?_
    rintro e w' ⟨v,rfl,rfl,hb⟩
    exact ⟨_,rfl,cd r _ rfl,hb⟩
   ·simp at hg
  ·simp at hg
 ·intro args m q i B hi hg
  unfold gModR at hg ⊢
  split at hg
  ·rename_i p k cc
   split at hg
   ·rename_i n hn
    obtain ⟨e1,e2⟩:=kE (B:=B) hi hn
    simp only [e1,e2];exact hg
   ·simp at hg
  ·simp at hg
def Z2:Cx:=(Z1.read 75 gFrom).read 67 gModR
theorem mo:Z2.Ok Tryz.prog:=DG (EY oS)
end Go.Proofs.YtajehiidpecknaaGreatDoor.Sc
