/- Package point: read as a contract. -/
import Derived.Test.YtmaehekekkfpmaaDoorPoiF
set_option linter.unusedSimpArgs false
set_option linter.unusedVariables false
namespace Go.Proofs.YtmaehekekkfpmaaDoor
open Go Go.RowKit
def F8:Cx:=F7.var M0 21 gWr
theorem F8_ok:F8.Ok Tryd.prog:=gWr_ok F7_ok (by kernel_rfl)
def oddB (n:Nat):Bool := !(bits .and .u8 (by8 n 31) 128 == 0)
def ncB (n:Nat):Bool := !decide (bnum (lowV n)<pp)
def sxV (n:Nat):Nat:=bnum (bv (sxN (bnum (lowV n))))
def errB (n:Nat):Bool := !(sqe (sxV n) == 0)
def rtV (n:Nat):Value:=bv (sqv (sxV n))
def zerB (n:Nat):Bool:=eqB (bl (sqv (sxV n))).toArray (bl 0).toArray 32
def noP:P4:=⟨0,0,0,0⟩
theorem al0 : ∀ p ∈ ([]:List Prop),p:=fun _ h=>(by cases h)
theorem al {q:Prop} {l:List Prop} (hq:q) (h : ∀ p ∈ l,p) : ∀ p ∈ q :: l,p:=fun p hp=>by
 rcases List.mem_cons.1 hp with rfl | hp
 ·exact hq
 ·exact h p hp
theorem rd_a_true (n:Nat):sfunG Tryd.prog (F8.tell [(11,true),(19,true)]) M0 80 Tryd.f35 (bodyOf Tryd.f35) [bv n]=some ([oddB n=true,IsB (lowV n),ncB n=true],.tuple #[pv noP,.int .i64 2]):=by kernel_rfl
theorem rd_b_true (n:Nat):sfunG Tryd.prog (F8.tell [(11,true),(19,false),(28,true)]) M0 80 Tryd.f35 (bodyOf Tryd.f35) [bv n]=some ([oddB n=true,IsB (lowV n),ncB n=false,IsB (lowV n),IsB (bv (sxN (bnum (lowV n)))),errB n=true],.tuple #[pv noP,.int .i64 2]):=by kernel_rfl
theorem rd_a_false (n:Nat):sfunG Tryd.prog (F8.tell [(11,false),(19,true)]) M0 80 Tryd.f35 (bodyOf Tryd.f35) [bv n]=some ([oddB n=false,IsB (lowV n),ncB n=true],.tuple #[pv noP,.int .i64 2]):=by kernel_rfl
theorem rd_b_false (n:Nat):sfunG Tryd.prog (F8.tell [(11,false),(19,false),(28,true)]) M0 80 Tryd.f35 (bodyOf Tryd.f35) [bv n]=some ([oddB n=false,IsB (lowV n),ncB n=false,IsB (lowV n),IsB (bv (sxN (bnum (lowV n)))),errB n=true],.tuple #[pv noP,.int .i64 2]):=by kernel_rfl
theorem rd_c (n:Nat):sfunG Tryd.prog (F8.tell [(11,true),(19,false),(28,false),(34,true)]) M0 80 Tryd.f35 (bodyOf Tryd.f35) [bv n]=some ([oddB n=true,IsB (lowV n),ncB n=false,IsB (lowV n),IsB (bv (sxN (bnum (lowV n)))),errB n=false,zerB n=true],.tuple #[pv noP,.int .i64 2]):=by kernel_rfl
theorem rd_d (n:Nat):sfunG Tryd.prog (F8.tell [(11,true),(19,false),(28,false),(34,false)]) M0 80 Tryd.f35 (bodyOf Tryd.f35) [bv n]=some ([oddB n=true,IsB (lowV n),ncB n=false,IsB (lowV n),IsB (bv (sxN (bnum (lowV n)))),errB n=false,zerB n=false,IB (bv 0) (rtV n),IB (SB (bv 0) (rtV n)) (lowV n)],.tuple #[pv (atN (bnum (SB (bv 0) (rtV n))) (bnum (lowV n))),.int .i64 0]):=by kernel_rfl
theorem rd_e (n:Nat):sfunG Tryd.prog (F8.tell [(11,false),(19,false),(28,false)]) M0 80 Tryd.f35 (bodyOf Tryd.f35) [bv n]=some ([oddB n=false,IsB (lowV n),ncB n=false,IsB (lowV n),IsB (bv (sxN (bnum (lowV n)))),errB n=false,IB (rtV n) (lowV n)],.tuple #[pv (atN (bnum (rtV n)) (bnum (lowV n))),.int .i64 0]):=by kernel_rfl
def rdOdd (n:Nat):Bool:=decide (TT≤n)
def rdRt (n:Nat):Nat:=sqv (sxN (n % TT))
def rdOk (n:Nat):Bool:=decide (n % TT<pp) && (decide (sqe (sxN (n % TT))=0) && !(rdOdd n && decide (rdRt n=0)))
def rdX (n:Nat):Nat:=if rdOdd n then fsb 0 (rdRt n) else rdRt n
def rdP (n:Nat):P4:=if rdOk n then atN (rdX n) (n % TT) else noP
def rdE (n:Nat):Int:=if rdOk n then 0 else 2
theorem sqv_lt (a:Nat):sqv a<RN:=by
 unfold sqv
 split
 ·unfold ev
  have:=rt_lt a
  have h2:pp<RN:=by decide
  split <;> omega
 ·decide
theorem modTT_lt (n:Nat):n % TT<RN:=Nat.lt_trans (Nat.mod_lt _ (by decide)) (by decide)
theorem sxN_lt (y:Nat):sxN y<RN:=fmlR _ _
theorem oddB_eq {n:Nat} (h:n<RN):oddB n=rdOdd n:=by
 unfold oddB rdOdd
 have hb:n/256 ^ 31 % 256<256:=Nat.mod_lt _ (by decide)
 have o:=(byte_ops ⟨n/256 ^ 31 % 256,hb⟩).2.1
 simp only at o
 show (!(bits .and .u8 ((n/256 ^ 31 % 256:Nat):Int) 128 == 0))=_
 rw [o,decide_eq_decide]
 have h2:n/256 ^ 31<256:=by rw [Nat.div_lt_iff_lt_mul (by decide)];exact Nat.lt_of_lt_of_le h (by decide)
 rw [Nat.mod_eq_of_lt h2,Nat.le_div_iff_mul_le (by decide),tt_pow,Nat.mul_comm]
theorem ncB_eq {n:Nat} (h:n<RN):ncB n = !decide (n % TT<pp):=by
 unfold ncB;rw [lowV_eq n h,bnum_bv' (modTT_lt n)]
theorem sxV_eq {n:Nat} (h:n<RN):sxV n=sxN (n % TT):=by
 unfold sxV;rw [lowV_eq n h,bnum_bv' (modTT_lt n),bnum_bv' (sxN_lt _)]
theorem errB_eq {n:Nat} (h:n<RN):errB n = !decide (sqe (sxN (n % TT))=0):=by
 unfold errB;rw [sxV_eq h]
 by_cases e:sqe (sxN (n % TT))=0 <;> simp [e]
theorem rtV_eq {n:Nat} (h:n<RN):rtV n=bv (rdRt n):=by unfold rtV rdRt;rw [sxV_eq h]
theorem eqB_bl (m n:Nat) (hm:m<RN) (hn:n<RN):eqB (bl m).toArray (bl n).toArray 32=decide (m=n):=by
 have g : ∀ k i,i<32→intAt (bl k).toArray i=by8 k i:=fun k i hi=>by
  unfold intAt
  have:(bl k).toArray[i]? = some (.int .u8 (by8 k i)):=by simp [bl,hi]
  rw [this]
 unfold eqB
 by_cases h:m=n
 ·subst h
  rw [decide_eq_true rfl]
  exact List.all_eq_true.2 fun i _=>by simp
 ·rw [decide_eq_false h]
  apply Bool.eq_false_iff.2
  intro hall
  apply h
  have key:=low_eq (m:=m) (n:=n) 32 (fun i hi=>by
   have:=List.all_eq_true.1 hall i (List.mem_range.2 hi)
   rw [g m i hi,g n i hi] at this
   simpa using this)
  have e:256 ^ 32=RN:=by decide
  rw [e,Nat.mod_eq_of_lt hm,Nat.mod_eq_of_lt hn] at key
  exact key
theorem zerB_eq {n:Nat} (h:n<RN):zerB n=decide (rdRt n=0):=by
 unfold zerB;rw [sxV_eq h];exact eqB_bl _ 0 (sqv_lt _) (by decide)
theorem rdP_ok (n:Nat):(rdP n).ok:=by
 unfold rdP
 split
 ·refine atN_ok ?_ (modTT_lt n)
  unfold rdX
  split
  ·exact fsbR _ _
  ·exact sqv_lt _
 ·exact ⟨by decide,by decide,by decide,by decide⟩
theorem read_any (n:Nat) (h:n<RN) (w:World) (hw:Glo M0 w):Calls Tryd.prog 35 #[bv n] w fun e w'=>e = .returned (.tuple #[pv (rdP n),.int .i64 (rdE n)])∧Below w.heap.size w w':=by
 have hl:=lowV_eq n h
 have fin : ∀ {X:Cx} (hX:X.Ok Tryd.prog) (hin:insideG M0 X.gl=true) {ps:List Prop} {v:Value} (run:sfunG Tryd.prog X M0 80 Tryd.f35 (bodyOf Tryd.f35) [bv n]=some (ps,v)) (hp : ∀ p ∈ ps,p) (hv:v = .tuple #[pv (rdP n),.int .i64 (rdE n)]),Calls Tryd.prog 35 #[bv n] w fun e w'=>e = .returned (.tuple #[pv (rdP n),.int .i64 (rdE n)])∧Below w.heap.size w w':=by
  intro X hX hin ps v run hp hv
  subst hv
  exact sfunG_calls hX mixed M0_flat hin Tryd.func35 (by kernel_rfl) run hp (by simp [flat_bv]) (.inl (flat_tupP _ _)) w hw
 have bad:rdOk n=false→(Value.tuple #[pv noP,.int .i64 2]) = .tuple #[pv (rdP n),.int .i64 (rdE n)]:=fun hk=>by
  unfold rdP rdE;rw [hk,if_neg Bool.false_ne_true,if_neg Bool.false_ne_true]
 have hrt:rdRt n<RN:=sqv_lt _
 have IL:IsB (lowV n):=by rw [hl];exact isB_bv _
 have bl':bnum (lowV n)=n % TT:=by rw [hl,bnum_bv' (modTT_lt n)]
 by_cases hc:n % TT<pp
 ·have c1:ncB n=false:=by rw [ncB_eq h];simp [hc]
  by_cases he:sqe (sxN (n % TT))=0
  ·have e1:errB n=false:=by rw [errB_eq h];simp [he]
   by_cases ho:rdOdd n=true
   ·have o1:oddB n=true:=by rw [oddB_eq h];exact ho
    by_cases hz:rdRt n=0
    ·have z1:zerB n=true:=by rw [zerB_eq h];simp [hz]
     exact fin (Cx.tell_ok F8_ok _) (by kernel_rfl) (rd_c n) (al o1 (al IL (al c1 (al IL (al (isB_bv _) (al e1 (al z1 al0))))))) (bad (by unfold rdOk;simp [ho,hz]))
    ·have z1:zerB n=false:=by rw [zerB_eq h];simp [hz]
     have hk:rdOk n=true:=by unfold rdOk;simp [hc,he,ho,hz]
     refine fin (Cx.tell_ok F8_ok _) (by kernel_rfl) (rd_d n) (al o1 (al IL (al c1 (al IL (al (isB_bv _) (al e1 (al z1 (al ib (al ⟨isB_bv _,IL⟩ al0))))))))) ?_
     ·unfold rdP rdE rdX
      rw [hk,ho,bl',rtV_eq h,bnum_SB 0 (rdRt n) (by decide) hrt,bnum_bv' (fsbR _ _),if_pos rfl,if_pos rfl,if_pos rfl]
   ·have ho:rdOdd n=false:=by simpa using ho
    have o1:oddB n=false:=by rw [oddB_eq h];exact ho
    have hk:rdOk n=true:=by unfold rdOk;simp [hc,he,ho]
    refine fin (Cx.tell_ok F8_ok _) (by kernel_rfl) (rd_e n) (al o1 (al IL (al c1 (al IL (al (isB_bv _) (al e1 (al ⟨isB_bv _,IL⟩ al0))))))) ?_
    ·unfold rdP rdE rdX
     rw [hk,ho,bl',rtV_eq h,bnum_bv' hrt,if_pos rfl,if_pos rfl,if_neg Bool.false_ne_true]
  ·have e1:errB n=true:=by rw [errB_eq h];simp [he]
   have hk:rdOk n=false:=by unfold rdOk;simp [he]
   cases ho:oddB n
   ·exact fin (Cx.tell_ok F8_ok _) (by kernel_rfl) (rd_b_false n) (al ho (al IL (al c1 (al IL (al (isB_bv _) (al e1 al0)))))) (bad hk)
   ·exact fin (Cx.tell_ok F8_ok _) (by kernel_rfl) (rd_b_true n) (al ho (al IL (al c1 (al IL (al (isB_bv _) (al e1 al0)))))) (bad hk)
 ·have c1:ncB n=true:=by rw [ncB_eq h];simp [hc]
  have hk:rdOk n=false:=by unfold rdOk;simp [hc]
  cases ho:oddB n
  ·exact fin (Cx.tell_ok F8_ok _) (by kernel_rfl) (rd_a_false n) (al ho (al IL (al c1 al0))) (bad hk)
  ·exact fin (Cx.tell_ok F8_ok _) (by kernel_rfl) (rd_a_true n) (al ho (al IL (al c1 al0))) (bad hk)
def gRdp:List Value→Option (List Prop × Value)
 | [A]=>some ([IsB A],.tuple #[pv (rdP (bnum A)),.int .i64 (rdE (bnum A))])
 | _=>none
theorem gRdp_ok {X:Cx} (hX:X.Ok Tryd.prog) (hc:coversG M0 X.gl=true):(X.var M0 35 gRdp).Ok Tryd.prog:=by
 refine gVar_ok hX M0_flat hc Tryd.func35 (by kernel_rfl) (by kernel_rfl) ?_
 intro args ps v ha hg hp
 unfold gRdp at hg
 split at hg
 ·rename_i A
  simp only [Option.some.injEq,Prod.mk.injEq] at hg
  obtain ⟨rfl,rfl⟩:=hg
  have hA:=hp _ (List.mem_singleton.2 rfl)
  refine ⟨.inl (flat_tupP _ _),fun w hw => ?_⟩
  have h:=read_any (bnum A) (bnum_lt hA) w hw
  rw [← (show A=bv (bnum A) from hA)] at h
  exact h
 ·simp at hg
def F9:Cx:=F8.var M0 35 gRdp
theorem F9_ok:F9.Ok Tryd.prog:=gRdp_ok F8_ok (by kernel_rfl)
end Go.Proofs.YtmaehekekkfpmaaDoor
/- Package point: what it exports, as contracts. -/
namespace Go.Proofs.YtmaehekekkfpmaaDoor
open Go Go.RowKit
theorem rdE_ok {n:Nat} (h:rdOk n=true):rdE n=0:=by unfold rdE;rw [h,if_pos rfl]
theorem rdE_no {n:Nat} (h:rdOk n=false):rdE n=2:=by unfold rdE;rw [h,if_neg Bool.false_ne_true]
theorem zer_run  : sfunG Tryd.prog F9 M0 80 Tryd.f24 (bodyOf Tryd.f24) []=some ([],bv 1):=by kernel_rfl
theorem Zer_any   (w:World) (hw:Glo M0 w):Calls Tryd.prog 24 #[] w fun e w'=>e = .returned (bv 1)∧Below w.heap.size w w':=by
 exact sfunG_calls F9_ok mixed M0_flat (by kernel_rfl) Tryd.func24 (by kernel_rfl) zer_run (al0) rfl (.inl (flat_bv _)) w hw
def gZer:List Value→Option (List Prop × Value)
 | []=>some ([],bv 1)
 | _=>none
def gChk:List Value→Option (List Prop × Value)
 | [A]=>some ([IsB A],.int .i64 (rdE (bnum A)))
 | _=>none
def negN (a:Nat):Nat:=if rdOk a then wrN (mirN (rdP a)) else 0
theorem pml_run1 (n:Nat) (a:Nat):sfunG Tryd.prog (F9.tell [(14,true)]) M0 80 Tryd.f25 (bodyOf Tryd.f25) [bv n,bv a]=some ([IsB (bv a),(!(rdE (bnum (bv a)) == 0))=true],.tuple #[bv 0,.int .i64 (rdE (bnum (bv a)))]):=by kernel_rfl
theorem pml_run0 (n:Nat) (a:Nat):sfunG Tryd.prog (F9.tell [(14,false)]) M0 80 Tryd.f25 (bodyOf Tryd.f25) [bv n,bv a]=some ([IsB (bv a),(!(rdE (bnum (bv a)) == 0))=false,IsB (bv n)∧IsP (pv (rdP (bnum (bv a)))),IsP (pv (timesN (bnum (bv n)) (p4 (pv (rdP (bnum (bv a)))))))],.tuple #[bv (wrN (p4 (pv (timesN (bnum (bv n)) (p4 (pv (rdP (bnum (bv a))))))))),.int .i64 0]):=by kernel_rfl
def pmlN (n:Nat) (a:Nat):Nat:=if rdOk a then wrN (timesN n (rdP a)) else 0
theorem Pml_any (n:Nat) (a:Nat) (hn:n<RN) (ha:a<RN) (w:World) (hw:Glo M0 w):Calls Tryd.prog 25 #[bv n,bv a] w fun e w'=>e = .returned (.tuple #[bv (pmlN n a),.int .i64 (rdE a)])∧Below w.heap.size w w':=by
 cases hk:rdOk a
 ·have r:=pml_run1 n a
  rw [bnum_bv' ha,rdE_no hk] at r
  rw [rdE_no hk]
  unfold pmlN
  rw [hk,if_neg Bool.false_ne_true]
  exact sfunG_calls (Cx.tell_ok F9_ok _) mixed M0_flat (by kernel_rfl) Tryd.func25 (by kernel_rfl) r (al (isB_bv _) (al rfl al0)) (by simp [flat_bv]) (.inl (flat_tup _ _)) w hw
 ·have r:=pml_run0 n a
  rw [bnum_bv' ha,bnum_bv' hn,p4_pv (rdP_ok a),p4_pv (timesN_ok n (rdP a)),rdE_ok hk] at r
  rw [rdE_ok hk]
  unfold pmlN
  rw [hk,if_pos rfl]
  exact sfunG_calls (Cx.tell_ok F9_ok _) mixed M0_flat (by kernel_rfl) Tryd.func25 (by kernel_rfl) r (al (isB_bv _) (al rfl (al ⟨isB_bv _,isP_pv (rdP_ok a)⟩ (al (isP_pv (timesN_ok _ _)) al0)))) (by simp [flat_bv]) (.inl (flat_tup _ _)) w hw
def gPml:List Value→Option (List Prop × Value)
 | [A,B]=>some ([IsB A∧IsB B],.tuple #[bv (pmlN (bnum A) (bnum B)),.int .i64 (rdE (bnum B))])
 | _=>none
theorem gPml_ok {X:Cx} (hX:X.Ok Tryd.prog) (hc:coversG M0 X.gl=true):(X.var M0 25 gPml).Ok Tryd.prog:=by
 refine gVar_ok hX M0_flat hc Tryd.func25 (by kernel_rfl) (by kernel_rfl) ?_
 intro args ps v ha hg hp
 unfold gPml at hg
 split at hg
 ·rename_i A B
  simp only [Option.some.injEq,Prod.mk.injEq] at hg
  obtain ⟨rfl,rfl⟩:=hg
  obtain ⟨hA,hB⟩:=hp _ (List.mem_singleton.2 rfl)
  refine ⟨.inl (flat_tup _ _),fun w hw => ?_⟩
  have h:=Pml_any (bnum A) (bnum B) (bnum_lt hA) (bnum_lt hB) w hw
  rw [← (show A=bv (bnum A) from hA),← (show B=bv (bnum B) from hB)] at h
  exact h
 ·simp at hg
theorem clr_run1 (a:Nat):sfunG Tryd.prog (F9.tell [(12,true)]) M0 80 Tryd.f19 (bodyOf Tryd.f19) [bv a]=some ([IsB (bv a),(!(rdE (bnum (bv a)) == 0))=true],.tuple #[bv 0,.int .i64 (rdE (bnum (bv a)))]):=by kernel_rfl
theorem clr_run0 (a:Nat):sfunG Tryd.prog (F9.tell [(12,false)]) M0 80 Tryd.f19 (bodyOf Tryd.f19) [bv a]=some ([IsB (bv a),(!(rdE (bnum (bv a)) == 0))=false,IsP (pv (rdP (bnum (bv a)))),IsP (pv (dblN (p4 (pv (rdP (bnum (bv a))))))),IsP (pv (dblN (p4 (pv (dblN (p4 (pv (rdP (bnum (bv a)))))))))),IsP (pv (dblN (p4 (pv (dblN (p4 (pv (dblN (p4 (pv (rdP (bnum (bv a)))))))))))))],.tuple #[bv (wrN (p4 (pv (dblN (p4 (pv (dblN (p4 (pv (dblN (p4 (pv (rdP (bnum (bv a))))))))))))))),.int .i64 0]):=by kernel_rfl
def clrN (a:Nat):Nat:=if rdOk a then wrN (dblN (dblN (dblN (rdP a)))) else 0
theorem Clr_any (a:Nat) (ha:a<RN) (w:World) (hw:Glo M0 w):Calls Tryd.prog 19 #[bv a] w fun e w'=>e = .returned (.tuple #[bv (clrN a),.int .i64 (rdE a)])∧Below w.heap.size w w':=by
 cases hk:rdOk a
 ·have r:=clr_run1 a
  rw [bnum_bv' ha,rdE_no hk] at r
  rw [rdE_no hk]
  unfold clrN
  rw [hk,if_neg Bool.false_ne_true]
  exact sfunG_calls (Cx.tell_ok F9_ok _) mixed M0_flat (by kernel_rfl) Tryd.func19 (by kernel_rfl) r (al (isB_bv _) (al rfl al0)) (by simp [flat_bv]) (.inl (flat_tup _ _)) w hw
 ·have r:=clr_run0 a
  rw [bnum_bv' ha,p4_pv (rdP_ok a),p4_pv (dblN_ok (rdP a)),p4_pv (dblN_ok (dblN (rdP a))),p4_pv (dblN_ok (dblN (dblN (rdP a)))),rdE_ok hk] at r
  rw [rdE_ok hk]
  unfold clrN
  rw [hk,if_pos rfl]
  exact sfunG_calls (Cx.tell_ok F9_ok _) mixed M0_flat (by kernel_rfl) Tryd.func19 (by kernel_rfl) r (al (isB_bv _) (al rfl (al (isP_pv (rdP_ok a)) (al (isP_pv (dblN_ok _)) (al (isP_pv (dblN_ok _)) (al (isP_pv (dblN_ok _)) al0)))))) (by simp [flat_bv]) (.inl (flat_tup _ _)) w hw
def addN (a b:Nat):Nat:=if rdOk a && rdOk b then wrN (sumN (rdP a) (rdP b)) else 0
def addE (a b:Nat):Int:=if rdOk a && rdOk b then 0 else 2
def F9g:Cx:=(F9.glo gl5).var M1 23 gGen
theorem F9g_ok:F9g.Ok Tryd.prog:=gGen_ok (Cx.glo_ok F9_ok fun g h=>inGl h) (by kernel_rfl)
theorem genN_ok:genN.ok:=atN_ok (by decide) (by decide)
def basN (n:Nat):Nat:=wrN (timesN n genN)
theorem bas_run (n:Nat):sfunG Tryd.prog F9g M1 80 Tryd.f9 (bodyOf Tryd.f9) [bv n]=some ([IsB (bv n)∧IsP (pv genN),IsP (pv (timesN (bnum (bv n)) (p4 (pv genN))))],bv (wrN (p4 (pv (timesN (bnum (bv n)) (p4 (pv genN))))))):=by kernel_rfl
theorem Bas_any (n:Nat) (hn:n<RN) (w:World) (hw:Glo M1 w):Calls Tryd.prog 9 #[bv n] w fun e w'=>e = .returned (bv (basN n))∧Below w.heap.size w w':=by
 have r:=bas_run n
 rw [bnum_bv' hn,p4_pv genN_ok,p4_pv (timesN_ok _ _)] at r
 exact sfunG_calls F9g_ok mixed M1_flat (by kernel_rfl) Tryd.func9 (by kernel_rfl) r (al ⟨isB_bv _,isP_pv genN_ok⟩ (al (isP_pv (timesN_ok _ _)) al0)) (by simp [flat_bv]) (.inl (flat_bv _)) w hw
def gBas:List Value→Option (List Prop × Value)
 | [A]=>some ([IsB A],bv (basN (bnum A)))
 | _=>none
theorem gBas_ok {X:Cx} (hX:X.Ok Tryd.prog) (hc:coversG M1 X.gl=true):(X.var M1 9 gBas).Ok Tryd.prog:=by
 refine gVar_ok hX M1_flat hc Tryd.func9 (by kernel_rfl) (by kernel_rfl) ?_
 intro args ps v ha hg hp
 unfold gBas at hg
 split at hg
 ·rename_i A
  simp only [Option.some.injEq,Prod.mk.injEq] at hg
  obtain ⟨rfl,rfl⟩:=hg
  have hA:=hp _ (List.mem_singleton.2 rfl)
  refine ⟨.inl (flat_bv _),fun w hw => ?_⟩
  have h:=Bas_any (bnum A) (bnum_lt hA) w hw
  rw [← (show A=bv (bnum A) from hA)] at h
  exact h
 ·simp at hg
end Go.Proofs.YtmaehekekkfpmaaDoor
