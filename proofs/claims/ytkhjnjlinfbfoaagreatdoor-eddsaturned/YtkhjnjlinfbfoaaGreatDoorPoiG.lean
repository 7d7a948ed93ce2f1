/- Package point: squareOfX, read, write as contracts. -/
import Derived.Test.YtkhjnjlinfbfoaaGreatDoorFieT
import Derived.Test.YtkhjnjlinfbfoaaGreatDoorPoiE
set_option linter.unusedSimpArgs false
set_option linter.unusedVariables false
namespace Go.Proofs.YtkhjnjlinfbfoaaGreatDoor
open Go Go.RowKit
def gSqF:List Value→Option (List Prop × Value)
 | [A]=>some ([IsB A],.tuple #[bv (sqv (bnum A)),.int .i64 (sqe (bnum A))])
 | _=>none
theorem flat_tup (n:Nat) (e:Int):flat (.tuple #[bv n,.int .i64 e])=true:=by
 show ([bv n,.int .i64 e].all flat2)=true
 have:flat2 (bv n)=true:=flat_bv n
 rw [List.all_cons,this];rfl
theorem flat_tupP (p:P4) (e:Int):flat (.tuple #[pv p,.int .i64 e])=true:=by
 show ([pv p,.int .i64 e].all flat2)=true
 have:flat2 (pv p)=true:=flat_pv p
 rw [List.all_cons,this];rfl
theorem gSqF_ok {X:Cx} (hX:X.Ok Tryz.prog):(X.pure 99 gSqF).Ok Tryz.prog:=by
 refine gBody_ok hX Tryz.func99 (by kernel_rfl) (by kernel_rfl) ?_
 intro args ps v ha hg hp
 unfold gSqF at hg
 split at hg
 ·rename_i A
  simp only [qG,qH] at hg
  obtain ⟨rfl,rfl⟩:=hg
  have hA:=hp _ (List.mem_singleton.2 rfl)
  refine ⟨.inl (flat_tup _ _),fun w => ?_⟩
  have h:=Sqrt_any (bnum A) (bnum_lt hA) w
  rw [← (show A=bv (bnum A) from hA)] at h
  exact h
 ·simp at hg
def F6:Cx:=F5.pure 99 gSqF
theorem F6_ok:F6.Ok Tryz.prog:=gSqF_ok F5_ok
def sxN (y:Nat):Nat:=fml (fsb (fml y y) 1) (fiv (fad 1 (fml DN' (fml y y))))
def sqV (y:Nat):Value:=ML (bv y) (bv y)
def dvV (y:Nat):Value:=AD (bv 1) (ML (bv DN') (sqV y))
theorem sx_run (y:Nat):sfunG Tryz.prog F6 M0 60 Tryz.f100 (bodyOf Tryz.f100) [bv y]=some ([IB (bv y) (bv y),IB (bv DN') (sqV y),IB (bv 1) (ML (bv DN') (sqV y)),IB (sqV y) (bv 1),IsB (dvV y),IB (SB (sqV y) (bv 1)) (IV (dvV y))],ML (SB (sqV y) (bv 1)) (IV (dvV y))):=by kernel_rfl
theorem sx_val {y:Nat} (h:y<RN):ML (SB (sqV y) (bv 1)) (IV (dvV y))=bv (sxN y):=by
 have h1:sqV y=bv (fml y y):=bnum_ML _ _ h h
 have h2:dvV y=bv (fad 1 (fml DN' (fml y y))):=by unfold dvV;rw [h1,bnum_ML _ _ (by decide) (fmlR _ _),bnum_AD _ _ (by decide) (fmlR _ _)]
 rw [h1,h2,bnum_SB _ _ (fmlR _ _) (by decide),bnum_IV _ (fadR _ _),bnum_ML _ _ (fsbR _ _) (fivR _)]
 rfl
def gSqx:List Value→Option (List Prop × Value)
 | [A]=>some ([IsB A],bv (sxN (bnum A)))
 | _=>none
theorem gSqx_ok {X:Cx} (hX:X.Ok Tryz.prog) (hc:coversG M0 X.gl=true):(X.var M0 100 gSqx).Ok Tryz.prog:=by
 refine gVar_ok hX M0_flat hc Tryz.func100 (by kernel_rfl) (by kernel_rfl) ?_
 intro args ps v ha hg hp
 unfold gSqx at hg
 split at hg
 ·rename_i A
  simp only [qG,qH] at hg
  obtain ⟨rfl,rfl⟩:=hg
  have hA:=hp _ (List.mem_singleton.2 rfl)
  refine ⟨.inl (flat_bv _),fun w hw => ?_⟩
  have run:=sx_run (bnum A)
  rw [sx_val (bnum_lt hA)] at run
  have h:=sfunG_calls F6_ok mixed M0_flat (by kernel_rfl) Tryz.func100 (by kernel_rfl) run (by
   intro p hp
   simp only [List.mem_cons,List.not_mem_nil,or_false] at hp
   rcases hp with rfl | rfl | rfl | rfl | rfl | rfl <;> first | exact ib | exact isB_bv _) (by simp [flat_bv]) (.inl (flat_bv _)) w hw
  rw [← (show A=bv (bnum A) from hA)] at h
  exact h
 ·simp at hg
def F7:Cx:=F6.var M0 100 gSqx
theorem F7_ok:F7.Ok Tryz.prog:=gSqx_ok F6_ok (by kernel_rfl)
def TT:Nat:=57896044618658097711785492504343953926634992332820282019728792003956564819968
theorem tt_pow:TT=256 ^ 31*128:=by decide
def lowV (n:Nat):Value := .agg ((bl n).take 31 ++ [Value.int .u8 (bits .andNot .u8 (by8 n 31) 128)]).toArray
def topV (n:Nat):Value := .agg ((bl n).take 31 ++ [Value.int .u8 (bits .or .u8 (by8 n 31) 128)]).toArray
theorem byte_ops : ∀ y:Fin 256,bits .andNot .u8 ((y.val:Nat):Int) 128=((y.val % 128:Nat):Int)∧(!(bits .and .u8 ((y.val:Nat):Int) 128 == 0))=decide (128≤y.val)∧bits .or .u8 ((y.val:Nat):Int) 128=((y.val % 128+128:Nat):Int)∧(bits .and .u8 ((y.val:Nat):Int) 1 == 1)=decide (y.val % 2=1):=by decide +kernel
theorem bl_split (n:Nat):bl n=(bl n).take 31 ++ [.int .u8 (by8 n 31)]:=by
 unfold bl
 rw [show (32:Nat)=31+1 from rfl,List.range_succ,List.map_append,List.take_left' (by simp)]
 rfl
theorem take31_congr {m n:Nat} (h:m % 256 ^ 31=n % 256 ^ 31):(bl m).take 31=(bl n).take 31:=by
 unfold bl
 rw [←List.map_take,←List.map_take,List.take_range]
 refine List.map_congr_left fun i hi => ?_
 have hi:i<31:=by simpa using hi
 rw [←by8_mod m 31 i hi,←by8_mod n 31 i hi,h]
theorem lowV_eq (n:Nat) (h:n<RN):lowV n=bv (n % TT):=by
 unfold lowV bv br
 rw [bl_split (n % TT)]
 have hb:n/256 ^ 31 % 256<256:=Nat.mod_lt _ (by decide)
 have e1:by8 n 31=((n/256 ^ 31 % 256:Nat):Int):=rfl
 have o:=(byte_ops ⟨n/256 ^ 31 % 256,hb⟩).1
 simp only at o
 have e2:by8 (n % TT) 31=((n/256 ^ 31 % 256 % 128:Nat):Int):=by
  unfold by8
  rw [tt_pow,Nat.mod_mul_right_div_self]
  congr 1
  omega
 rw [e1,o,e2,take31_congr (m:=n % TT) (n:=n) (by rw [tt_pow,Nat.mod_mul_right_mod])]
theorem topV_eq (n:Nat) (h:n<TT):topV n=bv (n+TT):=by
 unfold topV bv br
 rw [bl_split (n+TT)]
 have hb:n/256 ^ 31 % 256<256:=Nat.mod_lt _ (by decide)
 have e1:by8 n 31=((n/256 ^ 31 % 256:Nat):Int):=rfl
 have o:=(byte_ops ⟨n/256 ^ 31 % 256,hb⟩).2.2.1
 simp only at o
 have hl:n/256 ^ 31<128:=by rw [Nat.div_lt_iff_lt_mul (by decide),Nat.mul_comm,←tt_pow];exact h
 have e2:by8 (n+TT) 31=((n/256 ^ 31 % 256 % 128+128:Nat):Int):=by
  unfold by8
  rw [tt_pow,Nat.add_mul_div_left _ _ (by decide)]
  congr 1
  omega
 rw [e1,o,e2,take31_congr (m:=n+TT) (n:=n) (by rw [tt_pow,Nat.add_mul_mod_self_left])]
def ivV (p:P4):Value:=IV (bv p.z)
def wx (p:P4):Nat:=fml p.x (fiv p.z)
def wy (p:P4):Nat:=fml p.y (fiv p.z)
def wxS (p:P4):Nat:=fml (bnum (bv p.x)) (bnum (ivV p))
def wyS (p:P4):Nat:=fml (bnum (bv p.y)) (bnum (ivV p))
theorem wr_run0 (p:P4):sfunG Tryz.prog (F7.tell [(20,false)]) M0 60 Tryz.f63 (bodyOf Tryz.f63) [pv p]=some ([IsB (bv p.z),IB (bv p.x) (ivV p),IB (bv p.y) (ivV p),(bits .and .u8 (by8 (wxS p) 0) 1 == 1)=false],bv (wyS p)):=by kernel_rfl
theorem wr_run1 (p:P4):sfunG Tryz.prog (F7.tell [(20,true)]) M0 60 Tryz.f63 (bodyOf Tryz.f63) [pv p]=some ([IsB (bv p.z),IB (bv p.x) (ivV p),IB (bv p.y) (ivV p),(bits .and .u8 (by8 (wxS p) 0) 1 == 1)=true],topV (wyS p)):=by kernel_rfl
def wrN (p:P4):Nat:=wy p+wx p % 2*TT
theorem pp_lt_TT:pp<TT:=by decide
theorem wrN_lt (p:P4):wrN p<RN:=by
 have h1:wy p<TT:=Nat.lt_trans (fml_lt _ _) pp_lt_TT
 have h2:wx p % 2<2:=Nat.mod_lt _ (by decide)
 have h3:RN=TT+TT:=by decide
 unfold wrN
 rcases (by omega:wx p % 2=0∨wx p % 2=1) with h | h <;> rw [h] <;> omega
theorem write_any {p:P4} (lp:p.ok) (w:World) (hw:Glo M0 w):Calls Tryz.prog 63 #[pv p] w fun e w'=>e = .returned (bv (wrN p))∧Below w.heap.size w w':=by
 have e1:ivV p=bv (fiv p.z):=bnum_IV _ lp.z
 have e2:wxS p=wx p:=by unfold wxS wx;rw [e1,bnum_bv' lp.x,bnum_bv' (fivR _)]
 have e3:wyS p=wy p:=by unfold wyS wy;rw [e1,bnum_bv' lp.y,bnum_bv' (fivR _)]
 have hb:wx p/256 ^ 0 % 256<256:=Nat.mod_lt _ (by decide)
 have o:=(byte_ops ⟨wx p/256 ^ 0 % 256,hb⟩).2.2.2
 simp only at o
 have o:(bits .and .u8 (by8 (wx p) 0) 1 == 1)=decide (wx p % 2=1):=by
  show (bits .and .u8 ((wx p/256 ^ 0 % 256:Nat):Int) 1 == 1)=_
  rw [o,decide_eq_decide,Nat.pow_zero,Nat.div_one,Nat.mod_mod_of_dvd _ (by decide)]
 have hwy:wy p<TT:=Nat.lt_trans (fml_lt _ _) pp_lt_TT
 have r0:=wr_run0 p
 have r1:=wr_run1 p
 rw [e2,e3,e1] at r0 r1
 rw [o] at r0 r1
 by_cases h:wx p % 2=1
 ·have k:=sfunG_calls (Cx.tell_ok F7_ok _) mixed M0_flat (by kernel_rfl) Tryz.func63 (by kernel_rfl) r1 (by
   intro p hp
   simp only [List.mem_cons,List.not_mem_nil,or_false] at hp
   rcases hp with rfl | rfl | rfl | rfl
   ·exact isB_bv _
   ·exact ib
   ·exact ib
   ·exact decide_eq_true h) (by simp [flat_pv]) (.inl (by rw [topV_eq _ hwy];exact flat_bv _)) w hw
  rw [topV_eq _ hwy] at k
  unfold wrN
  rw [h,Nat.one_mul]
  exact k
 ·have k:=sfunG_calls (Cx.tell_ok F7_ok _) mixed M0_flat (by kernel_rfl) Tryz.func63 (by kernel_rfl) r0 (by
   intro p hp
   simp only [List.mem_cons,List.not_mem_nil,or_false] at hp
   rcases hp with rfl | rfl | rfl | rfl
   ·exact isB_bv _
   ·exact ib
   ·exact ib
   ·exact decide_eq_false h) (by simp [flat_pv]) (.inl (flat_bv _)) w hw
  have h0:wx p % 2=0:=by omega
  unfold wrN
  rw [h0,Nat.zero_mul,Nat.add_zero]
  exact k
def gWr:List Value→Option (List Prop × Value)
 | [A]=>some ([IsP A],bv (wrN (p4 A)))
 | _=>none
theorem gWr_ok {X:Cx} (hX:X.Ok Tryz.prog) (hc:coversG M0 X.gl=true):(X.var M0 63 gWr).Ok Tryz.prog:=by
 refine gVar_ok hX M0_flat hc Tryz.func63 (by kernel_rfl) (by kernel_rfl) ?_
 intro args ps v ha hg hp
 unfold gWr at hg
 split at hg
 ·rename_i A
  simp only [qG,qH] at hg
  obtain ⟨rfl,rfl⟩:=hg
  obtain ⟨hA,lA⟩:=hp _ (List.mem_singleton.2 rfl)
  refine ⟨.inl (flat_bv _),fun w hw => ?_⟩
  have h:=write_any lA w hw
  rw [←hA] at h
  exact h
 ·simp at hg
end Go.Proofs.YtkhjnjlinfbfoaaGreatDoor
/- Package point: read as a contract. -/
namespace Go.Proofs.YtkhjnjlinfbfoaaGreatDoor
open Go Go.RowKit
def F8:Cx:=F7.var M0 63 gWr
theorem F8_ok:F8.Ok Tryz.prog:=gWr_ok F7_ok (by kernel_rfl)
def oddB (n:Nat):Bool := !(bits .and .u8 (by8 n 31) 128 == 0)
def ncB (n:Nat):Bool := !decide (bnum (lowV n)<pp)
def sxV (n:Nat):Nat:=bnum (bv (sxN (bnum (lowV n))))
def errB (n:Nat):Bool := !(sqe (sxV n) == 0)
def rtV (n:Nat):Value:=bv (sqv (sxV n))
def zerB (n:Nat):Bool:=eqB (bl (sqv (sxV n))).toArray (bl 0).toArray 32
def noP:P4:=⟨0,0,0,0⟩
theorem al0 : ∀ p ∈ ([]:List Prop),p:=fun _ h=>(by cases h)
theorem al {q:Prop} {l:List Prop} (hq:q) (h : ∀ p ∈ l,p) : ∀ p ∈ q :: l,p:=fun p hp=>by
 rcases List.mem_cons.1 hp with rfl | hp
 ·exact hq
 ·exact h p hp
theorem rd_a_true (n:Nat):sfunG Tryz.prog (F8.tell [(11,true),(19,true)]) M0 80 Tryz.f66 (bodyOf Tryz.f66) [bv n]=some ([oddB n=true,IsB (lowV n),ncB n=true],.tuple #[pv noP,.int .i64 2]):=by kernel_rfl
theorem rd_b_true (n:Nat):sfunG Tryz.prog (F8.tell [(11,true),(19,false),(28,true)]) M0 80 Tryz.f66 (bodyOf Tryz.f66) [bv n]=some ([oddB n=true,IsB (lowV n),ncB n=false,IsB (lowV n),IsB (bv (sxN (bnum (lowV n)))),errB n=true],.tuple #[pv noP,.int .i64 2]):=by kernel_rfl
theorem rd_a_false (n:Nat):sfunG Tryz.prog (F8.tell [(11,false),(19,true)]) M0 80 Tryz.f66 (bodyOf Tryz.f66) [bv n]=some ([oddB n=false,IsB (lowV n),ncB n=true],.tuple #[pv noP,.int .i64 2]):=by kernel_rfl
theorem rd_b_false (n:Nat):sfunG Tryz.prog (F8.tell [(11,false),(19,false),(28,true)]) M0 80 Tryz.f66 (bodyOf Tryz.f66) [bv n]=some ([oddB n=false,IsB (lowV n),ncB n=false,IsB (lowV n),IsB (bv (sxN (bnum (lowV n)))),errB n=true],.tuple #[pv noP,.int .i64 2]):=by kernel_rfl
theorem rd_c (n:Nat):sfunG Tryz.prog (F8.tell [(11,true),(19,false),(28,false),(34,true)]) M0 80 Tryz.f66 (bodyOf Tryz.f66) [bv n]=some ([oddB n=true,IsB (lowV n),ncB n=false,IsB (lowV n),IsB (bv (sxN (bnum (lowV n)))),errB n=false,zerB n=true],.tuple #[pv noP,.int .i64 2]):=by kernel_rfl
theorem rd_d (n:Nat):sfunG Tryz.prog (F8.tell [(11,true),(19,false),(28,false),(34,false)]) M0 80 Tryz.f66 (bodyOf Tryz.f66) [bv n]=some ([oddB n=true,IsB (lowV n),ncB n=false,IsB (lowV n),IsB (bv (sxN (bnum (lowV n)))),errB n=false,zerB n=false,IB (bv 0) (rtV n),IB (SB (bv 0) (rtV n)) (lowV n)],.tuple #[pv (atN (bnum (SB (bv 0) (rtV n))) (bnum (lowV n))),.int .i64 0]):=by kernel_rfl
theorem rd_e (n:Nat):sfunG Tryz.prog (F8.tell [(11,false),(19,false),(28,false)]) M0 80 Tryz.f66 (bodyOf Tryz.f66) [bv n]=some ([oddB n=false,IsB (lowV n),ncB n=false,IsB (lowV n),IsB (bv (sxN (bnum (lowV n)))),errB n=false,IB (rtV n) (lowV n)],.tuple #[pv (atN (bnum (rtV n)) (bnum (lowV n))),.int .i64 0]):=by kernel_rfl
def rdOdd (n:Nat):Bool:=decide (TT≤n)
def rdRt (n:Nat):Nat:=sqv (sxN (n % TT))
def rdOk (n:Nat):Bool:=decide (n % TT<pp) && (decide (sqe (sxN (n % TT))=0) && !(rdOdd n && decide (rdRt n=0)))
def rdX (n:Nat):Nat:=if rdOdd n then fsb 0 (rdRt n) else rdRt n
def rdP (n:Nat):P4:=if rdOk n then atN (rdX n) (n % TT) else noP
def rdE (n:Nat):Int:=if rdOk n then 0 else 2
theorem sqv_lt (a:Nat):sqv a<RN:=by
 unfold sqv
 split
 ·unfold ev
  have:=rt_lt a
  have h2:pp<RN:=by decide
  split <;> omega
 ·decide
theorem modTT_lt (n:Nat):n % TT<RN:=Nat.lt_trans (Nat.mod_lt _ (by decide)) (by decide)
theorem sxN_lt (y:Nat):sxN y<RN:=fmlR _ _
theorem oddB_eq {n:Nat} (h:n<RN):oddB n=rdOdd n:=by
 unfold oddB rdOdd
 have hb:n/256 ^ 31 % 256<256:=Nat.mod_lt _ (by decide)
 have o:=(byte_ops ⟨n/256 ^ 31 % 256,hb⟩).2.1
 simp only at o
 show (!(bits .and .u8 ((n/256 ^ 31 % 256:Nat):Int) 128 == 0))=_
 rw [o,decide_eq_decide]
 have h2:n/256 ^ 31<256:=by rw [Nat.div_lt_iff_lt_mul (by decide)];exact Nat.lt_of_lt_of_le h (by decide)
 rw [Nat.mod_eq_of_lt h2,Nat.le_div_iff_mul_le (by decide),tt_pow,Nat.mul_comm]
theorem ncB_eq {n:Nat} (h:n<RN):ncB n = !decide (n % TT<pp):=by
 unfold ncB;rw [lowV_eq n h,bnum_bv' (modTT_lt n)]
theorem sxV_eq {n:Nat} (h:n<RN):sxV n=sxN (n % TT):=by
 unfold sxV;rw [lowV_eq n h,bnum_bv' (modTT_lt n),bnum_bv' (sxN_lt _)]
theorem errB_eq {n:Nat} (h:n<RN):errB n = !decide (sqe (sxN (n % TT))=0):=by
 unfold errB;rw [sxV_eq h]
 by_cases e:sqe (sxN (n % TT))=0 <;> simp [e]
theorem rtV_eq {n:Nat} (h:n<RN):rtV n=bv (rdRt n):=by unfold rtV rdRt;rw [sxV_eq h]
theorem eqB_bl (m n:Nat) (hm:m<RN) (hn:n<RN):eqB (bl m).toArray (bl n).toArray 32=decide (m=n):=by
 have g : ∀ k i,i<32→intAt (bl k).toArray i=by8 k i:=fun k i hi=>by
  unfold intAt
  have:(bl k).toArray[i]? = some (.int .u8 (by8 k i)):=by simp [bl,hi]
  rw [this]
 unfold eqB
 by_cases h:m=n
 ·subst h
  rw [decide_eq_true rfl]
  exact List.all_eq_true.2 fun i _=>by simp
 ·rw [decide_eq_false h]
  apply Bool.eq_false_iff.2
  intro hall
  apply h
  have key:=low_eq (m:=m) (n:=n) 32 (fun i hi=>by
   have:=List.all_eq_true.1 hall i (List.mem_range.2 hi)
   rw [g m i hi,g n i hi] at this
   simpa using this)
  have e:256 ^ 32=RN:=by decide
  rw [e,Nat.mod_eq_of_lt hm,Nat.mod_eq_of_lt hn] at key
  exact key
theorem zerB_eq {n:Nat} (h:n<RN):zerB n=decide (rdRt n=0):=by
 unfold zerB;rw [sxV_eq h];exact eqB_bl _ 0 (sqv_lt _) (by decide)
theorem rdP_ok (n:Nat):(rdP n).ok:=by
 unfold rdP
 split
 ·refine atN_ok ?_ (modTT_lt n)
  unfold rdX
  split
  ·exact fsbR _ _
  ·exact sqv_lt _
 ·exact ⟨by decide,by decide,by decide,by decide⟩
theorem read_any (n:Nat) (h:n<RN) (w:World) (hw:Glo M0 w):Calls Tryz.prog 66 #[bv n] w fun e w'=>e = .returned (.tuple #[pv (rdP n),.int .i64 (rdE n)])∧Below w.heap.size w w':=by
 have hl:=lowV_eq n h
 have fin : ∀ {X:Cx} (hX:X.Ok Tryz.prog) (hin:insideG M0 X.gl=true) {ps:List Prop} {v:Value} (run:sfunG Tryz.prog X M0 80 Tryz.f66 (bodyOf Tryz.f66) [bv n]=some (ps,v)) (hp : ∀ p ∈ ps,p) (hv:v = .tuple #[pv (rdP n),.int .i64 (rdE n)]),Calls Tryz.prog 66 #[bv n] w fun e w'=>e = .returned (.tuple #[pv (rdP n),.int .i64 (rdE n)])∧Below w.heap.size w w':=by
  intro X hX hin ps v run hp hv
  subst hv
  exact sfunG_calls hX mixed M0_flat hin Tryz.func66 (by kernel_rfl) run hp (by simp [flat_bv]) (.inl (flat_tupP _ _)) w hw
 have bad:rdOk n=false→(Value.tuple #[pv noP,.int .i64 2]) = .tuple #[pv (rdP n),.int .i64 (rdE n)]:=fun hk=>by
  unfold rdP rdE;rw [hk,if_neg Bool.false_ne_true,if_neg Bool.false_ne_true]
 have hrt:rdRt n<RN:=sqv_lt _
 have IL:IsB (lowV n):=by rw [hl];exact isB_bv _
 have bl':bnum (lowV n)=n % TT:=by rw [hl,bnum_bv' (modTT_lt n)]
 by_cases hc:n % TT<pp
 ·have c1:ncB n=false:=by rw [ncB_eq h];simp [hc]
  by_cases he:sqe (sxN (n % TT))=0
  ·have e1:errB n=false:=by rw [errB_eq h];simp [he]
   by_cases ho:rdOdd n=true
   ·have o1:oddB n=true:=by rw [oddB_eq h];exact ho
    by_cases hz:rdRt n=0
    ·have z1:zerB n=true:=by rw [zerB_eq h];simp [hz]
     exact fin (Cx.tell_ok F8_ok _) (by kernel_rfl) (rd_c n) (al o1 (al IL (al c1 (al IL (al (isB_bv _) (al e1 (al z1 al0))))))) (bad (by unfold rdOk;simp [ho,hz]))
    ·have z1:zerB n=false:=by rw [zerB_eq h];simp [hz]
     have hk:rdOk n=true:=by unfold rdOk;simp [hc,he,ho,hz]
     refine fin (Cx.tell_ok F8_ok _) (by kernel_rfl) (rd_d n) (al o1 (al IL (al c1 (al IL (al (isB_bv _) (al e1 (al z1 (al ib (al ⟨isB_bv _,IL⟩ al0))))))))) ?_
     ·unfold rdP rdE rdX
      rw [hk,ho,bl',rtV_eq h,bnum_SB 0 (rdRt n) (by decide) hrt,bnum_bv' (fsbR _ _),if_pos rfl,if_pos rfl,if_pos rfl]
   ·have ho:rdOdd n=false:=by simpa using ho
    have o1:oddB n=false:=by rw [oddB_eq h];exact ho
    have hk:rdOk n=true:=by unfold rdOk;simp [hc,he,ho]
    refine fin (Cx.tell_ok F8_ok _) (by kernel_rfl) (rd_e n) (al o1 (al IL (al c1 (al IL (al (isB_bv _) (al e1 (al ⟨isB_bv _,IL⟩ al0))))))) ?_
    ·unfold rdP rdE rdX
     rw [hk,ho,bl',rtV_eq h,bnum_bv' hrt,if_pos rfl,if_pos rfl,if_neg Bool.false_ne_true]
  ·have e1:errB n=true:=by rw [errB_eq h];simp [he]
   have hk:rdOk n=false:=by unfold rdOk;simp [he]
   cases ho:oddB n
   ·exact fin (Cx.tell_ok F8_ok _) (by kernel_rfl) (rd_b_false n) (al ho (al IL (al c1 (al IL (al (isB_bv _) (al e1 al0)))))) (bad hk)
   ·exact fin (Cx.tell_ok F8_ok _) (by kernel_rfl) (rd_b_true n) (al ho (al IL (al c1 (al IL (al (isB_bv _) (al e1 al0)))))) (bad hk)
 ·have c1:ncB n=true:=by rw [ncB_eq h];simp [hc]
  have hk:rdOk n=false:=by unfold rdOk;simp [hc]
  cases ho:oddB n
  ·exact fin (Cx.tell_ok F8_ok _) (by kernel_rfl) (rd_a_false n) (al ho (al IL (al c1 al0))) (bad hk)
  ·exact fin (Cx.tell_ok F8_ok _) (by kernel_rfl) (rd_a_true n) (al ho (al IL (al c1 al0))) (bad hk)
def gRdp:List Value→Option (List Prop × Value)
 | [A]=>some ([IsB A],.tuple #[pv (rdP (bnum A)),.int .i64 (rdE (bnum A))])
 | _=>none
theorem gRdp_ok {X:Cx} (hX:X.Ok Tryz.prog) (hc:coversG M0 X.gl=true):(X.var M0 66 gRdp).Ok Tryz.prog:=by
 refine gVar_ok hX M0_flat hc Tryz.func66 (by kernel_rfl) (by kernel_rfl) ?_
 intro args ps v ha hg hp
 unfold gRdp at hg
 split at hg
 ·rename_i A
  simp only [qG,qH] at hg
  obtain ⟨rfl,rfl⟩:=hg
  have hA:=hp _ (List.mem_singleton.2 rfl)
  refine ⟨.inl (flat_tupP _ _),fun w hw => ?_⟩
  have h:=read_any (bnum A) (bnum_lt hA) w hw
  rw [← (show A=bv (bnum A) from hA)] at h
  exact h
 ·simp at hg
def F9:Cx:=F8.var M0 66 gRdp
theorem F9_ok:F9.Ok Tryz.prog:=gRdp_ok F8_ok (by kernel_rfl)
end Go.Proofs.YtkhjnjlinfbfoaaGreatDoor
/- Package point: what it exports, as contracts. -/
namespace Go.Proofs.YtkhjnjlinfbfoaaGreatDoor
open Go Go.RowKit
theorem rdE_ok {n:Nat} (h:rdOk n=true):rdE n=0:=by unfold rdE;rw [h,if_pos rfl]
theorem rdE_no {n:Nat} (h:rdOk n=false):rdE n=2:=by unfold rdE;rw [h,if_neg Bool.false_ne_true]
theorem zer_run  : sfunG Tryz.prog F9 M0 80 Tryz.f30 (bodyOf Tryz.f30) []=some ([],bv 1):=by kernel_rfl
theorem Zer_any   (w:World) (hw:Glo M0 w):Calls Tryz.prog 30 #[] w fun e w'=>e = .returned (bv 1)∧Below w.heap.size w w':=by
 exact sfunG_calls F9_ok mixed M0_flat (by kernel_rfl) Tryz.func30 (by kernel_rfl) zer_run (al0) rfl (.inl (flat_bv _)) w hw
def gZer:List Value→Option (List Prop × Value)
 | []=>some ([],bv 1)
 | _=>none
theorem gZer_ok {X:Cx} (hX:X.Ok Tryz.prog) (hc:coversG M0 X.gl=true):(X.var M0 30 gZer).Ok Tryz.prog:=by
 refine gVar_ok hX M0_flat hc Tryz.func30 (by kernel_rfl) (by kernel_rfl) ?_
 intro args ps v ha hg hp
 unfold gZer at hg
 split at hg
 ·simp only [qG,qH] at hg
  obtain ⟨rfl,rfl⟩:=hg
  exact ⟨.inl (flat_bv _),fun w hw=>Zer_any w hw⟩
 ·simp at hg
def gGnr:List Value→Option (List Prop × Value)
 | []=>some ([],bv GY)
 | _=>none
def gChk:List Value→Option (List Prop × Value)
 | [A]=>some ([IsB A],.int .i64 (rdE (bnum A)))
 | _=>none
theorem neg_run1 (a:Nat):sfunG Tryz.prog (F9.tell [(12,true)]) M0 80 Tryz.f38 (bodyOf Tryz.f38) [bv a]=some ([IsB (bv a),(!(rdE (bnum (bv a)) == 0))=true],.tuple #[bv 0,.int .i64 (rdE (bnum (bv a)))]):=by kernel_rfl
theorem neg_run0 (a:Nat):sfunG Tryz.prog (F9.tell [(12,false)]) M0 80 Tryz.f38 (bodyOf Tryz.f38) [bv a]=some ([IsB (bv a),(!(rdE (bnum (bv a)) == 0))=false,IsP (pv (rdP (bnum (bv a)))),IsP (pv (mirN (p4 (pv (rdP (bnum (bv a)))))))],.tuple #[bv (wrN (p4 (pv (mirN (p4 (pv (rdP (bnum (bv a))))))))),.int .i64 0]):=by kernel_rfl
def negN (a:Nat):Nat:=if rdOk a then wrN (mirN (rdP a)) else 0
theorem Neg_any (a:Nat) (ha:a<RN) (w:World) (hw:Glo M0 w):Calls Tryz.prog 38 #[bv a] w fun e w'=>e = .returned (.tuple #[bv (negN a),.int .i64 (rdE a)])∧Below w.heap.size w w':=by
 cases hk:rdOk a
 ·have r:=neg_run1 a
  rw [bnum_bv' ha,rdE_no hk] at r
  rw [rdE_no hk]
  unfold negN
  rw [hk,if_neg Bool.false_ne_true]
  exact sfunG_calls (Cx.tell_ok F9_ok _) mixed M0_flat (by kernel_rfl) Tryz.func38 (by kernel_rfl) r (al (isB_bv _) (al rfl al0)) (by simp [flat_bv]) (.inl (flat_tup _ _)) w hw
 ·have r:=neg_run0 a
  rw [bnum_bv' ha,p4_pv (rdP_ok a),p4_pv (mirN_ok (rdP_ok a)),rdE_ok hk] at r
  rw [rdE_ok hk]
  unfold negN
  rw [hk,if_pos rfl]
  exact sfunG_calls (Cx.tell_ok F9_ok _) mixed M0_flat (by kernel_rfl) Tryz.func38 (by kernel_rfl) r (al (isB_bv _) (al rfl (al (isP_pv (rdP_ok a)) (al (isP_pv (mirN_ok (rdP_ok a))) al0)))) (by simp [flat_bv]) (.inl (flat_tup _ _)) w hw
def gNeg:List Value→Option (List Prop × Value)
 | [A]=>some ([IsB A],.tuple #[bv (negN (bnum A)),.int .i64 (rdE (bnum A))])
 | _=>none
theorem gNeg_ok {X:Cx} (hX:X.Ok Tryz.prog) (hc:coversG M0 X.gl=true):(X.var M0 38 gNeg).Ok Tryz.prog:=by
 refine gVar_ok hX M0_flat hc Tryz.func38 (by kernel_rfl) (by kernel_rfl) ?_
 intro args ps v ha hg hp
 unfold gNeg at hg
 split at hg
 ·rename_i A
  simp only [qG,qH] at hg
  obtain ⟨rfl,rfl⟩:=hg
  have hA:=hp _ (List.mem_singleton.2 rfl)
  refine ⟨.inl (flat_tup _ _),fun w hw => ?_⟩
  have h:=Neg_any (bnum A) (bnum_lt hA) w hw
  rw [← (show A=bv (bnum A) from hA)] at h
  exact h
 ·simp at hg
theorem pml_run1 (n:Nat) (a:Nat):sfunG Tryz.prog (F9.tell [(14,true)]) M0 80 Tryz.f37 (bodyOf Tryz.f37) [bv n,bv a]=some ([IsB (bv a),(!(rdE (bnum (bv a)) == 0))=true],.tuple #[bv 0,.int .i64 (rdE (bnum (bv a)))]):=by kernel_rfl
theorem pml_run0 (n:Nat) (a:Nat):sfunG Tryz.prog (F9.tell [(14,false)]) M0 80 Tryz.f37 (bodyOf Tryz.f37) [bv n,bv a]=some ([IsB (bv a),(!(rdE (bnum (bv a)) == 0))=false,IsB (bv n)∧IsP (pv (rdP (bnum (bv a)))),IsP (pv (timesN (bnum (bv n)) (p4 (pv (rdP (bnum (bv a)))))))],.tuple #[bv (wrN (p4 (pv (timesN (bnum (bv n)) (p4 (pv (rdP (bnum (bv a))))))))),.int .i64 0]):=by kernel_rfl
def pmlN (n:Nat) (a:Nat):Nat:=if rdOk a then wrN (timesN n (rdP a)) else 0
theorem Pml_any (n:Nat) (a:Nat) (hn:n<RN) (ha:a<RN) (w:World) (hw:Glo M0 w):Calls Tryz.prog 37 #[bv n,bv a] w fun e w'=>e = .returned (.tuple #[bv (pmlN n a),.int .i64 (rdE a)])∧Below w.heap.size w w':=by
 cases hk:rdOk a
 ·have r:=pml_run1 n a
  rw [bnum_bv' ha,rdE_no hk] at r
  rw [rdE_no hk]
  unfold pmlN
  rw [hk,if_neg Bool.false_ne_true]
  exact sfunG_calls (Cx.tell_ok F9_ok _) mixed M0_flat (by kernel_rfl) Tryz.func37 (by kernel_rfl) r (al (isB_bv _) (al rfl al0)) (by simp [flat_bv]) (.inl (flat_tup _ _)) w hw
 ·have r:=pml_run0 n a
  rw [bnum_bv' ha,bnum_bv' hn,p4_pv (rdP_ok a),p4_pv (timesN_ok n (rdP a)),rdE_ok hk] at r
  rw [rdE_ok hk]
  unfold pmlN
  rw [hk,if_pos rfl]
  exact sfunG_calls (Cx.tell_ok F9_ok _) mixed M0_flat (by kernel_rfl) Tryz.func37 (by kernel_rfl) r (al (isB_bv _) (al rfl (al ⟨isB_bv _,isP_pv (rdP_ok a)⟩ (al (isP_pv (timesN_ok _ _)) al0)))) (by simp [flat_bv]) (.inl (flat_tup _ _)) w hw
def gPml:List Value→Option (List Prop × Value)
 | [A,B]=>some ([IsB A∧IsB B],.tuple #[bv (pmlN (bnum A) (bnum B)),.int .i64 (rdE (bnum B))])
 | _=>none
theorem gPml_ok {X:Cx} (hX:X.Ok Tryz.prog) (hc:coversG M0 X.gl=true):(X.var M0 37 gPml).Ok Tryz.prog:=by
 refine gVar_ok hX M0_flat hc Tryz.func37 (by kernel_rfl) (by kernel_rfl) ?_
 intro args ps v ha hg hp
 unfold gPml at hg
 split at hg
 ·rename_i A B
  simp only [qG,qH] at hg
  obtain ⟨rfl,rfl⟩:=hg
  obtain ⟨hA,hB⟩:=hp _ (List.mem_singleton.2 rfl)
  refine ⟨.inl (flat_tup _ _),fun w hw => ?_⟩
  have h:=Pml_any (bnum A) (bnum B) (bnum_lt hA) (bnum_lt hB) w hw
  rw [← (show A=bv (bnum A) from hA),← (show B=bv (bnum B) from hB)] at h
  exact h
 ·simp at hg
theorem clr_run1 (a:Nat):sfunG Tryz.prog (F9.tell [(12,true)]) M0 80 Tryz.f29 (bodyOf Tryz.f29) [bv a]=some ([IsB (bv a),(!(rdE (bnum (bv a)) == 0))=true],.tuple #[bv 0,.int .i64 (rdE (bnum (bv a)))]):=by kernel_rfl
theorem clr_run0 (a:Nat):sfunG Tryz.prog (F9.tell [(12,false)]) M0 80 Tryz.f29 (bodyOf Tryz.f29) [bv a]=some ([IsB (bv a),(!(rdE (bnum (bv a)) == 0))=false,IsP (pv (rdP (bnum (bv a)))),IsP (pv (dblN (p4 (pv (rdP (bnum (bv a))))))),IsP (pv (dblN (p4 (pv (dblN (p4 (pv (rdP (bnum (bv a)))))))))),IsP (pv (dblN (p4 (pv (dblN (p4 (pv (dblN (p4 (pv (rdP (bnum (bv a)))))))))))))],.tuple #[bv (wrN (p4 (pv (dblN (p4 (pv (dblN (p4 (pv (dblN (p4 (pv (rdP (bnum (bv a))))))))))))))),.int .i64 0]):=by kernel_rfl
def clrN (a:Nat):Nat:=if rdOk a then wrN (dblN (dblN (dblN (rdP a)))) else 0
theorem Clr_any (a:Nat) (ha:a<RN) (w:World) (hw:Glo M0 w):Calls Tryz.prog 29 #[bv a] w fun e w'=>e = .returned (.tuple #[bv (clrN a),.int .i64 (rdE a)])∧Below w.heap.size w w':=by
 cases hk:rdOk a
 ·have r:=clr_run1 a
  rw [bnum_bv' ha,rdE_no hk] at r
  rw [rdE_no hk]
  unfold clrN
  rw [hk,if_neg Bool.false_ne_true]
  exact sfunG_calls (Cx.tell_ok F9_ok _) mixed M0_flat (by kernel_rfl) Tryz.func29 (by kernel_rfl) r (al (isB_bv _) (al rfl al0)) (by simp [flat_bv]) (.inl (flat_tup _ _)) w hw
 ·have r:=clr_run0 a
  rw [bnum_bv' ha,p4_pv (rdP_ok a),p4_pv (dblN_ok (rdP a)),p4_pv (dblN_ok (dblN (rdP a))),p4_pv (dblN_ok (dblN (dblN (rdP a)))),rdE_ok hk] at r
  rw [rdE_ok hk]
  unfold clrN
  rw [hk,if_pos rfl]
  exact sfunG_calls (Cx.tell_ok F9_ok _) mixed M0_flat (by kernel_rfl) Tryz.func29 (by kernel_rfl) r (al (isB_bv _) (al rfl (al (isP_pv (rdP_ok a)) (al (isP_pv (dblN_ok _)) (al (isP_pv (dblN_ok _)) (al (isP_pv (dblN_ok _)) al0)))))) (by simp [flat_bv]) (.inl (flat_tup _ _)) w hw
def gClr:List Value→Option (List Prop × Value)
 | [A]=>some ([IsB A],.tuple #[bv (clrN (bnum A)),.int .i64 (rdE (bnum A))])
 | _=>none
theorem gClr_ok {X:Cx} (hX:X.Ok Tryz.prog) (hc:coversG M0 X.gl=true):(X.var M0 29 gClr).Ok Tryz.prog:=by
 refine gVar_ok hX M0_flat hc Tryz.func29 (by kernel_rfl) (by kernel_rfl) ?_
 intro args ps v ha hg hp
 unfold gClr at hg
 split at hg
 ·rename_i A
  simp only [qG,qH] at hg
  obtain ⟨rfl,rfl⟩:=hg
  have hA:=hp _ (List.mem_singleton.2 rfl)
  refine ⟨.inl (flat_tup _ _),fun w hw => ?_⟩
  have h:=Clr_any (bnum A) (bnum_lt hA) w hw
  rw [← (show A=bv (bnum A) from hA)] at h
  exact h
 ·simp at hg
theorem add_run1 (a:Nat) (b:Nat):sfunG Tryz.prog (F9.tell [(15,true)]) M0 80 Tryz.f39 (bodyOf Tryz.f39) [bv a,bv b]=some ([IsB (bv a),(!(rdE (bnum (bv a)) == 0))=true],.tuple #[bv 0,.int .i64 (rdE (bnum (bv a)))]):=by kernel_rfl
theorem add_run2 (a:Nat) (b:Nat):sfunG Tryz.prog (F9.tell [(15,false),(24,true)]) M0 80 Tryz.f39 (bodyOf Tryz.f39) [bv a,bv b]=some ([IsB (bv a),(!(rdE (bnum (bv a)) == 0))=false,IsB (bv b),(!(rdE (bnum (bv b)) == 0))=true],.tuple #[bv 0,.int .i64 (rdE (bnum (bv b)))]):=by kernel_rfl
theorem add_run0 (a:Nat) (b:Nat):sfunG Tryz.prog (F9.tell [(15,false),(24,false)]) M0 80 Tryz.f39 (bodyOf Tryz.f39) [bv a,bv b]=some ([IsB (bv a),(!(rdE (bnum (bv a)) == 0))=false,IsB (bv b),(!(rdE (bnum (bv b)) == 0))=false,IsP (pv (rdP (bnum (bv a))))∧IsP (pv (rdP (bnum (bv b)))),IsP (pv (sumN (p4 (pv (rdP (bnum (bv a))))) (p4 (pv (rdP (bnum (bv b)))))))],.tuple #[bv (wrN (p4 (pv (sumN (p4 (pv (rdP (bnum (bv a))))) (p4 (pv (rdP (bnum (bv b))))))))),.int .i64 0]):=by kernel_rfl
def addN (a b:Nat):Nat:=if rdOk a && rdOk b then wrN (sumN (rdP a) (rdP b)) else 0
def addE (a b:Nat):Int:=if rdOk a && rdOk b then 0 else 2
theorem Adp_any (a:Nat) (b:Nat) (ha:a<RN) (hb:b<RN) (w:World) (hw:Glo M0 w):Calls Tryz.prog 39 #[bv a,bv b] w fun e w'=>e = .returned (.tuple #[bv (addN a b),.int .i64 (addE a b)])∧Below w.heap.size w w':=by
 cases hka:rdOk a
 ·have r:=add_run1 a b
  rw [bnum_bv' ha,rdE_no hka] at r
  unfold addN addE
  rw [hka,Bool.false_and,if_neg Bool.false_ne_true,if_neg Bool.false_ne_true]
  exact sfunG_calls (Cx.tell_ok F9_ok _) mixed M0_flat (by kernel_rfl) Tryz.func39 (by kernel_rfl) r (al (isB_bv _) (al rfl al0)) (by simp [flat_bv]) (.inl (flat_tup _ _)) w hw
 ·cases hkb:rdOk b
  ·have r:=add_run2 a b
   rw [bnum_bv' ha,bnum_bv' hb,rdE_ok hka,rdE_no hkb] at r
   unfold addN addE
   rw [hka,hkb,Bool.true_and,if_neg Bool.false_ne_true,if_neg Bool.false_ne_true]
   exact sfunG_calls (Cx.tell_ok F9_ok _) mixed M0_flat (by kernel_rfl) Tryz.func39 (by kernel_rfl) r (al (isB_bv _) (al rfl (al (isB_bv _) (al rfl al0)))) (by simp [flat_bv]) (.inl (flat_tup _ _)) w hw
  ·have r:=add_run0 a b
   rw [bnum_bv' ha,bnum_bv' hb,rdE_ok hka,rdE_ok hkb,p4_pv (rdP_ok a),p4_pv (rdP_ok b),p4_pv (sumN_ok (rdP a) (rdP b))] at r
   unfold addN addE
   rw [hka,hkb,Bool.true_and,if_pos rfl,if_pos rfl]
   exact sfunG_calls (Cx.tell_ok F9_ok _) mixed M0_flat (by kernel_rfl) Tryz.func39 (by kernel_rfl) r (al (isB_bv _) (al rfl (al (isB_bv _) (al rfl (al ⟨isP_pv (rdP_ok a),isP_pv (rdP_ok b)⟩ (al (isP_pv (sumN_ok _ _)) al0)))))) (by simp [flat_bv]) (.inl (flat_tup _ _)) w hw
def gAdp:List Value→Option (List Prop × Value)
 | [A,B]=>some ([IsB A∧IsB B],.tuple #[bv (addN (bnum A) (bnum B)),.int .i64 (addE (bnum A) (bnum B))])
 | _=>none
theorem gAdp_ok {X:Cx} (hX:X.Ok Tryz.prog) (hc:coversG M0 X.gl=true):(X.var M0 39 gAdp).Ok Tryz.prog:=by
 refine gVar_ok hX M0_flat hc Tryz.func39 (by kernel_rfl) (by kernel_rfl) ?_
 intro args ps v ha hg hp
 unfold gAdp at hg
 split at hg
 ·rename_i A B
  simp only [qG,qH] at hg
  obtain ⟨rfl,rfl⟩:=hg
  obtain ⟨hA,hB⟩:=hp _ (List.mem_singleton.2 rfl)
  refine ⟨.inl (flat_tup _ _),fun w hw => ?_⟩
  have h:=Adp_any (bnum A) (bnum B) (bnum_lt hA) (bnum_lt hB) w hw
  rw [← (show A=bv (bnum A) from hA),← (show B=bv (bnum B) from hB)] at h
  exact h
 ·simp at hg
def FA:Cx:=(F9.var M0 30 gZer).var M0 29 gClr
theorem FA_ok:FA.Ok Tryz.prog:=gClr_ok (gZer_ok F9_ok (by kernel_rfl)) (by kernel_rfl)
theorem sml_run1 (a:Nat):sfunG Tryz.prog (FA.tell [(12,false)]) M0 80 Tryz.f11 (bodyOf Tryz.f11) [bv a]=some ([IsB (bv a),(rdE (bnum (bv a)) == 0)=false],.tuple #[.bool false,.int .i64 (rdE (bnum (bv a)))]):=by kernel_rfl
theorem sml_run0 (a:Nat):sfunG Tryz.prog (FA.tell [(12,true)]) M0 80 Tryz.f11 (bodyOf Tryz.f11) [bv a]=some ([IsB (bv a),(rdE (bnum (bv a)) == 0)=true],.tuple #[.bool (eqB (bl (clrN (bnum (bv a)))).toArray (bl 1).toArray 32),.int .i64 (rdE (bnum (bv a)))]):=by kernel_rfl
def smlB (a:Nat):Bool:=rdOk a && decide (clrN a=1)
theorem clrN_lt (a:Nat):clrN a<RN:=by
 unfold clrN
 split
 ·exact wrN_lt _
 ·decide
theorem negN_lt (a:Nat):negN a<RN:=by
 unfold negN
 split
 ·exact wrN_lt _
 ·decide
theorem pmlN_lt (n a:Nat):pmlN n a<RN:=by
 unfold pmlN
 split
 ·exact wrN_lt _
 ·decide
theorem flat_tupB (b:Bool) (e:Int):flat (.tuple #[.bool b,.int .i64 e])=true:=rfl
theorem Sml_any (a:Nat) (ha:a<RN) (w:World) (hw:Glo M0 w):Calls Tryz.prog 11 #[bv a] w fun e w'=>e = .returned (.tuple #[.bool (smlB a),.int .i64 (rdE a)])∧Below w.heap.size w w':=by
 cases hk:rdOk a
 ·have r:=sml_run1 a
  rw [bnum_bv' ha,rdE_no hk] at r
  rw [rdE_no hk]
  unfold smlB
  rw [hk,Bool.false_and]
  exact sfunG_calls (Cx.tell_ok FA_ok _) mixed M0_flat (by kernel_rfl) Tryz.func11 (by kernel_rfl) r (al (isB_bv _) (al rfl al0)) (by simp [flat_bv]) (.inl (flat_tupB _ _)) w hw
 ·have r:=sml_run0 a
  rw [bnum_bv' ha,rdE_ok hk,eqB_bl _ 1 (clrN_lt a) (by decide)] at r
  rw [rdE_ok hk]
  unfold smlB
  rw [hk,Bool.true_and]
  exact sfunG_calls (Cx.tell_ok FA_ok _) mixed M0_flat (by kernel_rfl) Tryz.func11 (by kernel_rfl) r (al (isB_bv _) (al rfl al0)) (by simp [flat_bv]) (.inl (flat_tupB _ _)) w hw
def F9g:Cx:=(F9.glo gl5).var M1 65 gGen
theorem F9g_ok:F9g.Ok Tryz.prog:=gGen_ok (Cx.glo_ok F9_ok fun g h=>inGl h) (by kernel_rfl)
theorem genN_ok:genN.ok:=atN_ok (by decide) (by decide)
def basN (n:Nat):Nat:=wrN (timesN n genN)
theorem bas_run (n:Nat):sfunG Tryz.prog F9g M1 80 Tryz.f28 (bodyOf Tryz.f28) [bv n]=some ([IsB (bv n)∧IsP (pv genN),IsP (pv (timesN (bnum (bv n)) (p4 (pv genN))))],bv (wrN (p4 (pv (timesN (bnum (bv n)) (p4 (pv genN))))))):=by kernel_rfl
theorem Bas_any (n:Nat) (hn:n<RN) (w:World) (hw:Glo M1 w):Calls Tryz.prog 28 #[bv n] w fun e w'=>e = .returned (bv (basN n))∧Below w.heap.size w w':=by
 have r:=bas_run n
 rw [bnum_bv' hn,p4_pv genN_ok,p4_pv (timesN_ok _ _)] at r
 exact sfunG_calls F9g_ok mixed M1_flat (by kernel_rfl) Tryz.func28 (by kernel_rfl) r (al ⟨isB_bv _,isP_pv genN_ok⟩ (al (isP_pv (timesN_ok _ _)) al0)) (by simp [flat_bv]) (.inl (flat_bv _)) w hw
def gBas:List Value→Option (List Prop × Value)
 | [A]=>some ([IsB A],bv (basN (bnum A)))
 | _=>none
theorem gBas_ok {X:Cx} (hX:X.Ok Tryz.prog) (hc:coversG M1 X.gl=true):(X.var M1 28 gBas).Ok Tryz.prog:=by
 refine gVar_ok hX M1_flat hc Tryz.func28 (by kernel_rfl) (by kernel_rfl) ?_
 intro args ps v ha hg hp
 unfold gBas at hg
 split at hg
 ·rename_i A
  simp only [qG,qH] at hg
  obtain ⟨rfl,rfl⟩:=hg
  have hA:=hp _ (List.mem_singleton.2 rfl)
  refine ⟨.inl (flat_bv _),fun w hw => ?_⟩
  have h:=Bas_any (bnum A) (bnum_lt hA) w hw
  rw [← (show A=bv (bnum A) from hA)] at h
  exact h
 ·simp at hg
theorem basN_lt (n:Nat):basN n<RN:=wrN_lt _
end Go.Proofs.YtkhjnjlinfbfoaaGreatDoor
