import Derived.Test.YtajehiidpecknaaGreatDoorFieS
import Derived.Test.YtajehiidpecknaaGreatDoorPoiE
set_option linter.all false
namespace Go.Proofs.YtajehiidpecknaaGreatDoor
open Go Go.RowKit
def gSqF:List Value→Option (List Prop × Value)
 | [A]=>some ([IsB A],.tuple #[bv (sqv (ai A)),.int .i64 (sqe (ai A))])
 | _=>none
theorem bz (n:Nat) (e:Int):flat (.tuple #[bv n,.int .i64 e])=true:=by
 show ([bv n,.int .i64 e].all flat2)=true
 have:flat2 (bv n)=true:=aB n
 rw [List.all_cons,this];rfl
theorem p7 (p:P4) (e:Int):flat (.tuple #[pv p,.int .i64 e])=true:=by
 show ([pv p,.int .i64 e].all flat2)=true
 have:flat2 (pv p)=true:=bf p
 rw [List.all_cons,this];rfl
theorem Gr {X:Cx} (hX:X.Ok Tryz.prog):(X.pure 111 gSqF).Ok Tryz.prog:=by
 refine aA hX Tryz.func111 (by kernel_rfl) (by kernel_rfl) ?_
 intro args ps v ha hg hp
 unfold gSqF at hg
 split at hg
 ·rename_i A
  simp only [qG,qH] at hg
  obtain ⟨rfl,rfl⟩:=hg
  have hA:=hp _ (YJ.2 rfl)
  refine ⟨.inl (bz _ _),fun w => ?_⟩
  have h:=DT (ai A) (aT hA) w
  rw [← (show A=bv (ai A) from hA)] at h
  exact h
 ·simp at hg
def F6:Cx:=F5.pure 111 gSqF
theorem js:F6.Ok Tryz.prog:=Gr nM
def sxN (y:Nat):Nat:=fml (fsb (fml y y) 1) (fiv (fad 1 (fml DN' (fml y y))))
def sqV (y:Nat):Value:=ML (bv y) (bv y)
def dvV (y:Nat):Value:=AD (bv 1) (ML (bv DN') (sqV y))
theorem J6 (y:Nat):sfunG Tryz.prog F6 M0 60 Tryz.f112 (ag Tryz.f112) [bv y]=some ([IB (bv y) (bv y),IB (bv DN') (sqV y),IB (bv 1) (ML (bv DN') (sqV y)),IB (sqV y) (bv 1),IsB (dvV y),IB (SB (sqV y) (bv 1)) (IV (dvV y))],ML (SB (sqV y) (bv 1)) (IV (dvV y))):=by kernel_rfl
theorem KO {y:Nat} (h:y<RN):ML (SB (sqV y) (bv 1)) (IV (dvV y))=bv (sxN y):=by
 have h1:sqV y=bv (fml y y):=dp _ _ h h
 have h2:dvV y=bv (fad 1 (fml DN' (fml y y))):=by unfold dvV;rw [h1,dp _ _ (by decide) (fR _ _),dY _ _ (by decide) (fR _ _)]
 rw [h1,h2,fH _ _ (fR _ _) (by decide),zl _ (mz _ _),dp _ _ (nu _ _) (KY _)]
 rfl
def Li:List Value→Option (List Prop × Value)
 | [A]=>some ([IsB A],bv (sxN (ai A)))
 | _=>none
theorem GM {X:Cx} (hX:X.Ok Tryz.prog) (hc:bk M0 X.gl=true):(X.var M0 112 Li).Ok Tryz.prog:=by
 refine bO hX aP hc Tryz.func112 (by kernel_rfl) (by kernel_rfl) ?_
 intro args ps v ha hg hp
 unfold Li at hg
 split at hg
 ·rename_i A
  simp only [qG,qH] at hg
  obtain ⟨rfl,rfl⟩:=hg
  have hA:=hp _ (YJ.2 rfl)
  refine ⟨.inl (aB _),fun w hw => ?_⟩
  have run:=J6 (ai A)
  rw [KO (aT hA)] at run
  have h:=aH js mixed aP (by kernel_rfl) Tryz.func112 (by kernel_rfl) run (by
   intro p hp
   simp only [List.mem_cons,List.not_mem_nil,or_false] at hp
   rcases hp with rfl | rfl | rfl | rfl | rfl | rfl <;> first | exact ib | exact aJ _) (by simp [aB]) (.inl (aB _)) w hw
  rw [← (show A=bv (ai A) from hA)] at h
  exact h
 ·simp at hg
def F7:Cx:=F6.var M0 112 Li
theorem vw:F7.Ok Tryz.prog:=GM js (by kernel_rfl)
def TT:Nat:=57896044618658097711785492504343953926634992332820282019728792003956564819968
theorem jQ:TT=256 ^ 31*128:=by decide
def dK (n:Nat):Value := .agg ((bl n).take 31 ++ [Value.int .u8 (bits .andNot .u8 (by8 n 31) 128)]).toArray
def JI (n:Nat):Value := .agg ((bl n).take 31 ++ [Value.int .u8 (bits .or .u8 (by8 n 31) 128)]).toArray
theorem iE : ∀ y:Fin 256,bits .andNot .u8 ((y.val:Nat):Int) 128=((y.val % 128:Nat):Int)∧(!(bits .and .u8 ((y.val:Nat):Int) 128 == 0))=decide (128≤y.val)∧bits .or .u8 ((y.val:Nat):Int) 128=((y.val % 128+128:Nat):Int)∧(bits .and .u8 ((y.val:Nat):Int) 1 == 1)=decide (y.val % 2=1):=by decide +kernel
theorem nD (n:Nat):bl n=(bl n).take 31 ++ [.int .u8 (by8 n 31)]:=by
 unfold bl
 rw [show (32:Nat)=31+1 from rfl,List.range_succ,List.map_append,List.take_left' (by simp)]
 rfl
theorem kA {m n:Nat} (h:m % 256 ^ 31=n % 256 ^ 31):(bl m).take 31=(bl n).take 31:=by
 unfold bl
 rw [←List.map_take,←List.map_take,List.take_range]
 refine List.map_congr_left fun i hi => ?_
 have hi:i<31:=by simpa using hi
 rw [←kv m 31 i hi,←kv n 31 i hi,h]
theorem mP (n:Nat) (h:n<RN):dK n=bv (n % TT):=by
 unfold dK bv br
 rw [nD (n % TT)]
 have hb:n/256 ^ 31 % 256<256:=Nat.mod_lt _ (by decide)
 have e1:by8 n 31=((n/256 ^ 31 % 256:Nat):Int):=rfl
 have o:=(iE ⟨n/256 ^ 31 % 256,hb⟩).1
 simp only at o
 have e2:by8 (n % TT) 31=((n/256 ^ 31 % 256 % 128:Nat):Int):=by
  unfold by8
  rw [jQ,Nat.mod_mul_right_div_self]
  congr 1
  omega
 rw [e1,o,e2,kA (m:=n % TT) (n:=n) (by rw [jQ,Nat.mod_mul_right_mod])]
theorem tE (n:Nat) (h:n<TT):JI n=bv (n+TT):=by
 unfold JI bv br
 rw [nD (n+TT)]
 have hb:n/256 ^ 31 % 256<256:=Nat.mod_lt _ (by decide)
 have e1:by8 n 31=((n/256 ^ 31 % 256:Nat):Int):=rfl
 have o:=(iE ⟨n/256 ^ 31 % 256,hb⟩).2.2.1
 simp only at o
 have hl:n/256 ^ 31<128:=by rw [Nat.div_lt_iff_lt_mul (by decide),Nat.mul_comm,←jQ];exact h
 have e2:by8 (n+TT) 31=((n/256 ^ 31 % 256 % 128+128:Nat):Int):=by
  unfold by8
  rw [jQ,Nat.add_mul_div_left _ _ (by decide)]
  congr 1
  omega
 rw [e1,o,e2,kA (m:=n+TT) (n:=n) (by rw [jQ,Nat.add_mul_mod_self_left])]
def ivV (p:P4):Value:=IV (bv p.z)
def wx (p:P4):Nat:=fml p.x (fiv p.z)
def wy (p:P4):Nat:=fml p.y (fiv p.z)
def wxS (p:P4):Nat:=fml (ai (bv p.x)) (ai (ivV p))
def wyS (p:P4):Nat:=fml (ai (bv p.y)) (ai (ivV p))
theorem GV (p:P4):sfunG Tryz.prog (F7.tell [(20,false)]) M0 60 Tryz.f51 (ag Tryz.f51) [pv p]=some ([IsB (bv p.z),IB (bv p.x) (ivV p),IB (bv p.y) (ivV p),(bits .and .u8 (by8 (wxS p) 0) 1 == 1)=false],bv (wyS p)):=by kernel_rfl
theorem Hv (p:P4):sfunG Tryz.prog (F7.tell [(20,true)]) M0 60 Tryz.f51 (ag Tryz.f51) [pv p]=some ([IsB (bv p.z),IB (bv p.x) (ivV p),IB (bv p.y) (ivV p),(bits .and .u8 (by8 (wxS p) 0) 1 == 1)=true],JI (wyS p)):=by kernel_rfl
def wrN (p:P4):Nat:=wy p+wx p % 2*TT
theorem fv:pp<TT:=by decide
theorem tA (p:P4):wrN p<RN:=by
 have h1:wy p<TT:=Nat.lt_trans (ff _ _) fv
 have h2:wx p % 2<2:=Nat.mod_lt _ (by decide)
 have h3:RN=TT+TT:=by decide
 unfold wrN
 rcases (by omega:wx p % 2=0∨wx p % 2=1) with h | h <;> rw [h] <;> omega
theorem Aj {p:P4} (lp:p.ok) (w:World) (hw:Glo M0 w):Calls Tryz.prog 51 #[pv p] w fun e w'=>e = .returned (bv (wrN p))∧Below w.heap.size w w':=by
 have e1:ivV p=bv (fiv p.z):=zl _ lp.z
 have e2:wxS p=wx p:=by unfold wxS wx;rw [e1,ao lp.x,ao (KY _)]
 have e3:wyS p=wy p:=by unfold wyS wy;rw [e1,ao lp.y,ao (KY _)]
 have hb:wx p/256 ^ 0 % 256<256:=Nat.mod_lt _ (by decide)
 have o:=(iE ⟨wx p/256 ^ 0 % 256,hb⟩).2.2.2
 simp only at o
 have o:(bits .and .u8 (by8 (wx p) 0) 1 == 1)=decide (wx p % 2=1):=by
  show (bits .and .u8 ((wx p/256 ^ 0 % 256:Nat):Int) 1 == 1)=_
  rw [o,decide_eq_decide,Nat.pow_zero,Nat.div_one,Nat.mod_mod_of_dvd _ (by decide)]
 have hwy:wy p<TT:=Nat.lt_trans (ff _ _) fv
 have r0:=GV p
 have r1:=Hv p
 rw [e2,e3,e1] at r0 r1
 rw [o] at r0 r1
 by_cases h:wx p % 2=1
 ·have k:=aH (Cx.tell_ok vw _) mixed aP (by kernel_rfl) Tryz.func51 (by kernel_rfl) r1 (by
   intro p hp
   simp only [List.mem_cons,List.not_mem_nil,or_false] at hp
   rcases hp with rfl | rfl | rfl | rfl
   ·exact aJ _
   ·exact ib
   ·exact ib
   ·exact decide_eq_true h) (by simp [bf]) (.inl (by rw [tE _ hwy];exact aB _)) w hw
  rw [tE _ hwy] at k
  unfold wrN
  rw [h,Nat.one_mul]
  exact k
 ·have k:=aH (Cx.tell_ok vw _) mixed aP (by kernel_rfl) Tryz.func51 (by kernel_rfl) r0 (by
   intro p hp
   simp only [List.mem_cons,List.not_mem_nil,or_false] at hp
   rcases hp with rfl | rfl | rfl | rfl
   ·exact aJ _
   ·exact ib
   ·exact ib
   ·exact decide_eq_false h) (by simp [bf]) (.inl (aB _)) w hw
  have h0:wx p % 2=0:=by omega
  unfold wrN
  rw [h0,Nat.zero_mul,Nat.add_zero]
  exact k
def gWr:List Value→Option (List Prop × Value)
 | [A]=>some ([IsP A],bv (wrN (p4 A)))
 | _=>none
theorem Lp {X:Cx} (hX:X.Ok Tryz.prog) (hc:bk M0 X.gl=true):(X.var M0 51 gWr).Ok Tryz.prog:=by
 refine bO hX aP hc Tryz.func51 (by kernel_rfl) (by kernel_rfl) ?_
 intro args ps v ha hg hp
 unfold gWr at hg
 split at hg
 ·rename_i A
  simp only [qG,qH] at hg
  obtain ⟨rfl,rfl⟩:=hg
  obtain ⟨hA,lA⟩:=hp _ (YJ.2 rfl)
  refine ⟨.inl (aB _),fun w hw => ?_⟩
  have h:=Aj lA w hw
  rw [←hA] at h
  exact h
 ·simp at hg
end Go.Proofs.YtajehiidpecknaaGreatDoor
namespace Go.Proofs.YtajehiidpecknaaGreatDoor
open Go Go.RowKit
def F8:Cx:=F7.var M0 51 gWr
theorem iQ:F8.Ok Tryz.prog:=Lp vw (by kernel_rfl)
def lR (n:Nat):Bool := !(bits .and .u8 (by8 n 31) 128 == 0)
def ncB (n:Nat):Bool := !decide (ai (dK n)<pp)
def sxV (n:Nat):Nat:=ai (bv (sxN (ai (dK n))))
def sK (n:Nat):Bool := !(sqe (sxV n) == 0)
def rtV (n:Nat):Value:=bv (sqv (sxV n))
def zO (n:Nat):Bool:=eqB (bl (sqv (sxV n))).toArray (bl 0).toArray 32
def noP:P4:=⟨0,0,0,0⟩
theorem al0 : ∀ p ∈ ([]:List Prop),p:=fun _ h=>(by cases h)
theorem al {q:Prop} {l:List Prop} (hq:q) (h : ∀ p ∈ l,p) : ∀ p ∈ q :: l,p:=fun p hp=>by
 rcases List.mem_cons.1 hp with rfl | hp
 ·exact hq
 ·exact h p hp
theorem Af (n:Nat):sfunG Tryz.prog (F8.tell [(11,true),(19,true)]) M0 80 Tryz.f70 (ag Tryz.f70) [bv n]=some ([lR n=true,IsB (dK n),ncB n=true],.tuple #[pv noP,.int .i64 2]):=by kernel_rfl
theorem Aw (n:Nat):sfunG Tryz.prog (F8.tell [(11,true),(19,false),(28,true)]) M0 80 Tryz.f70 (ag Tryz.f70) [bv n]=some ([lR n=true,IsB (dK n),ncB n=false,IsB (dK n),IsB (bv (sxN (ai (dK n)))),sK n=true],.tuple #[pv noP,.int .i64 2]):=by kernel_rfl
theorem wk (n:Nat):sfunG Tryz.prog (F8.tell [(11,false),(19,true)]) M0 80 Tryz.f70 (ag Tryz.f70) [bv n]=some ([lR n=false,IsB (dK n),ncB n=true],.tuple #[pv noP,.int .i64 2]):=by kernel_rfl
theorem xW (n:Nat):sfunG Tryz.prog (F8.tell [(11,false),(19,false),(28,true)]) M0 80 Tryz.f70 (ag Tryz.f70) [bv n]=some ([lR n=false,IsB (dK n),ncB n=false,IsB (dK n),IsB (bv (sxN (ai (dK n)))),sK n=true],.tuple #[pv noP,.int .i64 2]):=by kernel_rfl
theorem Qf (n:Nat):sfunG Tryz.prog (F8.tell [(11,true),(19,false),(28,false),(34,true)]) M0 80 Tryz.f70 (ag Tryz.f70) [bv n]=some ([lR n=true,IsB (dK n),ncB n=false,IsB (dK n),IsB (bv (sxN (ai (dK n)))),sK n=false,zO n=true],.tuple #[pv noP,.int .i64 2]):=by kernel_rfl
theorem OY (n:Nat):sfunG Tryz.prog (F8.tell [(11,true),(19,false),(28,false),(34,false)]) M0 80 Tryz.f70 (ag Tryz.f70) [bv n]=some ([lR n=true,IsB (dK n),ncB n=false,IsB (dK n),IsB (bv (sxN (ai (dK n)))),sK n=false,zO n=false,IB (bv 0) (rtV n),IB (SB (bv 0) (rtV n)) (dK n)],.tuple #[pv (atN (ai (SB (bv 0) (rtV n))) (ai (dK n))),.int .i64 0]):=by kernel_rfl
theorem OX (n:Nat):sfunG Tryz.prog (F8.tell [(11,false),(19,false),(28,false)]) M0 80 Tryz.f70 (ag Tryz.f70) [bv n]=some ([lR n=false,IsB (dK n),ncB n=false,IsB (dK n),IsB (bv (sxN (ai (dK n)))),sK n=false,IB (rtV n) (dK n)],.tuple #[pv (atN (ai (rtV n)) (ai (dK n))),.int .i64 0]):=by kernel_rfl
def iz (n:Nat):Bool:=decide (TT≤n)
def eJ (n:Nat):Nat:=sqv (sxN (n % TT))
def a8 (n:Nat):Bool:=decide (n % TT<pp) && (decide (sqe (sxN (n % TT))=0) && !(iz n && decide (eJ n=0)))
def rdX (n:Nat):Nat:=if iz n then fsb 0 (eJ n) else eJ n
def rdP (n:Nat):P4:=if a8 n then atN (rdX n) (n % TT) else noP
def rdE (n:Nat):Int:=if a8 n then 0 else 2
theorem tt (a:Nat):sqv a<RN:=by
 unfold sqv
 split
 ·unfold ev
  have:=yw a
  have h2:pp<RN:=by decide
  split <;> omega
 ·decide
theorem ep (n:Nat):n % TT<RN:=Nat.lt_trans (Nat.mod_lt _ (by decide)) (by decide)
theorem JS (y:Nat):sxN y<RN:=fR _ _
theorem zp {n:Nat} (h:n<RN):lR n=iz n:=by
 unfold lR iz
 have hb:n/256 ^ 31 % 256<256:=Nat.mod_lt _ (by decide)
 have o:=(iE ⟨n/256 ^ 31 % 256,hb⟩).2.1
 simp only at o
 show (!(bits .and .u8 ((n/256 ^ 31 % 256:Nat):Int) 128 == 0))=_
 rw [o,decide_eq_decide]
 have h2:n/256 ^ 31<256:=by rw [Nat.div_lt_iff_lt_mul (by decide)];exact YI h (by decide)
 rw [YK h2,Nat.le_div_iff_mul_le (by decide),jQ,Nat.mul_comm]
theorem Dw {n:Nat} (h:n<RN):ncB n = !decide (n % TT<pp):=by
 unfold ncB;rw [mP n h,ao (ep n)]
theorem wU {n:Nat} (h:n<RN):sxV n=sxN (n % TT):=by
 unfold sxV;rw [mP n h,ao (ep n),ao (JS _)]
theorem zj {n:Nat} (h:n<RN):sK n = !decide (sqe (sxN (n % TT))=0):=by
 unfold sK;rw [wU h]
 by_cases e:sqe (sxN (n % TT))=0 <;> simp [e]
theorem DX {n:Nat} (h:n<RN):rtV n=bv (eJ n):=by unfold rtV eJ;rw [wU h]
theorem xV (m n:Nat) (hm:m<RN) (hn:n<RN):eqB (bl m).toArray (bl n).toArray 32=decide (m=n):=by
 have g : ∀ k i,i<32→iK (bl k).toArray i=by8 k i:=fun k i hi=>by
  unfold iK
  have:(bl k).toArray[i]? = some (.int .u8 (by8 k i)):=by simp [bl,hi]
  rw [this]
 unfold eqB
 by_cases h:m=n
 ·subst h
  rw [decide_eq_true rfl]
  exact List.all_eq_true.2 fun i _=>by simp
 ·rw [decide_eq_false h]
  apply Bool.eq_false_iff.2
  intro hall
  apply h
  have key:=xZ (m:=m) (n:=n) 32 (fun i hi=>by
   have:=List.all_eq_true.1 hall i (List.mem_range.2 hi)
   rw [g m i hi,g n i hi] at this
   simpa using this)
  have e:256 ^ 32=RN:=by decide
  rw [e,YK hm,YK hn] at key
  exact key
theorem yM {n:Nat} (h:n<RN):zO n=decide (eJ n=0):=by
 unfold zO;rw [wU h];exact xV _ 0 (tt _) (by decide)
theorem eH (n:Nat):(rdP n).ok:=by
 unfold rdP
 split
 ·refine Ds ?_ (ep n)
  unfold rdX
  split
  ·exact nu _ _
  ·exact tt _
 ·exact ⟨by decide,by decide,by decide,by decide⟩
theorem CC (n:Nat) (h:n<RN) (w:World) (hw:Glo M0 w):Calls Tryz.prog 70 #[bv n] w fun e w'=>e = .returned (.tuple #[pv (rdP n),.int .i64 (rdE n)])∧Below w.heap.size w w':=by
 have hl:=mP n h
 have fin : ∀ {X:Cx} (hX:X.Ok Tryz.prog) (hin:mY M0 X.gl=true) {ps:List Prop} {v:Value} (run:sfunG Tryz.prog X M0 80 Tryz.f70 (ag Tryz.f70) [bv n]=some (ps,v)) (hp : ∀ p ∈ ps,p) (hv:v = .tuple #[pv (rdP n),.int .i64 (rdE n)]),Calls Tryz.prog 70 #[bv n] w fun e w'=>e = .returned (.tuple #[pv (rdP n),.int .i64 (rdE n)])∧Below w.heap.size w w':=by
  intro X hX hin ps v run hp hv
  subst hv
  exact aH hX mixed aP hin Tryz.func70 (by kernel_rfl) run hp (by simp [aB]) (.inl (p7 _ _)) w hw
 have bad:a8 n=false→(Value.tuple #[pv noP,.int .i64 2]) = .tuple #[pv (rdP n),.int .i64 (rdE n)]:=fun hk=>by
  unfold rdP rdE;rw [hk,if_neg Bool.false_ne_true,if_neg Bool.false_ne_true]
 have hrt:eJ n<RN:=tt _
 have IL:IsB (dK n):=by rw [hl];exact aJ _
 have bl':ai (dK n)=n % TT:=by rw [hl,ao (ep n)]
 by_cases hc:n % TT<pp
 ·have c1:ncB n=false:=by rw [Dw h];simp [hc]
  by_cases he:sqe (sxN (n % TT))=0
  ·have e1:sK n=false:=by rw [zj h];simp [he]
   by_cases ho:iz n=true
   ·have o1:lR n=true:=by rw [zp h];exact ho
    by_cases hz:eJ n=0
    ·have z1:zO n=true:=by rw [yM h];simp [hz]
     exact fin (Cx.tell_ok iQ _) (by kernel_rfl) (Qf n) (al o1 (al IL (al c1 (al IL (al (aJ _) (al e1 (al z1 al0))))))) (bad (by unfold a8;simp [ho,hz]))
    ·have z1:zO n=false:=by rw [yM h];simp [hz]
     have hk:a8 n=true:=by unfold a8;simp [hc,he,ho,hz]
     refine fin (Cx.tell_ok iQ _) (by kernel_rfl) (OY n) (al o1 (al IL (al c1 (al IL (al (aJ _) (al e1 (al z1 (al ib (al ⟨aJ _,IL⟩ al0))))))))) ?_
     ·unfold rdP rdE rdX
      rw [hk,ho,bl',DX h,fH 0 (eJ n) (by decide) hrt,ao (nu _ _),if_pos rfl,if_pos rfl,if_pos rfl]
   ·have ho:iz n=false:=by simpa using ho
    have o1:lR n=false:=by rw [zp h];exact ho
    have hk:a8 n=true:=by unfold a8;simp [hc,he,ho]
    refine fin (Cx.tell_ok iQ _) (by kernel_rfl) (OX n) (al o1 (al IL (al c1 (al IL (al (aJ _) (al e1 (al ⟨aJ _,IL⟩ al0))))))) ?_
    ·unfold rdP rdE rdX
     rw [hk,ho,bl',DX h,ao hrt,if_pos rfl,if_pos rfl,if_neg Bool.false_ne_true]
  ·have e1:sK n=true:=by rw [zj h];simp [he]
   have hk:a8 n=false:=by unfold a8;simp [he]
   cases ho:lR n
   ·exact fin (Cx.tell_ok iQ _) (by kernel_rfl) (xW n) (al ho (al IL (al c1 (al IL (al (aJ _) (al e1 al0)))))) (bad hk)
   ·exact fin (Cx.tell_ok iQ _) (by kernel_rfl) (Aw n) (al ho (al IL (al c1 (al IL (al (aJ _) (al e1 al0)))))) (bad hk)
 ·have c1:ncB n=true:=by rw [Dw h];simp [hc]
  have hk:a8 n=false:=by unfold a8;simp [hc]
  cases ho:lR n
  ·exact fin (Cx.tell_ok iQ _) (by kernel_rfl) (wk n) (al ho (al IL (al c1 al0))) (bad hk)
  ·exact fin (Cx.tell_ok iQ _) (by kernel_rfl) (Af n) (al ho (al IL (al c1 al0))) (bad hk)
def gRdp:List Value→Option (List Prop × Value)
 | [A]=>some ([IsB A],.tuple #[pv (rdP (ai A)),.int .i64 (rdE (ai A))])
 | _=>none
theorem Hd {X:Cx} (hX:X.Ok Tryz.prog) (hc:bk M0 X.gl=true):(X.var M0 70 gRdp).Ok Tryz.prog:=by
 refine bO hX aP hc Tryz.func70 (by kernel_rfl) (by kernel_rfl) ?_
 intro args ps v ha hg hp
 unfold gRdp at hg
 split at hg
 ·rename_i A
  simp only [qG,qH] at hg
  obtain ⟨rfl,rfl⟩:=hg
  have hA:=hp _ (YJ.2 rfl)
  refine ⟨.inl (p7 _ _),fun w hw => ?_⟩
  have h:=CC (ai A) (aT hA) w hw
  rw [← (show A=bv (ai A) from hA)] at h
  exact h
 ·simp at hg
def F9:Cx:=F8.var M0 70 gRdp
theorem im:F9.Ok Tryz.prog:=Hd iQ (by kernel_rfl)
end Go.Proofs.YtajehiidpecknaaGreatDoor
namespace Go.Proofs.YtajehiidpecknaaGreatDoor
open Go Go.RowKit
theorem dr {n:Nat} (h:a8 n=true):rdE n=0:=by unfold rdE;rw [h,if_pos rfl]
theorem dw {n:Nat} (h:a8 n=false):rdE n=2:=by unfold rdE;rw [h,if_neg Bool.false_ne_true]
theorem FL  : sfunG Tryz.prog F9 M0 80 Tryz.f54 (ag Tryz.f54) []=some ([],bv 1):=by kernel_rfl
theorem yU   (w:World) (hw:Glo M0 w):Calls Tryz.prog 54 #[] w fun e w'=>e = .returned (bv 1)∧Below w.heap.size w w':=by
 exact aH im mixed aP (by kernel_rfl) Tryz.func54 (by kernel_rfl) FL (al0) rfl (.inl (aB _)) w hw
def gZer:List Value→Option (List Prop × Value)
 | []=>some ([],bv 1)
 | _=>none
theorem Fq {X:Cx} (hX:X.Ok Tryz.prog) (hc:bk M0 X.gl=true):(X.var M0 54 gZer).Ok Tryz.prog:=by
 refine bO hX aP hc Tryz.func54 (by kernel_rfl) (by kernel_rfl) ?_
 intro args ps v ha hg hp
 unfold gZer at hg
 split at hg
 ·simp only [qG,qH] at hg
  obtain ⟨rfl,rfl⟩:=hg
  exact ⟨.inl (aB _),fun w hw=>yU w hw⟩
 ·simp at hg
def Kp:List Value→Option (List Prop × Value)
 | []=>some ([],bv GY)
 | _=>none
def gChk:List Value→Option (List Prop × Value)
 | [A]=>some ([IsB A],.int .i64 (rdE (ai A)))
 | _=>none
theorem Dj (a:Nat):sfunG Tryz.prog (F9.tell [(12,true)]) M0 80 Tryz.f80 (ag Tryz.f80) [bv a]=some ([IsB (bv a),(!(rdE (ai (bv a)) == 0))=true],.tuple #[bv 0,.int .i64 (rdE (ai (bv a)))]):=by kernel_rfl
theorem EH (a:Nat):sfunG Tryz.prog (F9.tell [(12,false)]) M0 80 Tryz.f80 (ag Tryz.f80) [bv a]=some ([IsB (bv a),(!(rdE (ai (bv a)) == 0))=false,IsP (pv (rdP (ai (bv a)))),IsP (pv (wb (p4 (pv (rdP (ai (bv a)))))))],.tuple #[bv (wrN (p4 (pv (wb (p4 (pv (rdP (ai (bv a))))))))),.int .i64 0]):=by kernel_rfl
def pc (a:Nat):Nat:=if a8 a then wrN (wb (rdP a)) else 0
theorem GO (a:Nat) (ha:a<RN) (w:World) (hw:Glo M0 w):Calls Tryz.prog 80 #[bv a] w fun e w'=>e = .returned (.tuple #[bv (pc a),.int .i64 (rdE a)])∧Below w.heap.size w w':=by
 cases hk:a8 a
 ·have r:=Dj a
  rw [ao ha,dw hk] at r
  rw [dw hk]
  unfold pc
  rw [hk,if_neg Bool.false_ne_true]
  exact aH (Cx.tell_ok im _) mixed aP (by kernel_rfl) Tryz.func80 (by kernel_rfl) r (al (aJ _) (al rfl al0)) (by simp [aB]) (.inl (bz _ _)) w hw
 ·have r:=EH a
  rw [ao ha,c9 (eH a),c9 (zc (eH a)),dr hk] at r
  rw [dr hk]
  unfold pc
  rw [hk,if_pos rfl]
  exact aH (Cx.tell_ok im _) mixed aP (by kernel_rfl) Tryz.func80 (by kernel_rfl) r (al (aJ _) (al rfl (al (cm (eH a)) (al (cm (zc (eH a))) al0)))) (by simp [aB]) (.inl (bz _ _)) w hw
def NJ:List Value→Option (List Prop × Value)
 | [A]=>some ([IsB A],.tuple #[bv (pc (ai A)),.int .i64 (rdE (ai A))])
 | _=>none
theorem It {X:Cx} (hX:X.Ok Tryz.prog) (hc:bk M0 X.gl=true):(X.var M0 80 NJ).Ok Tryz.prog:=by
 refine bO hX aP hc Tryz.func80 (by kernel_rfl) (by kernel_rfl) ?_
 intro args ps v ha hg hp
 unfold NJ at hg
 split at hg
 ·rename_i A
  simp only [qG,qH] at hg
  obtain ⟨rfl,rfl⟩:=hg
  have hA:=hp _ (YJ.2 rfl)
  refine ⟨.inl (bz _ _),fun w hw => ?_⟩
  have h:=GO (ai A) (aT hA) w hw
  rw [← (show A=bv (ai A) from hA)] at h
  exact h
 ·simp at hg
theorem Dl (n:Nat) (a:Nat):sfunG Tryz.prog (F9.tell [(14,true)]) M0 80 Tryz.f55 (ag Tryz.f55) [bv n,bv a]=some ([IsB (bv a),(!(rdE (ai (bv a)) == 0))=true],.tuple #[bv 0,.int .i64 (rdE (ai (bv a)))]):=by kernel_rfl
theorem CZ (n:Nat) (a:Nat):sfunG Tryz.prog (F9.tell [(14,false)]) M0 80 Tryz.f55 (ag Tryz.f55) [bv n,bv a]=some ([IsB (bv a),(!(rdE (ai (bv a)) == 0))=false,IsB (bv n)∧IsP (pv (rdP (ai (bv a)))),IsP (pv (dA (ai (bv n)) (p4 (pv (rdP (ai (bv a)))))))],.tuple #[bv (wrN (p4 (pv (dA (ai (bv n)) (p4 (pv (rdP (ai (bv a))))))))),.int .i64 0]):=by kernel_rfl
def fx (n:Nat) (a:Nat):Nat:=if a8 a then wrN (dA n (rdP a)) else 0
theorem FF (n:Nat) (a:Nat) (hn:n<RN) (ha:a<RN) (w:World) (hw:Glo M0 w):Calls Tryz.prog 55 #[bv n,bv a] w fun e w'=>e = .returned (.tuple #[bv (fx n a),.int .i64 (rdE a)])∧Below w.heap.size w w':=by
 cases hk:a8 a
 ·have r:=Dl n a
  rw [ao ha,dw hk] at r
  rw [dw hk]
  unfold fx
  rw [hk,if_neg Bool.false_ne_true]
  exact aH (Cx.tell_ok im _) mixed aP (by kernel_rfl) Tryz.func55 (by kernel_rfl) r (al (aJ _) (al rfl al0)) (by simp [aB]) (.inl (bz _ _)) w hw
 ·have r:=CZ n a
  rw [ao ha,ao hn,c9 (eH a),c9 (jb n (rdP a)),dr hk] at r
  rw [dr hk]
  unfold fx
  rw [hk,if_pos rfl]
  exact aH (Cx.tell_ok im _) mixed aP (by kernel_rfl) Tryz.func55 (by kernel_rfl) r (al (aJ _) (al rfl (al ⟨aJ _,cm (eH a)⟩ (al (cm (jb _ _)) al0)))) (by simp [aB]) (.inl (bz _ _)) w hw
def gPml:List Value→Option (List Prop × Value)
 | [A,B]=>some ([IsB A∧IsB B],.tuple #[bv (fx (ai A) (ai B)),.int .i64 (rdE (ai B))])
 | _=>none
theorem Ht {X:Cx} (hX:X.Ok Tryz.prog) (hc:bk M0 X.gl=true):(X.var M0 55 gPml).Ok Tryz.prog:=by
 refine bO hX aP hc Tryz.func55 (by kernel_rfl) (by kernel_rfl) ?_
 intro args ps v ha hg hp
 unfold gPml at hg
 split at hg
 ·rename_i A B
  simp only [qG,qH] at hg
  obtain ⟨rfl,rfl⟩:=hg
  obtain ⟨hA,hB⟩:=hp _ (YJ.2 rfl)
  refine ⟨.inl (bz _ _),fun w hw => ?_⟩
  have h:=FF (ai A) (ai B) (aT hA) (aT hB) w hw
  rw [← (show A=bv (ai A) from hA),← (show B=bv (ai B) from hB)] at h
  exact h
 ·simp at hg
theorem DU (a:Nat):sfunG Tryz.prog (F9.tell [(12,true)]) M0 80 Tryz.f35 (ag Tryz.f35) [bv a]=some ([IsB (bv a),(!(rdE (ai (bv a)) == 0))=true],.tuple #[bv 0,.int .i64 (rdE (ai (bv a)))]):=by kernel_rfl
theorem DO (a:Nat):sfunG Tryz.prog (F9.tell [(12,false)]) M0 80 Tryz.f35 (ag Tryz.f35) [bv a]=some ([IsB (bv a),(!(rdE (ai (bv a)) == 0))=false,IsP (pv (rdP (ai (bv a)))),IsP (pv (eg (p4 (pv (rdP (ai (bv a))))))),IsP (pv (eg (p4 (pv (eg (p4 (pv (rdP (ai (bv a)))))))))),IsP (pv (eg (p4 (pv (eg (p4 (pv (eg (p4 (pv (rdP (ai (bv a)))))))))))))],.tuple #[bv (wrN (p4 (pv (eg (p4 (pv (eg (p4 (pv (eg (p4 (pv (rdP (ai (bv a))))))))))))))),.int .i64 0]):=by kernel_rfl
def iq (a:Nat):Nat:=if a8 a then wrN (eg (eg (eg (rdP a)))) else 0
theorem yK (a:Nat) (ha:a<RN) (w:World) (hw:Glo M0 w):Calls Tryz.prog 35 #[bv a] w fun e w'=>e = .returned (.tuple #[bv (iq a),.int .i64 (rdE a)])∧Below w.heap.size w w':=by
 cases hk:a8 a
 ·have r:=DU a
  rw [ao ha,dw hk] at r
  rw [dw hk]
  unfold iq
  rw [hk,if_neg Bool.false_ne_true]
  exact aH (Cx.tell_ok im _) mixed aP (by kernel_rfl) Tryz.func35 (by kernel_rfl) r (al (aJ _) (al rfl al0)) (by simp [aB]) (.inl (bz _ _)) w hw
 ·have r:=DO a
  rw [ao ha,c9 (eH a),c9 (dB (rdP a)),c9 (dB (eg (rdP a))),c9 (dB (eg (eg (rdP a)))),dr hk] at r
  rw [dr hk]
  unfold iq
  rw [hk,if_pos rfl]
  exact aH (Cx.tell_ok im _) mixed aP (by kernel_rfl) Tryz.func35 (by kernel_rfl) r (al (aJ _) (al rfl (al (cm (eH a)) (al (cm (dB _)) (al (cm (dB _)) (al (cm (dB _)) al0)))))) (by simp [aB]) (.inl (bz _ _)) w hw
def Au:List Value→Option (List Prop × Value)
 | [A]=>some ([IsB A],.tuple #[bv (iq (ai A)),.int .i64 (rdE (ai A))])
 | _=>none
theorem FV {X:Cx} (hX:X.Ok Tryz.prog) (hc:bk M0 X.gl=true):(X.var M0 35 Au).Ok Tryz.prog:=by
 refine bO hX aP hc Tryz.func35 (by kernel_rfl) (by kernel_rfl) ?_
 intro args ps v ha hg hp
 unfold Au at hg
 split at hg
 ·rename_i A
  simp only [qG,qH] at hg
  obtain ⟨rfl,rfl⟩:=hg
  have hA:=hp _ (YJ.2 rfl)
  refine ⟨.inl (bz _ _),fun w hw => ?_⟩
  have h:=yK (ai A) (aT hA) w hw
  rw [← (show A=bv (ai A) from hA)] at h
  exact h
 ·simp at hg
theorem Er (a:Nat) (b:Nat):sfunG Tryz.prog (F9.tell [(15,true)]) M0 80 Tryz.f81 (ag Tryz.f81) [bv a,bv b]=some ([IsB (bv a),(!(rdE (ai (bv a)) == 0))=true],.tuple #[bv 0,.int .i64 (rdE (ai (bv a)))]):=by kernel_rfl
theorem Dk (a:Nat) (b:Nat):sfunG Tryz.prog (F9.tell [(15,false),(24,true)]) M0 80 Tryz.f81 (ag Tryz.f81) [bv a,bv b]=some ([IsB (bv a),(!(rdE (ai (bv a)) == 0))=false,IsB (bv b),(!(rdE (ai (bv b)) == 0))=true],.tuple #[bv 0,.int .i64 (rdE (ai (bv b)))]):=by kernel_rfl
theorem Bu (a:Nat) (b:Nat):sfunG Tryz.prog (F9.tell [(15,false),(24,false)]) M0 80 Tryz.f81 (ag Tryz.f81) [bv a,bv b]=some ([IsB (bv a),(!(rdE (ai (bv a)) == 0))=false,IsB (bv b),(!(rdE (ai (bv b)) == 0))=false,IsP (pv (rdP (ai (bv a))))∧IsP (pv (rdP (ai (bv b)))),IsP (pv (jS (p4 (pv (rdP (ai (bv a))))) (p4 (pv (rdP (ai (bv b)))))))],.tuple #[bv (wrN (p4 (pv (jS (p4 (pv (rdP (ai (bv a))))) (p4 (pv (rdP (ai (bv b))))))))),.int .i64 0]):=by kernel_rfl
def addN (a b:Nat):Nat:=if a8 a && a8 b then wrN (jS (rdP a) (rdP b)) else 0
def vf (a b:Nat):Int:=if a8 a && a8 b then 0 else 2
theorem FQ (a:Nat) (b:Nat) (ha:a<RN) (hb:b<RN) (w:World) (hw:Glo M0 w):Calls Tryz.prog 81 #[bv a,bv b] w fun e w'=>e = .returned (.tuple #[bv (addN a b),.int .i64 (vf a b)])∧Below w.heap.size w w':=by
 cases hka:a8 a
 ·have r:=Er a b
  rw [ao ha,dw hka] at r
  unfold addN vf
  rw [hka,Bool.false_and,if_neg Bool.false_ne_true,if_neg Bool.false_ne_true]
  exact aH (Cx.tell_ok im _) mixed aP (by kernel_rfl) Tryz.func81 (by kernel_rfl) r (al (aJ _) (al rfl al0)) (by simp [aB]) (.inl (bz _ _)) w hw
 ·cases hkb:a8 b
  ·have r:=Dk a b
   rw [ao ha,ao hb,dr hka,dw hkb] at r
   unfold addN vf
   rw [hka,hkb,Bool.true_and,if_neg Bool.false_ne_true,if_neg Bool.false_ne_true]
   exact aH (Cx.tell_ok im _) mixed aP (by kernel_rfl) Tryz.func81 (by kernel_rfl) r (al (aJ _) (al rfl (al (aJ _) (al rfl al0)))) (by simp [aB]) (.inl (bz _ _)) w hw
  ·have r:=Bu a b
   rw [ao ha,ao hb,dr hka,dr hkb,c9 (eH a),c9 (eH b),c9 (mV (rdP a) (rdP b))] at r
   unfold addN vf
   rw [hka,hkb,Bool.true_and,if_pos rfl,if_pos rfl]
   exact aH (Cx.tell_ok im _) mixed aP (by kernel_rfl) Tryz.func81 (by kernel_rfl) r (al (aJ _) (al rfl (al (aJ _) (al rfl (al ⟨cm (eH a),cm (eH b)⟩ (al (cm (mV _ _)) al0)))))) (by simp [aB]) (.inl (bz _ _)) w hw
def MD:List Value→Option (List Prop × Value)
 | [A,B]=>some ([IsB A∧IsB B],.tuple #[bv (addN (ai A) (ai B)),.int .i64 (vf (ai A) (ai B))])
 | _=>none
theorem HU {X:Cx} (hX:X.Ok Tryz.prog) (hc:bk M0 X.gl=true):(X.var M0 81 MD).Ok Tryz.prog:=by
 refine bO hX aP hc Tryz.func81 (by kernel_rfl) (by kernel_rfl) ?_
 intro args ps v ha hg hp
 unfold MD at hg
 split at hg
 ·rename_i A B
  simp only [qG,qH] at hg
  obtain ⟨rfl,rfl⟩:=hg
  obtain ⟨hA,hB⟩:=hp _ (YJ.2 rfl)
  refine ⟨.inl (bz _ _),fun w hw => ?_⟩
  have h:=FQ (ai A) (ai B) (aT hA) (aT hB) w hw
  rw [← (show A=bv (ai A) from hA),← (show B=bv (ai B) from hB)] at h
  exact h
 ·simp at hg
def FA:Cx:=(F9.var M0 54 gZer).var M0 35 Au
theorem Jp:FA.Ok Tryz.prog:=FV (Fq im (by kernel_rfl)) (by kernel_rfl)
theorem Fa (a:Nat):sfunG Tryz.prog (FA.tell [(12,false)]) M0 80 Tryz.f42 (ag Tryz.f42) [bv a]=some ([IsB (bv a),(rdE (ai (bv a)) == 0)=false],.tuple #[.bool false,.int .i64 (rdE (ai (bv a)))]):=by kernel_rfl
theorem Ca (a:Nat):sfunG Tryz.prog (FA.tell [(12,true)]) M0 80 Tryz.f42 (ag Tryz.f42) [bv a]=some ([IsB (bv a),(rdE (ai (bv a)) == 0)=true],.tuple #[.bool (eqB (bl (iq (ai (bv a)))).toArray (bl 1).toArray 32),.int .i64 (rdE (ai (bv a)))]):=by kernel_rfl
def xp (a:Nat):Bool:=a8 a && decide (iq a=1)
theorem su (a:Nat):iq a<RN:=by
 unfold iq
 split
 ·exact tA _
 ·decide
theorem mT (a:Nat):pc a<RN:=by
 unfold pc
 split
 ·exact tA _
 ·decide
theorem td (n a:Nat):fx n a<RN:=by
 unfold fx
 split
 ·exact tA _
 ·decide
theorem jq (b:Bool) (e:Int):flat (.tuple #[.bool b,.int .i64 e])=true:=rfl
theorem Fz (a:Nat) (ha:a<RN) (w:World) (hw:Glo M0 w):Calls Tryz.prog 42 #[bv a] w fun e w'=>e = .returned (.tuple #[.bool (xp a),.int .i64 (rdE a)])∧Below w.heap.size w w':=by
 cases hk:a8 a
 ·have r:=Fa a
  rw [ao ha,dw hk] at r
  rw [dw hk]
  unfold xp
  rw [hk,Bool.false_and]
  exact aH (Cx.tell_ok Jp _) mixed aP (by kernel_rfl) Tryz.func42 (by kernel_rfl) r (al (aJ _) (al rfl al0)) (by simp [aB]) (.inl (jq _ _)) w hw
 ·have r:=Ca a
  rw [ao ha,dr hk,xV _ 1 (su a) (by decide)] at r
  rw [dr hk]
  unfold xp
  rw [hk,Bool.true_and]
  exact aH (Cx.tell_ok Jp _) mixed aP (by kernel_rfl) Tryz.func42 (by kernel_rfl) r (al (aJ _) (al rfl al0)) (by simp [aB]) (.inl (jq _ _)) w hw
def F9g:Cx:=(F9.glo gl5).var M1 53 gGen
theorem J4:F9g.Ok Tryz.prog:=H9 (Cx.glo_ok im fun g h=>NP h) (by kernel_rfl)
theorem yQ:uS.ok:=Ds (by decide) (by decide)
def sG (n:Nat):Nat:=wrN (dA n uS)
theorem IK (n:Nat):sfunG Tryz.prog F9g M1 80 Tryz.f18 (ag Tryz.f18) [bv n]=some ([IsB (bv n)∧IsP (pv uS),IsP (pv (dA (ai (bv n)) (p4 (pv uS))))],bv (wrN (p4 (pv (dA (ai (bv n)) (p4 (pv uS))))))):=by kernel_rfl
theorem zd (n:Nat) (hn:n<RN) (w:World) (hw:Glo M1 w):Calls Tryz.prog 18 #[bv n] w fun e w'=>e = .returned (bv (sG n))∧Below w.heap.size w w':=by
 have r:=IK n
 rw [ao hn,c9 yQ,c9 (jb _ _)] at r
 exact aH J4 mixed mB (by kernel_rfl) Tryz.func18 (by kernel_rfl) r (al ⟨aJ _,cm yQ⟩ (al (cm (jb _ _)) al0)) (by simp [aB]) (.inl (aB _)) w hw
def M8:List Value→Option (List Prop × Value)
 | [A]=>some ([IsB A],bv (sG (ai A)))
 | _=>none
theorem GU {X:Cx} (hX:X.Ok Tryz.prog) (hc:bk M1 X.gl=true):(X.var M1 18 M8).Ok Tryz.prog:=by
 refine bO hX mB hc Tryz.func18 (by kernel_rfl) (by kernel_rfl) ?_
 intro args ps v ha hg hp
 unfold M8 at hg
 split at hg
 ·rename_i A
  simp only [qG,qH] at hg
  obtain ⟨rfl,rfl⟩:=hg
  have hA:=hp _ (YJ.2 rfl)
  refine ⟨.inl (aB _),fun w hw => ?_⟩
  have h:=zd (ai A) (aT hA) w hw
  rw [← (show A=bv (ai A) from hA)] at h
  exact h
 ·simp at hg
theorem Fj (n:Nat):sG n<RN:=tA _
end Go.Proofs.YtajehiidpecknaaGreatDoor
